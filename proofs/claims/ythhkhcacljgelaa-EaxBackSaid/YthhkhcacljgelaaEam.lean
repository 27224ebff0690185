import Derived.Test.YthhkhcacljgelaaMac
import Derived.Test.YthhkhcacljgelaaMaf
import Derived.Test.YthhkhcacljgelaaCtx
/- Seals, as numbers: another byte makes another tag. -/
namespace Go.Proofs.Ythhkhcacljgelaa
open Go.RowKit

theorem xor_off {a b c : Nat} (h : a ^^^ b = a ^^^ c) : b = c := by
  have := congrArg (fun z => a ^^^ z) h
  simpa only [← Nat.xor_assoc, Nat.xor_self, Nat.zero_xor] using this
theorem xorF_off {f g k : Nat → Nat} (h : Eq16 (xorF f g) (xorF f k)) : Eq16 g k := fun j hj => xor_off (h j hj)
theorem xorF_comm (f g : Nat → Nat) : xorF f g = xorF g f := funext fun _ => Nat.xor_comm _ _
theorem xorF_twice (f g : Nat → Nat) : xorF (xorF f g) g = f := funext fun j => by show f j ^^^ g j ^^^ g j = f j; rw [Nat.xor_assoc, Nat.xor_self, Nat.xor_zero]
theorem xorF_offs {f g k l : Nat → Nat} (h : Eq16 (xorF f g) (xorF k l)) (e : Eq16 f k) : Eq16 g l :=
  xorF_off (f := f) fun j hj => (h j hj).trans (by show k j ^^^ l j = f j ^^^ l j; rw [e j hj])
section
variable {Y : Nat → Nat → Nat} {R : Nat} {x y δ δ' : Nat → Nat}
theorem cb_back (hY : YB Y R) (hx : B16 x) (hy : B16 y) : ∀ k, (∀ j, j < 16 * k → δ j < 256) → (∀ j, j < 16 * k → δ' j < 256) → (∀ j, j < 16 * k → δ j = δ' j) → Eq16 (cbF Y R x δ k) (cbF Y R y δ' k) → Eq16 x y
  | 0, _, _, _, h => h
  | k + 1, h1, h2, hd, h => by
    have hb : Eq16 (xorF (cbF Y R x δ k) (fun j => δ (16 * k + j))) (xorF (cbF Y R y δ' k) (fun j => δ' (16 * k + j))) :=
      (blk_inj hY (xorF_16 (cbF_b hY hx k fun j hj => h1 j (by omega)) fun j hj => h1 _ (by omega)) (xorF_16 (cbF_b hY hy k fun j hj => h2 j (by omega)) fun j hj => h2 _ (by omega))).1 h
    rw [xorF_comm, xorF_comm (cbF Y R y δ' k)] at hb
    exact cb_back hY hx hy k (fun j hj => h1 j (by omega)) (fun j hj => h2 j (by omega)) (fun j hj => hd j (by omega)) (xorF_offs hb fun j hj => hd _ (by omega))
theorem cb_diff (hY : YB Y R) (hx : B16 x) (k p : Nat) (hp : p < 16 * k) (h1 : ∀ j, j < 16 * k → δ j < 256) (h2 : ∀ j, j < 16 * k → δ' j < 256) (hd : ∀ j, j < 16 * k → j ≠ p → δ j = δ' j) (h : Eq16 (cbF Y R x δ k) (cbF Y R x δ' k)) : δ p = δ' p := by
  obtain ⟨a, b, c, rfl, rfl, hc⟩ : ∃ a b c, k = a + 1 + b ∧ p = 16 * a + c ∧ c < 16 := ⟨p / 16, k - (p / 16 + 1), p % 16, by omega, by omega, by omega⟩
  rw [cbF_add (a + 1) b, cbF_add (a + 1) b] at h
  have h3 : Eq16 (cbF Y R x δ (a + 1)) (cbF Y R x δ' (a + 1)) :=
    cb_back hY (cbF_b hY hx _ fun j hj => h1 j (by omega)) (cbF_b hY hx _ fun j hj => h2 j (by omega)) b (fun j hj => h1 (16 * (a + 1) + j) (by omega)) (fun j hj => h2 (16 * (a + 1) + j) (by omega)) (fun j hj => hd (16 * (a + 1) + j) (by omega) (by omega)) h
  have h4 : Eq16 (xorF (cbF Y R x δ a) (fun j => δ (16 * a + j))) (xorF (cbF Y R x δ' a) (fun j => δ' (16 * a + j))) :=
    (blk_inj hY (xorF_16 (cbF_b hY hx a fun j hj => h1 j (by omega)) fun j hj => h1 _ (by omega)) (xorF_16 (cbF_b hY hx a fun j hj => h2 j (by omega)) fun j hj => h2 _ (by omega))).1 h3
  exact xorF_offs h4 (cbF_e (Eq16.refl _) a fun j hj => hd j (by omega) (by omega)) c hc
theorem end_in (hY : YB Y R) (hx : B16 x) (hy : B16 y) {n : Nat} {l l' : Nat → Nat} (hn : n ≤ 16) (h1 : ∀ j, j < n → l j < 256) (h2 : ∀ j, j < n → l' j < 256) (h : Eq16 (endF Y R x n l) (endF Y R y n l')) :
    (Eq16 x y → ∀ j, j < n → l j = l' j) ∧ ((∀ j, j < n → l j = l' j) → Eq16 x y) := by
  unfold endF at h
  split at h
  · have h3 := (blk_inj hY (xorF_16 hx (xorF_16 (fun j _ => padF_b h1 j) (m2F_b hY))) (xorF_16 hy (xorF_16 (fun j _ => padF_b h2 j) (m2F_b hY)))).1 h
    rw [← xorF_assoc, ← xorF_assoc, xorF_comm _ (m2F Y R), xorF_comm _ (m2F Y R)] at h3
    have h4 := xorF_off h3
    refine ⟨fun e j hj => ?_, fun e => ?_⟩
    · have := xorF_offs h4 e j (by omega)
      unfold padF at this
      rwa [if_pos hj, if_pos hj] at this
    · rw [xorF_comm, xorF_comm y] at h4
      exact xorF_offs h4 fun j _ => by
        unfold padF; split
        · exact e j (by assumption)
        · rfl
  · obtain rfl : n = 16 := by omega
    have h3 := (blk_inj hY (xorF_16 hx (xorF_16 h1 (m1F_b hY))) (xorF_16 hy (xorF_16 h2 (m1F_b hY)))).1 h
    rw [← xorF_assoc, ← xorF_assoc, xorF_comm _ (m1F Y R), xorF_comm _ (m1F Y R)] at h3
    have h4 := xorF_off h3
    refine ⟨fun e j hj => xorF_offs h4 e j hj, fun e => ?_⟩
    rw [xorF_comm, xorF_comm y] at h4
    exact xorF_offs h4 e
/-- A message with another byte has another tag. -/
theorem tag_diff (hY : YB Y R) (hx : B16 x) (M p : Nat) (hp : p < M) (h1 : ∀ j, j < M → δ j < 256) (h2 : ∀ j, j < M → δ' j < 256) (hd : ∀ j, j < M → j ≠ p → δ j = δ' j) (h : Eq16 (tagF Y R x M δ) (tagF Y R x M δ')) : δ p = δ' p := by
  have hb := bkN_le M
  unfold tagF at h
  obtain ⟨a1, a2⟩ := end_in hY (cbF_b hY hx _ fun j hj => h1 j (by omega)) (cbF_b hY hx _ fun j hj => h2 j (by omega)) (bkN_rest M) (fun j hj => h1 _ (by omega)) (fun j hj => h2 _ (by omega)) h
  by_cases hq : p < 16 * bkN M
  · exact cb_diff hY hx _ p hq (fun j hj => h1 j (by omega)) (fun j hj => h2 j (by omega)) (fun j hj => hd j (by omega)) (a2 fun j hj => hd _ (by omega) (by omega))
  · have := a1 (cbF_e (Eq16.refl _) _ fun j hj => hd j (by omega) (by omega)) (p - 16 * bkN M) (by omega)
    rwa [show 16 * bkN M + (p - 16 * bkN M) = p by omega] at this
end
/-- A tag by a name. -/
def namF (Y : Nat → Nat → Nat) (R t M : Nat) (δ : Nat → Nat) : Nat → Nat := tagF Y R (fun _ => 0) (16 + M) (thenF 16 (nameF t) δ)
theorem namF_b {Y : Nat → Nat → Nat} {R t M : Nat} {δ : Nat → Nat} (hY : YB Y R) (ht : t < 256) (hδ : ∀ j, j < M → δ j < 256) : B16 (namF Y R t M δ) := tagF_b hY B16.zero (thenF_b (N := 16) (L := M) (nameF_b ht) hδ)
theorem namF_e {Y : Nat → Nat → Nat} {R t M : Nat} {δ δ' : Nat → Nat} (h : ∀ j, j < M → δ j = δ' j) : Eq16 (namF Y R t M δ) (namF Y R t M δ') := tagF_e (Eq16.refl _) fun j hj => by
  unfold thenF; split
  · rfl
  · exact h _ (by omega)
theorem nam_diff {Y : Nat → Nat → Nat} {R t M p : Nat} {δ δ' : Nat → Nat} (hY : YB Y R) (ht : t < 256) (hp : p < M) (h1 : ∀ j, j < M → δ j < 256) (h2 : ∀ j, j < M → δ' j < 256) (hd : ∀ j, j < M → j ≠ p → δ j = δ' j) (h : Eq16 (namF Y R t M δ) (namF Y R t M δ')) : δ p = δ' p := by
  have := tag_diff hY B16.zero (16 + M) (16 + p) (by omega) (thenF_b (N := 16) (L := M) (nameF_b ht) h1) (thenF_b (N := 16) (L := M) (nameF_b ht) h2) (fun j hj hne => by
    unfold thenF; split
    · rfl
    · exact hd _ (by omega) (by omega)) h
  rwa [thenF_new, thenF_new] at this
/-- A seal's tag, behind its nonce's. -/
def fromF (Y : Nat → Nat → Nat) (R : Nat) (n : Nat → Nat) (H : Nat) (η : Nat → Nat) (M : Nat) (δ : Nat → Nat) : Nat → Nat := xorF (xorF n (namF Y R 1 H η)) (namF Y R 2 M δ)
theorem fromF_b {Y : Nat → Nat → Nat} {R H M : Nat} {n η δ : Nat → Nat} (hY : YB Y R) (hn : B16 n) (hη : ∀ j, j < H → η j < 256) (hδ : ∀ j, j < M → δ j < 256) : B16 (fromF Y R n H η M δ) :=
  xorF_16 (xorF_16 hn (namF_b hY (by decide) hη)) (namF_b hY (by decide) hδ)
/-- .. and of all three. -/
def eaxF (Y : Nat → Nat → Nat) (R N : Nat) (ν : Nat → Nat) (H : Nat) (η : Nat → Nat) (M : Nat) (δ : Nat → Nat) : Nat → Nat := fromF Y R (namF Y R 0 N ν) H η M δ
theorem eaxF_b {Y : Nat → Nat → Nat} {R N H M : Nat} {ν η δ : Nat → Nat} (hY : YB Y R) (hν : ∀ j, j < N → ν j < 256) (hη : ∀ j, j < H → η j < 256) (hδ : ∀ j, j < M → δ j < 256) : B16 (eaxF Y R N ν H η M δ) :=
  fromF_b hY (namF_b hY (by decide) hν) hη hδ
theorem eax_diff {Y : Nat → Nat → Nat} {R N H M p : Nat} {ν η δ δ' : Nat → Nat} (hY : YB Y R) (hp : p < M) (h1 : ∀ j, j < M → δ j < 256) (h2 : ∀ j, j < M → δ' j < 256) (hd : ∀ j, j < M → j ≠ p → δ j = δ' j)
    (h : Eq16 (eaxF Y R N ν H η M δ) (eaxF Y R N ν H η M δ')) : δ p = δ' p := nam_diff hY (by decide) hp h1 h2 hd (xorF_off h)
theorem ns_eq {L : Nat} {f g : Nat → Nat} (h : ns L f = ns L g) : ∀ j, j < L → f j = g j := fun j hj => by
  have h1 := ns_at (n := L) f hj
  have h2 := ns_at (n := L) g hj
  rw [h, h2] at h1
  injection h1 with h1
  omega
end Go.Proofs.Ythhkhcacljgelaa
