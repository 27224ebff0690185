import Derived.Test.YtolagogfjfcmaaaTau
namespace Go.Proofs.Ytolagogfjfcmaaa
open Go.RowKit

def resCode (left n : Int) : Int := if n < 0 then 1 else if left < n then 2 else 0
def resE (d e : Nat) (left n : Int) : Nat := if n < 0 ∨ left < n then e else d + n.toNat
def drawW (zs : List Int) (d e : Nat) : Int := if d < e then nth zs d else 0
def drawB (d e : Nat) : Bool := decide (d < e)
def drawD (d e : Nat) : Nat := if d < e then d + 1 else d

theorem reserve_okI (lo hi b : Nat) (zs : List Int) (d e : Nat) (n : Int) (w : World) (h : TapeAt w lo hi b zs d e) (hn : 0 ≤ n) (ho : (d : Int) + n ≤ zs.length) :
    Calls Try.prog 6 #[.pointer (some ⟨b, 0, none⟩), .int .i64 n] w fun r w' => r = .returned (.int .i64 0) ∧ TapeAt w' lo hi b zs d (d + n.toNat) ∧ Only b w w' := by
  obtain ⟨k, rfl⟩ := Int.eq_ofNat_of_zero_le hn
  exact reserve_ok lo hi b zs d e k w h (by omega)

theorem reserve_any (lo hi b : Nat) (zs : List Int) (d e : Nat) (n : Int) (w : World) (h : TapeAt w lo hi b zs d e) :
    Calls Try.prog 6 #[.pointer (some ⟨b, 0, none⟩), .int .i64 n] w fun r w' => r = .returned (.int .i64 (resCode ((zs.length : Int) - d) n)) ∧ TapeAt w' lo hi b zs d (resE d e ((zs.length : Int) - d) n) ∧ Only b w w' := by
  unfold resCode resE
  by_cases h1 : n < 0
  · simp only [h1, if_true, true_or]
    refine (reserve_neg lo hi b zs d e n w h h1).mono ?_
    rintro r w' ⟨rfl, rfl⟩
    exact ⟨rfl, h, Only.refl _ _⟩
  · by_cases h2 : (zs.length : Int) - d < n
    · simp only [h1, h2, if_true, if_false, or_true]
      refine (reserve_over lo hi b zs d e n w h (by omega) h2).mono ?_
      rintro r w' ⟨rfl, k, rfl⟩
      exact ⟨rfl, h.drewN k, Only.drewN _ _ _⟩
    · simp only [h1, h2, if_false, or_false]
      exact reserve_okI lo hi b zs d e n w h (by omega) (by omega)

theorem mreserve_any (lo hi m : Nat) (zs : List Int) (d e : Nat) (n : Int) (w : World) (h : ModelAt w lo hi m (zs.drop d) d (e - d)) (hd : d ≤ zs.length) :
    Calls Try.prog 12 #[.pointer (some ⟨m, 0, none⟩), .int .i64 n] w fun r w' => r = .returned (.int .i64 (resCode ((zs.length : Int) - d) n)) ∧ ModelAt w' lo hi m (zs.drop d) d (resE d e ((zs.length : Int) - d) n - d) ∧ Only m w w' := by
  have hl : ((zs.drop d).length : Int) = (zs.length : Int) - d := by simp; omega
  unfold resCode resE
  by_cases h1 : n < 0
  · simp only [h1, if_true, true_or]
    refine (mreserve_neg lo hi m _ d _ n w h h1).mono ?_
    rintro r w' ⟨rfl, rfl⟩
    exact ⟨rfl, h, Only.refl _ _⟩
  · by_cases h2 : (zs.length : Int) - d < n
    · simp only [h1, h2, if_true, if_false, or_true]
      refine (mreserve_over lo hi m _ d _ n w h (by omega) (by rw [hl]; exact h2)).mono ?_
      rintro r w' ⟨rfl, rfl⟩
      exact ⟨rfl, h, Only.refl _ _⟩
    · simp only [h1, h2, if_false, or_false]
      obtain ⟨k, rfl⟩ := Int.eq_ofNat_of_zero_le (Int.not_lt.1 h1)
      refine (mreserve_ok lo hi m _ d _ k w h (by simp; omega)).mono ?_
      rintro r w' ⟨rfl, h1, h2⟩
      exact ⟨rfl, by simpa using h1, h2⟩

theorem draw_any (lo hi b : Nat) (zs : List Int) (d e : Nat) (w : World) (h : TapeAt w lo hi b zs d e) :
    Calls Try.prog 5 #[.pointer (some ⟨b, 0, none⟩)] w fun r w' => r = .returned (.tuple #[.int .u64 (drawW zs d e), .bool (drawB d e)]) ∧ TapeAt w' lo hi b zs (drawD d e) e ∧ Only b w w' := by
  unfold drawW drawB drawD
  by_cases h1 : d < e
  · simp only [h1, if_true, decide_true]
    exact draw_some lo hi b zs d e w h h1
  · simp only [h1, if_false, decide_false]
    refine (draw_none lo hi b zs d e w h (by omega)).mono ?_
    rintro r w' ⟨rfl, k, rfl⟩
    exact ⟨rfl, h.drewN k, Only.drewN _ _ _⟩

theorem mdraw_any (lo hi m : Nat) (zs : List Int) (d e : Nat) (w : World) (h : ModelAt w lo hi m (zs.drop d) d (e - d)) (he : e ≤ zs.length) (hl : zs.length ≤ 17592186043904) :
    Calls Try.prog 13 #[.pointer (some ⟨m, 0, none⟩)] w fun r w' => r = .returned (.tuple #[.int .u64 (drawW zs d e), .bool (drawB d e)]) ∧ ModelAt w' lo hi m (zs.drop (drawD d e)) (drawD d e) (e - drawD d e) ∧ Only m w w' := by
  unfold drawW drawB drawD
  by_cases h1 : d < e
  · simp only [h1, if_true, decide_true]
    have hdr : zs.drop d = nth zs d :: zs.drop (d + 1) := by rw [List.drop_eq_getElem_cons (by omega), nth_of (by omega)]
    have hee : e - d = (e - (d + 1)) + 1 := by omega
    rw [hdr, hee] at h
    exact mdraw_some lo hi m _ _ d _ w h (by omega) (by omega)
  · simp only [h1, if_false, decide_false]
    refine (mdraw_none lo hi m _ d _ w h (by omega)).mono ?_
    rintro r w' ⟨rfl, rfl⟩
    exact ⟨rfl, h, Only.refl _ _⟩

theorem drawD_le {d e : Nat} (h : d ≤ e) : d ≤ drawD d e ∧ drawD d e ≤ e := by unfold drawD; split <;> omega

/-- The chapter's example. -/
theorem awake_any (w : World) : Calls Try.prog 14 #[] w fun r w' => r = .returned (.bool true) ∧ Below w.heap.size w w' := by
  have HZ := hid (rd_new (k := .u64) w 25 [7] #[.int .u64 7] 1 rfl rfl (by simp [IntKind.bits]) (by simp only [List.mem_singleton]; rintro z rfl; decide))
  go_enter Try.func14, Try.ntmps14
  go_wp2_with (first
    | (go_at_call 11; refine (new_any _ [7] _ HZ.out).mono ?_; rintro r w1 ⟨b, rfl, ht, hlow⟩; have hb := ht.lt; have H1 := hid ht; have HL := hid hlow; have hs := hlow.size; clear ht hlow)
    | (go_at_call 6; (with_reducible refine (reserve_over _ _ _ [7] 0 0 2 _ H1.out (by omega) (by simp)).mono ?_); rintro r w2 ⟨rfl, nq, rfl⟩; have H2 := hid (H1.out.drewN nq))
    | (go_at_call 6; (with_reducible refine (reserve_okI _ _ _ [7] 0 0 1 _ H2.out (by omega) (by simp)).mono ?_); rintro r w3 ⟨rfl, ht, ho⟩; have H3 := hid ht; have HO3 := hid ho.undrewN; clear ht ho)
    | (go_at_call 5; (with_reducible refine (draw_some _ _ _ [7] 0 1 _ H3.out (by omega)).mono ?_); rintro r w4 ⟨rfl, ht, ho⟩; rw [nth_one]; have H4 := hid ht; have HO4 := hid (HO3.out.trans ho); clear ht ho)
    | (go_at_call 5; (with_reducible refine (draw_none _ _ _ [7] 1 1 _ H4.out (by omega)).mono ?_); rintro r w5 ⟨rfl, n5, rfl⟩))
  go_ret
  refine ⟨rfl, (((Below.refl w.heap.size w).alloc (Nat.le_refl _) _).trans (HL.out.mono (by simp))).trans (((HO4.out.trans (Only.drewN _ _ n5))).below ?_ ?_)⟩
  · simp at hb; omega
  · simp at hs; omega
end Go.Proofs.Ytolagogfjfcmaaa
