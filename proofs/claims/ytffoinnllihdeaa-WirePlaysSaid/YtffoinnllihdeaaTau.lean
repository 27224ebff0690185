import Derived.Test.YtffoinnllihdeaaTat
namespace Go.Proofs.Ytffoinnllihdeaa
open Go.RowKit

/-- At block m lies the document's tape: its words that are left, how many were drawn, how many may be. -/
def ModelAt (w : World) (lo hi m : Nat) (zs : List Int) (u f : Nat) : Prop :=
  ∃ wv, w.heap[m]? = some (.cells #[wv, .int .i64 u, .int .i64 f] 36 (0, 0)) ∧ RdS .u64 w (fun g => lo ≤ g ∧ g < hi ∧ g ≠ m) wv zs ∧ lo ≤ m ∧ m < hi ∧ hi ≤ w.heap.size

theorem ModelAt.lt {w : World} {lo hi b : Nat} {zs : List Int} {d e : Nat} (h : ModelAt w lo hi b zs d e) : lo ≤ b ∧ b < hi ∧ hi ≤ w.heap.size := by
  obtain ⟨_, _, _, h⟩ := h; exact h
theorem ModelAt.only {w w' : World} {lo hi b c : Nat} {zs : List Int} {d e : Nat} (h : ModelAt w lo hi b zs d e) (o : Only c w w') (hn : c < lo ∨ hi ≤ c) : ModelAt w' lo hi b zs d e := by
  obtain ⟨wv, hb, hr, h5, h6, h7⟩ := h
  exact ⟨wv, (o.block b (by omega) (by omega)).trans hb, hr.only o (fun g hg => by omega), h5, h6, Nat.le_trans h7 o.size⟩
theorem ModelAt.below {w w' : World} {lo hi b : Nat} {zs : List Int} {d e : Nat} (h : ModelAt w lo hi b zs d e) (o : Below w.heap.size w w') : ModelAt w' lo hi b zs d e := by
  obtain ⟨wv, hb, hr, h5, h6, h7⟩ := h
  exact ⟨wv, (o.block b (by omega)).trans hb, hr.below o, h5, h6, Nat.le_trans h7 o.size⟩
theorem ModelAt.drew {w : World} {lo hi b : Nat} {zs : List Int} {d e : Nat} (h : ModelAt w lo hi b zs d e) : ModelAt w.drew lo hi b zs d e := h.below ((Below.refl _ _).drew)
theorem ModelAt.drewN {w : World} {lo hi b : Nat} {zs : List Int} {d e : Nat} (h : ModelAt w lo hi b zs d e) (n : Nat) : ModelAt (w.drewN n) lo hi b zs d e := h.below ⟨rfl, rfl, rfl, Nat.le_refl _, fun _ _ => rfl⟩
theorem ModelAt.len {w : World} {lo hi b : Nat} {zs : List Int} {d e : Nat} (h : ModelAt w lo hi b zs d e) : zs.length ≤ 17592186043904 := by
  obtain ⟨_, _, ⟨_, _, _, _, _, h, _⟩, _⟩ := h
  simp [IntKind.bits] at h; omega
theorem ModelAt.setF {w : World} {lo hi b : Nat} {zs : List Int} {d e : Nat} (h : ModelAt w lo hi b zs d e) (e' : Nat) : ModelAt (w.setCell ⟨b, 2, none⟩ (.int .i64 e')) lo hi b zs d e' := by
  obtain ⟨wv, hb, hr, h5, h6, h7⟩ := h
  exact ⟨wv, set3_2 hb, hr.only (Only.set (g := b) w (p := ⟨b, 2, none⟩) rfl _) (fun g hg => hg.2.2), h5, h6, by simpa [World.setCell] using h7⟩

theorem mdraw_none (lo hi m : Nat) (zs : List Int) (u f : Nat) (w : World) (h : ModelAt w lo hi m zs u f) (he : f = 0) :
    Calls Try.prog 58 #[.pointer (some ⟨m, 0, none⟩)] w fun r w' => r = .returned (.tuple #[.int .u64 0, .bool false]) ∧ w = w' := by
  subst he
  obtain ⟨wv, hb, hr, h5, h6, h7⟩ := h
  obtain ⟨a, cap, rfl, _⟩ := hr
  obtain ⟨c0, c1, c2, hz⟩ := cells3 hb
  clear hb hz
  go_enter Try.func58, Try.ntmps58
  go_wp2
  go_ret2
  exact ⟨rfl, rfl⟩

/-- What is left of a slice without its first. -/
theorem RdS.tail {k : IntKind} {w : World} {S : Nat → Prop} {g off cap : Nat} {z : Int} {zs : List Int} (h : RdS k w S (.slice (some ⟨g, off, none⟩) (zs.length + 1) cap) (z :: zs)) (b : Option Addr) (hb : 0 < zs.length → b = some ⟨g, off + 1, none⟩) :
    RdS k w S (.slice b zs.length (cap - 1)) zs := by
  obtain ⟨a, c, h1, h2, h3, h4, h5, h7⟩ := h
  injection h1 with e1 e2 e3
  subst e3
  simp only [List.length_cons] at h2 h4
  refine ⟨b, cap - 1, rfl, by omega, by omega, by rw [Nat.add_mul] at h4; omega, fun x hx => h5 x (List.mem_cons_of_mem _ hx), fun hp => ?_⟩
  obtain ⟨g', off', e, hS, hlt, hc⟩ := h7 (by simp)
  rw [← e1] at e
  injection e with e
  injection e with e4 e5 e6
  subst e4; subst e5
  refine ⟨g, off + 1, hb hp, hS, hlt, fun j hj => ?_⟩
  have := hc (j + 1) (by simp; omega)
  rw [show off + 1 + j = off + (j + 1) by omega, this]
  rfl

theorem ModelAt.step {w : World} {lo hi m : Nat} {wv v' x y : Value} {zs : List Int} {u f : Nat} {u' f' : Int} (hb : w.heap[m]? = some (.cells #[wv, x, y] 36 (0, 0)))
    (hr : RdS .u64 w (fun g => lo ≤ g ∧ g < hi ∧ g ≠ m) v' zs) (h5 : lo ≤ m) (h6 : m < hi) (h7 : hi ≤ w.heap.size) (hu : u' = u) (hf : f' = f) :
    ModelAt (((w.setCell ⟨m, 0, none⟩ v').setCell ⟨m, 2, none⟩ (.int .i64 f')).setCell ⟨m, 1, none⟩ (.int .i64 u')) lo hi m zs u f ∧ Only m w (((w.setCell ⟨m, 0, none⟩ v').setCell ⟨m, 2, none⟩ (.int .i64 f')).setCell ⟨m, 1, none⟩ (.int .i64 u')) := by
  subst hu; subst hf
  have o : Only m w (((w.setCell ⟨m, 0, none⟩ v').setCell ⟨m, 2, none⟩ (.int .i64 f)).setCell ⟨m, 1, none⟩ (.int .i64 u)) :=
    ((Only.set (g := m) w (p := ⟨m, 0, none⟩) rfl _).trans (Only.set (g := m) _ (p := ⟨m, 2, none⟩) rfl _)).trans (Only.set (g := m) _ (p := ⟨m, 1, none⟩) rfl _)
  exact ⟨⟨v', set3_1 (set3_2 (set3_0 hb)), hr.only o (fun g hg => hg.2.2), h5, h6, by simpa [World.setCell] using h7⟩, o⟩

set_option maxHeartbeats 800000 in
theorem mdraw_some (lo hi m : Nat) (z : Int) (zs : List Int) (u f : Nat) (w : World) (h : ModelAt w lo hi m (z :: zs) u (f + 1)) (hu : u ≤ 17592186043904) (hf : f ≤ 17592186043904) :
    Calls Try.prog 58 #[.pointer (some ⟨m, 0, none⟩)] w fun r w' => r = .returned (.tuple #[.int .u64 z, .bool true]) ∧ ModelAt w' lo hi m zs (u + 1) f ∧ Only m w w' := by
  have hl := h.len
  obtain ⟨wv, hb, hr, h5, h6, h7⟩ := h
  have HR := hid hr
  obtain ⟨a, cap, rfl, hcap1, hcap2, _, _, hr0⟩ := hr
  obtain ⟨g, off, rfl, hg0, hg, hrc⟩ := hr0 (by simp)
  obtain ⟨c0, c1, c2, hz⟩ := cells3 hb
  have hz0 := hz 0
  have hz1 := hz 1
  have hz2 := hz 2
  have hrd : w.cell? ⟨g, off, none⟩ = some (.int .u64 z) := by simpa [nth] using hrc 0 (by simp)
  have HB := hid hb
  simp only [List.length_cons] at hcap1
  unfold maxLen at hcap2
  clear hb hz hrc hr0
  have e0 : ((zs.length : Int) + 1 == 0) = false := by simp; omega
  have H5 := hid h5
  by_cases hc : cap = 1
  · have hz0' : zs.length = 0 := by omega
    obtain rfl : zs = [] := List.eq_nil_of_length_eq_zero hz0'
    subst hc
    clear hz0'
    have HT := hid (fun b => RdS.tail HR.out b (by simp))
    go_enter Try.func58, Try.ntmps58
    go_wp2
    go_ret2
    exact ⟨rfl, ModelAt.step HB.out (HT.out _) H5.out h6 h7 (by omega) (by omega)⟩
  · have HT := hid (RdS.tail HR.out (some ⟨g, off + 1, none⟩) (fun _ => rfl))
    go_enter Try.func58, Try.ntmps58
    go_wp2
    go_ret2
    exact ⟨rfl, ModelAt.step HB.out HT.out H5.out h6 h7 (by omega) (by omega)⟩
end Go.Proofs.Ytffoinnllihdeaa
