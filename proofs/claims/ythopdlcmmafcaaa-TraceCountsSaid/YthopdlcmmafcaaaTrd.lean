import Derived.Test.YthopdlcmmafcaaaProg
import Derived.Test.YthopdlcmmafcaaaTrc
/- Trace: what is opened, by the document. -/
namespace Go.Proofs.Ythopdlcmmafcaaa
open Go.RowKit
set_option maxRecDepth 100000

theorem infoI : (Try.prog.info? 3).map (fun i => (i.zero, i.size, i.bytes)) = some (some (.int .i64 0), 1, 8) := by kernel_rfl
theorem tcell_new (w : World) (z : Int) (E : TypeId) : ∀ j, j < 1 → (w.alloc (.cells #[.int .i64 z] E)).cell? (Addr.add ⟨w.heap.size, 0, none⟩ j) = some (.int .i64 (nth [z] j)) := fun j hj => by
  rw [cell_new w (.int .i64 z) E j hj]
  obtain rfl : j = 0 := by omega
  rfl
/-- The ops of a trace, in a world and all later ones. -/
theorem rop_ops {w : World} {a : Option Addr} {L cap : Nat} {f : Nat → Op6} (h : ROp w (.slice a L cap) L f) : ∃ b off, (0 < L → a = some ⟨b, off, none⟩) ∧ (0 < L → b < w.heap.size) ∧ ∀ i, i < L → Oc w b (off + i * 6) (f i) := by
  obtain ⟨a', cap', e, h1, h2, h3⟩ := h.at_
  injection e with e1 e2 e3
  subst e1 e3
  by_cases h0 : 0 < L
  · obtain ⟨b, off, e1, e2, e3⟩ := h3 h0
    exact ⟨b, off, fun _ => e1, fun _ => e2, e3⟩
  · exact ⟨0, 0, fun h => absurd h h0, fun h => absurd h h0, fun i hi => by omega⟩
theorem own_base_k {k : IntKind} {B B' : Nat} {E : TypeId} {w : World} {v : Value} {zs : List Int} (h : Own k B E w v zs) (hB : B' ≤ B) : Own k B' E w v zs := by
  obtain ⟨h1, h2⟩ := h
  refine ⟨h1, ?_⟩
  rcases h2 with h2 | ⟨g, cap, cur, e1, hg, r⟩
  · exact .inl h2
  · exact .inr ⟨g, cap, cur, e1, by omega, r⟩
structure OI (w1 wr : World) (v : Value) (f : Nat → Op6) (j : Nat) : Prop where
  own : Own .i64 w1.heap.size 3 wr v (opL f j)
  low : Below w1.heap.size w1 wr
set_option maxHeartbeats 1600000 in
theorem refopens_any (N : Int) (v0 v1 : Value) (L : Nat) (f : Nat → Op6) (w : World) (h : ROp w v0 L f) :
    Calls Try.prog 13 #[trV N v0 v1] w fun e w' => ∃ u, e = .returned u ∧ Own .i64 w.heap.size 3 w' u (opL f L) ∧ Below w.heap.size w w' := by
  obtain ⟨a, cap, rfl, _⟩ := id h.at_
  have hlim := h.lim
  obtain ⟨b, off, ha, hb, hops⟩ := rop_ops h
  have HB : Hid (Below w.heap.size w (w.alloc (.cells #[.int .i64 N, .slice a L cap, v1] 25))) := hid ((Below.refl _ _).alloc (Nat.le_refl _) _)
  have HTb := hid (fun w' => tb_box (w := w) (w' := w') (N := N) (v0 := .slice a L cap) (v1 := v1) (T := 25))
  have HOp : Hid (∀ w', Below w.heap.size w w' → ∀ i, i < L → Oc w' b (off + i * 6) (f i)) := hid (fun w' hw i hi => (hops i hi).self hw)
  have HA := hid ha
  obtain ⟨w1, hw1⟩ : ∃ w1, w.alloc (.cells #[.int .i64 N, .slice a L cap, v1] 25) = w1 := ⟨_, rfl⟩
  rw [hw1] at HB HTb
  have HW1 := hid hw1
  have HS1 : Hid (w1.heap.size = w.heap.size + 1) := hid (by rw [← hw1]; simp)
  have HE : Hid (OI w1 (w1.alloc (.cells #[] 3)) (.slice (some ⟨w1.heap.size, 0, none⟩) 0 0) f 0) := hid ⟨own_empty w1 (Nat.le_refl _), (Below.refl _ _).alloc (Nat.le_refl _) _⟩
  clear h hops ha hb hw1
  go_enter Try.func13, Try.ntmps13
  go_wp2
  rw [HW1.out]
  go_loopw [3, 4] (fun v i wr => ∃ j : Nat, j ≤ L ∧ i = .int .i64 j ∧ OI w1 wr v f j) (fun _ i _ => L - (intOf i).toNat)
  case atStart => exact ⟨0, by omega, rfl, by have := HE.out; rw [HS1.out] at this; exact this⟩
  case round =>
    obtain ⟨j, hj, rfl, hI⟩ := hrel
    have HI := hid hI
    clear hI
    have t1 := (HTb.out _ HI.out.low).o
    by_cases hlt : j < L
    · have t2 := (HOp.out _ (HB.out.trans (HI.out.low.mono HB.out.size)) j hlt).k
      have hae := HA.out (by omega)
      subst hae
      have j1 : (0 : Int) ≤ (j : Int) := by omega
      have j2 : (j : Int) < (L : Int) := by omega
      by_cases hk : (f j).K = 12
      · have HS : Hid (opL f (j + 1) = opL f j ++ [(j : Int)]) := hid (by rw [opL, if_pos hk])
        have HL := hid (opL_len f j)
        rw [hk] at t2
        clear hk
        have HJ : Hid (j < 4000000000000) := hid (by omega)
        go_wp2_with (first
          | (at_builtin; refine wpList_append_ints rfl (.tmp 20) (.tmp 22) 33 rfl .i64 w1.heap.size 3 Try.underlying33 infoI (by decide) _ _ rfl (HI.out.own.alloc _) ⟨wr.heap.size, 0, none⟩ 1 1 [(j : Int)] rfl rfl (tcell_new wr j 3) (by have := HL.out; have := HJ.out; show (_ + 1) * 8 ≤ _; omega) (by have := HI.out.low.size; simp; omega) w1.heap.size w1 (HI.out.low.alloc (HI.out.low.size) _) (Nat.le_refl _) ?_; intro v' w' hown' hlow' _; have HO2 := hid hown'; have HW2 := hid hlow'; clear hown' hlow'))
        go_roundw
        case rel => exact ⟨j + 1, by omega, by go_num, ⟨by rw [HS.out]; exact HO2.out, HW2.out⟩⟩
        case measure => simp [intOf]; omega
      · have HS : Hid (opL f (j + 1) = opL f j) := hid (by rw [opL, if_neg hk])
        generalize (f j).K = K at *
        go_wp2
        go_roundw
        case rel => exact ⟨j + 1, by omega, by go_num, ⟨by rw [HS.out]; exact HI.out.own, HI.out.low⟩⟩
        case measure => simp [intOf]; omega
    · obtain rfl : j = L := by omega
      go_wp2
      go_ret
      exact ⟨_, rfl, own_base_k HI.out.own HB.out.size, HB.out.trans (HI.out.low.mono HB.out.size)⟩
end Go.Proofs.Ythopdlcmmafcaaa
