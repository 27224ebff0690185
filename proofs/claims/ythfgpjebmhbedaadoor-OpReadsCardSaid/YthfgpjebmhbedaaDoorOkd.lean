import Derived.Test.YthfgpjebmhbedaaDoorProg
import Derived.Test.YthfgpjebmhbedaaDoorOpn
/- Op: a name's kind, by the program. -/
namespace Go.Proofs.YthfgpjebmhbedaaDoor
open Go.RowKit
/-- A name's kind, or 0. -/
def KdP (s : ByteArray) (k : Nat) : Prop := k < 13 ∧ (1 ≤ k → nmB (k : Int) = s) ∧ (k = 0 → ∀ j : Nat, 1 ≤ j → j < 13 → nmB (j : Int) ≠ s)
theorem ba_list_inj {a b : ByteArray} (h : a.toList = b.toList) : a = b := by
  rw [toList_data, toList_data] at h
  exact ByteArray.ext (Array.toList_inj.1 h)
set_option maxHeartbeats 1600000 in
theorem okind_any (s : ByteArray) (w : World) : Calls Tryd.prog 10 #[.string s] w fun e w' => (∃ k : Nat, KdP s k ∧ e = .returned (.int .i64 (k : Int))) ∧ Below w.heap.size w w' := by
  have HN := hid (onames_any w)
  have HX := hid (fun k h w => nmA_index k h w)
  have HE := hid (show nmB ((0 : Nat) : Int) = ⟨#[]⟩ from rfl)
  have HQ : Hid (∀ j : Nat, 1 ≤ j → j < 13 → nmB (j : Int) ≠ ⟨#[]⟩) := hid (by
    intro j h1 h2
    obtain rfl | rfl | rfl | rfl | rfl | rfl | rfl | rfl | rfl | rfl | rfl | rfl : j = 1 ∨ j = 2 ∨ j = 3 ∨ j = 4 ∨ j = 5 ∨ j = 6 ∨ j = 7 ∨ j = 8 ∨ j = 9 ∨ j = 10 ∨ j = 11 ∨ j = 12 := by omega
    all_goals decide)
  go_enter Tryd.func10, Tryd.ntmps10
  go_wp2_with (go_at_call 18; (with_reducible refine (HN.out).mono ?_); rintro e w1 ⟨rfl, h1⟩; have H1 := hid h1; clear h1)
  go_loop [6] (fun i => ∃ j : Nat, j ≤ 13 ∧ i = .int .i64 j ∧ ∀ k : Nat, k < j → nmB (k : Int) ≠ s) (fun i => 13 - (intOf i).toNat)
  case atStart => exact ⟨0, by omega, rfl, fun k hk => by omega⟩
  case round =>
    obtain ⟨j, hj, rfl, hno⟩ := hrel
    have Hno := hid hno
    clear hno
    by_cases hlt : j < 13
    · have hidx := HX.out j hlt
      have j1 : (0 : Int) ≤ (j : Int) := by omega
      have j2 : (j : Int) < 13 := by omega
      obtain ⟨m, hm⟩ : ∃ m, nmB (j : Int) = m := ⟨_, rfl⟩
      rw [hm] at hidx
      have Hm := hid hm
      clear hm
      by_cases he : m = s
      · subst he
        go_wp2
        go_ret
        refine ⟨⟨j, ⟨hlt, fun _ => Hm.out, fun h0 => ?_⟩, rfl⟩, H1.out⟩
        subst h0
        intro i h1 h2 h3
        exact HQ.out i h1 h2 (h3.trans (Hm.out.symm.trans HE.out))
      · have hne : (m.toList == s.toList) = false := beq_eq_false_iff_ne.2 (fun h => he (ba_list_inj h))
        have Hhe := hid he
        clear he
        go_wp2
        go_round
        case rel =>
          refine ⟨j + 1, by omega, by go_num, fun k hk => ?_⟩
          by_cases h : k = j
          · subst h; rw [Hm.out]; exact Hhe.out
          · exact Hno.out k (by omega)
        case measure => simp [intOf]; omega
    · obtain rfl : j = 13 := by omega
      clear hlt hj
      go_wp2
      go_ret
      exact ⟨⟨0, ⟨by omega, fun h => by omega, fun _ i h1 h2 => Hno.out i (by omega)⟩, rfl⟩, H1.out⟩
end Go.Proofs.YthfgpjebmhbedaaDoor
