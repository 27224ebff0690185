import Derived.Test.YtnklljlgghenpaaProg
import Derived.Test.YtnklljlgghenpaaKyc
namespace Go.Proofs.Ytnklljlgghenpaa
open Go.RowKit

theorem infor : (Try.prog.info? 22).map (fun i => (i.zero, i.size, i.bytes)) = some (some (.slice none 0 0), 1, 24) := by kernel_rfl

/-- A key's words, cut out of it. -/
structure CutInv (w wr : World) (v : Value) (kb ko i : Nat) : Prop where
  own : wr.ownsRow w.heap.size 22 1 v i (vs i 4 (fun _ => kb) (fun i => ko + 4 * i) (fun _ => 4))
  low : Below w.heap.size w wr
theorem CutInv.next (kb ko i : Nat) : vs i 4 (fun _ => kb) (fun i => ko + 4 * i) (fun _ => 4) ++ [.slice (some ⟨kb, ko + 4 * i, none⟩) 4 4] = vs (i + 1) 4 (fun _ => kb) (fun i => ko + 4 * i) (fun _ => 4) := by
  simp [vs, List.range_succ]

set_option maxRecDepth 100000 in
set_option maxHeartbeats 1600000 in
theorem cut_any (kb ko kc K : Nat) (k : Nat → Nat) (w : World) (hK : 4 ≤ K) (hK8 : K ≤ 8) (hc : 4 * K ≤ kc) (hkc : kc ≤ maxLen) (hA : Wd w (4 * K) kb ko k) :
    Calls Try.prog 21 #[.slice (some ⟨kb, ko, none⟩) (4 * K) kc] w fun e w' =>
      ∃ c cap, e = .returned (.slice (some ⟨c, 0, none⟩) K cap) ∧ LW w' w.heap.size 22 c K cap 4 (fun _ => kb) (fun i => ko + 4 * i) (fun _ => 4) (fun i j => k (4 * i + j)) ∧ Below w.heap.size w w' := by
  have HA := hid hA
  have HS : Hid (CutInv w w (.slice none 0 0) kb ko 0) := hid ⟨World.ownsRow_nil w w.heap.size 22 1, Below.refl _ _⟩
  clear hA
  have hc' : (4 * K : Nat) ≤ kc := hc
  unfold maxLen at hkc
  go_enter Try.func21, Try.ntmps21
  go_wp2
  go_loopw [3, 4] (fun v i wr => ∃ j : Nat, j ≤ K ∧ i = .int .i64 (4 * j : Nat) ∧ CutInv w wr v kb ko j) (fun _ i _ => 4 * K - (intOf i).toNat)
  case atStart => exact ⟨0, by omega, rfl, HS.out⟩
  case round =>
    obtain ⟨j, hj, rfl, hI⟩ := hrel
    have HI := hid hI
    clear hI
    by_cases hlt : j < K
    · have h1 : (0 : Int) ≤ ((4 * j : Nat) : Int) := by omega
      have h2 : ((4 * j : Nat) : Int) < ((4 * K : Nat) : Int) := by omega
      have h3 : ((4 * j : Nat) : Int) + 4 ≤ (kc : Int) := by omega
      go_wp2_with (first
        | (refine wpList_append_val rfl (.tmp 14) (.tmp 20) 25 rfl (.slice none 0 0) 24 w.heap.size 22 Try.underlying25 infor rfl (by decide) _ j _ rfl (HI.out.own.alloc _) ⟨wr.heap.size, 0, none⟩ 1 (.slice (some ⟨kb, ko + 4 * j, none⟩) 4 4) rfl (cell_new0 wr _ 22) rfl (by omega) (by have := HI.out.low.size; simp; omega) w.heap.size w (HI.out.low.alloc HI.out.low.size _) (Nat.le_refl _) ?_; intro v' w' hown' hlow' hsz'; rw [CutInv.next] at hown'; have HN := hid (CutInv.mk hown' hlow'); clear hown' hlow' hsz'))
      go_roundw
      case rel => exact ⟨j + 1, by omega, by go_num, HN.out⟩
      case measure => simp [intOf]; omega
    · obtain rfl : j = K := by omega
      obtain ⟨c, cap, hv, _, _⟩ := HI.out.own.form (by omega)
      subst hv
      go_wp2
      go_ret
      refine ⟨c, cap, rfl, ⟨HI.out.own, fun i hi => ?_, fun i hi => ?_⟩, HI.out.low⟩
      · exact ((HA.out.self HI.out.low).part (k := 4 * i) (m := 4) (by omega))
      · have := HI.out.own.form (by omega)
        have h1 := HA.out.lt
        obtain ⟨c', cap', e, hb, _⟩ := this
        injection e with e1 _ _
        injection e1 with e1
        injection e1 with e1
        omega
end Go.Proofs.Ytnklljlgghenpaa
