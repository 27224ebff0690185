import Derived.Test.YthopdlcmmafcaaaProg
import Derived.Test.YthopdlcmmafcaaaTpc
import Derived.Test.YthopdlcmmafcaaaTrd
/- Trace: masks, words, what is opened, why it is none, by the (scratch) program. -/
namespace Go.Proofs.Ythopdlcmmafcaaa
open Go.RowKit
set_option maxRecDepth 100000
theorem tdraws_any (N : Int) (v0 v1 : Value) (L : Nat) (f : Nat → Op6) (w : World) (h : ROp w v0 L f) :
    Calls Try.prog 9 #[trV N v0 v1] w fun e w' => e = .returned (.int .i64 (tal f L 1 : Nat)) ∧ Below w.heap.size w w' := by
  obtain ⟨a, cap, rfl, _⟩ := id h.at_
  have HB : Hid (Below w.heap.size w (w.alloc (.cells #[.int .i64 N, .slice a L cap, v1] 25))) := hid ((Below.refl _ _).alloc (Nat.le_refl _) _)
  have HT := hid (ttally_any N (.slice a L cap) v1 L f _ (h.self HB.out))
  have HX : Hid (∀ w, (Instr.index 28 (.agg (ia 13 (tal f L))) (.int .i64 1)).run Try.prog w = .ok (.int .i64 (tal f L 1 : Nat)) w) := hid (fun w => run_index_ia (P := Try.prog) w 28 3 13 (tal f L) 1 Try.underlying28 Try.underlying3 (by kernel_rfl) (by decide))
  clear h
  generalize tal f L = T at *
  go_enter Try.func9, Try.ntmps9
  go_wp2_with (first
    | (refine wpList_load_row rfl 25 _ rfl w.heap.size rfl 25 #[.int .i64 N, .slice a L cap, v1] (0, 0) _ (heap_alloc_new w _) Try.underlying25 rfl (by kernel_rfl) ?_)
    | (go_at_call 8; (with_reducible refine (HT.out).mono ?_); rintro e w2 ⟨rfl, hb⟩; have H2 := hid (HB.out.trans (hb.mono HB.out.size)); have hx := HX.out w2; clear hb))
  go_ret
  exact ⟨rfl, H2.out⟩
theorem twords_any (N : Int) (v0 v1 : Value) (L : Nat) (f : Nat → Op6) (w : World) (h : ROp w v0 L f) :
    Calls Try.prog 10 #[trV N v0 v1] w fun e w' => e = .returned (.int .i64 (tal f L 2 : Nat)) ∧ Below w.heap.size w w' := by
  obtain ⟨a, cap, rfl, _⟩ := id h.at_
  have HB : Hid (Below w.heap.size w (w.alloc (.cells #[.int .i64 N, .slice a L cap, v1] 25))) := hid ((Below.refl _ _).alloc (Nat.le_refl _) _)
  have HT := hid (ttally_any N (.slice a L cap) v1 L f _ (h.self HB.out))
  have HX : Hid (∀ w, (Instr.index 28 (.agg (ia 13 (tal f L))) (.int .i64 2)).run Try.prog w = .ok (.int .i64 (tal f L 2 : Nat)) w) := hid (fun w => run_index_ia (P := Try.prog) w 28 3 13 (tal f L) 2 Try.underlying28 Try.underlying3 (by kernel_rfl) (by decide))
  clear h
  generalize tal f L = T at *
  go_enter Try.func10, Try.ntmps10
  go_wp2_with (first
    | (refine wpList_load_row rfl 25 _ rfl w.heap.size rfl 25 #[.int .i64 N, .slice a L cap, v1] (0, 0) _ (heap_alloc_new w _) Try.underlying25 rfl (by kernel_rfl) ?_)
    | (go_at_call 8; (with_reducible refine (HT.out).mono ?_); rintro e w2 ⟨rfl, hb⟩; have H2 := hid (HB.out.trans (hb.mono HB.out.size)); have hx := HX.out w2; clear hb))
  go_ret
  exact ⟨rfl, H2.out⟩
set_option maxHeartbeats 3200000 in
theorem topens_any (N : Int) (v0 v1 : Value) (L : Nat) (f : Nat → Op6) (w : World) (h : ROp w v0 L f) :
    Calls Try.prog 12 #[trV N v0 v1] w fun e w' => ∃ u, e = .returned u ∧ Own .i64 w.heap.size 3 w' u (opL f L) ∧ Below w.heap.size w w' := by
  obtain ⟨a, cap, rfl, _⟩ := id h.at_
  have hlim := h.lim
  obtain ⟨b, off, ha, hb, hops⟩ := rop_ops h
  have HB : Hid (Below w.heap.size w (w.alloc (.cells #[.int .i64 N, .slice a L cap, v1] 25))) := hid ((Below.refl _ _).alloc (Nat.le_refl _) _)
  have HOp : Hid (∀ w', Below w.heap.size w w' → ∀ i, i < L → Oc w' b (off + i * 6) (f i)) := hid (fun w' hw i hi => (hops i hi).self hw)
  have HA := hid ha
  obtain ⟨w1, hw1⟩ : ∃ w1, w.alloc (.cells #[.int .i64 N, .slice a L cap, v1] 25) = w1 := ⟨_, rfl⟩
  rw [hw1] at HB
  have HW1 := hid hw1
  clear h hops ha hb hw1
  go_enter Try.func12, Try.ntmps12
  go_wp2
  rw [HW1.out]
  go_loopw [3, 9] (fun v i wr => ∃ j : Nat, j ≤ L ∧ i = .int .i64 j ∧ OI w1 wr v f j) (fun _ i _ => L - (intOf i).toNat)
  case atStart => exact ⟨0, by omega, rfl, ⟨own_nil .i64 w1.heap.size 3 w1, Below.refl _ _⟩⟩
  case round =>
    obtain ⟨j, hj, rfl, hI⟩ := hrel
    have HI := hid hI
    clear hI
    by_cases hlt : j < L
    · have hae := HA.out (by omega)
      subst hae
      have j1 : (0 : Int) ≤ (j : Int) := by omega
      have j2 : (j : Int) < (L : Int) := by omega
      obtain ⟨k0, k1, k2, k3, k4, k5⟩ := HOp.out wr (HB.out.trans (HI.out.low.mono HB.out.size)) j hlt
      have HIa : Hid (OI w1 (wr.alloc (.cells (opC (f j)) 40)) u3 f j) := hid ⟨HI.out.own.alloc _, HI.out.low.alloc HI.out.low.size _⟩
      obtain ⟨wa, hwa⟩ : ∃ wa, wr.alloc (.cells (opC (f j)) 40) = wa := ⟨_, rfl⟩
      by_cases hk : (f j).K = 12
      · have HS : Hid (opL f (j + 1) = opL f j ++ [(j : Int)]) := hid (by rw [opL, if_pos hk])
        have HL := hid (opL_len f j)
        have HJ : Hid (j < 4000000000000) := hid (by omega)
        have e1 : ((f j).K == 12) = true := by simp [hk]
        have HTc : Hid (∀ k, k < 1 → ((wr.alloc (.cells (opC (f j)) 40)).alloc (.cells #[.int .i64 (j : Int)] 3)).cell? (Addr.add ⟨wr.heap.size + 1, 0, none⟩ k) = some (.int .i64 (nth [(j : Int)] k))) := hid (by have := tcell_new (wr.alloc (.cells (opC (f j)) 40)) j 3; rw [show (wr.alloc (.cells (opC (f j)) 40)).heap.size = wr.heap.size + 1 by simp] at this; exact this)
        clear hk hwa
        go_wp2_with (first
          | (at_builtin; refine wpList_append_ints rfl (.tmp 17) (.tmp 19) 33 rfl .i64 w1.heap.size 3 Try.underlying33 infoI (by decide) _ _ rfl (HIa.out.own.alloc _) ⟨wr.heap.size + 1, 0, none⟩ 1 1 [(j : Int)] rfl rfl HTc.out (by have := HL.out; have := HJ.out; show (_ + 1) * 8 ≤ _; omega) (by have := HIa.out.low.size; simp at this ⊢; omega) w1.heap.size w1 (HIa.out.low.alloc (HIa.out.low.size) _) (Nat.le_refl _) ?_; intro v2 w2 hown hlow _; have HO2 := hid hown; have HW2 := hid hlow; clear hown hlow))
        go_roundw
        case rel => exact ⟨j + 1, by omega, by go_num, ⟨by rw [HS.out]; exact HO2.out, HW2.out⟩⟩
        case measure => simp [intOf]; omega
      · have HS : Hid (opL f (j + 1) = opL f j) := hid (by rw [opL, if_neg hk])
        have e1 : ((f j).K == 12) = false := by simp [hk]
        clear hk hwa
        go_wp2
        go_roundw
        case rel => exact ⟨j + 1, by omega, by go_num, ⟨by rw [HS.out]; exact HIa.out.own, HIa.out.low⟩⟩
        case measure => simp [intOf]; omega
    · obtain rfl : j = L := by omega
      go_wp2
      go_ret
      exact ⟨_, rfl, own_base_k HI.out.own HB.out.size, HB.out.trans (HI.out.low.mono HB.out.size)⟩
end Go.Proofs.Ythopdlcmmafcaaa
