import Derived.Test.YtdgkofnboeepbaaProg
import Derived.Test.YtdgkofnboeepbaaMgam
import Derived.Test.YtdgkofnboeepbaaMgal
import Derived.Laws.StructEq
import Derived.Test.YtdgkofnboeepbaaMgac
import Derived.Deep.MidRow
/- Share: words, by the document: not, add, encode. -/
namespace Go.Proofs.Ytdgkofnboeepbaa
open Go.RowKit
set_option maxRecDepth 100000
set_option maxHeartbeats 6400000 in
theorem ynot {Pm : World → Nat → Ms → (Nat → Prop) → Prop} (hM : Mach Pm) {lo : Nat} {X : Nat → Prop} {W w : World} {p b k : Nat} {S1 S : Ms} (h : Bz Pm lo X W w p b S1 S) (hq : Bq k S) (hk : k + 3 ≤ 100000) (A : Nat → Int) (hA : Wb A) :
    Calls Try.prog 26 #[.pointer (some ⟨b, 0, none⟩), .agg (wdV A)] w fun e w' => e = .returned (.agg (wdV (notR S A))) ∧ Bz Pm lo X W w' p b S1 (notS S A) ∧ ∀ k, X k → w'.heap[k]? = w.heap[k]? := by
  have HO : Hid (opwf ⟨6, 0, A 0, -1, -1, 0⟩) := hid (opNot_wf hA)
  have HQ := hid hq
  have HK : Hid (k ≤ 100000) := hid (by omega)
  have HB : Hid (Below w.heap.size w ((w.alloc (.cells (wdV A) 33)).alloc (.cells #[.int .i64 0, .int .i64 0, .int .i64 0] 33))) := hid (((Below.refl _ _).alloc (Nat.le_refl _) _).alloc (by simp) _)
  have Z0 := hid (Gz.start h)
  have Z1 := hid (Z0.out.box hM (Nat.le_refl _) (wdV A))
  have Z2 := hid (Z1.out.box hM (by simp) #[.int .i64 0, .int .i64 0, .int .i64 0])
  have ZZ : Hid (Gz Pm lo X W w ((w.alloc (.cells (wdV A) 33)).alloc (.cells #[.int .i64 0, .int .i64 0, .int .i64 0] 33)) p b S1 S [(w.heap.size, wdV A), (w.heap.size + 1, #[.int .i64 0, .int .i64 0, .int .i64 0])]) := hid ((show Gz Pm lo X W w _ p b S1 S [(w.heap.size + 1, #[.int .i64 0, .int .i64 0, .int .i64 0]), (w.heap.size, wdV A)] from by have := Z2.out; simpa using this).swap (by intro q hq; simp at hq ⊢; exact hq.symm))
  clear Z0 Z1 Z2
  obtain ⟨w1, hw1⟩ : ∃ w1, (w.alloc (.cells (wdV A) 33)).alloc (.cells #[.int .i64 0, .int .i64 0, .int .i64 0] 33) = w1 := ⟨_, rfl⟩
  rw [hw1] at ZZ
  have HW1 := hid hw1
  clear h hq hk hA hw1
  show Calls Try.prog 26 _ w fun e w' => e = .returned (.agg (wdV (updI A 0 (S.doR ⟨6, 0, A 0, -1, -1, 0⟩)))) ∧ Bz Pm lo X W w' p b S1 (S.doS ⟨6, 0, A 0, -1, -1, 0⟩ 0) ∧ ∀ k, X k → w'.heap[k]? = w.heap[k]?
  go_enter Try.func26, Try.ntmps26
  go_upto_region 1 with fail
  rw [HW1.out]
  have cl : w1.cell? ⟨w.heap.size, 0, none⟩ = some (.int .i64 (A 0)) := row_c (ZZ.out.bx (w.heap.size, wdV A) (by simp)).2 rfl; have fl := frozen_of_row w1 w.heap.size 0 _ _ (ZZ.out.bx (w.heap.size, wdV A) (by simp)).2
  go_upto_region 2 with (first
    | (go_at_call 50; (with_reducible refine (dop0_any 6 0 (A 0) (-1) _).mono ?_); rintro e w2 ⟨rfl, hb⟩; have Y1 := hid (ZZ.out.self hM hb); clear hb)
    | (go_at_call 49; (with_reducible refine (ydo0 hM ⟨6, 0, A 0, -1, -1, 0⟩ Y1.out.z HQ.out HK.out HO.out).mono ?_); rintro e w3 ⟨rfl, hz, hs⟩; have Y2 := hid (Y1.out.on hz hs); clear hz hs cl fl; have cl : w3.cell? ⟨w.heap.size, 0, none⟩ = some (.int .i64 (A 0)) := row_c (Y2.out.bx (w.heap.size, wdV A) (by simp)).2 rfl; have fl := frozen_of_row w3 w.heap.size 0 _ _ (Y2.out.bx (w.heap.size, wdV A) (by simp)).2))
  have ZP : Hid (Gz Pm lo X W w (w3.setCell ⟨w.heap.size, 0, none⟩ (.int .i64 (S.doR ⟨6, 0, A 0, -1, -1, 0⟩))) p b S1 (S.doS ⟨6, 0, A 0, -1, -1, 0⟩ 0) [(w.heap.size, wdV (updI A 0 (S.doR ⟨6, 0, A 0, -1, -1, 0⟩))), (w.heap.size + 1, #[.int .i64 0, .int .i64 0, .int .i64 0])]) := hid (by
    have := Y2.out.cell hM (by intro q hq; simp at hq; subst hq; simp) 0 (.int .i64 (S.doR ⟨6, 0, A 0, -1, -1, 0⟩))
    rw [wdV_upd _ _ _ (by decide)] at this
    exact this)
  generalize w3.setCell ⟨w.heap.size, 0, none⟩ (.int .i64 (S.doR ⟨6, 0, A 0, -1, -1, 0⟩)) = wz at *
  clear cl fl
  go_wp2_with (first
    | (refine step_load_row rfl 33 _ rfl w.heap.size 33 (wdV (updI A 0 (S.doR ⟨6, 0, A 0, -1, -1, 0⟩))) _ rfl (ZP.out.bx (w.heap.size, wdV (updI A 0 (S.doR ⟨6, 0, A 0, -1, -1, 0⟩))) (by simp)).2 Try.underlying33 rfl (by kernel_rfl) ?_)
    | (refine step_store_row rfl 33 _ _ rfl (w.heap.size + 1) 33 _ (wdV (updI A 0 (S.doR ⟨6, 0, A 0, -1, -1, 0⟩))) rfl rfl (ZP.out.bx (w.heap.size + 1, #[.int .i64 0, .int .i64 0, .int .i64 0]) (by simp)).2 (by kernel_rfl) rfl (by kernel_rfl) ?_))
  have ZF := hid (((ZP.out.swap (bs' := [(w.heap.size + 1, #[.int .i64 0, .int .i64 0, .int .i64 0]), (w.heap.size, wdV (updI A 0 (S.doR ⟨6, 0, A 0, -1, -1, 0⟩)))]) (by intro q hq; simp at hq ⊢; exact hq.symm)).row hM (by intro q hq; simp at hq; subst hq; simp) (wdV (updI A 0 (S.doR ⟨6, 0, A 0, -1, -1, 0⟩)))))
  exact bodyPost_ret (results_cell_row (by rfl) _ _ (w.heap.size + 1) 33 (wdV (updI A 0 (S.doR ⟨6, 0, A 0, -1, -1, 0⟩))) (0, 0) _ rfl (ZF.out.bx _ (List.mem_cons_self ..)).2 Try.underlying33 rfl (by kernel_rfl)) rfl ⟨rfl, ZF.out.fin⟩
set_option maxHeartbeats 6400000 in
theorem yadd {Pm : World → Nat → Ms → (Nat → Prop) → Prop} (hM : Mach Pm) {lo : Nat} {X : Nat → Prop} {W w : World} {p b k : Nat} {S1 S : Ms} (h : Bz Pm lo X W w p b S1 S) (hq : Bq k S) (hk : k + 3 ≤ 100000) (K : Int) (hK : I64 K) (A : Nat → Int) (hA : Wb A) (c : Nat) (hc : c < 2 ^ 64) :
    Calls Try.prog 31 #[.pointer (some ⟨b, 0, none⟩), .int .i64 K, .agg (wdV A), .int .u64 (c : Int)] w fun e w' => e = .returned (.agg (wdV (addR S K A c))) ∧ Bz Pm lo X W w' p b S1 (addS S K A c) ∧ ∀ k, X k → w'.heap[k]? = w.heap[k]? := by
  have HO : Hid (opwf ⟨K, 0, -1, -1, -1, c⟩) := hid (opAd1_wf hK hc)
  have HO2 : Hid (opwf ⟨5, 0, A 0, S.doR ⟨K, 0, -1, -1, -1, c⟩, -1, 0⟩) := hid (opAd2_wf hA (doR_bd hq (by omega) _))
  have HQ := hid hq
  have HQ2 : Hid (Bq (k + 1) (S.doS ⟨K, 0, -1, -1, -1, c⟩ 0)) := hid (hq.does HO.out (by decide))
  have HK : Hid (k ≤ 100000) := hid (by omega)
  have HK2 : Hid (k + 1 ≤ 100000) := hid (by omega)
  have HB : Hid (Below w.heap.size w ((w.alloc (.cells (wdV A) 33)).alloc (.cells #[.int .i64 0, .int .i64 0, .int .i64 0] 33))) := hid (((Below.refl _ _).alloc (Nat.le_refl _) _).alloc (by simp) _)
  have Z0 := hid (Gz.start h)
  have Z1 := hid (Z0.out.box hM (Nat.le_refl _) (wdV A))
  have Z2 := hid (Z1.out.box hM (by simp) #[.int .i64 0, .int .i64 0, .int .i64 0])
  have ZZ : Hid (Gz Pm lo X W w ((w.alloc (.cells (wdV A) 33)).alloc (.cells #[.int .i64 0, .int .i64 0, .int .i64 0] 33)) p b S1 S [(w.heap.size, wdV A), (w.heap.size + 1, #[.int .i64 0, .int .i64 0, .int .i64 0])]) := hid ((show Gz Pm lo X W w _ p b S1 S [(w.heap.size + 1, #[.int .i64 0, .int .i64 0, .int .i64 0]), (w.heap.size, wdV A)] from by have := Z2.out; simpa using this).swap (by intro q hq; simp at hq ⊢; exact hq.symm))
  clear Z0 Z1 Z2
  obtain ⟨w1, hw1⟩ : ∃ w1, (w.alloc (.cells (wdV A) 33)).alloc (.cells #[.int .i64 0, .int .i64 0, .int .i64 0] 33) = w1 := ⟨_, rfl⟩
  rw [hw1] at ZZ
  have HW1 := hid hw1
  clear h hq hk hA hK hc hw1
  show Calls Try.prog 31 _ w fun e w' => e = .returned (.agg (wdV (updI A 0 ((S.doS ⟨K, 0, -1, -1, -1, c⟩ 0).doR ⟨5, 0, A 0, S.doR ⟨K, 0, -1, -1, -1, c⟩, -1, 0⟩)))) ∧ Bz Pm lo X W w' p b S1 ((S.doS ⟨K, 0, -1, -1, -1, c⟩ 0).doS ⟨5, 0, A 0, S.doR ⟨K, 0, -1, -1, -1, c⟩, -1, 0⟩ 0) ∧ ∀ k, X k → w'.heap[k]? = w.heap[k]?
  go_enter Try.func31, Try.ntmps31
  go_upto_region 1 with fail
  rw [HW1.out]
  go_upto_region 3 with (first
    | (go_at_call 50; (with_reducible refine (dopc_any K 0 (-1) (-1) c _).mono ?_); rintro e w2 ⟨rfl, hb⟩; have Y1 := hid (ZZ.out.self hM hb); clear hb)
    | (go_at_call 49; (with_reducible refine (ydo0 hM ⟨K, 0, -1, -1, -1, c⟩ Y1.out.z HQ.out HK.out HO.out).mono ?_); rintro e w3 ⟨rfl, hz, hs⟩; have Y2 := hid (Y1.out.on hz hs); clear hz hs; have cl : w3.cell? ⟨w.heap.size, 0, none⟩ = some (.int .i64 (A 0)) := row_c (Y2.out.bx (w.heap.size, wdV A) (by simp)).2 rfl; have fl := frozen_of_row w3 w.heap.size 0 _ _ (Y2.out.bx (w.heap.size, wdV A) (by simp)).2)
    | (go_at_call 50; (with_reducible refine (dop0_any 5 0 (A 0) (S.doR ⟨K, 0, -1, -1, -1, c⟩) _).mono ?_); rintro e w4 ⟨rfl, hb⟩; have Y3 := hid (Y2.out.self hM hb); clear hb)
    | (go_at_call 49; (with_reducible refine (ydo0 hM ⟨5, 0, A 0, S.doR ⟨K, 0, -1, -1, -1, c⟩, -1, 0⟩ Y3.out.z HQ2.out HK2.out HO2.out).mono ?_); rintro e w5 ⟨rfl, hz, hs⟩; have Y4 := hid (Y3.out.on hz hs); clear hz hs cl fl; have cl : w5.cell? ⟨w.heap.size, 0, none⟩ = some (.int .i64 (A 0)) := row_c (Y4.out.bx (w.heap.size, wdV A) (by simp)).2 rfl; have fl := frozen_of_row w5 w.heap.size 0 _ _ (Y4.out.bx (w.heap.size, wdV A) (by simp)).2))
  have ZP : Hid (Gz Pm lo X W w (w5.setCell ⟨w.heap.size, 0, none⟩ (.int .i64 ((S.doS ⟨K, 0, -1, -1, -1, c⟩ 0).doR ⟨5, 0, A 0, S.doR ⟨K, 0, -1, -1, -1, c⟩, -1, 0⟩))) p b S1 ((S.doS ⟨K, 0, -1, -1, -1, c⟩ 0).doS ⟨5, 0, A 0, S.doR ⟨K, 0, -1, -1, -1, c⟩, -1, 0⟩ 0) [(w.heap.size, wdV (updI A 0 ((S.doS ⟨K, 0, -1, -1, -1, c⟩ 0).doR ⟨5, 0, A 0, S.doR ⟨K, 0, -1, -1, -1, c⟩, -1, 0⟩))), (w.heap.size + 1, #[.int .i64 0, .int .i64 0, .int .i64 0])]) := hid (by
    have := Y4.out.cell hM (by intro q hq; simp at hq; subst hq; simp) 0 (.int .i64 ((S.doS ⟨K, 0, -1, -1, -1, c⟩ 0).doR ⟨5, 0, A 0, S.doR ⟨K, 0, -1, -1, -1, c⟩, -1, 0⟩))
    rw [wdV_upd _ _ _ (by decide)] at this
    exact this)
  generalize w5.setCell ⟨w.heap.size, 0, none⟩ (.int .i64 ((S.doS ⟨K, 0, -1, -1, -1, c⟩ 0).doR ⟨5, 0, A 0, S.doR ⟨K, 0, -1, -1, -1, c⟩, -1, 0⟩)) = wz at *
  clear cl fl
  go_wp2_with (first
    | (refine step_load_row rfl 33 _ rfl w.heap.size 33 (wdV (updI A 0 ((S.doS ⟨K, 0, -1, -1, -1, c⟩ 0).doR ⟨5, 0, A 0, S.doR ⟨K, 0, -1, -1, -1, c⟩, -1, 0⟩))) _ rfl (ZP.out.bx (w.heap.size, wdV (updI A 0 ((S.doS ⟨K, 0, -1, -1, -1, c⟩ 0).doR ⟨5, 0, A 0, S.doR ⟨K, 0, -1, -1, -1, c⟩, -1, 0⟩))) (by simp)).2 Try.underlying33 rfl (by kernel_rfl) ?_)
    | (refine step_store_row rfl 33 _ _ rfl (w.heap.size + 1) 33 _ (wdV (updI A 0 ((S.doS ⟨K, 0, -1, -1, -1, c⟩ 0).doR ⟨5, 0, A 0, S.doR ⟨K, 0, -1, -1, -1, c⟩, -1, 0⟩))) rfl rfl (ZP.out.bx (w.heap.size + 1, #[.int .i64 0, .int .i64 0, .int .i64 0]) (by simp)).2 (by kernel_rfl) rfl (by kernel_rfl) ?_))
  have ZF := hid (((ZP.out.swap (bs' := [(w.heap.size + 1, #[.int .i64 0, .int .i64 0, .int .i64 0]), (w.heap.size, wdV (updI A 0 ((S.doS ⟨K, 0, -1, -1, -1, c⟩ 0).doR ⟨5, 0, A 0, S.doR ⟨K, 0, -1, -1, -1, c⟩, -1, 0⟩)))]) (by intro q hq; simp at hq ⊢; exact hq.symm)).row hM (by intro q hq; simp at hq; subst hq; simp) (wdV (updI A 0 ((S.doS ⟨K, 0, -1, -1, -1, c⟩ 0).doR ⟨5, 0, A 0, S.doR ⟨K, 0, -1, -1, -1, c⟩, -1, 0⟩)))))
  exact bodyPost_ret (results_cell_row (by rfl) _ _ (w.heap.size + 1) 33 (wdV (updI A 0 ((S.doS ⟨K, 0, -1, -1, -1, c⟩ 0).doR ⟨5, 0, A 0, S.doR ⟨K, 0, -1, -1, -1, c⟩, -1, 0⟩))) (0, 0) _ rfl (ZF.out.bx _ (List.mem_cons_self ..)).2 Try.underlying33 rfl (by kernel_rfl)) rfl ⟨rfl, ZF.out.fin⟩
end Go.Proofs.Ytdgkofnboeepbaa

/- Share: words, by the document: encode. -/
namespace Go.Proofs.Ytdgkofnboeepbaa
open Go.RowKit
set_option maxRecDepth 100000
set_option maxHeartbeats 6400000 in
theorem yenc {Pm : World → Nat → Ms → (Nat → Prop) → Prop} (hM : Mach Pm) {lo : Nat} {X : Nat → Prop} {W w : World} {p b k : Nat} {S1 S : Ms} (h : Bz Pm lo X W w p b S1 S) (hq : Bq k S) (hk : k + 10 ≤ 100000) (hn : S.n = 2 ∨ S.n = 3) (x : Nat) (hx : x < 2 ^ 64) :
    Calls Try.prog 18 #[.pointer (some ⟨b, 0, none⟩), .int .u64 (x : Int)] w fun e w' => e = .returned (.agg (wdV (encR S))) ∧ Bz Pm lo X W w' p b S1 (encS S x) ∧ ∀ k, X k → w'.heap[k]? = w.heap[k]? := by
  obtain ⟨hsh, hs2, hs3⟩ := sh_of hn
  have HQB : Hid (Bq k (S.beginS 1)) := hid (hq.begins 1)
  have HQ : Hid (∀ m, m ≤ 3 → Bq (k + m) (eaS (S.beginS 1) opRand 1 m)) := hid (fun m hm => eaS_bq HQB.out 1 m (fun j hj => opRand_wf (by omega)))
  have HN : Hid (∀ m, (eaS (S.beginS 1) opRand 1 m).n = (S.sh : Int)) := hid (fun m => (eaS_n _ _ 1 m).trans ((beginS_n S 1).1.trans hsh))
  have HWB : Hid (Wb (enR1 S)) := hid (eaR_wb HQB.out 1 none3_wb _ (fun j hj => opRand_wf (by omega)) (by omega))
  have HQS := hid hq
  have HK := hid hk
  have HX := hid hx
  have Z1 := hid ((Gz.start h).box hM (Nat.le_refl _) #[.int .i64 0, .int .i64 0, .int .i64 0])
  have HSH : Hid (S.sh = S.sh) := hid rfl
  obtain ⟨n, hnn⟩ : ∃ n, S.sh = n := ⟨_, rfl⟩
  rw [hnn] at hs2 hs3 HN
  have HNN := hid hnn
  clear h hq hn hk hsh hx hnn HSH
  have e : encR S = updI (enR1 S) 0 ((enS1 S).doR (opEn S)) := rfl
  have e2 : encS S x = ((enS1 S).doS (opEn S) x).endS := rfl
  rw [e, e2]
  clear e e2
  have HE1 : Hid (enS1 S = eaS (S.beginS 1) opRand 1 (n - 1)) := hid (by unfold enS1; rw [HNN.out])
  have HE2 : Hid (enR1 S = eaR (S.beginS 1) opRand 1 none3 (n - 1)) := hid (by unfold enR1; rw [HNN.out])
  have HOE : Hid (opEn S = ⟨2, 0, enR1 S 1, enR1 S 2, -1, (enS1 S).words⟩) := hid rfl
  rw [HOE.out]
  generalize enR1 S = U at *
  generalize enS1 S = V at *
  clear HOE
  have HQV : Hid (Bq (k + 2) V) := hid (by rw [HE1.out]; exact (HQ.out (n - 1) (by omega)).mono (by omega))
  have HKV : Hid (k + 2 ≤ 100000) := hid (by have := HK.out; omega)
  have HKV2 : Hid (k + 3 ≤ 100000) := hid (by have := HK.out; omega)
  have HOV : Hid (opwf ⟨2, 0, U 1, U 2, -1, V.words⟩) := hid ⟨i64c 2 (by decide) (by decide), i64c 0 (by decide) (by decide), HWB.out 1, HWB.out 2, I64.m1, by show V.words < _; have := HQV.out.words; have := HK.out; omega⟩
  have HWR : Hid (IntKind.u64.wrap (V.words : Int) = (V.words : Int)) := hid (by have := HQV.out.words; have := HK.out; rw [IntKind.wrap_u64]; omega)
  go_enter Try.func18, Try.ntmps18
  go_wp2_with (first
    | (go_at_call 47; (with_reducible refine (none_any _).mono ?_); rintro e w1 ⟨rfl, hb⟩; have Z2 := hid ((Z1.out.self hM hb).box hM (by have := hb.size; simp at this; omega) (wdV none3)); have HNL : Hid (w.heap.size ≠ w1.heap.size) := hid (by have := hb.size; simp at this; omega); clear hb)
    | (go_at_call 48; (with_reducible refine (ybegin hM 1 Z2.out.z HQS.out (by have := HK.out; omega)).mono ?_); rintro e w2 ⟨rfl, hz, hs⟩; have Z3 := hid (Z2.out.on hz hs); clear hz hs))
  generalize w1.heap.size = lb at *
  go_loopw [6] (fun i wr => ∃ q m : Nat, q = 1 + m ∧ q ≤ n ∧ i = .int .i64 q ∧ Gz Pm lo X W w wr p b S1 (eaS (S.beginS 1) opRand 1 m) [(lb, wdV (eaR (S.beginS 1) opRand 1 none3 m)), (w.heap.size, #[.int .i64 0, .int .i64 0, .int .i64 0])]) (fun i _ => n - (intOf i).toNat)
  case atStart => exact ⟨1, 0, rfl, by omega, rfl, Z3.out⟩
  case round =>
    obtain ⟨q, m, hqm, hm, rfl, hI⟩ := hrel
    have HI := hid hI
    clear hI
    have c0 := HI.out.sh
    rw [HN.out] at c0
    have HQM0 := hid hqm
    by_cases hlt : q < n
    · have j2 : (q : Int) < (n : Int) := by omega
      have j1 : (0 : Int) ≤ (q : Int) := by omega
      have j3 : (q : Int) < 3 := by omega
      have HOM : Hid (opwf ⟨1, (q : Int), -1, -1, -1, 0⟩) := hid (opRand_wf (by omega : q ≤ 100))
      have HQM := hid (HQ.out m (by omega))
      have HKM : Hid (k + m ≤ 100000) := hid (by have := HK.out; omega)
      have HM3 : Hid (q < 3) := hid (by omega)
      clear hqm
      go_wp2_with (first
        | (go_at_call 50; (with_reducible refine (dop0_any 1 (q : Int) (-1) (-1) _).mono ?_); rintro e w5 ⟨rfl, hb⟩; have Y1 := hid (HI.out.self hM hb); clear hb)
        | (go_at_call 49; (with_reducible refine (ydo0 hM ⟨1, (q : Int), -1, -1, -1, 0⟩ Y1.out.z HQM.out HKM.out HOM.out).mono ?_); rintro e w6 ⟨rfl, hz, hs⟩; have Y2 := hid (Y1.out.on hz hs); clear hz hs; have cl : w6.cell? ⟨lb, q, none⟩ = some (.int .i64 (eaR (S.beginS 1) opRand 1 none3 m q)) := row_c (Y2.out.bx _ (List.mem_cons_self ..)).2 (wdV_at _ _ HM3.out); have fl := frozen_of_row w6 _ q _ _ (Y2.out.bx _ (List.mem_cons_self ..)).2))
      go_roundw
      case rel =>
        refine ⟨q + 1, m + 1, by have := HQM0.out; omega, by omega, by go_num, ?_⟩
        have := Y2.out.cell hM (by intro q hq; simp at hq; subst hq; exact HNL.out) q (.int .i64 ((eaS (S.beginS 1) opRand 1 m).doR ⟨1, (q : Int), -1, -1, -1, 0⟩))
        rw [wdV_upd _ _ _ HM3.out] at this
        have hq' := HQM0.out
        subst hq'
        exact this
      case measure => simp [intOf]; omega
    · obtain rfl : q = n := by omega
      have hm1 : m = q - 1 := by omega
      subst hm1
      rw [← HE1.out, ← HE2.out] at HI
      clear hlt c0 hqm
      have c0 := HI.out.sh
      have HNV : Hid (V.n = (q : Int)) := hid (by rw [HE1.out]; exact HN.out _)
      rw [HNV.out] at c0
      go_wp2_with fail
      have Y0 := hid (HI.out.self hM ((Below.refl _ wr).drew))
      refine wp_region_noPanic ?_
      refine wp_region_held_drew (S := fun w' => w'.cell? ⟨lb, 1, none⟩ = some (.int .i64 (U 1)) ∧ w'.cell? ⟨lb, 2, none⟩ = some (.int .i64 (U 2))) (by kernel_rfl) (⟨row_c (i := 1) (u := .int .i64 (U 1)) (Y0.out.bx _ (List.mem_cons_self ..)).2 rfl, row_c (i := 2) (u := .int .i64 (U 2)) (Y0.out.bx _ (List.mem_cons_self ..)).2 rfl⟩) (fun h0 => ?_)
      generalize wr.drew = y1 at *
      refine wpAnyH_take (i := 0) (v := .pointer (some ⟨b, 0, none⟩)) rfl (by kernel_rfl) (by kernel_rfl) (by kernel_rfl) (fun _ _ _ h => h) (.inl ⟨by rfl, fun w hw => by clear hw; go_simp⟩) h0 ?_
      try simp only [Act.put, lay_out]
      refine wpAnyH_take (i := 1) (v := .pointer (some ⟨lb, 0, none⟩)) rfl (by kernel_rfl) (by kernel_rfl) (by kernel_rfl) (fun _ _ _ h => h) (.inl ⟨by rfl, fun w hw => by clear hw; go_simp⟩) h0 ?_
      try simp only [Act.put, lay_out]
      refine wpAnyH_take (i := 2) (v := .pointer (some ⟨lb, 1, none⟩)) rfl (by kernel_rfl) (by kernel_rfl) (by kernel_rfl) (fun _ _ _ h => h) (.inl ⟨by rfl, fun w hw => by clear hw; go_simp⟩) h0 ?_
      try simp only [Act.put, lay_out]
      refine wpAnyH_take (i := 3) (v := .int .i64 (U 1)) rfl (by kernel_rfl) (by kernel_rfl) (by kernel_rfl) (fun _ _ _ h => h) (.inl ⟨by rfl, fun w' hw => by have hc := hw.1; clear hw; go_simp⟩) h0 ?_
      try simp only [Act.put, lay_out]
      refine wpAnyH_take (i := 4) (v := .pointer (some ⟨lb, 0, none⟩)) rfl (by kernel_rfl) (by kernel_rfl) (by kernel_rfl) (fun _ _ _ h => h) (.inl ⟨by rfl, fun w hw => by clear hw; go_simp⟩) h0 ?_
      try simp only [Act.put, lay_out]
      refine wpAnyH_take (i := 5) (v := .pointer (some ⟨lb, 2, none⟩)) rfl (by kernel_rfl) (by kernel_rfl) (by kernel_rfl) (fun _ _ _ h => h) (.inl ⟨by rfl, fun w hw => by clear hw; go_simp⟩) h0 ?_
      try simp only [Act.put, lay_out]
      refine wpAnyH_take (i := 6) (v := .int .i64 (U 2)) rfl (by kernel_rfl) (by kernel_rfl) (by kernel_rfl) (fun _ _ _ h => h) (.inl ⟨by rfl, fun w' hw => by have hc := hw.2; clear hw; go_simp⟩) h0 ?_
      try simp only [Act.put, lay_out]
      refine wpAnyH_take (i := 7) (v := .pointer (some ⟨b, 0, none⟩)) rfl (by kernel_rfl) (by kernel_rfl) (by kernel_rfl) (fun _ _ _ h => h) (.inl ⟨by rfl, fun w hw => by clear hw; go_simp⟩) h0 ?_
      try simp only [Act.put, lay_out]
      refine wpAnyH_take (i := 8) (v := .pointer (some ⟨b, 0, none⟩)) rfl (by kernel_rfl) (by kernel_rfl) (by kernel_rfl) (fun _ _ _ h => h) (.inl ⟨by rfl, fun w hw => by clear hw; go_simp⟩) h0 ?_
      try simp only [Act.put, lay_out]
      refine wpAnyH_take (i := 9) (v := .pointer (some ⟨b, 2, none⟩)) rfl (by kernel_rfl) (by kernel_rfl) (by kernel_rfl) (fun _ _ _ h => h) (.inl ⟨by rfl, fun w hw => by clear hw; go_simp⟩) h0 ?_
      try simp only [Act.put, lay_out]
      refine wpAnyH_take (i := 13) (v := .int .u64 (x : Int)) rfl (by kernel_rfl) (by kernel_rfl) (by kernel_rfl) (fun _ _ _ h => h) (.inl ⟨by rfl, fun w hw => by clear hw; go_simp⟩) h0 ?_
      try simp only [Act.put, lay_out]
      refine wpAnyH_take (i := 15) (v := .pointer (some ⟨lb, 0, none⟩)) rfl (by kernel_rfl) (by kernel_rfl) (by kernel_rfl) (fun _ _ _ h => h) (.inl ⟨by rfl, fun w hw => by clear hw; go_simp⟩) h0 ?_
      try simp only [Act.put, lay_out]
      refine wpAnyH_ready (rs := [10]) (by kernel_rfl) (by simp) (AllReadyH.cons rfl (fun K hK => ?_) AllReadyH.nil)
      rw [if_pos (by rfl)]
      have hc := Y0.out.z.words
      go_simp
      clear hc
      refine hK.out _ _ (⟨row_c (i := 1) (u := .int .i64 (U 1)) (Y0.out.bx _ (List.mem_cons_self ..)).2 rfl, row_c (i := 2) (u := .int .i64 (U 2)) (Y0.out.bx _ (List.mem_cons_self ..)).2 rfl⟩) (fun h1x => ?_)
      clear hK K
      try simp only [Act.put, lay_out]
      refine wpAnyH_take (i := 11) (v := .int .u64 (V.words : Int)) rfl (by kernel_rfl) (by kernel_rfl) (by kernel_rfl) (fun _ _ _ h => h) (.inl ⟨by rfl, fun w' hw => by clear hw; have hwr := HWR.out; go_simp⟩) h1x ?_
      try simp only [Act.put, lay_out]
      refine wpAnyH_ready (rs := [12]) (by kernel_rfl) (by simp) (AllReadyH.cons rfl (fun K hK => ?_) AllReadyH.nil)
      rw [if_pos (by rfl)]
      go_simp
      go_at_call 50
      (with_reducible refine (dopc_any 2 0 (U 1) (U 2) V.words _).mono ?_); rintro e w5 ⟨rfl, hb⟩
      have Y1 := hid (Y0.out.self hM hb)
      clear hb
      refine hK.out _ _ (⟨row_c (i := 1) (u := .int .i64 (U 1)) (Y1.out.bx _ (List.mem_cons_self ..)).2 rfl, row_c (i := 2) (u := .int .i64 (U 2)) (Y1.out.bx _ (List.mem_cons_self ..)).2 rfl⟩) (fun h2x => ?_)
      clear hK K
      try simp only [Act.put, lay_out]
      refine wpAnyH_ready (rs := [14]) (by kernel_rfl) (by simp) (AllReadyH.cons rfl (fun K hK => ?_) AllReadyH.nil)
      rw [if_pos (by rfl)]
      go_simp
      go_at_call 49
      (with_reducible refine (ydo hM ⟨2, 0, U 1, U 2, -1, V.words⟩ x Y1.out.z HQV.out HKV.out HOV.out HX.out).mono ?_); rintro e w6 ⟨rfl, hz, hs⟩
      have Y2 := hid (Y1.out.on hz hs)
      clear hz hs
      refine hK.out _ _ (⟨row_c (i := 1) (u := .int .i64 (U 1)) (Y2.out.bx _ (List.mem_cons_self ..)).2 rfl, row_c (i := 2) (u := .int .i64 (U 2)) (Y2.out.bx _ (List.mem_cons_self ..)).2 rfl⟩) (fun h3x => ?_)
      clear hK K
      try simp only [Act.put, lay_out]
      refine wpAnyH_take (i := 16) (v := .pointer (some ⟨lb, 0, none⟩)) rfl (by kernel_rfl) (by kernel_rfl) (by kernel_rfl) (fun _ _ _ h => h) (.inl ⟨by rfl, fun w hw => by clear hw; go_simp⟩) h3x ?_
      try simp only [Act.put, lay_out]
      refine wpAnyH_ready (rs := [17]) (by kernel_rfl) (by simp) (AllReadyH.cons rfl (fun K hK => ?_) AllReadyH.nil)
      rw [if_pos (by rfl)]
      have cl : w6.cell? ⟨lb, 0, none⟩ = some (.int .i64 (U 0)) := row_c (Y2.out.bx _ (List.mem_cons_self ..)).2 rfl
      have fl := frozen_of_row w6 _ 0 _ _ (Y2.out.bx _ (List.mem_cons_self ..)).2
      go_simp
      have Y3 : Hid (Gz Pm lo X W w (w6.setCell ⟨lb, 0, none⟩ (.int .i64 (V.doR ⟨2, 0, U 1, U 2, -1, V.words⟩))) p b S1 (V.doS ⟨2, 0, U 1, U 2, -1, V.words⟩ x) [(lb, wdV (updI U 0 (V.doR ⟨2, 0, U 1, U 2, -1, V.words⟩))), (w.heap.size, #[.int .i64 0, .int .i64 0, .int .i64 0])]) := hid (by have := Y2.out.cell hM (by intro q hq; simp at hq; subst hq; exact HNL.out) 0 (.int .i64 (V.doR ⟨2, 0, U 1, U 2, -1, V.words⟩)); rw [wdV_upd _ _ _ (by decide)] at this; exact this)
      clear cl fl
      refine hK.out _ _ (⟨row_c (i := 1) (u := .int .i64 (U 1)) (Y3.out.bx _ (List.mem_cons_self ..)).2 rfl, row_c (i := 2) (u := .int .i64 (U 2)) (Y3.out.bx _ (List.mem_cons_self ..)).2 rfl⟩) (fun h4x => ?_)
      clear hK K
      try simp only [Act.put, lay_out]
      refine wpAnyH_done (by kernel_rfl) ?_ _
      refine NoPanic.normal ?_
      clear h0 h1x h2x h3x h4x
      try simp only [Act.put, lay_out]
      go_upto_region 9 with (go_at_call 51; (with_reducible refine (yend hM Y3.out.z (HQV.out.does HOV.out HX.out) HKV2.out).mono ?_); rintro e w8 ⟨rfl, hz, hs⟩; have Y4 := hid (Y3.out.on hz hs); clear hz hs)
      go_wp2_with (first
        | (refine step_load_row rfl 33 _ rfl lb 33 (wdV (updI U 0 (V.doR ⟨2, 0, U 1, U 2, -1, V.words⟩))) _ rfl (Y4.out.bx (lb, wdV (updI U 0 (V.doR ⟨2, 0, U 1, U 2, -1, V.words⟩))) (by simp)).2 Try.underlying33 rfl (by kernel_rfl) ?_)
        | (refine step_store_row rfl 33 _ _ rfl w.heap.size 33 _ (wdV (updI U 0 (V.doR ⟨2, 0, U 1, U 2, -1, V.words⟩))) rfl rfl (Y4.out.bx (w.heap.size, #[.int .i64 0, .int .i64 0, .int .i64 0]) (by simp)).2 (by kernel_rfl) rfl (by kernel_rfl) ?_))
      have ZF := hid (((Y4.out.swap (bs' := [(w.heap.size, #[.int .i64 0, .int .i64 0, .int .i64 0]), (lb, wdV (updI U 0 (V.doR ⟨2, 0, U 1, U 2, -1, V.words⟩)))]) (by intro q hq; simp at hq ⊢; exact hq.symm)).row hM (by intro q hq; simp at hq; subst hq; exact HNL.out.symm) (wdV (updI U 0 (V.doR ⟨2, 0, U 1, U 2, -1, V.words⟩)))))
      exact bodyPost_ret (results_cell_row (by rfl) _ _ w.heap.size 33 (wdV (updI U 0 (V.doR ⟨2, 0, U 1, U 2, -1, V.words⟩))) (0, 0) _ rfl (ZF.out.bx _ (List.mem_cons_self ..)).2 Try.underlying33 rfl (by kernel_rfl)) rfl ⟨rfl, ZF.out.fin⟩
end Go.Proofs.Ytdgkofnboeepbaa

/- Share: the law's picks and moves. -/
namespace Go.Proofs.Ytdgkofnboeepbaa
open Go.RowKit
set_option maxRecDepth 100000
/-- Which one is picked. -/
def pkN (at_ : Int) (L : Nat) : Nat := (if at_.tmod (L : Int) < 0 then at_.tmod (L : Int) + (L : Int) else at_.tmod (L : Int)).toNat
theorem tmod_bd (at_ : Int) {L : Nat} (hL : 0 < L) : -(L : Int) < at_.tmod (L : Int) ∧ at_.tmod (L : Int) < (L : Int) := by
  by_cases h : 0 ≤ at_
  · rw [Int.tmod_eq_emod_of_nonneg h]
    have := Int.emod_nonneg at_ (show (L : Int) ≠ 0 by omega)
    have := Int.emod_lt_of_pos at_ (show (0 : Int) < L by omega)
    omega
  · obtain ⟨n, hn⟩ : ∃ n : Nat, at_ = -(n : Int) := ⟨at_.natAbs, by omega⟩
    subst hn
    rw [Int.neg_tmod, Int.tmod_eq_emod_of_nonneg (by omega)]
    have := Int.emod_nonneg (n : Int) (show (L : Int) ≠ 0 by omega)
    have := Int.emod_lt_of_pos (n : Int) (show (0 : Int) < L by omega)
    omega
theorem pkN_lt (at_ : Int) {L : Nat} (hL : 0 < L) : pkN at_ L < L := by
  have := tmod_bd at_ hL
  unfold pkN
  split <;> omega
theorem lpick_any (a : Option Addr) (L cap : Nat) (at_ : Int) (w : World) (hL : 0 < L) (hl : L ≤ 1000000) :
    Calls Try.prog 22 #[.slice a L cap, .int .i64 at_] w fun e w' => e = .returned (.int .i64 (pkN at_ L : Nat)) ∧ w' = w := by
  have hb := tmod_bd at_ hL
  have HL0 : ((L : Int) == 0) = false := by simp; omega
  have hne : (L : Int) ≠ 0 := by omega
  by_cases h : at_.tmod (L : Int) < 0
  · have e : ((pkN at_ L : Nat) : Int) = at_.tmod (L : Int) + (L : Int) := by unfold pkN; rw [if_pos h]; omega
    rw [e]
    have q1 : decide (at_.tmod (L : Int) < 0) = true := decide_eq_true h
    have hw : IntKind.i64.wrap (at_.tmod (L : Int)) = at_.tmod (L : Int) := by rw [IntKind.wrap_i64]; omega
    have hw2 : IntKind.i64.wrap (at_.tmod (L : Int) + (L : Int)) = at_.tmod (L : Int) + (L : Int) := by rw [IntKind.wrap_i64]; omega
    clear e
    go_enter Try.func22, Try.ntmps22
    go_wp2
    go_ret
    exact ⟨rfl, rfl⟩
  · have e : ((pkN at_ L : Nat) : Int) = at_.tmod (L : Int) := by unfold pkN; rw [if_neg h]; omega
    rw [e]
    have q1 : decide (at_.tmod (L : Int) < 0) = false := decide_eq_false h
    have hw : IntKind.i64.wrap (at_.tmod (L : Int)) = at_.tmod (L : Int) := by rw [IntKind.wrap_i64]; omega
    clear e
    go_enter Try.func22, Try.ntmps22
    go_wp2
    go_ret
    exact ⟨rfl, rfl⟩
theorem lmoved_8 (x c : Nat) (w : World) (hx : x < 2 ^ 64) (hc : c < 2 ^ 64) : Calls Try.prog 29 #[.int .i64 8, .int .u64 (x : Int), .int .u64 (c : Int)] w fun e w' => e = .returned (.int .u64 (mvN 8 c x : Nat)) ∧ w' = w := by
  have e : mvN 8 c x = x &&& c := ev8 _ _ _ _ _
  have h := wn64 hx hc
  rw [e]
  clear e
  generalize x &&& c = r at *
  go_enter Try.func29, Try.ntmps29
  go_wp2
  go_ret
  exact ⟨rfl, rfl⟩
theorem lmoved_9 (x c : Nat) (w : World) (_hx : x < 2 ^ 64) (hc : c < 64) : Calls Try.prog 29 #[.int .i64 9, .int .u64 (x : Int), .int .u64 (c : Int)] w fun e w' => e = .returned (.int .u64 (mvN 9 c x : Nat)) ∧ w' = w := by
  have e : mvN 9 c x = wsl x c := by unfold mvN; rw [ev9, Nat.mod_eq_of_lt hc]
  have f9 : IntKind.u64.wrap ((x : Int) * 2 ^ c) = (wsl x c : Nat) := by rw [IntKind.wrap_u64]; unfold wsl; simp
  have hc2 : (c : Int) < 64 := by omega
  rw [e]
  clear e
  generalize wsl x c = r at *
  go_enter Try.func29, Try.ntmps29
  go_wp2
  go_ret
  exact ⟨rfl, rfl⟩
theorem lmoved_10 (x c : Nat) (w : World) (_hx : x < 2 ^ 64) (hc : c < 64) : Calls Try.prog 29 #[.int .i64 10, .int .u64 (x : Int), .int .u64 (c : Int)] w fun e w' => e = .returned (.int .u64 (mvN 10 c x : Nat)) ∧ w' = w := by
  have e : mvN 10 c x = wsr x c := by unfold mvN; rw [ev10, Nat.mod_eq_of_lt hc]
  have f10 : (x : Int) / 2 ^ c = (wsr x c : Nat) := by unfold wsr; simp
  have hc2 : (c : Int) < 64 := by omega
  rw [e]
  clear e
  generalize wsr x c = r at *
  go_enter Try.func29, Try.ntmps29
  go_wp2
  go_ret
  exact ⟨rfl, rfl⟩
theorem lmoved_11 (x c : Nat) (w : World) (hx : x < 2 ^ 64) (hc : c < 64) : Calls Try.prog 29 #[.int .i64 11, .int .u64 (x : Int), .int .u64 (c : Int)] w fun e w' => e = .returned (.int .u64 (mvN 11 c x : Nat)) ∧ w' = w := by
  have e : mvN 11 c x = rt x c := by unfold mvN; rw [ev11, Nat.mod_eq_of_lt hc]
  rw [e]
  clear e
  by_cases h0 : c = 0
  · subst h0
    have e0 : rt x 0 = x := rt_zero hx
    rw [e0]
    clear e0
    go_enter Try.func29, Try.ntmps29
    go_wp2
    go_ret
    exact ⟨rfl, rfl⟩
  · have e0 : ((c : Int) == 0) = false := by simp; omega
    have f1 : IntKind.u64.wrap ((x : Int) * 2 ^ c) = (wsl x c : Nat) := by rw [IntKind.wrap_u64]; unfold wsl; simp
    have f2 : IntKind.u64.wrap (64 - (c : Int)) = ((64 - c : Nat) : Int) := by rw [IntKind.wrap_u64]; omega
    have f3 : (x : Int) / 2 ^ (64 - c) = (wsr x (64 - c) : Nat) := by unfold wsr; simp
    have hc2 : (c : Int) < 64 := by omega
    have f4 : bits .or .u64 ((wsl x c : Nat) : Int) ((wsr x (64 - c) : Nat) : Int) = ((rt x c : Nat) : Int) := bits_or_u64_nat _ _ (by have := wsl_lt x c; omega) (by have := wsr_lt hx (64 - c); omega)
    have hd : ((64 - c : Nat) : Int) < 64 := by omega
    generalize 64 - c = d at *
    generalize rt x c = r at *
    generalize wsl x c = u at *
    generalize wsr x d = v at *
    go_enter Try.func29, Try.ntmps29
    go_wp2
    go_ret
    exact ⟨rfl, rfl⟩
end Go.Proofs.Ytdgkofnboeepbaa

/- Share: what the program's functions of words must tell, over any machine. -/
namespace Go.Proofs.Ytdgkofnboeepbaa
open Go.RowKit
set_option maxRecDepth 100000
/-- The program's gadgets of words, whatever its machine is made of. -/
structure ShI (Pm : World → Nat → Ms → (Nat → Prop) → Prop) : Prop where
  enc : ∀ (b k : Nat) (S : Ms) (F : Nat → Prop) (x : Nat) (w : World), Pm w b S F → Bq k S → k + 10 ≤ 100000 → (S.n = 2 ∨ S.n = 3) → x < 2 ^ 64 → Calls Try.prog 13 #[.pointer (some ⟨b, 0, none⟩), .int .u64 (x : Int)] w fun e w' => e = .returned (.agg (wdV (encR S))) ∧ PmR Pm b (encS S x) F w w'
  pub : ∀ (b k : Nat) (S : Ms) (F : Nat → Prop) (c : Nat) (w : World), Pm w b S F → Bq k S → k + 10 ≤ 100000 → (S.n = 2 ∨ S.n = 3) → c < 2 ^ 64 → Calls Try.prog 21 #[.pointer (some ⟨b, 0, none⟩), .int .u64 (c : Int)] w fun e w' => e = .returned (.agg (wdV (cstR S 3 c))) ∧ PmR Pm b (cstS S 3 c) F w w'
  told : ∀ (b k : Nat) (S : Ms) (F : Nat → Prop) (c : Nat) (w : World), Pm w b S F → Bq k S → k + 10 ≤ 100000 → (S.n = 2 ∨ S.n = 3) → c < 2 ^ 64 → Calls Try.prog 19 #[.pointer (some ⟨b, 0, none⟩), .int .u64 (c : Int)] w fun e w' => e = .returned (.agg (wdV (cstR S 4 c))) ∧ PmR Pm b (cstS S 4 c) F w w'
  xor : ∀ (b k : Nat) (S : Ms) (F : Nat → Prop) (A B : Nat → Int) (w : World), Pm w b S F → Bq k S → k + 10 ≤ 100000 → (S.n = 2 ∨ S.n = 3) → Wb A → Wb B → Calls Try.prog 23 #[.pointer (some ⟨b, 0, none⟩), .agg (wdV A), .agg (wdV B)] w fun e w' => e = .returned (.agg (wdV (xorR S A B))) ∧ PmR Pm b (xorS S A B) F w w'
  not : ∀ (b k : Nat) (S : Ms) (F : Nat → Prop) (A : Nat → Int) (w : World), Pm w b S F → Bq k S → k + 10 ≤ 100000 → (S.n = 2 ∨ S.n = 3) → Wb A → Calls Try.prog 25 #[.pointer (some ⟨b, 0, none⟩), .agg (wdV A)] w fun e w' => e = .returned (.agg (wdV (notR S A))) ∧ PmR Pm b (notS S A) F w w'
  one : ∀ (b k : Nat) (S : Ms) (F : Nat → Prop) (K : Int) (A : Nat → Int) (c : Nat) (w : World), Pm w b S F → Bq k S → k + 10 ≤ 100000 → (S.n = 2 ∨ S.n = 3) → I64 K → Wb A → c < 2 ^ 64 → Calls Try.prog 27 #[.pointer (some ⟨b, 0, none⟩), .int .i64 K, .agg (wdV A), .int .u64 (c : Int)] w fun e w' => e = .returned (.agg (wdV (oneR S K A c))) ∧ PmR Pm b (oneS S K A c) F w w'
  add : ∀ (b k : Nat) (S : Ms) (F : Nat → Prop) (A : Nat → Int) (c : Nat) (w : World), Pm w b S F → Bq k S → k + 10 ≤ 100000 → (S.n = 2 ∨ S.n = 3) → Wb A → c < 2 ^ 64 → Calls Try.prog 30 #[.pointer (some ⟨b, 0, none⟩), .agg (wdV A), .int .u64 (c : Int)] w fun e w' => e = .returned (.agg (wdV (addR S 3 A c))) ∧ PmR Pm b (addS S 3 A c) F w w'
  addTold : ∀ (b k : Nat) (S : Ms) (F : Nat → Prop) (A : Nat → Int) (c : Nat) (w : World), Pm w b S F → Bq k S → k + 10 ≤ 100000 → (S.n = 2 ∨ S.n = 3) → Wb A → c < 2 ^ 64 → Calls Try.prog 32 #[.pointer (some ⟨b, 0, none⟩), .agg (wdV A), .int .u64 (c : Int)] w fun e w' => e = .returned (.agg (wdV (addR S 4 A c))) ∧ PmR Pm b (addS S 4 A c) F w w'
  value : ∀ (v : Value) (vv : Nat → Nat) (L : Nat) (A : Nat → Int) (w : World), Rd .u64 w v (wdL vv L) → (∀ i, i < L → vv i < 2 ^ 64) → Calls Try.prog 10 #[v, .agg (wdV A)] w fun e w' => e = .returned (.int .u64 (vlN vv L A : Nat)) ∧ Below w.heap.size w w'
section
variable {Pm : World → Nat → Ms → (Nat → Prop) → Prop} (hM : Mach Pm) (hS : ShI Pm) {lo : Nat} {X : Nat → Prop} {W w : World} {b bd k : Nat} {S S2 : Ms}
include hM hS
theorem qenc (x : Nat) (h : Bz Pm lo X W w b bd S S2) (hq : Bq k S) (hk : k + 10 ≤ 100000) (hn : S.n = 2 ∨ S.n = 3) (g0 : x < 2 ^ 64) :
    Calls Try.prog 13 #[.pointer (some ⟨b, 0, none⟩), .int .u64 (x : Int)] w fun e w' => e = .returned (.agg (wdV (encR S))) ∧ Bz Pm lo X W w' b bd (encS S x) S2 ∧ ∀ k, X k → w'.heap[k]? = w.heap[k]? := by
  obtain ⟨F, G, ov, bv, vv, tv, h1, h2, h3, h4, h5, h6, h7⟩ := h
  exact (hS.enc b k S F x w h1 hq hk hn g0).mono fun e w' hr => ⟨hr.1, Bz.prog hM h1 h2 h3 h4 h5 h6 h7 hr.2⟩
theorem qpub (c : Nat) (h : Bz Pm lo X W w b bd S S2) (hq : Bq k S) (hk : k + 10 ≤ 100000) (hn : S.n = 2 ∨ S.n = 3) (g0 : c < 2 ^ 64) :
    Calls Try.prog 21 #[.pointer (some ⟨b, 0, none⟩), .int .u64 (c : Int)] w fun e w' => e = .returned (.agg (wdV (cstR S 3 c))) ∧ Bz Pm lo X W w' b bd (cstS S 3 c) S2 ∧ ∀ k, X k → w'.heap[k]? = w.heap[k]? := by
  obtain ⟨F, G, ov, bv, vv, tv, h1, h2, h3, h4, h5, h6, h7⟩ := h
  exact (hS.pub b k S F c w h1 hq hk hn g0).mono fun e w' hr => ⟨hr.1, Bz.prog hM h1 h2 h3 h4 h5 h6 h7 hr.2⟩
theorem qtold (c : Nat) (h : Bz Pm lo X W w b bd S S2) (hq : Bq k S) (hk : k + 10 ≤ 100000) (hn : S.n = 2 ∨ S.n = 3) (g0 : c < 2 ^ 64) :
    Calls Try.prog 19 #[.pointer (some ⟨b, 0, none⟩), .int .u64 (c : Int)] w fun e w' => e = .returned (.agg (wdV (cstR S 4 c))) ∧ Bz Pm lo X W w' b bd (cstS S 4 c) S2 ∧ ∀ k, X k → w'.heap[k]? = w.heap[k]? := by
  obtain ⟨F, G, ov, bv, vv, tv, h1, h2, h3, h4, h5, h6, h7⟩ := h
  exact (hS.told b k S F c w h1 hq hk hn g0).mono fun e w' hr => ⟨hr.1, Bz.prog hM h1 h2 h3 h4 h5 h6 h7 hr.2⟩
theorem qxor (A B : Nat → Int) (h : Bz Pm lo X W w b bd S S2) (hq : Bq k S) (hk : k + 10 ≤ 100000) (hn : S.n = 2 ∨ S.n = 3) (g0 : Wb A) (g1 : Wb B) :
    Calls Try.prog 23 #[.pointer (some ⟨b, 0, none⟩), .agg (wdV A), .agg (wdV B)] w fun e w' => e = .returned (.agg (wdV (xorR S A B))) ∧ Bz Pm lo X W w' b bd (xorS S A B) S2 ∧ ∀ k, X k → w'.heap[k]? = w.heap[k]? := by
  obtain ⟨F, G, ov, bv, vv, tv, h1, h2, h3, h4, h5, h6, h7⟩ := h
  exact (hS.xor b k S F A B w h1 hq hk hn g0 g1).mono fun e w' hr => ⟨hr.1, Bz.prog hM h1 h2 h3 h4 h5 h6 h7 hr.2⟩
theorem qnot (A : Nat → Int) (h : Bz Pm lo X W w b bd S S2) (hq : Bq k S) (hk : k + 10 ≤ 100000) (hn : S.n = 2 ∨ S.n = 3) (g0 : Wb A) :
    Calls Try.prog 25 #[.pointer (some ⟨b, 0, none⟩), .agg (wdV A)] w fun e w' => e = .returned (.agg (wdV (notR S A))) ∧ Bz Pm lo X W w' b bd (notS S A) S2 ∧ ∀ k, X k → w'.heap[k]? = w.heap[k]? := by
  obtain ⟨F, G, ov, bv, vv, tv, h1, h2, h3, h4, h5, h6, h7⟩ := h
  exact (hS.not b k S F A w h1 hq hk hn g0).mono fun e w' hr => ⟨hr.1, Bz.prog hM h1 h2 h3 h4 h5 h6 h7 hr.2⟩
theorem qone (K : Int) (A : Nat → Int) (c : Nat) (h : Bz Pm lo X W w b bd S S2) (hq : Bq k S) (hk : k + 10 ≤ 100000) (hn : S.n = 2 ∨ S.n = 3) (g0 : I64 K) (g1 : Wb A) (g2 : c < 2 ^ 64) :
    Calls Try.prog 27 #[.pointer (some ⟨b, 0, none⟩), .int .i64 K, .agg (wdV A), .int .u64 (c : Int)] w fun e w' => e = .returned (.agg (wdV (oneR S K A c))) ∧ Bz Pm lo X W w' b bd (oneS S K A c) S2 ∧ ∀ k, X k → w'.heap[k]? = w.heap[k]? := by
  obtain ⟨F, G, ov, bv, vv, tv, h1, h2, h3, h4, h5, h6, h7⟩ := h
  exact (hS.one b k S F K A c w h1 hq hk hn g0 g1 g2).mono fun e w' hr => ⟨hr.1, Bz.prog hM h1 h2 h3 h4 h5 h6 h7 hr.2⟩
theorem qadd (A : Nat → Int) (c : Nat) (h : Bz Pm lo X W w b bd S S2) (hq : Bq k S) (hk : k + 10 ≤ 100000) (hn : S.n = 2 ∨ S.n = 3) (g0 : Wb A) (g1 : c < 2 ^ 64) :
    Calls Try.prog 30 #[.pointer (some ⟨b, 0, none⟩), .agg (wdV A), .int .u64 (c : Int)] w fun e w' => e = .returned (.agg (wdV (addR S 3 A c))) ∧ Bz Pm lo X W w' b bd (addS S 3 A c) S2 ∧ ∀ k, X k → w'.heap[k]? = w.heap[k]? := by
  obtain ⟨F, G, ov, bv, vv, tv, h1, h2, h3, h4, h5, h6, h7⟩ := h
  exact (hS.add b k S F A c w h1 hq hk hn g0 g1).mono fun e w' hr => ⟨hr.1, Bz.prog hM h1 h2 h3 h4 h5 h6 h7 hr.2⟩
theorem qaddTold (A : Nat → Int) (c : Nat) (h : Bz Pm lo X W w b bd S S2) (hq : Bq k S) (hk : k + 10 ≤ 100000) (hn : S.n = 2 ∨ S.n = 3) (g0 : Wb A) (g1 : c < 2 ^ 64) :
    Calls Try.prog 32 #[.pointer (some ⟨b, 0, none⟩), .agg (wdV A), .int .u64 (c : Int)] w fun e w' => e = .returned (.agg (wdV (addR S 4 A c))) ∧ Bz Pm lo X W w' b bd (addS S 4 A c) S2 ∧ ∀ k, X k → w'.heap[k]? = w.heap[k]? := by
  obtain ⟨F, G, ov, bv, vv, tv, h1, h2, h3, h4, h5, h6, h7⟩ := h
  exact (hS.addTold b k S F A c w h1 hq hk hn g0 g1).mono fun e w' hr => ⟨hr.1, Bz.prog hM h1 h2 h3 h4 h5 h6 h7 hr.2⟩
end
theorem fields33 : Try.prog.underlying 33 = some (.struct (Try.prog.fieldsOf 33)) := by kernel_rfl
theorem run_eqItems_wd (w : World) (d : Nat) (W U : Nat → Int) : ∀ (is : List Nat), (∀ i ∈ is, i < 3) →
    (Op.eqItems (d + 1) 3 1 (wdV W) (wdV U) is).run Try.prog w = .ok (decide (∀ i ∈ is, W i = U i)) w
  | [], _ => by simp [Op.eqItems]
  | i :: is, h => by
    have hf := wdV_at W i (h i (by simp))
    have hg := wdV_at U i (h i (by simp))
    have ih := run_eqItems_wd w d W U is (fun j hj => h j (by simp [hj]))
    have p1 : (part 3 (wdV W) (i * 1)).run Try.prog w = .ok (.int .i64 (W i)) w := by simp only [Nat.mul_one]; simp [part, hf, run_underlying Try.underlying3, isAgg, go_sem]
    have p2 : (part 3 (wdV U) (i * 1)).run Try.prog w = .ok (.int .i64 (U i)) w := by simp only [Nat.mul_one]; simp [part, hg, run_underlying Try.underlying3, isAgg, go_sem]
    simp only [Op.eqItems, Sem.run_bind, p1, p2, Result.andThen_ok, run_equalIn_int w d 3 .i64 .i64 _ _ Try.underlying3]
    by_cases hh : W i = U i
    · simp [hh, ih]
    · have : (W i == U i) = false := by simp [hh]
      simp [this, hh]
theorem eqWd (W U : Nat → Int) (w : World) : (Op.equalIn 10000 33 (.agg (wdV W)) (.agg (wdV U))).run Try.prog w = .ok (decide (W 0 = U 0 ∧ W 1 = U 1 ∧ W 2 = U 2)) w := by
  have ha : (Op.equalIn 9999 31 (.agg (wdV W)) (.agg (wdV U))).run Try.prog w = .ok (decide (W 0 = U 0 ∧ W 1 = U 1 ∧ W 2 = U 2)) w := by
    obtain ⟨k, hk, h1⟩ : ∃ i, Try.prog.info? 3 = some i ∧ i.size = 1 := ⟨_, rfl, rfl⟩
    have hc : Try.prog.cellsOf 3 = 1 := by kernel_rfl
    rw [run_equalIn_array w 9998 _ _ Try.underlying31 hk, hc, run_eqItems_wd w 9997 W U _ (fun i hi => List.mem_range.1 hi)]
    congr 1
    simp [List.range, List.range.loop]
  rw [run_equalIn_struct w 9999 33 _ _ fields33 (by kernel_rfl)]
  simp only [Program.fieldsOf, Try.underlying33]
  generalize decide (W 0 = U 0 ∧ W 1 = U 1 ∧ W 2 = U 2) = q at *
  go_simp
  cases q <;> rfl
end Go.Proofs.Ytdgkofnboeepbaa

/- General: a slice of acts (four ints, a word) that comes in. No program is named. -/
namespace Go.Proofs.Ytdgkofnboeepbaa
open Go.ChangeShapes Go.WideShapes Go.ChangeAt Go.RowKit Go.Deep

/-- An act: its kind, three numbers, a word. -/
structure Ac5 where
  K : Int
  A : Int
  B : Int
  D : Int
  C : Nat
abbrev ac5 (a : Ac5) : Array Value := #[.int .i64 a.K, .int .i64 a.A, .int .i64 a.B, .int .i64 a.D, .int .u64 (a.C : Int)]
/-- v reads as the L acts f. -/
structure RA5 (w : World) (v : Value) (L : Nat) (f : Nat → Ac5) : Prop where
  lim : L ≤ 3600000000000
  wf : ∀ i, i < L → (f i).C < 2 ^ 64
  at_ : ∃ a cap, v = .slice a L cap ∧ L ≤ cap ∧ cap ≤ maxLen ∧ (0 < L → ∃ b off, a = some ⟨b, off, none⟩ ∧ b < w.heap.size ∧ ∀ i, i < L → w.rangeAt b (off + i * 5) (ac5 (f i)).toList)
theorem rng_self {w w' : World} {b o : Nat} {cs : List Value} (h : w.rangeAt b o cs) (hlt : b < w.heap.size) (hb : Below w.heap.size w w') : w'.rangeAt b o cs := fun j v hv => by
  rw [World.cell?_of_block (a := ⟨b, o + j, none⟩) (hb.block b hlt)]; exact h j v hv
theorem RA5.self {w w' : World} {v : Value} {L : Nat} {f : Nat → Ac5} (h : RA5 w v L f) (hb : Below w.heap.size w w') : RA5 w' v L f := by
  obtain ⟨a, cap, h1, h2, h3, h4⟩ := h.at_
  refine ⟨h.lim, h.wf, a, cap, h1, h2, h3, fun h0 => ?_⟩
  obtain ⟨b, off, e1, e2, e3⟩ := h4 h0
  exact ⟨b, off, e1, Nat.lt_of_lt_of_le e2 hb.size, fun i hi => rng_self (e3 i hi) e2 hb⟩
theorem ac5_cells {H : Type} {enc : TypeId × Value → H} {P : Program} {W : World} {held : Bool} {t ti tw : TypeId} {fs : Array Field} {cs : List Value} {d : DataW H} {p : List MemPlace} {fuel : Nat}
    (ht : P.underlying t = some (.struct fs)) (hfs : fs.toList.map (fun f => (f.type, f.offset)) = [(ti, 0), (ti, 1), (ti, 2), (ti, 3), (tw, 4)]) (hi : P.underlying ti = some (.int .i64)) (hw : P.underlying tw = some (.int .u64))
    (ci : P.cellsOf ti = 1) (cw : P.cellsOf tw = 1) (hl : cs.length = 5) (hf : DataW.trod enc P W 0 (fun _ => true) held fuel t cs = some (d, p)) :
    ∃ a : Ac5, cs = (ac5 a).toList ∧ a.C < 2 ^ 64 := by
  obtain ⟨m, g⟩ := trod_fields ht hfs hf
  match cs, hl with
  | [c0, c1, c2, c3, c4], _ =>
    obtain ⟨y0, g0⟩ := g 0 ti 0 rfl
    obtain ⟨y1, g1⟩ := g 1 ti 1 rfl
    obtain ⟨y2, g2⟩ := g 2 ti 2 rfl
    obtain ⟨y3, g3⟩ := g 3 ti 3 rfl
    obtain ⟨y4, g4⟩ := g 4 tw 4 rfl
    rw [ci] at g0 g1 g2 g3
    rw [cw] at g4
    simp only [List.drop_succ_cons, List.drop_zero, List.take_succ_cons, List.take_zero] at g0 g1 g2 g3 g4
    obtain ⟨x0, e0, _, _⟩ := DataW.trod_int hi g0
    obtain ⟨x1, e1, _, _⟩ := DataW.trod_int hi g1
    obtain ⟨x2, e2, _, _⟩ := DataW.trod_int hi g2
    obtain ⟨x3, e3, _, _⟩ := DataW.trod_int hi g3
    obtain ⟨x4, e4, _, w4⟩ := DataW.trod_int hw g4
    simp only [List.cons.injEq, and_true] at e0 e1 e2 e3 e4
    subst e0 e1 e2 e3 e4
    have b4 := bounds_u64 w4
    obtain ⟨c, rfl⟩ := Int.eq_ofNat_of_zero_le b4.1
    exact ⟨⟨x0, x1, x2, x3, c⟩, rfl, by show c < _; have := b4.2; omega⟩
/-- A slice of acts that comes in. -/
theorem acts5_open {H : Type} {enc : TypeId × Value → H} {P : Program} {W : World} {held : Bool} {t e ti tw : TypeId} {fs : Array Field} {base : Nat} {v : Value} {d : DataW H} {p : List MemPlace} {ts : List TypeId} {ds : List (DataW H)} {j0 : Nat}
    (ht : P.underlying t = some (.slice e)) (he : P.underlying e = some (.struct fs)) (hfs : fs.toList.map (fun f => (f.type, f.offset)) = [(ti, 0), (ti, 1), (ti, 2), (ti, 3), (tw, 4)]) (hi : P.underlying ti = some (.int .i64)) (hw : P.underlying tw = some (.int .u64))
    (ci : P.cellsOf ti = 1) (cw : P.cellsOf tw = 1) (ce : P.cellsOf e = 5) (hB : P.bytesOf e = 40)
    (hv : Value.okWide P W .any base t v) (h : DataW.Trod enc P W 0 (fun _ => true) held t v d p) (hlt : ∀ x ∈ p, x.block < W.heap.size)
    (hsz : (DataW.weightsEach P ts ds).all (· ≤ reachBytes) = true) (hj : ts[j0]? = some t) (hd : ds[j0]? = some d) : ∃ L f, RA5 W v L f := by
  obtain ⟨a0, len0, cap0, rfl⟩ := okWide_slice ht hv
  obtain ⟨fuel, hf⟩ := h
  rcases open_slice ht hf with ⟨hcs, hx⟩ | ⟨a, len, cap, m, n, D, Pl, hcs, hb, hl, hm, hmm, hx, hi'⟩
  · simp [Value.cells] at hcs
    obtain ⟨rfl, rfl, rfl⟩ := hcs
    exact ⟨0, fun _ => ⟨0, 0, 0, 0, 0⟩, by omega, fun i hi => by omega, none, 0, rfl, by omega, by unfold maxLen; omega, fun h0 => by omega⟩
  · simp [Value.cells] at hcs
    obtain ⟨rfl, rfl, rfl⟩ := hcs
    simp only [Prod.mk.injEq] at hx
    obtain ⟨rfl, rfl⟩ := hx
    simp only [if_true] at hmm
    have hreach := sized_slice hsz hj hd ht
    simp only [List.length_map, List.length_range, reachBytes, hB] at hreach
    have each : ∀ i, i < len0 → ∃ c : Ac5, (∀ j u, (ac5 c).toList[j]? = some u → W.cell? ((a.add (i * 5)).add j) = some u) ∧ c.C < 2 ^ 64 := by
      intro i hi1
      obtain ⟨cs', hc, ht'⟩ := hi' i (by omega)
      rw [ce] at hc
      obtain ⟨_, hcl, hat⟩ := World.cells?_some hc
      obtain ⟨c, rfl, hw'⟩ := ac5_cells he hfs hi hw ci cw hcl ht'
      refine ⟨c, fun j u hu => ?_, hw'⟩
      have hj1 : j < 5 := by have := (List.getElem?_eq_some_iff.1 hu).1; simpa using this
      rw [hat j hj1, hu]
    refine ⟨len0, fun i => if hh : i < len0 then Classical.choose (each i hh) else ⟨0, 0, 0, 0, 0⟩, by omega, fun i hi1 => ?_, some a, cap0, rfl, hl, hm, fun hp => ?_⟩
    · simp only [hi1, dif_pos]
      exact (Classical.choose_spec (each i hi1)).2
    · obtain ⟨b, off, spot⟩ := a
      have hspot : spot = none := by
        obtain ⟨c, hc, _⟩ := each 0 hp
        simpa [Addr.add] using World.cell?_spot (hc 0 _ rfl)
      subst hspot
      refine ⟨b, off, rfl, hlt (.cell b off) (List.mem_append.2 (.inl (MemPlace.mem_row.2 ⟨0, ?_, by simp⟩))), fun i hi1 => ?_⟩
      · rw [ce]; exact Nat.mul_pos (by omega) (by omega)
      · have := (Classical.choose_spec (each i hi1)).1
        simp only [hi1, dif_pos]
        exact fun j u hu => by
          have := this j u hu
          rw [add_plain, add_plain] at this
          exact this
end Go.Proofs.Ytdgkofnboeepbaa
