import Derived.Test.YtdgkofnboeepbaaProg
import Derived.Test.YtdgkofnboeepbaaMgaj
import Derived.Test.YtdgkofnboeepbaaMgah
import Derived.Test.YtdgkofnboeepbaaMgai
import Derived.Test.YtdgkofnboeepbaaMgaa
/- Share: the program's functions of words, over any machine: the interface is met. -/
namespace Go.Proofs.Ytdgkofnboeepbaa
open Go.RowKit
set_option maxRecDepth 100000
set_option maxHeartbeats 3200000 in
theorem salone_pub_any {Pm : World → Nat → Ms → (Nat → Prop) → Prop} (hM : Mach Pm) (b k : Nat) (S : Ms) (F : Nat → Prop) (c : Nat) (w : World) (hm : Pm w b S F) (hq : Bq k S) (hk : k + 10 ≤ 100000) (hn : S.n = 2 ∨ S.n = 3) (hc : c < 2 ^ 64) :
    Calls Try.prog 52 #[.pointer (some ⟨b, 0, none⟩), .func (.func 54) #[.pointer (some ⟨b, 0, none⟩)] #[], .int .u64 (c : Int)] w fun e w' => e = .returned (.agg (wdV (cstR S 3 c))) ∧ PmR Pm b (cstS S 3 c) F w w' := by
  have hsb := sh_bd hn
  obtain ⟨w1, hw1⟩ : ∃ w1, ((((w.alloc (.cells #[.pointer (some ⟨b, 0, none⟩)] 24)).alloc (.cells #[.func (.func 54) #[.pointer (some ⟨b, 0, none⟩)] #[]] 98)).alloc (.cells #[.int .u64 (c : Int)] 34)).alloc (.cells #[.int .i64 0, .int .i64 0, .int .i64 0] 33)) = w1 := ⟨_, rfl⟩
  have H1 : Hid (Ow Pm F w w1 b S [(w.heap.size + 1 + 1 + 1, Obj.cells #[.int .i64 0, .int .i64 0, .int .i64 0] 33 (0, 0)), (w.heap.size + 1 + 1, Obj.cells #[.int .u64 (c : Int)] 34 (0, 0)), (w.heap.size + 1, Obj.cells #[.func (.func 54) #[.pointer (some ⟨b, 0, none⟩)] #[]] 98 (0, 0)), (w.heap.size, Obj.cells #[.pointer (some ⟨b, 0, none⟩)] 24 (0, 0))]) := hid (by
    have := ((((Ow.start hm).new hM #[.pointer (some ⟨b, 0, none⟩)] 24).new hM #[.func (.func 54) #[.pointer (some ⟨b, 0, none⟩)] #[]] 98).new hM #[.int .u64 (c : Int)] 34).new hM #[.int .i64 0, .int .i64 0, .int .i64 0] 33
    rw [hw1] at this
    simp only [sz_al] at this
    exact this)
  have HSQ : Hid (∀ j, j ≤ 3 → Bq (k + j) (eaS S (opCst 3 c) 0 j)) := hid (fun j hj => eaS_bq hq 0 j (fun i hi => by rw [Nat.zero_add]; exact opCst_wf (i64k 3 (by decide) (by decide)) hc (by omega)))
  have HE := hid (each_alone hM (w.heap.size + 1) (w.heap.size + 1 + 1) (w.heap.size) S.sh k (eaS S (opCst 3 c) 0) (eaR S (opCst 3 c) 0 none3) (fun j => (eaS S (opCst 3 c) 0 j).doR ((opCst 3 c) j)) H1.out (by omega) hq (by omega) (by show S.n = _; unfold Ms.sh; omega) rfl (fun j _ => eaR_0 _ _ _ _)
    (fun j bs' w' hj hs h' => by rw [eaS_0]; exact clo_pub hM _ _ _ c j h' (hs _ (by simp)) (hs _ (by simp)) (hs _ (by simp)) (HSQ.out j (by omega)) (by omega) hc (by omega)))
  have c1 := row_c (i := 0) (u := .pointer (some ⟨b, 0, none⟩)) (H1.out.bl 3 rfl) rfl
  have HW := hid hw1
  have e1 : eaR S (opCst 3 c) 0 none3 S.sh = cstR S 3 c := rfl
  have e2 : eaS S (opCst 3 c) 0 S.sh = cstS S 3 c := rfl
  rw [e1, e2] at HE
  clear hm hq hk hn hw1 e1 e2 HSQ hsb
  generalize cstR S 3 c = R at *
  generalize cstS S 3 c = S1 at *
  go_enter Try.func52, Try.ntmps52
  go_upto_region 1 with fail
  rw [HW.out]
  go_wp2_with (first
    | (go_at_call 40; (with_reducible refine HE.out.mono ?_); rintro e w2 ⟨rfl, h2⟩; have H2 := hid h2; clear h2 c1)
    | (refine step_store_row rfl 33 _ _ rfl (w.heap.size + 1 + 1 + 1) 33 _ (wdV R) rfl rfl (H2.out.bl 0 rfl) (by kernel_rfl) rfl (by kernel_rfl) ?_))
  have H3 := hid (H2.out.row hM (wdV R))
  exact bodyPost_ret (results_cell_row (by rfl) _ _ (w.heap.size + 1 + 1 + 1) 33 (wdV R) (0, 0) _ rfl (H3.out.bl 0 rfl) Try.underlying33 rfl (by kernel_rfl)) rfl ⟨rfl, H3.out.fin⟩
set_option maxHeartbeats 3200000 in
theorem spub_any {Pm : World → Nat → Ms → (Nat → Prop) → Prop} (hM : Mach Pm) (b k : Nat) (S : Ms) (F : Nat → Prop) (c : Nat) (w : World) (hm : Pm w b S F) (hq : Bq k S) (hk : k + 10 ≤ 100000) (hn : S.n = 2 ∨ S.n = 3) (hc : c < 2 ^ 64) :
    Calls Try.prog 21 #[.pointer (some ⟨b, 0, none⟩), .int .u64 (c : Int)] w fun e w' => e = .returned (.agg (wdV (cstR S 3 c))) ∧ PmR Pm b (cstS S 3 c) F w w' := by
  obtain ⟨w1, hw1⟩ : ∃ w1, w.alloc (.cells #[.int .i64 0, .int .i64 0, .int .i64 0] 33) = w1 := ⟨_, rfl⟩
  have H1 : Hid (Ow Pm F w w1 b S [(w.heap.size, Obj.cells #[.int .i64 0, .int .i64 0, .int .i64 0] 33 (0, 0))]) := hid (by
    have := (Ow.start hm).new hM #[.int .i64 0, .int .i64 0, .int .i64 0] 33
    rw [hw1] at this
    exact this)
  have HE := hid (H1.out.lift hM (fun F' hF => salone_pub_any hM b k S F' c w1 hF hq hk hn hc))
  have HW := hid hw1
  have hmf : ∀ (fn : Fn) (first cap : Array Value) (w : World), (Instr.makeFunc fn first cap).run Try.prog w = .ok (.func fn first cap) w := fun _ _ _ _ => rfl
  clear hm hq hk hn hw1 hc
  generalize cstR S 3 c = R at *
  generalize cstS S 3 c = S1 at *
  go_enter Try.func21, Try.ntmps21
  go_upto_region 1 with fail
  rw [HW.out]
  go_wp2_with (first
    | (go_at_call 52; (with_reducible refine HE.out.mono ?_); rintro e w2 ⟨rfl, h2⟩; have H2 := hid h2; clear h2)
    | (refine step_store_row rfl 33 _ _ rfl w.heap.size 33 _ (wdV R) rfl rfl (H2.out.bl 0 rfl) (by kernel_rfl) rfl (by kernel_rfl) ?_))
  have H3 := hid (H2.out.row hM (wdV R))
  exact bodyPost_ret (results_cell_row (by rfl) _ _ w.heap.size 33 (wdV R) (0, 0) _ rfl (H3.out.bl 0 rfl) Try.underlying33 rfl (by kernel_rfl)) rfl ⟨rfl, H3.out.fin⟩
set_option maxHeartbeats 3200000 in
theorem salone_told_any {Pm : World → Nat → Ms → (Nat → Prop) → Prop} (hM : Mach Pm) (b k : Nat) (S : Ms) (F : Nat → Prop) (c : Nat) (w : World) (hm : Pm w b S F) (hq : Bq k S) (hk : k + 10 ≤ 100000) (hn : S.n = 2 ∨ S.n = 3) (hc : c < 2 ^ 64) :
    Calls Try.prog 52 #[.pointer (some ⟨b, 0, none⟩), .func (.func 53) #[.pointer (some ⟨b, 0, none⟩)] #[], .int .u64 (c : Int)] w fun e w' => e = .returned (.agg (wdV (cstR S 4 c))) ∧ PmR Pm b (cstS S 4 c) F w w' := by
  have hsb := sh_bd hn
  obtain ⟨w1, hw1⟩ : ∃ w1, ((((w.alloc (.cells #[.pointer (some ⟨b, 0, none⟩)] 24)).alloc (.cells #[.func (.func 53) #[.pointer (some ⟨b, 0, none⟩)] #[]] 98)).alloc (.cells #[.int .u64 (c : Int)] 34)).alloc (.cells #[.int .i64 0, .int .i64 0, .int .i64 0] 33)) = w1 := ⟨_, rfl⟩
  have H1 : Hid (Ow Pm F w w1 b S [(w.heap.size + 1 + 1 + 1, Obj.cells #[.int .i64 0, .int .i64 0, .int .i64 0] 33 (0, 0)), (w.heap.size + 1 + 1, Obj.cells #[.int .u64 (c : Int)] 34 (0, 0)), (w.heap.size + 1, Obj.cells #[.func (.func 53) #[.pointer (some ⟨b, 0, none⟩)] #[]] 98 (0, 0)), (w.heap.size, Obj.cells #[.pointer (some ⟨b, 0, none⟩)] 24 (0, 0))]) := hid (by
    have := ((((Ow.start hm).new hM #[.pointer (some ⟨b, 0, none⟩)] 24).new hM #[.func (.func 53) #[.pointer (some ⟨b, 0, none⟩)] #[]] 98).new hM #[.int .u64 (c : Int)] 34).new hM #[.int .i64 0, .int .i64 0, .int .i64 0] 33
    rw [hw1] at this
    simp only [sz_al] at this
    exact this)
  have HSQ : Hid (∀ j, j ≤ 3 → Bq (k + j) (eaS S (opCst 4 c) 0 j)) := hid (fun j hj => eaS_bq hq 0 j (fun i hi => by rw [Nat.zero_add]; exact opCst_wf (i64k 4 (by decide) (by decide)) hc (by omega)))
  have HE := hid (each_alone hM (w.heap.size + 1) (w.heap.size + 1 + 1) (w.heap.size) S.sh k (eaS S (opCst 4 c) 0) (eaR S (opCst 4 c) 0 none3) (fun j => (eaS S (opCst 4 c) 0 j).doR ((opCst 4 c) j)) H1.out (by omega) hq (by omega) (by show S.n = _; unfold Ms.sh; omega) rfl (fun j _ => eaR_0 _ _ _ _)
    (fun j bs' w' hj hs h' => by rw [eaS_0]; exact clo_told hM _ _ _ c j h' (hs _ (by simp)) (hs _ (by simp)) (hs _ (by simp)) (HSQ.out j (by omega)) (by omega) hc (by omega)))
  have c1 := row_c (i := 0) (u := .pointer (some ⟨b, 0, none⟩)) (H1.out.bl 3 rfl) rfl
  have HW := hid hw1
  have e1 : eaR S (opCst 4 c) 0 none3 S.sh = cstR S 4 c := rfl
  have e2 : eaS S (opCst 4 c) 0 S.sh = cstS S 4 c := rfl
  rw [e1, e2] at HE
  clear hm hq hk hn hw1 e1 e2 HSQ hsb
  generalize cstR S 4 c = R at *
  generalize cstS S 4 c = S1 at *
  go_enter Try.func52, Try.ntmps52
  go_upto_region 1 with fail
  rw [HW.out]
  go_wp2_with (first
    | (go_at_call 40; (with_reducible refine HE.out.mono ?_); rintro e w2 ⟨rfl, h2⟩; have H2 := hid h2; clear h2 c1)
    | (refine step_store_row rfl 33 _ _ rfl (w.heap.size + 1 + 1 + 1) 33 _ (wdV R) rfl rfl (H2.out.bl 0 rfl) (by kernel_rfl) rfl (by kernel_rfl) ?_))
  have H3 := hid (H2.out.row hM (wdV R))
  exact bodyPost_ret (results_cell_row (by rfl) _ _ (w.heap.size + 1 + 1 + 1) 33 (wdV R) (0, 0) _ rfl (H3.out.bl 0 rfl) Try.underlying33 rfl (by kernel_rfl)) rfl ⟨rfl, H3.out.fin⟩
set_option maxHeartbeats 3200000 in
theorem stold_any {Pm : World → Nat → Ms → (Nat → Prop) → Prop} (hM : Mach Pm) (b k : Nat) (S : Ms) (F : Nat → Prop) (c : Nat) (w : World) (hm : Pm w b S F) (hq : Bq k S) (hk : k + 10 ≤ 100000) (hn : S.n = 2 ∨ S.n = 3) (hc : c < 2 ^ 64) :
    Calls Try.prog 19 #[.pointer (some ⟨b, 0, none⟩), .int .u64 (c : Int)] w fun e w' => e = .returned (.agg (wdV (cstR S 4 c))) ∧ PmR Pm b (cstS S 4 c) F w w' := by
  obtain ⟨w1, hw1⟩ : ∃ w1, w.alloc (.cells #[.int .i64 0, .int .i64 0, .int .i64 0] 33) = w1 := ⟨_, rfl⟩
  have H1 : Hid (Ow Pm F w w1 b S [(w.heap.size, Obj.cells #[.int .i64 0, .int .i64 0, .int .i64 0] 33 (0, 0))]) := hid (by
    have := (Ow.start hm).new hM #[.int .i64 0, .int .i64 0, .int .i64 0] 33
    rw [hw1] at this
    exact this)
  have HE := hid (H1.out.lift hM (fun F' hF => salone_told_any hM b k S F' c w1 hF hq hk hn hc))
  have HW := hid hw1
  have hmf : ∀ (fn : Fn) (first cap : Array Value) (w : World), (Instr.makeFunc fn first cap).run Try.prog w = .ok (.func fn first cap) w := fun _ _ _ _ => rfl
  clear hm hq hk hn hw1 hc
  generalize cstR S 4 c = R at *
  generalize cstS S 4 c = S1 at *
  go_enter Try.func19, Try.ntmps19
  go_upto_region 1 with fail
  rw [HW.out]
  go_wp2_with (first
    | (go_at_call 52; (with_reducible refine HE.out.mono ?_); rintro e w2 ⟨rfl, h2⟩; have H2 := hid h2; clear h2)
    | (refine step_store_row rfl 33 _ _ rfl w.heap.size 33 _ (wdV R) rfl rfl (H2.out.bl 0 rfl) (by kernel_rfl) rfl (by kernel_rfl) ?_))
  have H3 := hid (H2.out.row hM (wdV R))
  exact bodyPost_ret (results_cell_row (by rfl) _ _ w.heap.size 33 (wdV R) (0, 0) _ rfl (H3.out.bl 0 rfl) Try.underlying33 rfl (by kernel_rfl)) rfl ⟨rfl, H3.out.fin⟩
set_option maxHeartbeats 3200000 in
theorem sxor_any {Pm : World → Nat → Ms → (Nat → Prop) → Prop} (hM : Mach Pm) (b k : Nat) (S : Ms) (F : Nat → Prop) (A B : Nat → Int) (w : World) (hm : Pm w b S F) (hq : Bq k S) (hk : k + 10 ≤ 100000) (hn : S.n = 2 ∨ S.n = 3) (hA : Wb A) (hB : Wb B) :
    Calls Try.prog 23 #[.pointer (some ⟨b, 0, none⟩), .agg (wdV A), .agg (wdV B)] w fun e w' => e = .returned (.agg (wdV (xorR S A B))) ∧ PmR Pm b (xorS S A B) F w w' := by
  have hsb := sh_bd hn
  obtain ⟨w1, hw1⟩ : ∃ w1, ((((w.alloc (.cells #[.pointer (some ⟨b, 0, none⟩)] 24)).alloc (.cells (wdV A) 33)).alloc (.cells (wdV B) 33)).alloc (.cells #[.int .i64 0, .int .i64 0, .int .i64 0] 33)) = w1 := ⟨_, rfl⟩
  have H1 : Hid (Ow Pm F w w1 b S [(w.heap.size + 1 + 1 + 1, Obj.cells #[.int .i64 0, .int .i64 0, .int .i64 0] 33 (0, 0)), (w.heap.size + 1 + 1, Obj.cells (wdV B) 33 (0, 0)), (w.heap.size + 1, Obj.cells (wdV A) 33 (0, 0)), (w.heap.size, Obj.cells #[.pointer (some ⟨b, 0, none⟩)] 24 (0, 0))]) := hid (by
    have := ((((Ow.start hm).new hM #[.pointer (some ⟨b, 0, none⟩)] 24).new hM (wdV A) 33).new hM (wdV B) 33).new hM #[.int .i64 0, .int .i64 0, .int .i64 0] 33
    rw [hw1] at this
    simp only [sz_al] at this
    exact this)
  have HSQ : Hid (∀ j, j ≤ 3 → Bq (k + j) (eaS S (opXor A B) 0 j)) := hid (fun j hj => eaS_bq hq 0 j (fun i hi => by rw [Nat.zero_add]; exact opXor_wf hA hB (by omega)))
  have HE := hid (each_xor hM (w.heap.size) (w.heap.size + 1) (w.heap.size + 1 + 1) S.sh k (eaS S (opXor A B) 0) (eaR S (opXor A B) 0 none3) (fun j => (eaS S (opXor A B) 0 j).doR ((opXor A B) j)) H1.out (by omega) hq (by omega) (by show S.n = _; unfold Ms.sh; omega) rfl (fun j _ => eaR_0 _ _ _ _)
    (fun j bs' w' hj hs h' => by rw [eaS_0]; exact clo_xor hM _ _ _ j A B h' (hs _ (by simp)) (hs _ (by simp)) (hs _ (by simp)) (HSQ.out j (by omega)) (by omega) hA hB (by omega)))
  have c1 := row_c (i := 0) (u := .pointer (some ⟨b, 0, none⟩)) (H1.out.bl 3 rfl) rfl
  have HW := hid hw1
  have e1 : eaR S (opXor A B) 0 none3 S.sh = xorR S A B := rfl
  have e2 : eaS S (opXor A B) 0 S.sh = xorS S A B := rfl
  rw [e1, e2] at HE
  clear hm hq hk hn hw1 e1 e2 HSQ hsb
  generalize xorR S A B = R at *
  generalize xorS S A B = S1 at *
  go_enter Try.func23, Try.ntmps23
  go_upto_region 1 with fail
  rw [HW.out]
  go_wp2_with (first
    | (go_at_call 40; (with_reducible refine HE.out.mono ?_); rintro e w2 ⟨rfl, h2⟩; have H2 := hid h2; clear h2 c1)
    | (refine step_store_row rfl 33 _ _ rfl (w.heap.size + 1 + 1 + 1) 33 _ (wdV R) rfl rfl (H2.out.bl 0 rfl) (by kernel_rfl) rfl (by kernel_rfl) ?_))
  have H3 := hid (H2.out.row hM (wdV R))
  exact bodyPost_ret (results_cell_row (by rfl) _ _ (w.heap.size + 1 + 1 + 1) 33 (wdV R) (0, 0) _ rfl (H3.out.bl 0 rfl) Try.underlying33 rfl (by kernel_rfl)) rfl ⟨rfl, H3.out.fin⟩
set_option maxHeartbeats 3200000 in
theorem sone_any {Pm : World → Nat → Ms → (Nat → Prop) → Prop} (hM : Mach Pm) (b k : Nat) (S : Ms) (F : Nat → Prop) (K : Int) (A : Nat → Int) (c : Nat) (w : World) (hm : Pm w b S F) (hq : Bq k S) (hk : k + 10 ≤ 100000) (hn : S.n = 2 ∨ S.n = 3) (hK : I64 K) (hA : Wb A) (hc : c < 2 ^ 64) :
    Calls Try.prog 27 #[.pointer (some ⟨b, 0, none⟩), .int .i64 K, .agg (wdV A), .int .u64 (c : Int)] w fun e w' => e = .returned (.agg (wdV (oneR S K A c))) ∧ PmR Pm b (oneS S K A c) F w w' := by
  have hsb := sh_bd hn
  obtain ⟨w1, hw1⟩ : ∃ w1, (((((w.alloc (.cells #[.pointer (some ⟨b, 0, none⟩)] 24)).alloc (.cells #[.int .i64 K] 3)).alloc (.cells (wdV A) 33)).alloc (.cells #[.int .u64 (c : Int)] 34)).alloc (.cells #[.int .i64 0, .int .i64 0, .int .i64 0] 33)) = w1 := ⟨_, rfl⟩
  have H1 : Hid (Ow Pm F w w1 b S [(w.heap.size + 1 + 1 + 1 + 1, Obj.cells #[.int .i64 0, .int .i64 0, .int .i64 0] 33 (0, 0)), (w.heap.size + 1 + 1 + 1, Obj.cells #[.int .u64 (c : Int)] 34 (0, 0)), (w.heap.size + 1 + 1, Obj.cells (wdV A) 33 (0, 0)), (w.heap.size + 1, Obj.cells #[.int .i64 K] 3 (0, 0)), (w.heap.size, Obj.cells #[.pointer (some ⟨b, 0, none⟩)] 24 (0, 0))]) := hid (by
    have := (((((Ow.start hm).new hM #[.pointer (some ⟨b, 0, none⟩)] 24).new hM #[.int .i64 K] 3).new hM (wdV A) 33).new hM #[.int .u64 (c : Int)] 34).new hM #[.int .i64 0, .int .i64 0, .int .i64 0] 33
    rw [hw1] at this
    simp only [sz_al] at this
    exact this)
  have HSQ : Hid (∀ j, j ≤ 3 → Bq (k + j) (eaS S (opOne K A c) 0 j)) := hid (fun j hj => eaS_bq hq 0 j (fun i hi => by rw [Nat.zero_add]; exact opOne_wf hK hA hc (by omega)))
  have HE := hid (each_one hM (w.heap.size) (w.heap.size + 1) (w.heap.size + 1 + 1) (w.heap.size + 1 + 1 + 1) S.sh k (eaS S (opOne K A c) 0) (eaR S (opOne K A c) 0 none3) (fun j => (eaS S (opOne K A c) 0 j).doR ((opOne K A c) j)) H1.out (by omega) hq (by omega) (by show S.n = _; unfold Ms.sh; omega) rfl (fun j _ => eaR_0 _ _ _ _)
    (fun j bs' w' hj hs h' => by rw [eaS_0]; exact clo_one hM _ _ _ _ j K A c h' (hs _ (by simp)) (hs _ (by simp)) (hs _ (by simp)) (hs _ (by simp)) (HSQ.out j (by omega)) (by omega) hK hA hc (by omega)))
  have c1 := row_c (i := 0) (u := .pointer (some ⟨b, 0, none⟩)) (H1.out.bl 4 rfl) rfl
  have HW := hid hw1
  have e1 : eaR S (opOne K A c) 0 none3 S.sh = oneR S K A c := rfl
  have e2 : eaS S (opOne K A c) 0 S.sh = oneS S K A c := rfl
  rw [e1, e2] at HE
  clear hm hq hk hn hw1 e1 e2 HSQ hsb
  generalize oneR S K A c = R at *
  generalize oneS S K A c = S1 at *
  go_enter Try.func27, Try.ntmps27
  go_upto_region 1 with fail
  rw [HW.out]
  go_wp2_with (first
    | (go_at_call 40; (with_reducible refine HE.out.mono ?_); rintro e w2 ⟨rfl, h2⟩; have H2 := hid h2; clear h2 c1)
    | (refine step_store_row rfl 33 _ _ rfl (w.heap.size + 1 + 1 + 1 + 1) 33 _ (wdV R) rfl rfl (H2.out.bl 0 rfl) (by kernel_rfl) rfl (by kernel_rfl) ?_))
  have H3 := hid (H2.out.row hM (wdV R))
  exact bodyPost_ret (results_cell_row (by rfl) _ _ (w.heap.size + 1 + 1 + 1 + 1) 33 (wdV R) (0, 0) _ rfl (H3.out.bl 0 rfl) Try.underlying33 rfl (by kernel_rfl)) rfl ⟨rfl, H3.out.fin⟩
set_option maxHeartbeats 3200000 in
theorem snot_any {Pm : World → Nat → Ms → (Nat → Prop) → Prop} (hM : Mach Pm) (b k : Nat) (S : Ms) (F : Nat → Prop) (A : Nat → Int)  (w : World) (hm : Pm w b S F) (hq : Bq k S) (hk : k + 10 ≤ 1000000) (hA : Wb A)  :
    Calls Try.prog 25 #[.pointer (some ⟨b, 0, none⟩), .agg (wdV A)] w fun e w' => e = .returned (.agg (wdV (notR S A))) ∧ PmR Pm b (notS S A) F w w' := by
  obtain ⟨w1, hw1⟩ : ∃ w1, (w.alloc (.cells (wdV A) 33)).alloc (.cells #[.int .i64 0, .int .i64 0, .int .i64 0] 33) = w1 := ⟨_, rfl⟩
  have H1 : Hid (Ow Pm F w w1 b S [(w.heap.size, Obj.cells (wdV A) 33 (0, 0)), (w.heap.size + 1, Obj.cells #[.int .i64 0, .int .i64 0, .int .i64 0] 33 (0, 0))]) := hid (by
    have := (((Ow.start hm).new hM (wdV A) 33).new hM #[.int .i64 0, .int .i64 0, .int .i64 0] 33).swap
    rw [hw1] at this
    simp only [sz_al] at this
    exact this)
  have HC : Hid (Calls Try.prog 57 #[.pointer (some ⟨b, 0, none⟩), .int .i64 6, .int .i64 0, .int .i64 (A 0), .int .u64 0] w1 fun e w2 => e = .returned (.int .i64 (S.doR (opNot A))) ∧ Ow Pm F w w2 b (notS S A) [(w.heap.size, Obj.cells (wdV A) 33 (0, 0)), (w.heap.size + 1, Obj.cells #[.int .i64 0, .int .i64 0, .int .i64 0] 33 (0, 0))]) := hid (H1.out.lift hM (fun F' hF => hM.one b k S F' 6 0 (A 0) 0 w1 hF hq (by omega) (opNot_wf hA)))
  have c0 := row_c (i := 0) (u := .int .i64 (A 0)) (H1.out.bl 0 rfl) rfl
  have HR : Hid ((wdV A).setIfInBounds 0 (.int .i64 (S.doR (opNot A))) = wdV (notR S A)) := hid (wdV_upd A 0 _ (by omega))
  have HW := hid hw1
  clear hm hq hk hw1 hA
  generalize notR S A = R at *
  generalize S.doR (opNot A) = r at *
  generalize notS S A = S1 at *
  go_enter Try.func25, Try.ntmps25
  go_upto_region 1 with fail
  rw [HW.out]
  go_upto_region 2 with (go_at_call 57; (with_reducible refine HC.out.mono ?_); rintro e w2 ⟨rfl, h2⟩; have H2 := hid h2; have d0 := row_c (i := 0) (u := .int .i64 (A 0)) (H2.out.bl 0 rfl) rfl; have f0 := frozen_of_row w2 w.heap.size 0 _ _ (H2.out.bl 0 rfl); clear h2 c0)
  have H3 := hid (H2.out.cell hM 0 (.int .i64 r))
  rw [HR.out] at H3
  generalize w2.setCell ⟨w.heap.size, 0, none⟩ (.int .i64 r) = w3 at *
  go_wp2_with (first
    | (refine step_load_row rfl 33 _ rfl w.heap.size 33 (wdV R) _ rfl (H3.out.bl 0 rfl) Try.underlying33 rfl (by kernel_rfl) ?_)
    | (refine step_store_row rfl 33 _ _ rfl (w.heap.size + 1) 33 _ (wdV R) rfl rfl (H3.out.bl 1 rfl) (by kernel_rfl) rfl (by kernel_rfl) ?_))
  have H4 := hid (H3.out.swap.row hM (wdV R))
  exact bodyPost_ret (results_cell_row (by rfl) _ _ (w.heap.size + 1) 33 (wdV R) (0, 0) _ rfl (H4.out.bl 0 rfl) Try.underlying33 rfl (by kernel_rfl)) rfl ⟨rfl, H4.out.fin⟩
set_option maxHeartbeats 3200000 in
theorem splus_any {Pm : World → Nat → Ms → (Nat → Prop) → Prop} (hM : Mach Pm) (b k : Nat) (S : Ms) (F : Nat → Prop) (A : Nat → Int) (z : Int) (w : World) (hm : Pm w b S F) (hq : Bq k S) (hk : k + 10 ≤ 1000000) (hA : Wb A) (hz : I64 z) :
    Calls Try.prog 59 #[.pointer (some ⟨b, 0, none⟩), .agg (wdV A), .int .i64 z] w fun e w' => e = .returned (.agg (wdV (updI A 0 (S.doR (opAd2 A z))))) ∧ PmR Pm b (S.doS (opAd2 A z) 0) F w w' := by
  obtain ⟨w1, hw1⟩ : ∃ w1, (w.alloc (.cells (wdV A) 33)).alloc (.cells #[.int .i64 0, .int .i64 0, .int .i64 0] 33) = w1 := ⟨_, rfl⟩
  have H1 : Hid (Ow Pm F w w1 b S [(w.heap.size, Obj.cells (wdV A) 33 (0, 0)), (w.heap.size + 1, Obj.cells #[.int .i64 0, .int .i64 0, .int .i64 0] 33 (0, 0))]) := hid (by
    have := (((Ow.start hm).new hM (wdV A) 33).new hM #[.int .i64 0, .int .i64 0, .int .i64 0] 33).swap
    rw [hw1] at this
    simp only [sz_al] at this
    exact this)
  have HC : Hid (Calls Try.prog 56 #[.pointer (some ⟨b, 0, none⟩), .int .i64 5, .int .i64 0, .int .i64 (A 0), .int .i64 z] w1 fun e w2 => e = .returned (.int .i64 (S.doR (opAd2 A z))) ∧ Ow Pm F w w2 b (S.doS (opAd2 A z) 0) [(w.heap.size, Obj.cells (wdV A) 33 (0, 0)), (w.heap.size + 1, Obj.cells #[.int .i64 0, .int .i64 0, .int .i64 0] 33 (0, 0))]) := hid (H1.out.lift hM (fun F' hF => hM.two b k S F' 5 0 (A 0) z w1 hF hq (by omega) (opAd2_wf hA hz)))
  have c0 := row_c (i := 0) (u := .int .i64 (A 0)) (H1.out.bl 0 rfl) rfl
  have HR : Hid ((wdV A).setIfInBounds 0 (.int .i64 (S.doR (opAd2 A z))) = wdV (updI A 0 (S.doR (opAd2 A z)))) := hid (wdV_upd A 0 _ (by omega))
  have HW := hid hw1
  clear hm hq hk hw1 hA
  generalize updI A 0 (S.doR (opAd2 A z)) = R at *
  generalize S.doR (opAd2 A z) = r at *
  generalize S.doS (opAd2 A z) 0 = S1 at *
  go_enter Try.func59, Try.ntmps59
  go_upto_region 1 with fail
  rw [HW.out]
  go_upto_region 2 with (go_at_call 56; (with_reducible refine HC.out.mono ?_); rintro e w2 ⟨rfl, h2⟩; have H2 := hid h2; have d0 := row_c (i := 0) (u := .int .i64 (A 0)) (H2.out.bl 0 rfl) rfl; have f0 := frozen_of_row w2 w.heap.size 0 _ _ (H2.out.bl 0 rfl); clear h2 c0)
  have H3 := hid (H2.out.cell hM 0 (.int .i64 r))
  rw [HR.out] at H3
  generalize w2.setCell ⟨w.heap.size, 0, none⟩ (.int .i64 r) = w3 at *
  go_wp2_with (first
    | (refine step_load_row rfl 33 _ rfl w.heap.size 33 (wdV R) _ rfl (H3.out.bl 0 rfl) Try.underlying33 rfl (by kernel_rfl) ?_)
    | (refine step_store_row rfl 33 _ _ rfl (w.heap.size + 1) 33 _ (wdV R) rfl rfl (H3.out.bl 1 rfl) (by kernel_rfl) rfl (by kernel_rfl) ?_))
  have H4 := hid (H3.out.swap.row hM (wdV R))
  exact bodyPost_ret (results_cell_row (by rfl) _ _ (w.heap.size + 1) 33 (wdV R) (0, 0) _ rfl (H4.out.bl 0 rfl) Try.underlying33 rfl (by kernel_rfl)) rfl ⟨rfl, H4.out.fin⟩
set_option maxHeartbeats 3200000 in
theorem sadd_any {Pm : World → Nat → Ms → (Nat → Prop) → Prop} (hM : Mach Pm) (b k : Nat) (S : Ms) (F : Nat → Prop) (A : Nat → Int) (c : Nat) (w : World) (hm : Pm w b S F) (hq : Bq k S) (hk : k + 10 ≤ 100000) (hA : Wb A) (hc : c < 2 ^ 64) :
    Calls Try.prog 30 #[.pointer (some ⟨b, 0, none⟩), .agg (wdV A), .int .u64 (c : Int)] w fun e w' => e = .returned (.agg (wdV (addR S 3 A c))) ∧ PmR Pm b (addS S 3 A c) F w w' := by
  obtain ⟨w1, hw1⟩ : ∃ w1, (w.alloc (.cells (wdV A) 33)).alloc (.cells #[.int .i64 0, .int .i64 0, .int .i64 0] 33) = w1 := ⟨_, rfl⟩
  have H1 : Hid (Ow Pm F w w1 b S [(w.heap.size + 1, Obj.cells #[.int .i64 0, .int .i64 0, .int .i64 0] 33 (0, 0)), (w.heap.size, Obj.cells (wdV A) 33 (0, 0))]) := hid (by
    have := ((Ow.start hm).new hM (wdV A) 33).new hM #[.int .i64 0, .int .i64 0, .int .i64 0] 33
    rw [hw1] at this
    simp only [sz_al] at this
    exact this)
  have h1 := opAd1_wf (i64k 3 (by decide) (by decide)) hc
  have HC : Hid (∀ w', Ow Pm F w w' b S [(w.heap.size + 1, Obj.cells #[.int .i64 0, .int .i64 0, .int .i64 0] 33 (0, 0)), (w.heap.size, Obj.cells (wdV A) 33 (0, 0))] → Calls Try.prog 54 #[.pointer (some ⟨b, 0, none⟩), .int .i64 0, .int .u64 (c : Int)] w' fun e w2 => e = .returned (.int .i64 (S.doR (opAd1 3 c))) ∧ Ow Pm F w w2 b (S.doS (opAd1 3 c) 0) [(w.heap.size + 1, Obj.cells #[.int .i64 0, .int .i64 0, .int .i64 0] 33 (0, 0)), (w.heap.size, Obj.cells (wdV A) 33 (0, 0))]) := hid (fun w' h' => h'.lift hM (fun F' hF => hM.const_ b k S F' 0 c w' hF hq (by omega) h1))
  have HD : Hid (∀ w', Ow Pm F w w' b (S.doS (opAd1 3 c) 0) [(w.heap.size + 1, Obj.cells #[.int .i64 0, .int .i64 0, .int .i64 0] 33 (0, 0)), (w.heap.size, Obj.cells (wdV A) 33 (0, 0))] → Calls Try.prog 59 #[.pointer (some ⟨b, 0, none⟩), .agg (wdV A), .int .i64 (S.doR (opAd1 3 c))] w' fun e w2 => e = .returned (.agg (wdV (addR S 3 A c))) ∧ Ow Pm F w w2 b (addS S 3 A c) [(w.heap.size + 1, Obj.cells #[.int .i64 0, .int .i64 0, .int .i64 0] 33 (0, 0)), (w.heap.size, Obj.cells (wdV A) 33 (0, 0))]) := hid (fun w' h' => h'.lift hM (fun F' hF => splus_any hM b (k + 1) _ F' A _ w' hF (hq.does h1 (by decide)) (by omega) hA (doR_bd hq (by omega) _)))
  have G0 := hid (H1.out.self hM ((Below.refl _ w1).drew))
  have HW := hid hw1
  clear hm hq hk hw1 hA hc h1
  generalize S.doR (opAd1 3 c) = r at *
  generalize S.doS (opAd1 3 c) 0 = S1 at *
  generalize addR S 3 A c = R at *
  generalize addS S 3 A c = S2 at *
  go_enter Try.func30, Try.ntmps30
  go_upto_region 1 with fail
  rw [HW.out]
  refine wp_region_noPanic ?_
  refine wp_region_held_drew (S := fun w' => w'.heap[w.heap.size]? = some (.cells (wdV A) 33 (0, 0))) (by kernel_rfl) (G0.out.bl 1 rfl) (fun h0 => ?_)
  generalize w1.drew = y1 at *
  refine wpAnyH_take (i := 0) (v := .pointer (some ⟨b, 0, none⟩)) rfl (by kernel_rfl) (by kernel_rfl) (by kernel_rfl) (fun _ _ _ h => h) (.inl ⟨by rfl, fun w hw => by clear hw; go_simp⟩) h0 ?_
  try simp only [Act.put, lay_out]
  refine wpAnyH_take (i := 1) (v := .agg (wdV A)) rfl (by kernel_rfl) (by kernel_rfl) (by kernel_rfl) (fun _ _ _ h => h) (yields_load_row (by rfl) 33 _ rfl w.heap.size 33 (wdV A) _ rfl (fun w h => h) Try.underlying33 rfl (by kernel_rfl)) h0 ?_
  try simp only [Act.put, lay_out]
  refine wpAnyH_take (i := 2) (v := .pointer (some ⟨b, 0, none⟩)) rfl (by kernel_rfl) (by kernel_rfl) (by kernel_rfl) (fun _ _ _ h => h) (.inl ⟨by rfl, fun w hw => by clear hw; go_simp⟩) h0 ?_
  try simp only [Act.put, lay_out]
  refine wpAnyH_take (i := 3) (v := .int .u64 (c : Int)) rfl (by kernel_rfl) (by kernel_rfl) (by kernel_rfl) (fun _ _ _ h => h) (.inl ⟨by rfl, fun w hw => by clear hw; go_simp⟩) h0 ?_
  try simp only [Act.put, lay_out]
  refine wpAnyH_ready (rs := [4]) (by kernel_rfl) (by simp) (AllReadyH.cons rfl (fun K hK => ?_) AllReadyH.nil)
  rw [if_pos (by rfl)]
  go_simp
  go_at_call 54
  (with_reducible refine (HC.out _ G0.out).mono ?_); rintro e y2 ⟨rfl, hp⟩
  have G1 := hid hp
  clear hp
  refine hK.out _ _ (G1.out.bl 1 rfl) (fun h1x => ?_)
  clear hK K
  try simp only [Act.put, lay_out]
  refine wpAnyH_ready (rs := [5]) (by kernel_rfl) (by simp) (AllReadyH.cons rfl (fun K hK => ?_) AllReadyH.nil)
  rw [if_pos (by rfl)]
  go_simp
  go_at_call 59
  (with_reducible refine (HD.out _ G1.out).mono ?_); rintro e y3 ⟨rfl, hp⟩
  have G2 := hid hp
  clear hp
  refine hK.out _ _ (G2.out.bl 1 rfl) (fun h2x => ?_)
  clear hK K
  try simp only [Act.put, lay_out]
  refine wpAnyH_ready (rs := [6]) (by kernel_rfl) (by simp) (AllReadyH.cons rfl (fun K hK => ?_) AllReadyH.nil)
  rw [if_pos (by rfl)]
  refine wp_store_row 33 _ _ rfl (w.heap.size + 1) (wdV R) rfl rfl 33 _ (G2.out.bl 0 rfl) (by kernel_rfl) rfl (by kernel_rfl) ?_
  have G3 := hid (G2.out.row hM (wdV R))
  generalize y3.setRow (w.heap.size + 1) (wdV R) = y4 at *
  refine hK.out _ _ (G3.out.bl 1 rfl) (fun h3x => ?_)
  clear hK K
  try simp only [Act.put, lay_out]
  refine wpAnyH_done (by kernel_rfl) ?_ _
  refine NoPanic.normal ?_
  clear h0 h1x h2x h3x
  try simp only [Act.put, lay_out]
  go_wp2
  exact bodyPost_ret (results_cell_row (by rfl) _ _ (w.heap.size + 1) 33 (wdV R) (0, 0) _ rfl (G3.out.bl 0 rfl) Try.underlying33 rfl (by kernel_rfl)) rfl ⟨rfl, G3.out.fin⟩
set_option maxHeartbeats 3200000 in
theorem saddTold_any {Pm : World → Nat → Ms → (Nat → Prop) → Prop} (hM : Mach Pm) (b k : Nat) (S : Ms) (F : Nat → Prop) (A : Nat → Int) (c : Nat) (w : World) (hm : Pm w b S F) (hq : Bq k S) (hk : k + 10 ≤ 100000) (hA : Wb A) (hc : c < 2 ^ 64) :
    Calls Try.prog 32 #[.pointer (some ⟨b, 0, none⟩), .agg (wdV A), .int .u64 (c : Int)] w fun e w' => e = .returned (.agg (wdV (addR S 4 A c))) ∧ PmR Pm b (addS S 4 A c) F w w' := by
  obtain ⟨w1, hw1⟩ : ∃ w1, (w.alloc (.cells (wdV A) 33)).alloc (.cells #[.int .i64 0, .int .i64 0, .int .i64 0] 33) = w1 := ⟨_, rfl⟩
  have H1 : Hid (Ow Pm F w w1 b S [(w.heap.size + 1, Obj.cells #[.int .i64 0, .int .i64 0, .int .i64 0] 33 (0, 0)), (w.heap.size, Obj.cells (wdV A) 33 (0, 0))]) := hid (by
    have := ((Ow.start hm).new hM (wdV A) 33).new hM #[.int .i64 0, .int .i64 0, .int .i64 0] 33
    rw [hw1] at this
    simp only [sz_al] at this
    exact this)
  have h1 := opAd1_wf (i64k 4 (by decide) (by decide)) hc
  have HC : Hid (∀ w', Ow Pm F w w' b S [(w.heap.size + 1, Obj.cells #[.int .i64 0, .int .i64 0, .int .i64 0] 33 (0, 0)), (w.heap.size, Obj.cells (wdV A) 33 (0, 0))] → Calls Try.prog 53 #[.pointer (some ⟨b, 0, none⟩), .int .i64 0, .int .u64 (c : Int)] w' fun e w2 => e = .returned (.int .i64 (S.doR (opAd1 4 c))) ∧ Ow Pm F w w2 b (S.doS (opAd1 4 c) 0) [(w.heap.size + 1, Obj.cells #[.int .i64 0, .int .i64 0, .int .i64 0] 33 (0, 0)), (w.heap.size, Obj.cells (wdV A) 33 (0, 0))]) := hid (fun w' h' => h'.lift hM (fun F' hF => hM.told b k S F' 0 c w' hF hq (by omega) h1))
  have HD : Hid (∀ w', Ow Pm F w w' b (S.doS (opAd1 4 c) 0) [(w.heap.size + 1, Obj.cells #[.int .i64 0, .int .i64 0, .int .i64 0] 33 (0, 0)), (w.heap.size, Obj.cells (wdV A) 33 (0, 0))] → Calls Try.prog 59 #[.pointer (some ⟨b, 0, none⟩), .agg (wdV A), .int .i64 (S.doR (opAd1 4 c))] w' fun e w2 => e = .returned (.agg (wdV (addR S 4 A c))) ∧ Ow Pm F w w2 b (addS S 4 A c) [(w.heap.size + 1, Obj.cells #[.int .i64 0, .int .i64 0, .int .i64 0] 33 (0, 0)), (w.heap.size, Obj.cells (wdV A) 33 (0, 0))]) := hid (fun w' h' => h'.lift hM (fun F' hF => splus_any hM b (k + 1) _ F' A _ w' hF (hq.does h1 (by decide)) (by omega) hA (doR_bd hq (by omega) _)))
  have G0 := hid (H1.out.self hM ((Below.refl _ w1).drew))
  have HW := hid hw1
  clear hm hq hk hw1 hA hc h1
  generalize S.doR (opAd1 4 c) = r at *
  generalize S.doS (opAd1 4 c) 0 = S1 at *
  generalize addR S 4 A c = R at *
  generalize addS S 4 A c = S2 at *
  go_enter Try.func32, Try.ntmps32
  go_upto_region 1 with fail
  rw [HW.out]
  refine wp_region_noPanic ?_
  refine wp_region_held_drew (S := fun w' => w'.heap[w.heap.size]? = some (.cells (wdV A) 33 (0, 0))) (by kernel_rfl) (G0.out.bl 1 rfl) (fun h0 => ?_)
  generalize w1.drew = y1 at *
  refine wpAnyH_take (i := 0) (v := .pointer (some ⟨b, 0, none⟩)) rfl (by kernel_rfl) (by kernel_rfl) (by kernel_rfl) (fun _ _ _ h => h) (.inl ⟨by rfl, fun w hw => by clear hw; go_simp⟩) h0 ?_
  try simp only [Act.put, lay_out]
  refine wpAnyH_take (i := 1) (v := .agg (wdV A)) rfl (by kernel_rfl) (by kernel_rfl) (by kernel_rfl) (fun _ _ _ h => h) (yields_load_row (by rfl) 33 _ rfl w.heap.size 33 (wdV A) _ rfl (fun w h => h) Try.underlying33 rfl (by kernel_rfl)) h0 ?_
  try simp only [Act.put, lay_out]
  refine wpAnyH_take (i := 2) (v := .pointer (some ⟨b, 0, none⟩)) rfl (by kernel_rfl) (by kernel_rfl) (by kernel_rfl) (fun _ _ _ h => h) (.inl ⟨by rfl, fun w hw => by clear hw; go_simp⟩) h0 ?_
  try simp only [Act.put, lay_out]
  refine wpAnyH_take (i := 3) (v := .int .u64 (c : Int)) rfl (by kernel_rfl) (by kernel_rfl) (by kernel_rfl) (fun _ _ _ h => h) (.inl ⟨by rfl, fun w hw => by clear hw; go_simp⟩) h0 ?_
  try simp only [Act.put, lay_out]
  refine wpAnyH_ready (rs := [4]) (by kernel_rfl) (by simp) (AllReadyH.cons rfl (fun K hK => ?_) AllReadyH.nil)
  rw [if_pos (by rfl)]
  go_simp
  go_at_call 53
  (with_reducible refine (HC.out _ G0.out).mono ?_); rintro e y2 ⟨rfl, hp⟩
  have G1 := hid hp
  clear hp
  refine hK.out _ _ (G1.out.bl 1 rfl) (fun h1x => ?_)
  clear hK K
  try simp only [Act.put, lay_out]
  refine wpAnyH_ready (rs := [5]) (by kernel_rfl) (by simp) (AllReadyH.cons rfl (fun K hK => ?_) AllReadyH.nil)
  rw [if_pos (by rfl)]
  go_simp
  go_at_call 59
  (with_reducible refine (HD.out _ G1.out).mono ?_); rintro e y3 ⟨rfl, hp⟩
  have G2 := hid hp
  clear hp
  refine hK.out _ _ (G2.out.bl 1 rfl) (fun h2x => ?_)
  clear hK K
  try simp only [Act.put, lay_out]
  refine wpAnyH_ready (rs := [6]) (by kernel_rfl) (by simp) (AllReadyH.cons rfl (fun K hK => ?_) AllReadyH.nil)
  rw [if_pos (by rfl)]
  refine wp_store_row 33 _ _ rfl (w.heap.size + 1) (wdV R) rfl rfl 33 _ (G2.out.bl 0 rfl) (by kernel_rfl) rfl (by kernel_rfl) ?_
  have G3 := hid (G2.out.row hM (wdV R))
  generalize y3.setRow (w.heap.size + 1) (wdV R) = y4 at *
  refine hK.out _ _ (G3.out.bl 1 rfl) (fun h3x => ?_)
  clear hK K
  try simp only [Act.put, lay_out]
  refine wpAnyH_done (by kernel_rfl) ?_ _
  refine NoPanic.normal ?_
  clear h0 h1x h2x h3x
  try simp only [Act.put, lay_out]
  go_wp2
  exact bodyPost_ret (results_cell_row (by rfl) _ _ (w.heap.size + 1) 33 (wdV R) (0, 0) _ rfl (G3.out.bl 0 rfl) Try.underlying33 rfl (by kernel_rfl)) rfl ⟨rfl, G3.out.fin⟩
/-- What Encode's closure leaves, share by share. -/
def enSt (S : Ms) (j : Nat) : Ms := eaS (S.beginS 1) opRand 1 (j - 1)
def enU (S : Ms) (j : Nat) : Nat → Int := eaR (S.beginS 1) opRand 1 none3 (j - 1)
def enRg (S : Ms) : Nat → Int
  | 0 => -1
  | j + 1 => (eaS (S.beginS 1) opRand 1 j).doR (opRand (j + 1))
theorem enU_step (S : Ms) (j : Nat) : enU S (j + 1) = updI (enU S j) j (enRg S j) := by
  cases j with
  | zero =>
    funext i
    show none3 i = updI none3 0 (-1) i
    unfold updI none3
    split <;> rfl
  | succ j =>
    show updI (eaR (S.beginS 1) opRand 1 none3 j) (1 + j) ((eaS (S.beginS 1) opRand 1 j).doR (opRand (1 + j))) = updI (eaR (S.beginS 1) opRand 1 none3 j) (j + 1) ((eaS (S.beginS 1) opRand 1 j).doR (opRand (j + 1)))
    rw [Nat.add_comm 1 j]
set_option maxHeartbeats 6400000 in
theorem senc_any {Pm : World → Nat → Ms → (Nat → Prop) → Prop} (hM : Mach Pm) (b k : Nat) (S : Ms) (F : Nat → Prop) (x : Nat) (w : World) (hm : Pm w b S F) (hq : Bq k S) (hk : k + 10 ≤ 100000) (hn : S.n = 2 ∨ S.n = 3) (hx : x < 2 ^ 64) :
    Calls Try.prog 13 #[.pointer (some ⟨b, 0, none⟩), .int .u64 (x : Int)] w fun e w' => e = .returned (.agg (wdV (encR S))) ∧ PmR Pm b (encS S x) F w w' := by
  have hsb := sh_bd hn
  obtain ⟨n, hnn⟩ : ∃ n, S.sh = n := ⟨_, rfl⟩
  have hnI : S.n = (n : Int) := by unfold Ms.sh at hnn; omega
  have HQB : Hid (Bq k (S.beginS 1)) := hid (hq.begins 1)
  have HSQ : Hid (∀ m, m ≤ 3 → Bq (k + m) (eaS (S.beginS 1) opRand 1 m)) := hid (fun m hm => eaS_bq HQB.out 1 m (fun j hj => opRand_wf (by omega)))
  have HSN : Hid (∀ m, (eaS (S.beginS 1) opRand 1 m).n = (n : Int)) := hid (fun m => (eaS_n _ _ 1 m).trans ((beginS_n S 1).1.trans hnI))
  have HQE := hid (enS1_bq hq hn)
  have HOE := hid (opEn_wf hq hk hn)
  have HBG : Hid (∀ (bs : List (Nat × Obj)) (w' : World), Ow Pm F w w' b S bs → Calls Try.prog 39 #[.pointer (some ⟨b, 0, none⟩), .int .i64 1] w' fun e w2 => e = .returned (.tuple #[]) ∧ Ow Pm F w w2 b (S.beginS 1) bs) := hid (fun bs w' h' => h'.lift hM (fun F' hF => hM.begin_ b k S F' 1 w' hF hq (by omega)))
  have HEA : Hid (∀ (bs : List (Nat × Obj)) (w' : World), Ow Pm F w w' b (S.beginS 1) bs → (w.heap.size, Obj.cells #[.pointer (some ⟨b, 0, none⟩)] 24 (0, 0)) ∈ bs → Calls Try.prog 40 #[.pointer (some ⟨b, 0, none⟩), .func (.func 41) #[] #[.pointer (some ⟨w.heap.size, 0, none⟩)]] w' fun e w2 => e = .returned (.agg (wdV (enR1 S))) ∧ Ow Pm F w w2 b (enS1 S) bs) := hid (fun bs w' h' hb => by
    have e1 : enU S n = enR1 S := by unfold enU enR1; rw [hnn]
    have e2 : enSt S n = enS1 S := by unfold enSt enS1; rw [hnn]
    rw [← e1, ← e2]
    refine each_enc hM w.heap.size n k (enSt S) (enU S) (enRg S) h' (by omega) HQB.out (by omega) (HSN.out 0) rfl (fun j _ => enU_step S j) (fun j bs' w2 hj hs h2 => ?_)
    cases j with
    | zero => exact clo_enc0 hM _ h2
    | succ j =>
      have := clo_enc hM w.heap.size (j + 1) h2 (hs _ hb) (HSQ.out j (by omega)) (by omega) (by omega) (by omega)
      have e3 : enSt S (j + 1 + 1) = (eaS (S.beginS 1) opRand 1 j).doS (opRand (j + 1)) 0 := by
        show (eaS (S.beginS 1) opRand 1 j).doS (opRand (1 + j)) 0 = _
        rw [Nat.add_comm 1 j]
      rw [e3]
      exact this)
  have HCE : Hid (∀ (bs : List (Nat × Obj)) (w' : World), Ow Pm F w w' b (enS1 S) bs → Calls Try.prog 43 #[.pointer (some ⟨b, 0, none⟩), .int .u64 (x : Int), .int .i64 (enR1 S 1), .int .i64 (enR1 S 2)] w' fun e w2 => e = .returned (.int .i64 ((enS1 S).doR (opEn S))) ∧ Ow Pm F w w2 b ((enS1 S).doS (opEn S) x) bs) := hid (fun bs w' h' => h'.lift hM (fun F' hF => hM.key b (k + 2) (enS1 S) F' x (enR1 S 1) (enR1 S 2) w' hF HQE.out (by omega) HOE.out hx))
  have HEN : Hid (∀ (bs : List (Nat × Obj)) (w' : World), Ow Pm F w w' b ((enS1 S).doS (opEn S) x) bs → Calls Try.prog 44 #[.pointer (some ⟨b, 0, none⟩)] w' fun e w2 => e = .returned (.tuple #[]) ∧ Ow Pm F w w2 b (encS S x) bs) := hid (fun bs w' h' => h'.lift hM (fun F' hF => hM.end_ b (k + 2 + 1) ((enS1 S).doS (opEn S) x) F' w' hF (HQE.out.does HOE.out hx) (by omega)))
  have HR : Hid ((wdV (enR1 S)).setIfInBounds 0 (.int .i64 ((enS1 S).doR (opEn S))) = wdV (encR S)) := hid (wdV_upd (enR1 S) 0 _ (by omega))
  obtain ⟨w1, hw1⟩ : ∃ w1, (w.alloc (.cells #[.pointer (some ⟨b, 0, none⟩)] 24)).alloc (.cells #[.int .i64 0, .int .i64 0, .int .i64 0] 33) = w1 := ⟨_, rfl⟩
  have H1 : Hid (Ow Pm F w w1 b S [(w.heap.size + 1, Obj.cells #[.int .i64 0, .int .i64 0, .int .i64 0] 33 (0, 0)), (w.heap.size, Obj.cells #[.pointer (some ⟨b, 0, none⟩)] 24 (0, 0))]) := hid (by
    have := ((Ow.start hm).new hM #[.pointer (some ⟨b, 0, none⟩)] 24).new hM #[.int .i64 0, .int .i64 0, .int .i64 0] 33
    rw [hw1] at this
    simp only [sz_al] at this
    exact this)
  have c1 := row_c (i := 0) (u := .pointer (some ⟨b, 0, none⟩)) (H1.out.bl 1 rfl) rfl
  have HW := hid hw1
  clear hm hq hk hn hsb hnI hw1 hx HQE HOE HQB HSQ HSN
  generalize (enS1 S).doR (opEn S) = r at *
  generalize (enS1 S).doS (opEn S) x = S2 at *
  generalize encS S x = S3 at *
  generalize encR S = R at *
  generalize enS1 S = V at *
  generalize enR1 S = U at *
  go_enter Try.func13, Try.ntmps13
  go_upto_region 1 with fail
  rw [HW.out]
  go_upto_region 2 with (go_at_call 39; (with_reducible refine (HBG.out _ _ H1.out).mono ?_); rintro e w2 ⟨rfl, hb⟩; have H2 := hid hb; clear hb c1; have c1 := row_c (i := 0) (u := .pointer (some ⟨b, 0, none⟩)) (H2.out.bl 1 rfl) rfl)
  go_upto_region 3 with (go_at_call 40; (with_reducible refine (HEA.out _ _ H2.out (by simp)).mono ?_); rintro e w3 ⟨rfl, hb⟩; have H3 := hid hb; clear hb c1)
  have H4 := hid (H3.out.new hM (wdV U) 33)
  obtain ⟨g5, hg5⟩ : ∃ g5, w3.heap.size = g5 := ⟨_, rfl⟩
  rw [hg5] at H4
  generalize w3.alloc (.cells (wdV U) 33) = w4 at *
  rw [hg5]
  clear hg5
  have k0 := row_c (i := 0) (u := .pointer (some ⟨b, 0, none⟩)) (H4.out.bl 2 rfl) rfl
  have k1 := row_c (i := 1) (u := .int .i64 (U 1)) (H4.out.bl 0 rfl) rfl
  have k2 := row_c (i := 2) (u := .int .i64 (U 2)) (H4.out.bl 0 rfl) rfl
  go_upto_region 4 with (go_at_call 43; (with_reducible refine (HCE.out _ _ H4.out).mono ?_); rintro e y2 ⟨rfl, hp⟩; have G1 := hid hp; have c0 := row_c (i := 0) (u := .int .i64 (U 0)) (G1.out.bl 0 rfl) rfl; have f0 := frozen_of_row y2 g5 0 _ _ (G1.out.bl 0 rfl); clear hp k0 k1 k2)
  have G2 := hid (G1.out.cell hM 0 (.int .i64 r))
  rw [HR.out] at G2
  clear c0 f0
  generalize y2.setCell ⟨g5, 0, none⟩ (.int .i64 r) = y3 at *
  have k0 := row_c (i := 0) (u := .pointer (some ⟨b, 0, none⟩)) (G2.out.bl 2 rfl) rfl
  go_upto_region 5 with (go_at_call 44; (with_reducible refine (HEN.out _ _ G2.out).mono ?_); rintro e y4 ⟨rfl, hp⟩; have G3 := hid hp; clear hp k0)
  go_wp2_with (first
    | (refine step_load_row rfl 33 _ rfl g5 33 (wdV R) _ rfl (G3.out.bl 0 rfl) Try.underlying33 rfl (by kernel_rfl) ?_)
    | (refine step_store_row rfl 33 _ _ rfl (w.heap.size + 1) 33 _ (wdV R) rfl rfl (G3.out.bl 1 rfl) (by kernel_rfl) rfl (by kernel_rfl) ?_))
  have H8 := hid (G3.out.swap.row hM (wdV R))
  exact bodyPost_ret (results_cell_row (by rfl) _ _ (w.heap.size + 1) 33 (wdV R) (0, 0) _ rfl (H8.out.bl 0 rfl) Try.underlying33 rfl (by kernel_rfl)) rfl ⟨rfl, H8.out.fin⟩
/-- The program's functions of words meet the interface. -/
theorem shI {Pm : World → Nat → Ms → (Nat → Prop) → Prop} (hM : Mach Pm) : ShI Pm where
  enc b k S F x w := senc_any hM b k S F x w
  pub b k S F c w := spub_any hM b k S F c w
  told b k S F c w := stold_any hM b k S F c w
  xor b k S F A B w := sxor_any hM b k S F A B w
  not b k S F A w h hq hk _ hA := snot_any hM b k S F A w h hq (by omega) hA
  one b k S F K A c w := sone_any hM b k S F K A c w
  add b k S F A c w h hq hk _ hA hc := sadd_any hM b k S F A c w h hq hk hA hc
  addTold b k S F A c w h hq hk _ hA hc := saddTold_any hM b k S F A c w h hq hk hA hc
  value v vv L A w h hv := svalue_any v vv L A w h hv
end Go.Proofs.Ytdgkofnboeepbaa

/- General: a word of registers (a struct of an array of three ints), and a slice of words, that come in. No program is named. -/
namespace Go.Proofs.Ytdgkofnboeepbaa
open Go.ChangeShapes Go.WideShapes Go.ChangeAt Go.RowKit Go.Deep
set_option maxRecDepth 100000
theorem word_open {H : Type} {enc : TypeId × Value → H} {P : Program} {W : World} {held : Bool} {t ta ti : TypeId} {fs : Array Field} {base : Nat} {v : Value} {d : DataW H} {p : List MemPlace}
    (ht : P.underlying t = some (.struct fs)) (hfs : fs.toList.map (fun f => (f.type, f.offset)) = [(ta, 0)]) (ha : P.underlying ta = some (.array 3 ti)) (hi : P.underlying ti = some (.int .i64))
    (ci : P.cellsOf ti = 1) (ca : P.cellsOf ta = 3) (ct : P.cellsOf t = 3)
    (hv : Value.okWide P W .any base t v) (h : DataW.Trod enc P W 0 (fun _ => true) held t v d p) : ∃ A : Nat → Int, v = .agg (wdV A) := by
  obtain ⟨cells, rfl, hcs⟩ : ∃ cs, v = .agg cs ∧ cs.size = P.cellsOf t := by
    unfold Value.okWide at hv
    rw [ht] at hv
    obtain ⟨cs, h1, h2, _⟩ := hv
    exact ⟨cs, h1, h2⟩
  rw [ct] at hcs
  obtain ⟨l⟩ := cells
  match l, hcs with
  | [c0, c1, c2], _ =>
    obtain ⟨fuel, hf⟩ := h
    obtain ⟨xs, m, _, hx, _, hlen, hget⟩ := DataW.trod_struct ht hf
    have hfl : fs.size = 1 := by have := congrArg List.length hfs; simpa using this
    rw [hfl] at hlen
    obtain ⟨f, h1, h2, h3⟩ : ∃ f : Field, fs[0]? = some f ∧ f.type = ta ∧ f.offset = 0 := by
      have hq : (fs.toList.map (fun f => (f.type, f.offset)))[0]? = some (ta, 0) := by rw [hfs]; rfl
      rw [List.getElem?_map, Option.map_eq_some_iff] at hq
      obtain ⟨f, h1, h2⟩ := hq
      injection h2 with h3 h4
      exact ⟨f, by simpa using h1, h3, h4⟩
    match xs, hlen with
    | [y0], _ =>
      have g0 := hget 0 f h1
      rw [h2, h3, ca] at g0
      simp only [List.drop_zero, List.getElem?_cons_zero] at g0
      obtain ⟨d0, q0⟩ := y0
      obtain ⟨z0, z1, z2, n, hx', k0, k1, k2⟩ := trod_array3 (c0 := c0) (c1 := c1) (c2 := c2) ha ci g0
      obtain ⟨x0, e0, _, _⟩ := DataW.trod_int hi k0
      obtain ⟨x1, e1, _, _⟩ := DataW.trod_int hi k1
      obtain ⟨x2, e2, _, _⟩ := DataW.trod_int hi k2
      simp only [List.cons.injEq, and_true] at e0 e1 e2
      subst e0 e1 e2
      exact ⟨fun i => if i = 0 then x0 else if i = 1 then x1 else x2, rfl⟩
theorem wdL_of {zs : List Int} (h : ∀ z ∈ zs, (Lit.int .u64 z).wf = true) : zs = wdL (fun i => (nth zs i).toNat) zs.length ∧ ∀ i, i < zs.length → (nth zs i).toNat < 2 ^ 64 := by
  have hb : ∀ i, i < zs.length → 0 ≤ nth zs i ∧ nth zs i ≤ 18446744073709551615 := fun i hi => by
    rw [nth_of hi]; exact bounds_u64 (h _ (List.getElem_mem _))
  refine ⟨List.ext_getElem (by simp [wdL]) fun i h1 h2 => ?_, fun i hi => by have := hb i hi; omega⟩
  have := hb i h1
  rw [nth_of h1] at this
  simp only [wdL, List.getElem_map, List.getElem_range, nth_of h1]
  exact (Int.toNat_of_nonneg this.1).symm
/-- A slice of words that comes in. -/
theorem words_open {H : Type} {enc : TypeId × Value → H} {P : Program} {W : World} {held : Bool} {t e : TypeId} {base : Nat} {v : Value} {d : DataW H} {p : List MemPlace} {ts : List TypeId} {ds : List (DataW H)} {j : Nat}
    (ht : P.underlying t = some (.slice e)) (he : P.underlying e = some (.int .u64)) (hc : P.cellsOf e = 1) (hb : P.bytesOf e = 8)
    (hv : Value.okWide P W .any base t v) (h : DataW.Trod enc P W 0 (fun _ => true) held t v d p) (hlt : ∀ x ∈ p, x.block < W.heap.size)
    (hsz : (DataW.weightsEach P ts ds).all (· ≤ reachBytes) = true) (hj : ts[j]? = some t) (hd : ds[j]? = some d) :
    ∃ (tw : Nat → Nat) (TN : Nat), RdS .u64 W (fun g => g < W.heap.size) v (wdL tw TN) ∧ (∀ i, i < TN → tw i < 2 ^ 64) ∧ TN ≤ 17592186043904 := by
  obtain ⟨zs, ⟨a, cap, rfl, hl, hw, hp⟩, hcap⟩ := rd_open2 ht he hc hb hv h hlt hsz hj hd
  obtain ⟨hz, hbd⟩ := wdL_of hw
  have hc2 := hcap _ _ _ rfl
  have h8 : IntKind.u64.bits / 8 = 8 := rfl
  refine ⟨_, zs.length, hz ▸ ⟨a, cap, rfl, hc2.1, hc2.2, hl, hw, fun h0 => ?_⟩, hbd, by rw [h8] at hl; omega⟩
  obtain ⟨b, off, e1, e2, e3⟩ := hp h0
  exact ⟨b, off, e1, e2, e2, e3⟩
end Go.Proofs.Ytdgkofnboeepbaa
