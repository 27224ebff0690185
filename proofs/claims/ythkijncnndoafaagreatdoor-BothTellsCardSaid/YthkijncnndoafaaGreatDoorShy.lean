import Derived.Test.YthkijncnndoafaaGreatDoorProg
import Derived.Test.YthkijncnndoafaaGreatDoorShp
import Derived.Test.YthkijncnndoafaaGreatDoorWlm
import Derived.Test.YthkijncnndoafaaGreatDoorFrq
import Derived.Test.YthkijncnndoafaaGreatDoorSgw
namespace Go.Proofs.YthkijncnndoafaaGreatDoor
open Go.RowKit
set_option maxRecDepth 100000
theorem Ow.mem {Pm : World → Nat → Ms → (Nat → Prop) → Prop} {F0 : Nat → Prop} {w0 w : World} {b : Nat} {S : Ms} {bs : List (Nat × Obj)} (h : Ow Pm F0 w0 w b S bs) {n : Nat} {u : Obj} (hq : (n, u) ∈ bs) : w.heap[n]? = some u := (h.bx _ hq).2
set_option maxHeartbeats 1600000 in
theorem clo_pub {Pm : World → Nat → Ms → (Nat → Prop) → Prop} (hM : Mach Pm) {F0 : Nat → Prop} {w0 w : World} {b k : Nat} {S : Ms} {bs : List (Nat × Obj)} (p1 p2 p3 c j : Nat) (h : Ow Pm F0 w0 w b S bs) (h1 : (p1, Obj.cells #[.func (.func 42) #[.pointer (some ⟨b, 0, none⟩)] #[]] 71 (0, 0)) ∈ bs) (h2 : (p2, Obj.cells #[.int .u64 (c : Int)] 34 (0, 0)) ∈ bs) (h3 : (p3, Obj.cells #[.pointer (some ⟨b, 0, none⟩)] 26 (0, 0)) ∈ bs) (hq : Bq k S) (hk : k ≤ 1000000) (hc : c < 2 ^ 64) (hj : j ≤ 100) :
  Calls Tryz.prog 65 #[.int .i64 (j : Int), .pointer (some ⟨p1, 0, none⟩), .pointer (some ⟨p2, 0, none⟩), .pointer (some ⟨p3, 0, none⟩)] w fun e w2 => e = .returned (.int .i64 (S.doR (opCst 3 c j))) ∧ Ow Pm F0 w0 w2 b (S.doS (opCst 3 c j) 0) bs := by
 have c1 := row_c (i := 0) (u := .func (.func 42) #[.pointer (some ⟨b, 0, none⟩)] #[]) (h.mem h1) rfl
 have c2 := row_c (i := 0) (u := .int .u64 (c : Int)) (h.mem h2) rfl
 have c3 := row_c (i := 0) (u := .pointer (some ⟨b, 0, none⟩)) (h.mem h3) rfl
 by_cases h0 : 0 < j
 ·
  have e : opCst 3 c j = ⟨3, (j : Int), -1, -1, -1, 0⟩ := by unfold opCst; rw [if_neg (by omega)]
  have hwf : opwf ⟨3, (j : Int), -1, -1, -1, 0⟩ := ⟨i64c 3 (by decide) (by decide), by show _ ≤ (j : Int) ∧ (j : Int) ≤ _; omega, I64.m1, I64.m1, I64.m1, by show 0 < _; omega⟩
  rw [e]
  have HC : Hid (Calls Tryz.prog 42 #[.pointer (some ⟨b, 0, none⟩), .int .i64 (j : Int), .int .u64 0] w fun e w2 => e = .returned (.int .i64 (S.doR ⟨3, (j : Int), -1, -1, -1, 0⟩)) ∧ Ow Pm F0 w0 w2 b (S.doS ⟨3, (j : Int), -1, -1, -1, 0⟩ 0) bs) := hid (h.lift hM (fun F hF => hM.const_ b k S F (j : Int) 0 w hF hq hk hwf))
  have q0 : ((j : Int) == 0) = false := by simp; omega
  clear h h1 h2 h3 hq hk hc hj e hwf
  generalize S.doR ⟨3, (j : Int), -1, -1, -1, 0⟩ = r at *
  generalize S.doS ⟨3, (j : Int), -1, -1, -1, 0⟩ 0 = S1 at *
  go_enter Tryz.func65, Tryz.ntmps65
  go_wp2_with (go_at_call 42; (with_reducible refine HC.out.mono ?_); rintro e w2 ⟨rfl, hp⟩; have HP := hid hp; clear hp c1 c2 c3)
  go_ret
  exact ⟨rfl, HP.out⟩
 ·
  obtain rfl : j = 0 := by omega
  have e : opCst 3 c 0 = ⟨3, 0, -1, -1, -1, c⟩ := if_pos rfl
  have hwf : opwf ⟨3, 0, -1, -1, -1, c⟩ := ⟨i64c 3 (by decide) (by decide), i64c 0 (by decide) (by decide), I64.m1, I64.m1, I64.m1, by show c < _; omega⟩
  rw [e]
  have HC : Hid (Calls Tryz.prog 42 #[.pointer (some ⟨b, 0, none⟩), .int .i64 0, .int .u64 (c : Int)] w fun e w2 => e = .returned (.int .i64 (S.doR ⟨3, 0, -1, -1, -1, c⟩)) ∧ Ow Pm F0 w0 w2 b (S.doS ⟨3, 0, -1, -1, -1, c⟩ 0) bs) := hid (h.lift hM (fun F hF => hM.const_ b k S F 0 c w hF hq hk hwf))
  clear h h1 h2 h3 hq hk hc hj h0 e hwf
  generalize S.doR ⟨3, 0, -1, -1, -1, c⟩ = r at *
  generalize S.doS ⟨3, 0, -1, -1, -1, c⟩ 0 = S1 at *
  go_enter Tryz.func65, Tryz.ntmps65
  go_wp2_with (go_at_call 42; (with_reducible refine HC.out.mono ?_); rintro e w2 ⟨rfl, hp⟩; have HP := hid hp; clear hp c1 c2 c3)
  go_ret
  exact ⟨rfl, HP.out⟩
set_option maxHeartbeats 1600000 in
theorem clo_xor {Pm : World → Nat → Ms → (Nat → Prop) → Prop} (hM : Mach Pm) {F0 : Nat → Prop} {w0 w : World} {b k : Nat} {S : Ms} {bs : List (Nat × Obj)} (p1 p2 p3 j : Nat) (A B : Nat → Int) (h : Ow Pm F0 w0 w b S bs) (h1 : (p1, Obj.cells #[.pointer (some ⟨b, 0, none⟩)] 26 (0, 0)) ∈ bs) (h2 : (p2, Obj.cells (wdV A) 37 (0, 0)) ∈ bs) (h3 : (p3, Obj.cells (wdV B) 37 (0, 0)) ∈ bs) (hq : Bq k S) (hk : k ≤ 1000000) (hA : Wb A) (hB : Wb B) (hj : j < 3) :
  Calls Tryz.prog 84 #[.int .i64 (j : Int), .pointer (some ⟨p1, 0, none⟩), .pointer (some ⟨p2, 0, none⟩), .pointer (some ⟨p3, 0, none⟩)] w fun e w2 => e = .returned (.int .i64 (S.doR (opXor A B j))) ∧ Ow Pm F0 w0 w2 b (S.doS (opXor A B j) 0) bs := by
 have HC : Hid (∀ w', Ow Pm F0 w0 w' b S bs → Calls Tryz.prog 85 #[.pointer (some ⟨b, 0, none⟩), .int .i64 5, .int .i64 (j : Int), .int .i64 (A j), .int .i64 (B j)] w' fun e w2 => e = .returned (.int .i64 (S.doR (opXor A B j))) ∧ Ow Pm F0 w0 w2 b (S.doS (opXor A B j) 0) bs) := hid (fun w' h' => h'.lift hM (fun F hF => hM.two b k S F 5 (j : Int) (A j) (B j) w' hF hq hk (opXor_wf hA hB (by omega))))
 have M1 := hid h1
 have M2 := hid h2
 have M3 := hid h3
 have HJ := hid hj
 have j0 : (0 : Int) ≤ (j : Int) := by omega
 have j1 : (j : Int) < 3 := by omega
 have G0 := hid (h.self hM ((Below.refl _ w).drew))
 generalize S.doR (opXor A B j) = r at *
 generalize S.doS (opXor A B j) 0 = S1 at *
 clear h h1 h2 h3 hq hk hA hB hj
 go_enter Tryz.func84, Tryz.ntmps84
 go_wp2_with fail
 refine wp_region_noPanic ?_
 refine wp_region_held_drew (S := fun w' => w'.cell? ⟨p1, 0, none⟩ = some (.pointer (some ⟨b, 0, none⟩)) ∧ w'.cell? ⟨p2, j, none⟩ = some (.int .i64 (A j)) ∧ w'.cell? ⟨p3, j, none⟩ = some (.int .i64 (B j))) (by kernel_rfl) (⟨row_c (i := 0) (G0.out.mem M1.out) rfl, row_c (i := j) (G0.out.mem M2.out) (wdV_at A j HJ.out), row_c (i := j) (G0.out.mem M3.out) (wdV_at B j HJ.out)⟩) (fun h0 => ?_)
 generalize w.drew = y1 at *
 refine tK 0 (.pointer (some ⟨b, 0, none⟩)) rfl (.inl ⟨by rfl, fun w' hw => by have hc := hw.1; clear hw; go_simp⟩) h0 ?_
 try simp only [Act.put, lay_out]
 refine tK 1 (.int .i64 (j : Int)) rfl (.inl ⟨by rfl, fun w hw => by clear hw; go_simp⟩) h0 ?_
 try simp only [Act.put, lay_out]
 refine tK 2 (.int .i64 (j : Int)) rfl (.inl ⟨by rfl, fun w hw => by clear hw; go_simp⟩) h0 ?_
 try simp only [Act.put, lay_out]
 refine tK 3 (.pointer (some ⟨p2, 0, none⟩)) rfl (.inl ⟨by rfl, fun w hw => by clear hw; go_simp⟩) h0 ?_
 try simp only [Act.put, lay_out]
 refine tK 4 (.pointer (some ⟨p2, j, none⟩)) rfl (.inl ⟨by rfl, fun w hw => by clear hw; go_simp⟩) h0 ?_
 try simp only [Act.put, lay_out]
 refine tK 5 (.int .i64 (A j)) rfl (.inl ⟨by rfl, fun w' hw => by have hc := hw.2.1; clear hw; go_simp⟩) h0 ?_
 try simp only [Act.put, lay_out]
 refine tK 6 (.int .i64 (j : Int)) rfl (.inl ⟨by rfl, fun w hw => by clear hw; go_simp⟩) h0 ?_
 try simp only [Act.put, lay_out]
 refine tK 7 (.pointer (some ⟨p3, 0, none⟩)) rfl (.inl ⟨by rfl, fun w hw => by clear hw; go_simp⟩) h0 ?_
 try simp only [Act.put, lay_out]
 refine tK 8 (.pointer (some ⟨p3, j, none⟩)) rfl (.inl ⟨by rfl, fun w hw => by clear hw; go_simp⟩) h0 ?_
 try simp only [Act.put, lay_out]
 refine tK 9 (.int .i64 (B j)) rfl (.inl ⟨by rfl, fun w' hw => by have hc := hw.2.2; clear hw; go_simp⟩) h0 ?_
 try simp only [Act.put, lay_out]
 refine wpAnyH_ready (rs := [10]) (by kernel_rfl) (by simp) (AllReadyH.cons rfl (fun K hK => ?_) AllReadyH.nil)
 rw [if_pos (by rfl)]
 go_simp
 go_at_call 85
 (with_reducible refine (HC.out _ G0.out).mono ?_); rintro e w2 ⟨rfl, hp⟩
 have HP := hid hp
 clear hp
 refine hK.out _ _ (⟨row_c (i := 0) (HP.out.mem M1.out) rfl, row_c (i := j) (HP.out.mem M2.out) (wdV_at A j HJ.out), row_c (i := j) (HP.out.mem M3.out) (wdV_at B j HJ.out)⟩) (fun h1x => ?_)
 clear hK K
 try simp only [Act.put, lay_out]
 refine tK 11 (.int .i64 r) rfl (.inl ⟨by rfl, fun w hw => by clear hw; go_simp⟩) h1x ?_
 try simp only [Act.put, lay_out]
 refine wpAnyH_done (by kernel_rfl) ?_ _
 refine NoPanic.normal ?_
 clear h0 h1x
 try simp only [Act.put, lay_out]
 go_wp2
 go_ret
 exact ⟨rfl, HP.out⟩
set_option maxHeartbeats 1600000 in
theorem clo_one {Pm : World → Nat → Ms → (Nat → Prop) → Prop} (hM : Mach Pm) {F0 : Nat → Prop} {w0 w : World} {b k : Nat} {S : Ms} {bs : List (Nat × Obj)} (p1 p2 p3 p4 j : Nat) (K : Int) (A : Nat → Int) (c : Nat) (h : Ow Pm F0 w0 w b S bs) (h1 : (p1, Obj.cells #[.pointer (some ⟨b, 0, none⟩)] 26 (0, 0)) ∈ bs) (h2 : (p2, Obj.cells #[.int .i64 K] 3 (0, 0)) ∈ bs) (h3 : (p3, Obj.cells (wdV A) 37 (0, 0)) ∈ bs) (h4 : (p4, Obj.cells #[.int .u64 (c : Int)] 34 (0, 0)) ∈ bs) (hq : Bq k S) (hk : k ≤ 1000000) (hK : I64 K) (hA : Wb A) (hc : c < 2 ^ 64) (hj : j < 3) :
  Calls Tryz.prog 80 #[.int .i64 (j : Int), .pointer (some ⟨p1, 0, none⟩), .pointer (some ⟨p2, 0, none⟩), .pointer (some ⟨p3, 0, none⟩), .pointer (some ⟨p4, 0, none⟩)] w fun e w2 => e = .returned (.int .i64 (S.doR (opOne K A c j))) ∧ Ow Pm F0 w0 w2 b (S.doS (opOne K A c j) 0) bs := by
 have HC : Hid (∀ w', Ow Pm F0 w0 w' b S bs → Calls Tryz.prog 79 #[.pointer (some ⟨b, 0, none⟩), .int .i64 K, .int .i64 (j : Int), .int .i64 (A j), .int .u64 (c : Int)] w' fun e w2 => e = .returned (.int .i64 (S.doR (opOne K A c j))) ∧ Ow Pm F0 w0 w2 b (S.doS (opOne K A c j) 0) bs) := hid (fun w' h' => h'.lift hM (fun F hF => hM.one b k S F K (j : Int) (A j) c w' hF hq hk (opOne_wf hK hA hc (by omega))))
 have M1 := hid h1
 have M2 := hid h2
 have M3 := hid h3
 have M4 := hid h4
 have HJ := hid hj
 have j0 : (0 : Int) ≤ (j : Int) := by omega
 have j1 : (j : Int) < 3 := by omega
 have G0 := hid (h.self hM ((Below.refl _ w).drew))
 generalize S.doR (opOne K A c j) = r at *
 generalize S.doS (opOne K A c j) 0 = S1 at *
 clear h h1 h2 h3 h4 hq hk hA hc hK hj
 go_enter Tryz.func80, Tryz.ntmps80
 go_wp2_with fail
 refine wp_region_noPanic ?_
 refine wp_region_held_drew (S := fun w' => w'.cell? ⟨p1, 0, none⟩ = some (.pointer (some ⟨b, 0, none⟩)) ∧ w'.cell? ⟨p2, 0, none⟩ = some (.int .i64 K) ∧ w'.cell? ⟨p3, j, none⟩ = some (.int .i64 (A j)) ∧ w'.cell? ⟨p4, 0, none⟩ = some (.int .u64 (c : Int))) (by kernel_rfl) (⟨row_c (i := 0) (G0.out.mem M1.out) rfl, row_c (i := 0) (G0.out.mem M2.out) rfl, row_c (i := j) (G0.out.mem M3.out) (wdV_at A j HJ.out), row_c (i := 0) (G0.out.mem M4.out) rfl⟩) (fun h0 => ?_)
 generalize w.drew = y1 at *
 refine tK 0 (.pointer (some ⟨b, 0, none⟩)) rfl (.inl ⟨by rfl, fun w' hw => by have hc := hw.1; clear hw; go_simp⟩) h0 ?_
 try simp only [Act.put, lay_out]
 refine tK 1 (.int .i64 K) rfl (.inl ⟨by rfl, fun w' hw => by have hc := hw.2.1; clear hw; go_simp⟩) h0 ?_
 try simp only [Act.put, lay_out]
 refine tK 2 (.int .i64 (j : Int)) rfl (.inl ⟨by rfl, fun w hw => by clear hw; go_simp⟩) h0 ?_
 try simp only [Act.put, lay_out]
 refine tK 3 (.int .i64 (j : Int)) rfl (.inl ⟨by rfl, fun w hw => by clear hw; go_simp⟩) h0 ?_
 try simp only [Act.put, lay_out]
 refine tK 4 (.pointer (some ⟨p3, 0, none⟩)) rfl (.inl ⟨by rfl, fun w hw => by clear hw; go_simp⟩) h0 ?_
 try simp only [Act.put, lay_out]
 refine tK 5 (.pointer (some ⟨p3, j, none⟩)) rfl (.inl ⟨by rfl, fun w hw => by clear hw; go_simp⟩) h0 ?_
 try simp only [Act.put, lay_out]
 refine tK 6 (.int .i64 (A j)) rfl (.inl ⟨by rfl, fun w' hw => by have hc := hw.2.2.1; clear hw; go_simp⟩) h0 ?_
 try simp only [Act.put, lay_out]
 refine tK 7 (.int .u64 (c : Int)) rfl (.inl ⟨by rfl, fun w' hw => by have hc := hw.2.2.2; clear hw; go_simp⟩) h0 ?_
 try simp only [Act.put, lay_out]
 refine wpAnyH_ready (rs := [8]) (by kernel_rfl) (by simp) (AllReadyH.cons rfl (fun K hK => ?_) AllReadyH.nil)
 rw [if_pos (by rfl)]
 go_simp
 go_at_call 79
 (with_reducible refine (HC.out _ G0.out).mono ?_); rintro e w2 ⟨rfl, hp⟩
 have HP := hid hp
 clear hp
 refine hK.out _ _ (⟨row_c (i := 0) (HP.out.mem M1.out) rfl, row_c (i := 0) (HP.out.mem M2.out) rfl, row_c (i := j) (HP.out.mem M3.out) (wdV_at A j HJ.out), row_c (i := 0) (HP.out.mem M4.out) rfl⟩) (fun h1x => ?_)
 clear hK K
 try simp only [Act.put, lay_out]
 refine tK 9 (.int .i64 r) rfl (.inl ⟨by rfl, fun w hw => by clear hw; go_simp⟩) h1x ?_
 try simp only [Act.put, lay_out]
 refine wpAnyH_done (by kernel_rfl) ?_ _
 refine NoPanic.normal ?_
 clear h0 h1x
 try simp only [Act.put, lay_out]
 go_wp2
 go_ret
 exact ⟨rfl, HP.out⟩
open Go.RowKit
set_option maxRecDepth 100000
theorem run_index_wd (w : World) (A : Nat → Int) (m : Nat) (hm : m < 3) : (Instr.index 35 (.agg (wdV A)) (.int .i64 (m : Int))).run Tryz.prog w = .ok (.int .i64 (A m)) w := by
 have hs : Tryz.t3.size = 1 := rfl
 match m, hm with
 | 0, _ => simp [Instr.index, asIntOf, run_underlying Tryz.underlying35, part, run_underlying Tryz.underlying3, isAgg, go_sem, sizeOf, hs, wdV]
 | 1, _ => simp [Instr.index, asIntOf, run_underlying Tryz.underlying35, part, run_underlying Tryz.underlying3, isAgg, go_sem, sizeOf, hs, wdV]
 | 2, _ => simp [Instr.index, asIntOf, run_underlying Tryz.underlying35, part, run_underlying Tryz.underlying3, isAgg, go_sem, sizeOf, hs, wdV]
theorem step_index_wd {w : World} {ops : Array Oper} {rest : List Oper} {o : Oper} {a : Act} {Q : Exit → Act → World → Prop} (hgd : o.guard = none) (x y : Operand) (ho : o.op = .index 35 x y)
  (A : Nat → Int) (m : Nat) (hm : m < 3) (hx : a.eval x = .agg (wdV A)) (hy : a.eval y = .int .i64 (m : Int)) (k : wpList Tryz.prog ops Q rest (a.put o.dst (.int .i64 (A m))) w) : wpList Tryz.prog ops Q (o :: rest) a w :=
 wpList_plain hgd fun _ hK => by
  unfold Oper.wp execOp
  simp only [ho, hx, hy, Sem.run_bind, Sem.run_pure, Result.andThen_ok, run_index_wd w A m hm]
  exact hK _ _ k
set_option maxHeartbeats 3200000 in
theorem svalue_any (v : Value) (vv : Nat → Nat) (L : Nat) (A : Nat → Int) (w : World) (h : Rd .u64 w v (wdL vv L)) (hv : ∀ i, i < L → vv i < 2 ^ 64) :
  Calls Tryz.prog 25 #[v, .agg (wdV A)] w fun e w' => e = .returned (.int .u64 (vlN vv L A : Nat)) ∧ Below w.heap.size w w' := by
 obtain ⟨a, cap, rfl, hp⟩ := (rd_wr h).at_
 obtain ⟨w1, hw1⟩ : ∃ w1, w.alloc (.cells (wdV A) 37) = w1 := ⟨_, rfl⟩
 have HB1 : Hid (Below w.heap.size w w1) := hid (by rw [← hw1]; exact (Below.refl _ _).alloc (Nat.le_refl _) _)
 have HX1 : Hid (w1.heap[w.heap.size]? = some (.cells (wdV A) 37 (0, 0))) := hid (by rw [← hw1]; exact heap_alloc_new _ _)
 have HW1 := hid hw1
 have HP := hid hp
 have HV := hid (vlP_lt hv A)
 have HV2 := hid hv
 clear h hp hw1 hv
 go_enter Tryz.func25, Tryz.ntmps25
 go_upto_region 1 with fail
 rw [HW1.out]
 go_wp2_with (refine step_load_row rfl 35 _ rfl w.heap.size 37 (wdV A) _ rfl HX1.out Tryz.underlying35 rfl (by kernel_rfl) ?_)
 go_loopw [5, 10] (fun x i wr => ∃ m : Nat, m ≤ 3 ∧ i = .int .i64 m ∧ x = .int .u64 (vlP vv L A m : Nat) ∧ Below w1.heap.size w1 wr) (fun _ i _ => 3 - (intOf i).toNat)
 case atStart => exact ⟨0, by omega, rfl, rfl, Below.refl _ _⟩
 case round =>
  obtain ⟨m, hm, rfl, rfl, hI⟩ := hrel
  have HI := hid hI
  clear hI
  by_cases hlt : m < 3
  ·
   have j1 : (0 : Int) ≤ (m : Int) := by omega
   have j2 : (m : Int) < 3 := by omega
   have HL3 := hid hlt
   have HS : Hid (vlP vv L A (m + 1) = vlP vv L A m ^^^ wordAt vv L (A m)) := hid rfl
   have hxl := HV.out m
   by_cases h0 : A m < 0
   ·
    have q1 : decide (0 ≤ A m) = false := decide_eq_false (by omega)
    have hz : wordAt vv L (A m) = 0 := if_neg (by omega)
    have HE : Hid (vlP vv L A (m + 1) = vlP vv L A m) := hid (by rw [HS.out, hz, Nat.xor_zero])
    clear hz h0
    go_wp2_with (refine step_index_wd rfl _ _ rfl A m HL3.out rfl rfl ?_)
    go_roundw
    case rel => exact ⟨m + 1, by omega, by go_num, by rw [HE.out], HI.out⟩
    case measure => simp [intOf]; omega
   ·
    have q1 : decide (0 ≤ A m) = true := decide_eq_true (by omega)
    by_cases h1 : A m < (L : Int)
    ·
     obtain ⟨z, hz⟩ := Int.eq_ofNat_of_zero_le (by omega : 0 ≤ A m)
     have hzL : z < L := by omega
     obtain ⟨g, off, rfl, hg, hc⟩ := HP.out (by omega)
     have cz : wr.cell? ⟨g, off + z, none⟩ = some (.int .u64 (vv z : Int)) := tcell_self (hc z hzL) (HB1.out.trans (HI.out.mono HB1.out.size))
     have hw : wordAt vv L (A m) = vv z := by unfold wordAt; rw [if_pos ⟨by omega, h1⟩, hz]; simp
     have hvz := HV2.out z hzL
     have hx := wx64 hxl hvz
     have HE : Hid (vlP vv L A (m + 1) = vlP vv L A m ^^^ vv z) := hid (by rw [HS.out, hw])
     have HZ := hid hz
     rw [hz] at q1 h1
     clear hw hc h0 HS hz
     have c1 : (0 : Int) ≤ (z : Int) := by omega
     have c2 : (z : Int) < (L : Int) := by omega
     generalize vlP vv L A m ^^^ vv z = r at *
     generalize vlP vv L A m = y at *
     generalize vv z = u at *
     go_wp2_with (refine step_index_wd rfl _ _ rfl A m HL3.out rfl rfl ?_; rw [HZ.out])
     go_roundw
     case rel => exact ⟨m + 1, by omega, by go_num, by rw [HE.out], HI.out⟩
     case measure => simp [intOf]; omega
    ·
     have q2 : decide (A m < (L : Int)) = false := decide_eq_false h1
     have hz : wordAt vv L (A m) = 0 := if_neg (by omega)
     have HE : Hid (vlP vv L A (m + 1) = vlP vv L A m) := hid (by rw [HS.out, hz, Nat.xor_zero])
     clear hz h0 h1
     go_wp2_with (refine step_index_wd rfl _ _ rfl A m HL3.out rfl rfl ?_)
     go_roundw
     case rel => exact ⟨m + 1, by omega, by go_num, by rw [HE.out], HI.out⟩
     case measure => simp [intOf]; omega
  ·
   obtain rfl : m = 3 := by omega
   go_wp2
   go_ret
   exact ⟨rfl, HB1.out.trans (HI.out.mono HB1.out.size)⟩
open Go.RowKit
set_option maxRecDepth 100000
set_option maxHeartbeats 3200000 in
theorem salone_pub_any {Pm : World → Nat → Ms → (Nat → Prop) → Prop} (hM : Mach Pm) (b k : Nat) (S : Ms) (F : Nat → Prop) (c : Nat) (w : World) (hm : Pm w b S F) (hq : Bq k S) (hk : k + 10 ≤ 100000) (hn : S.n = 2 ∨ S.n = 3) (hc : c < 2 ^ 64) :
  Calls Tryz.prog 41 #[.pointer (some ⟨b, 0, none⟩), .func (.func 42) #[.pointer (some ⟨b, 0, none⟩)] #[], .int .u64 (c : Int)] w fun e w' => e = .returned (.agg (wdV (cstR S 3 c))) ∧ PmR Pm b (cstS S 3 c) F w w' := by
 have hsb := sh_bd hn
 obtain ⟨w1, hw1⟩ : ∃ w1, ((((w.alloc (.cells #[.pointer (some ⟨b, 0, none⟩)] 26)).alloc (.cells #[.func (.func 42) #[.pointer (some ⟨b, 0, none⟩)] #[]] 71)).alloc (.cells #[.int .u64 (c : Int)] 34)).alloc (.cells #[.int .i64 0, .int .i64 0, .int .i64 0] 37)) = w1 := ⟨_, rfl⟩
 have H1 : Hid (Ow Pm F w w1 b S [(w.heap.size + 1 + 1 + 1, Obj.cells #[.int .i64 0, .int .i64 0, .int .i64 0] 37 (0, 0)), (w.heap.size + 1 + 1, Obj.cells #[.int .u64 (c : Int)] 34 (0, 0)), (w.heap.size + 1, Obj.cells #[.func (.func 42) #[.pointer (some ⟨b, 0, none⟩)] #[]] 71 (0, 0)), (w.heap.size, Obj.cells #[.pointer (some ⟨b, 0, none⟩)] 26 (0, 0))]) := hid (by
  have := ((((Ow.start hm).new hM #[.pointer (some ⟨b, 0, none⟩)] 26).new hM #[.func (.func 42) #[.pointer (some ⟨b, 0, none⟩)] #[]] 71).new hM #[.int .u64 (c : Int)] 34).new hM #[.int .i64 0, .int .i64 0, .int .i64 0] 37
  rw [hw1] at this
  simp only [sz_al] at this
  exact this)
 have HSQ : Hid (∀ j, j ≤ 3 → Bq (k + j) (eaS S (opCst 3 c) 0 j)) := hid (fun j hj => eaS_bq hq 0 j (fun i hi => by rw [Nat.zero_add]; exact opCst_wf (i64k 3 (by decide) (by decide)) hc (by omega)))
 have HE := hid (each_alone hM (w.heap.size + 1) (w.heap.size + 1 + 1) (w.heap.size) S.sh k (eaS S (opCst 3 c) 0) (eaR S (opCst 3 c) 0 none3) (fun j => (eaS S (opCst 3 c) 0 j).doR ((opCst 3 c) j)) H1.out (by omega) hq (by omega) (by show S.n = _; unfold Ms.sh; omega) rfl (fun j _ => eaR_0 _ _ _ _)
  (fun j bs' w' hj hs h' => by rw [eaS_0]; exact clo_pub hM _ _ _ c j h' (hs _ (by simp)) (hs _ (by simp)) (hs _ (by simp)) (HSQ.out j (by omega)) (by omega) hc (by omega)))
 have c1 := row_c (i := 0) (u := .pointer (some ⟨b, 0, none⟩)) (H1.out.bl 3 rfl) rfl
 have HW := hid hw1
 have e1 : eaR S (opCst 3 c) 0 none3 S.sh = cstR S 3 c := rfl
 have e2 : eaS S (opCst 3 c) 0 S.sh = cstS S 3 c := rfl
 rw [e1, e2] at HE
 clear hm hq hk hn hw1 e1 e2 HSQ hsb
 generalize cstR S 3 c = R at *
 generalize cstS S 3 c = S1 at *
 go_enter Tryz.func41, Tryz.ntmps41
 go_upto_region 1 with fail
 rw [HW.out]
 go_wp2_with (first
  | (go_at_call 64; (with_reducible refine HE.out.mono ?_); rintro e w2 ⟨rfl, h2⟩; have H2 := hid h2; clear h2 c1)
  | (refine step_store_row rfl 37 _ _ rfl (w.heap.size + 1 + 1 + 1) 37 _ (wdV R) rfl rfl (H2.out.bl 0 rfl) (by kernel_rfl) rfl (by kernel_rfl) ?_))
 have H3 := hid (H2.out.row hM (wdV R))
 exact bodyPost_ret (results_cell_row (by rfl) _ _ (w.heap.size + 1 + 1 + 1) 37 (wdV R) (0, 0) _ rfl (H3.out.bl 0 rfl) Tryz.underlying37 rfl (by kernel_rfl)) rfl ⟨rfl, H3.out.fin⟩
set_option maxHeartbeats 3200000 in
theorem spub_any {Pm : World → Nat → Ms → (Nat → Prop) → Prop} (hM : Mach Pm) (b k : Nat) (S : Ms) (F : Nat → Prop) (c : Nat) (w : World) (hm : Pm w b S F) (hq : Bq k S) (hk : k + 10 ≤ 100000) (hn : S.n = 2 ∨ S.n = 3) (hc : c < 2 ^ 64) :
  Calls Tryz.prog 11 #[.pointer (some ⟨b, 0, none⟩), .int .u64 (c : Int)] w fun e w' => e = .returned (.agg (wdV (cstR S 3 c))) ∧ PmR Pm b (cstS S 3 c) F w w' := by
 obtain ⟨w1, hw1⟩ : ∃ w1, w.alloc (.cells #[.int .i64 0, .int .i64 0, .int .i64 0] 37) = w1 := ⟨_, rfl⟩
 have H1 : Hid (Ow Pm F w w1 b S [(w.heap.size, Obj.cells #[.int .i64 0, .int .i64 0, .int .i64 0] 37 (0, 0))]) := hid (by
  have := (Ow.start hm).new hM #[.int .i64 0, .int .i64 0, .int .i64 0] 37
  rw [hw1] at this
  exact this)
 have HE := hid (H1.out.lift hM (fun F' hF => salone_pub_any hM b k S F' c w1 hF hq hk hn hc))
 have HW := hid hw1
 have hmf : ∀ (fn : Fn) (first cap : Array Value) (w : World), (Instr.makeFunc fn first cap).run Tryz.prog w = .ok (.func fn first cap) w := fun _ _ _ _ => rfl
 clear hm hq hk hn hw1 hc
 generalize cstR S 3 c = R at *
 generalize cstS S 3 c = S1 at *
 go_enter Tryz.func11, Tryz.ntmps11
 go_upto_region 1 with fail
 rw [HW.out]
 go_wp2_with (first
  | (go_at_call 41; (with_reducible refine HE.out.mono ?_); rintro e w2 ⟨rfl, h2⟩; have H2 := hid h2; clear h2)
  | (refine step_store_row rfl 37 _ _ rfl w.heap.size 37 _ (wdV R) rfl rfl (H2.out.bl 0 rfl) (by kernel_rfl) rfl (by kernel_rfl) ?_))
 have H3 := hid (H2.out.row hM (wdV R))
 exact bodyPost_ret (results_cell_row (by rfl) _ _ w.heap.size 37 (wdV R) (0, 0) _ rfl (H3.out.bl 0 rfl) Tryz.underlying37 rfl (by kernel_rfl)) rfl ⟨rfl, H3.out.fin⟩
set_option maxHeartbeats 3200000 in
theorem sxor_any {Pm : World → Nat → Ms → (Nat → Prop) → Prop} (hM : Mach Pm) (b k : Nat) (S : Ms) (F : Nat → Prop) (A B : Nat → Int) (w : World) (hm : Pm w b S F) (hq : Bq k S) (hk : k + 10 ≤ 100000) (hn : S.n = 2 ∨ S.n = 3) (hA : Wb A) (hB : Wb B) :
  Calls Tryz.prog 60 #[.pointer (some ⟨b, 0, none⟩), .agg (wdV A), .agg (wdV B)] w fun e w' => e = .returned (.agg (wdV (xorR S A B))) ∧ PmR Pm b (xorS S A B) F w w' := by
 have hsb := sh_bd hn
 obtain ⟨w1, hw1⟩ : ∃ w1, ((((w.alloc (.cells #[.pointer (some ⟨b, 0, none⟩)] 26)).alloc (.cells (wdV A) 37)).alloc (.cells (wdV B) 37)).alloc (.cells #[.int .i64 0, .int .i64 0, .int .i64 0] 37)) = w1 := ⟨_, rfl⟩
 have H1 : Hid (Ow Pm F w w1 b S [(w.heap.size + 1 + 1 + 1, Obj.cells #[.int .i64 0, .int .i64 0, .int .i64 0] 37 (0, 0)), (w.heap.size + 1 + 1, Obj.cells (wdV B) 37 (0, 0)), (w.heap.size + 1, Obj.cells (wdV A) 37 (0, 0)), (w.heap.size, Obj.cells #[.pointer (some ⟨b, 0, none⟩)] 26 (0, 0))]) := hid (by
  have := ((((Ow.start hm).new hM #[.pointer (some ⟨b, 0, none⟩)] 26).new hM (wdV A) 37).new hM (wdV B) 37).new hM #[.int .i64 0, .int .i64 0, .int .i64 0] 37
  rw [hw1] at this
  simp only [sz_al] at this
  exact this)
 have HSQ : Hid (∀ j, j ≤ 3 → Bq (k + j) (eaS S (opXor A B) 0 j)) := hid (fun j hj => eaS_bq hq 0 j (fun i hi => by rw [Nat.zero_add]; exact opXor_wf hA hB (by omega)))
 have HE := hid (each_xor hM (w.heap.size) (w.heap.size + 1) (w.heap.size + 1 + 1) S.sh k (eaS S (opXor A B) 0) (eaR S (opXor A B) 0 none3) (fun j => (eaS S (opXor A B) 0 j).doR ((opXor A B) j)) H1.out (by omega) hq (by omega) (by show S.n = _; unfold Ms.sh; omega) rfl (fun j _ => eaR_0 _ _ _ _)
  (fun j bs' w' hj hs h' => by rw [eaS_0]; exact clo_xor hM _ _ _ j A B h' (hs _ (by simp)) (hs _ (by simp)) (hs _ (by simp)) (HSQ.out j (by omega)) (by omega) hA hB (by omega)))
 have c1 := row_c (i := 0) (u := .pointer (some ⟨b, 0, none⟩)) (H1.out.bl 3 rfl) rfl
 have HW := hid hw1
 have e1 : eaR S (opXor A B) 0 none3 S.sh = xorR S A B := rfl
 have e2 : eaS S (opXor A B) 0 S.sh = xorS S A B := rfl
 rw [e1, e2] at HE
 clear hm hq hk hn hw1 e1 e2 HSQ hsb
 generalize xorR S A B = R at *
 generalize xorS S A B = S1 at *
 go_enter Tryz.func60, Tryz.ntmps60
 go_upto_region 1 with fail
 rw [HW.out]
 go_wp2_with (first
  | (go_at_call 64; (with_reducible refine HE.out.mono ?_); rintro e w2 ⟨rfl, h2⟩; have H2 := hid h2; clear h2 c1)
  | (refine step_store_row rfl 37 _ _ rfl (w.heap.size + 1 + 1 + 1) 37 _ (wdV R) rfl rfl (H2.out.bl 0 rfl) (by kernel_rfl) rfl (by kernel_rfl) ?_))
 have H3 := hid (H2.out.row hM (wdV R))
 exact bodyPost_ret (results_cell_row (by rfl) _ _ (w.heap.size + 1 + 1 + 1) 37 (wdV R) (0, 0) _ rfl (H3.out.bl 0 rfl) Tryz.underlying37 rfl (by kernel_rfl)) rfl ⟨rfl, H3.out.fin⟩
set_option maxHeartbeats 3200000 in
theorem sone_any {Pm : World → Nat → Ms → (Nat → Prop) → Prop} (hM : Mach Pm) (b k : Nat) (S : Ms) (F : Nat → Prop) (K : Int) (A : Nat → Int) (c : Nat) (w : World) (hm : Pm w b S F) (hq : Bq k S) (hk : k + 10 ≤ 100000) (hn : S.n = 2 ∨ S.n = 3) (hK : I64 K) (hA : Wb A) (hc : c < 2 ^ 64) :
  Calls Tryz.prog 53 #[.pointer (some ⟨b, 0, none⟩), .int .i64 K, .agg (wdV A), .int .u64 (c : Int)] w fun e w' => e = .returned (.agg (wdV (oneR S K A c))) ∧ PmR Pm b (oneS S K A c) F w w' := by
 have hsb := sh_bd hn
 obtain ⟨w1, hw1⟩ : ∃ w1, (((((w.alloc (.cells #[.pointer (some ⟨b, 0, none⟩)] 26)).alloc (.cells #[.int .i64 K] 3)).alloc (.cells (wdV A) 37)).alloc (.cells #[.int .u64 (c : Int)] 34)).alloc (.cells #[.int .i64 0, .int .i64 0, .int .i64 0] 37)) = w1 := ⟨_, rfl⟩
 have H1 : Hid (Ow Pm F w w1 b S [(w.heap.size + 1 + 1 + 1 + 1, Obj.cells #[.int .i64 0, .int .i64 0, .int .i64 0] 37 (0, 0)), (w.heap.size + 1 + 1 + 1, Obj.cells #[.int .u64 (c : Int)] 34 (0, 0)), (w.heap.size + 1 + 1, Obj.cells (wdV A) 37 (0, 0)), (w.heap.size + 1, Obj.cells #[.int .i64 K] 3 (0, 0)), (w.heap.size, Obj.cells #[.pointer (some ⟨b, 0, none⟩)] 26 (0, 0))]) := hid (by
  have := (((((Ow.start hm).new hM #[.pointer (some ⟨b, 0, none⟩)] 26).new hM #[.int .i64 K] 3).new hM (wdV A) 37).new hM #[.int .u64 (c : Int)] 34).new hM #[.int .i64 0, .int .i64 0, .int .i64 0] 37
  rw [hw1] at this
  simp only [sz_al] at this
  exact this)
 have HSQ : Hid (∀ j, j ≤ 3 → Bq (k + j) (eaS S (opOne K A c) 0 j)) := hid (fun j hj => eaS_bq hq 0 j (fun i hi => by rw [Nat.zero_add]; exact opOne_wf hK hA hc (by omega)))
 have HE := hid (each_one hM (w.heap.size) (w.heap.size + 1) (w.heap.size + 1 + 1) (w.heap.size + 1 + 1 + 1) S.sh k (eaS S (opOne K A c) 0) (eaR S (opOne K A c) 0 none3) (fun j => (eaS S (opOne K A c) 0 j).doR ((opOne K A c) j)) H1.out (by omega) hq (by omega) (by show S.n = _; unfold Ms.sh; omega) rfl (fun j _ => eaR_0 _ _ _ _)
  (fun j bs' w' hj hs h' => by rw [eaS_0]; exact clo_one hM _ _ _ _ j K A c h' (hs _ (by simp)) (hs _ (by simp)) (hs _ (by simp)) (hs _ (by simp)) (HSQ.out j (by omega)) (by omega) hK hA hc (by omega)))
 have c1 := row_c (i := 0) (u := .pointer (some ⟨b, 0, none⟩)) (H1.out.bl 4 rfl) rfl
 have HW := hid hw1
 have e1 : eaR S (opOne K A c) 0 none3 S.sh = oneR S K A c := rfl
 have e2 : eaS S (opOne K A c) 0 S.sh = oneS S K A c := rfl
 rw [e1, e2] at HE
 clear hm hq hk hn hw1 e1 e2 HSQ hsb
 generalize oneR S K A c = R at *
 generalize oneS S K A c = S1 at *
 go_enter Tryz.func53, Tryz.ntmps53
 go_upto_region 1 with fail
 rw [HW.out]
 go_wp2_with (first
  | (go_at_call 64; (with_reducible refine HE.out.mono ?_); rintro e w2 ⟨rfl, h2⟩; have H2 := hid h2; clear h2 c1)
  | (refine step_store_row rfl 37 _ _ rfl (w.heap.size + 1 + 1 + 1 + 1) 37 _ (wdV R) rfl rfl (H2.out.bl 0 rfl) (by kernel_rfl) rfl (by kernel_rfl) ?_))
 have H3 := hid (H2.out.row hM (wdV R))
 exact bodyPost_ret (results_cell_row (by rfl) _ _ (w.heap.size + 1 + 1 + 1 + 1) 37 (wdV R) (0, 0) _ rfl (H3.out.bl 0 rfl) Tryz.underlying37 rfl (by kernel_rfl)) rfl ⟨rfl, H3.out.fin⟩
set_option maxHeartbeats 3200000 in
theorem snot_any {Pm : World → Nat → Ms → (Nat → Prop) → Prop} (hM : Mach Pm) (b k : Nat) (S : Ms) (F : Nat → Prop) (A : Nat → Int)  (w : World) (hm : Pm w b S F) (hq : Bq k S) (hk : k + 10 ≤ 1000000) (hA : Wb A)  :
  Calls Tryz.prog 50 #[.pointer (some ⟨b, 0, none⟩), .agg (wdV A)] w fun e w' => e = .returned (.agg (wdV (notR S A))) ∧ PmR Pm b (notS S A) F w w' := by
 obtain ⟨w1, hw1⟩ : ∃ w1, (w.alloc (.cells (wdV A) 37)).alloc (.cells #[.int .i64 0, .int .i64 0, .int .i64 0] 37) = w1 := ⟨_, rfl⟩
 have H1 : Hid (Ow Pm F w w1 b S [(w.heap.size, Obj.cells (wdV A) 37 (0, 0)), (w.heap.size + 1, Obj.cells #[.int .i64 0, .int .i64 0, .int .i64 0] 37 (0, 0))]) := hid (by
  have := (((Ow.start hm).new hM (wdV A) 37).new hM #[.int .i64 0, .int .i64 0, .int .i64 0] 37).swap
  rw [hw1] at this
  simp only [sz_al] at this
  exact this)
 have HC : Hid (Calls Tryz.prog 79 #[.pointer (some ⟨b, 0, none⟩), .int .i64 6, .int .i64 0, .int .i64 (A 0), .int .u64 0] w1 fun e w2 => e = .returned (.int .i64 (S.doR (opNot A))) ∧ Ow Pm F w w2 b (notS S A) [(w.heap.size, Obj.cells (wdV A) 37 (0, 0)), (w.heap.size + 1, Obj.cells #[.int .i64 0, .int .i64 0, .int .i64 0] 37 (0, 0))]) := hid (H1.out.lift hM (fun F' hF => hM.one b k S F' 6 0 (A 0) 0 w1 hF hq (by omega) (opNot_wf hA)))
 have c0 := row_c (i := 0) (u := .int .i64 (A 0)) (H1.out.bl 0 rfl) rfl
 have HR : Hid ((wdV A).setIfInBounds 0 (.int .i64 (S.doR (opNot A))) = wdV (notR S A)) := hid (wdV_upd A 0 _ (by omega))
 have HW := hid hw1
 clear hm hq hk hw1 hA
 generalize notR S A = R at *
 generalize S.doR (opNot A) = r at *
 generalize notS S A = S1 at *
 go_enter Tryz.func50, Tryz.ntmps50
 go_upto_region 1 with fail
 rw [HW.out]
 go_upto_region 2 with (go_at_call 79; (with_reducible refine HC.out.mono ?_); rintro e w2 ⟨rfl, h2⟩; have H2 := hid h2; have d0 := row_c (i := 0) (u := .int .i64 (A 0)) (H2.out.bl 0 rfl) rfl; have f0 := frozen_of_row w2 w.heap.size 0 _ _ (H2.out.bl 0 rfl); clear h2 c0)
 have H3 := hid (H2.out.cell hM 0 (.int .i64 r))
 rw [HR.out] at H3
 generalize w2.setCell ⟨w.heap.size, 0, none⟩ (.int .i64 r) = w3 at *
 go_wp2_with (first
  | (refine step_load_row rfl 37 _ rfl w.heap.size 37 (wdV R) _ rfl (H3.out.bl 0 rfl) Tryz.underlying37 rfl (by kernel_rfl) ?_)
  | (refine step_store_row rfl 37 _ _ rfl (w.heap.size + 1) 37 _ (wdV R) rfl rfl (H3.out.bl 1 rfl) (by kernel_rfl) rfl (by kernel_rfl) ?_))
 have H4 := hid (H3.out.swap.row hM (wdV R))
 exact bodyPost_ret (results_cell_row (by rfl) _ _ (w.heap.size + 1) 37 (wdV R) (0, 0) _ rfl (H4.out.bl 0 rfl) Tryz.underlying37 rfl (by kernel_rfl)) rfl ⟨rfl, H4.out.fin⟩
theorem shI {Pm : World → Nat → Ms → (Nat → Prop) → Prop} (hM : Mach Pm) : ShI Pm where
 pub b k S F c w := spub_any hM b k S F c w
 xor b k S F A B w := sxor_any hM b k S F A B w
 not b k S F A w h hq hk _ hA := snot_any hM b k S F A w h hq (by omega) hA
 one b k S F K A c w := sone_any hM b k S F K A c w
 value v vv L A w h hv := have _ := hM; svalue_any v vv L A w h hv
open Go.RowKit
set_option maxRecDepth 100000
theorem step_load_row_want {P : Program} {w : World} {ops : Array Oper} {rest : List Oper} {o : Oper} {a : Act} {Q : Exit → Act → World → Prop} (hgw : Region.wanted o (yielded ops a.tmps) = true) (ty : TypeId) (x : Operand) (ho : o.op = .load ty x)
  (b : Nat) (t : TypeId) (cs : Array Value) (d : TypeDesc) (hx : a.eval x = .pointer (some ⟨b, 0, none⟩)) (hA : w.heap[b]? = some (.cells cs t (0, 0))) (hu : P.underlying ty = some d) (hag : (match d with | .struct _ | .array _ _ => true | _ => false) = true) (hi : (P.info? ty).map (·.size) = some cs.size)
  (k : wpList P ops Q rest (a.put o.dst (.agg cs)) w) : wpList P ops Q (o :: rest) a w :=
 wpList_step fun K hK => by
  rw [if_pos hgw]
  unfold Oper.wp execOp
  simp only [ho, hx, Instr.loadAt, Instr.sureAddr, Sem.run_bind, Sem.run_pure, Result.andThen_ok, run_loadVar_row w b t ty cs (0, 0) d hA hu hag hi]
  exact hK _ _ k
theorem exec_neWd {w : World} {o : Oper} {a : Act} (u v : Operand) (ho : o.op = .binOp .neq 37 u v 37) (W : Nat → Int) (hx : a.eval u = .agg (wdV W)) (hy : a.eval v = .agg (wdV W)) :
  (execOp a.eval o).run Tryz.prog w = .ok (.value (.bool false)) w := by
 have heq := fun w => eqWd W W w
 have hguard : Tryz.prog.eqGuardType Tryz.prog.depth 37 = false := by kernel_rfl
 have hd : decide (W 0 = W 0 ∧ W 1 = W 1 ∧ W 2 = W 2) = true := decide_eq_true ⟨rfl, rfl, rfl⟩
 rw [hd] at heq
 clear hd
 unfold execOp
 rw [ho]
 simp only [hx, hy]
 generalize wdV W = A at *
 go_simp
theorem wpList_neWd {w : World} {ops : Array Oper} {rest : List Oper} {o : Oper} {a : Act} {Q : Exit → Act → World → Prop} (hgw : Region.wanted o (yielded ops a.tmps) = true) (u v : Operand) (ho : o.op = .binOp .neq 37 u v 37) (W : Nat → Int) (hx : a.eval u = .agg (wdV W)) (hy : a.eval v = .agg (wdV W))
  (h : wpList Tryz.prog ops Q rest (a.put o.dst (.bool false)) w) : wpList Tryz.prog ops Q (o :: rest) a w :=
 wpList_step fun K hK => by
  rw [if_pos hgw]
  unfold Oper.wp
  rw [exec_neWd u v ho W hx hy]
  exact hK _ _ h
theorem Pv.bz {Pm : World → Nat → Ms → (Nat → Prop) → Prop} {lo : Nat} {X : Nat → Prop} {W w : World} {p b : Nat} {S1 S2 : Ms} (h : Pv W) (hl : gpair < lo) (hz : Bz Pm lo X W w p b S1 S2) : Pv w := h.stays hz.low.size (hz.low.block _ hl)
section
variable {Pm : World → Nat → Ms → (Nat → Prop) → Prop} (hM : Mach Pm) {lo : Nat} {X : Nat → Prop} {W w : World} {b bd k : Nat} {S S2 : Ms}
include hM
theorem qfull (A : Nat → Int) (h : Bz Pm lo X W w b bd S S2) (hp : Pv w) (hl : gpair < lo) (hq : Bq k S) (hk : k + 20 ≤ 100000) (hn : S.n = 2 ∨ S.n = 3) (hA : Wb A) :
  Calls Tryz.prog 47 #[.pointer (some ⟨b, 0, none⟩), .agg (wdV A)] w fun e w' => e = .returned (.agg (wdV (frR S false A))) ∧ Bz Pm lo X W w' b bd (frS S false A) S2 ∧ ∀ k, X k → w'.heap[k]? = w.heap[k]? := by
 obtain ⟨F, G, ov, bv, vv, tv, h1, h2, h3, h4, h5, h6, h7⟩ := h
 exact (ffull_any hM b k S F A w h1 hp (fun e => by have := (h3 _ e).1; omega) hq hk hn hA).mono fun e w' hr => ⟨hr.1, Bz.prog hM h1 h2 h3 h4 h5 h6 h7 hr.2⟩
theorem yfull (A : Nat → Int) (h : Bz Pm lo X W w b bd S2 S) (hq : Bq k S) (hk : k + 20 ≤ 100000) (hn : S.n = 2 ∨ S.n = 3) (hA : Wb A) :
  Calls Tryz.prog 49 #[.pointer (some ⟨bd, 0, none⟩), .agg (wdV A)] w fun e w' => e = .returned (.agg (wdV (frR S false A))) ∧ Bz Pm lo X W w' b bd S2 (frS S false A) ∧ ∀ k, X k → w'.heap[k]? = w.heap[k]? :=
 Bz.docs hM h (fun _ _ h0 => dfull_any A h0 hq hk hn hA)
end

structure Wt (S : Ms) : Prop where
 skip : S.skip = 0
 dry : S.dry = false
 n : S.n = 2 ∨ S.n = 3
theorem Wt.ext {S S' : Ms} (h : Wt S) (x : Ext S S') : Wt S' := ⟨x.skip.trans h.skip, x.dry.trans h.dry, by rw [x.n]; exact h.n⟩
structure Sf (S : Ms) (A : Nat → Int) (x : Nat) : Prop where
 gw : Gw S A
 vl : vlN S.v S.L A = x
theorem Sf.ext {S S' : Ms} {A : Nat → Int} {x : Nat} (h : Sf S A x) (k : Ext S S') : Sf S' A x := ⟨h.gw.ext k, (vl_ext k (fun i hi => h.gw.lt i hi)).trans h.vl⟩
theorem Sf.lt {S : Ms} {A : Nat → Int} {x k : Nat} (h : Sf S A x) (hq : Bq k S) : x < 2 ^ 64 := h.vl ▸ vlP_lt hq.v A 3
theorem blk_e {S : Ms} {kd : Int} {op : Nat → (Nat → Int) → Op6} {m : Nat} (h : (blkS S kd op m).e = 0) : S.e = 0 := (beginS_e (sq_e (endS_e h).1 0 (Nat.zero_le _))).1
theorem nt_e {S : Ms} {A : Nat → Int} (h : (notS S A).e = 0) : S.e = 0 := (do_ok h).1
theorem wnt_and {x y : Nat} (hx : x < 2 ^ 64) (hy : y < 2 ^ 64) : wnt (wnt x &&& wnt y) = x ||| y :=
 word_ext (wnt_lt _) (Nat.or_lt_two_pow hx hy) fun j hj => by
  rw [wnt_bit (Nat.lt_of_le_of_lt Nat.and_le_left (wnt_lt _)) hj, Nat.testBit_and, wnt_bit hx hj, wnt_bit hy hj, Nat.testBit_or]
  cases x.testBit j <;> cases y.testBit j <;> rfl
theorem nt_sf {S : Ms} {A : Nat → Int} {x k : Nat} (W : Wt S) (hq : Bq k S) (hA : Sf S A x) (h : (notS S A).e = 0) : Sf (notS S A) (notR S A) (wnt x) ∧ S.e = 0 := by
 obtain ⟨h1, h2⟩ := not_vl h W.skip W.n hq.v hA.gw
 exact ⟨⟨h2, by rw [h1, hA.vl]⟩, (do_ok h).1⟩
theorem cs_sf {S : Ms} {c : Nat} (W : Wt S) (h : (cstS S 3 c).e = 0) : Sf (cstS S 3 c) (cstR S 3 c) c ∧ S.e = 0 := by
 obtain ⟨h1, h2⟩ := cst_vl h W.skip W.n (.inl rfl)
 exact ⟨⟨h2, h1⟩, eaS_e h 0 (Nat.zero_le _)⟩
theorem notR_wb {k : Nat} {S : Ms} (h : Bq k S) (hk : k ≤ 1000000) {A : Nat → Int} (hA : Wb A) : Wb (notR S A) := hA.upd (doR_bd h hk _)
theorem oneR_wb {k : Nat} {S : Ms} (h : Bq k S) (hk : k + 10 ≤ 1000000) (hn : S.n = 2 ∨ S.n = 3) {K : Int} (hK : I64 K) {A : Nat → Int} (hA : Wb A) {c : Nat} (hc : c < 2 ^ 64) : Wb (oneR S K A c) := by
 have := sh_bd hn
 exact eaR_wb h 0 none3_wb _ (fun j hj => opOne_wf hK hA hc (by omega)) (by omega)
theorem cstR_wb {k : Nat} {S : Ms} (h : Bq k S) (hk : k + 10 ≤ 1000000) (hn : S.n = 2 ∨ S.n = 3) {K : Int} (hK : I64 K) {c : Nat} (hc : c < 2 ^ 64) : Wb (cstR S K c) := by
 have := sh_bd hn
 exact eaR_wb h 0 none3_wb _ (fun j hj => opCst_wf hK hc (by omega)) (by omega)
theorem notS_ext (S : Ms) (A : Nat → Int) : Ext S (notS S A) := doS_ext _ _ _
theorem oneS_ext (S : Ms) (K : Int) (A : Nat → Int) (c : Nat) : Ext S (oneS S K A c) := eaS_ext _ _ _ _
theorem cstS_ext (S : Ms) (K : Int) (c : Nat) : Ext S (cstS S K c) := eaS_ext _ _ _ _
def baS (S : Ms) (dom : Bool) (A B : Nat → Int) : Ms := tmS (frS S false B) dom A (frR S false B)
def baR (S : Ms) (dom : Bool) (A B : Nat → Int) : Nat → Int := tmR (frS S false B) dom A (frR S false B)
theorem baS_ext (S : Ms) (dom : Bool) (A B : Nat → Int) : Ext S (baS S dom A B) := (frS_ext _ _ _).trans (tmS_ext _ _ _ _)
section
variable {S : Ms} {k : Nat} {dom : Bool} {A B : Nat → Int} {x y : Nat}
theorem ba_bq (h : Bq k S) (hk : k + 40 ≤ 1000000) (hA : Wb A) (hB : Wb B) : Bq (k + 35) (baS S dom A B) ∧ Wb (baR S dom A B) := by
 have h1 := frS_bq h (by omega) (sm := false) hB
 have h2 := frR_wb h (by omega) (sm := false) hB
 exact ⟨tmS_bq h1 (by omega) hA h2, tmR_wb h1 (by omega) hA h2⟩
theorem ba_sf (W : Wt S) (hA : Sf S A x) (hB : Sf S B y) (h : (baS S dom A B).e = 0) : Sf (baS S dom A B) (baR S dom A B) (x &&& y) ∧ S.e = 0 := by
 have hX := frS_ext S false B
 have e1 : (frS S false B).e = 0 := blk_e h
 obtain ⟨v1, g1⟩ := fr_vl W.skip W.dry W.n hB.gw e1
 have W1 := W.ext hX
 obtain ⟨v2, g2⟩ := tm_vl W1.skip W1.dry W1.n (hA.ext hX).gw g1 h
 refine ⟨⟨g2, ?_⟩, blk_e e1⟩
 unfold baS baR
 rw [v2, v1, (hA.ext hX).vl, hB.vl]
theorem ba_e (h : (baS S dom A B).e = 0) : S.e = 0 := blk_e (blk_e h)
def blS (S : Ms) (dom : Bool) (A B : Nat → Int) : Ms := baS (notS S A) dom (notR S A) B
def blR (S : Ms) (dom : Bool) (A B : Nat → Int) : Nat → Int := baR (notS S A) dom (notR S A) B
theorem blS_ext (S : Ms) (dom : Bool) (A B : Nat → Int) : Ext S (blS S dom A B) := (notS_ext _ _).trans (baS_ext _ _ _ _)
theorem bl_bq (h : Bq k S) (hk : k + 50 ≤ 1000000) (hA : Wb A) (hB : Wb B) : Bq (k + 41) (blS S dom A B) ∧ Wb (blR S dom A B) :=
 ba_bq (notS_bq h hA) (by omega) (notR_wb h (by omega) hA) hB
theorem bl_sf (W : Wt S) (hq : Bq k S) (hA : Sf S A x) (hB : Sf S B y) (h : (blS S dom A B).e = 0) : Sf (blS S dom A B) (blR S dom A B) (wnt x &&& y) ∧ S.e = 0 := by
 have hX := notS_ext S A
 have e0 : (notS S A).e = 0 := ba_e h
 obtain ⟨a1, a2⟩ := nt_sf W hq hA e0
 exact ⟨(ba_sf (W.ext hX) a1 (hB.ext hX) h).1, a2⟩
def boS2 (S : Ms) (A B : Nat → Int) : Ms := notS (notS S A) B
def boS3 (S : Ms) (dom : Bool) (A B : Nat → Int) : Ms := baS (boS2 S A B) dom (notR S A) (notR (notS S A) B)
def boR3 (S : Ms) (dom : Bool) (A B : Nat → Int) : Nat → Int := baR (boS2 S A B) dom (notR S A) (notR (notS S A) B)
def boS (S : Ms) (dom : Bool) (A B : Nat → Int) : Ms := notS (boS3 S dom A B) (boR3 S dom A B)
def boR (S : Ms) (dom : Bool) (A B : Nat → Int) : Nat → Int := notR (boS3 S dom A B) (boR3 S dom A B)
theorem boS2_ext (S : Ms) (A B : Nat → Int) : Ext S (boS2 S A B) := (notS_ext _ _).trans (notS_ext _ _)
theorem boS3_ext (S : Ms) (dom : Bool) (A B : Nat → Int) : Ext S (boS3 S dom A B) := (boS2_ext _ _ _).trans (baS_ext _ _ _ _)
theorem boS_ext (S : Ms) (dom : Bool) (A B : Nat → Int) : Ext S (boS S dom A B) := (boS3_ext _ _ _ _).trans (notS_ext _ _)
theorem bo2_bq (h : Bq k S) (hk : k + 60 ≤ 1000000) (hA : Wb A) (hB : Wb B) : Bq (k + 12) (boS2 S A B) ∧ Wb (notR S A) ∧ Wb (notR (notS S A) B) ∧ Bq (k + 6) (notS S A) := by
 have h1 := notS_bq h hA
 exact ⟨notS_bq h1 hB, notR_wb h (by omega) hA, notR_wb h1 (by omega) hB, h1⟩
theorem bo3_bq (h : Bq k S) (hk : k + 60 ≤ 1000000) (hA : Wb A) (hB : Wb B) : Bq (k + 47) (boS3 S dom A B) ∧ Wb (boR3 S dom A B) := by
 obtain ⟨h1, h2, h3, _⟩ := bo2_bq h hk hA hB
 exact ba_bq h1 (by omega) h2 h3
theorem bo_bq (h : Bq k S) (hk : k + 60 ≤ 1000000) (hA : Wb A) (hB : Wb B) : Bq (k + 53) (boS S dom A B) ∧ Wb (boR S dom A B) := by
 obtain ⟨h1, h2⟩ := bo3_bq (dom := dom) h hk hA hB
 exact ⟨notS_bq h1 h2, notR_wb h1 (by omega) h2⟩
theorem bo_e (h : (boS S dom A B).e = 0) : S.e = 0 := by
 have e3 : (boS3 S dom A B).e = 0 := nt_e h
 have e2 : (boS2 S A B).e = 0 := ba_e e3
 have e1 : (notS S A).e = 0 := nt_e e2
 exact nt_e e1
theorem bo_sf (W : Wt S) (hq : Bq k S) (hk : k + 60 ≤ 1000000) (wA : Wb A) (wB : Wb B) (hA : Sf S A x) (hB : Sf S B y) (h : (boS S dom A B).e = 0) : Sf (boS S dom A B) (boR S dom A B) (x ||| y) ∧ S.e = 0 := by
 obtain ⟨q1, _, _, q4⟩ := bo2_bq hq hk wA wB
 obtain ⟨q5, _⟩ := bo3_bq (dom := dom) hq hk wA wB
 have e3 : (boS3 S dom A B).e = 0 := nt_e h
 have e2 : (boS2 S A B).e = 0 := ba_e e3
 have e1 : (notS S A).e = 0 := nt_e e2
 obtain ⟨a1, a2⟩ := nt_sf W hq hA e1
 have W1 := W.ext (notS_ext S A)
 obtain ⟨b1, _⟩ := nt_sf W1 q4 (hB.ext (notS_ext S A)) e2
 have W2 := W1.ext (notS_ext _ B)
 obtain ⟨c1, _⟩ := ba_sf W2 (a1.ext (notS_ext _ B)) b1 e3
 obtain ⟨d1, _⟩ := nt_sf (W2.ext (baS_ext _ _ _ _)) q5 c1 h
 rw [wnt_and (hA.lt hq) (hB.lt hq)] at d1
 exact ⟨d1, a2⟩
def bnX (dom : Bool) (V : Nat → Nat → Int) (S : Ms) : Nat → Ms × (Nat → Int)
 | 0 => (S, V 0)
 | j + 1 => (boS (bnX dom V S j).1 dom (bnX dom V S j).2 (V (j + 1)), boR (bnX dom V S j).1 dom (bnX dom V S j).2 (V (j + 1)))
def bnS (S : Ms) (dom : Bool) (V : Nat → Nat → Int) (L : Nat) : Ms := if L = 0 then cstS S 3 0 else (bnX dom V S (L - 1)).1
def bnR (S : Ms) (dom : Bool) (V : Nat → Nat → Int) (L : Nat) : Nat → Int := if L = 0 then cstR S 3 0 else (bnX dom V S (L - 1)).2
theorem bnX_ext (dom : Bool) (V : Nat → Nat → Int) (S : Ms) : ∀ j, Ext S (bnX dom V S j).1
 | 0 => Ext.refl _
 | j + 1 => (bnX_ext dom V S j).trans (boS_ext _ _ _ _)
theorem bnX_bq {V : Nat → Nat → Int} (h : Bq k S) (hV : ∀ j, Wb (V j)) : ∀ {j}, k + 60 * j ≤ 1000000 → Bq (k + 60 * j) (bnX dom V S j).1 ∧ Wb (bnX dom V S j).2
 | 0, _ => ⟨h, hV 0⟩
 | j + 1, hk => by
  obtain ⟨h1, h2⟩ := bnX_bq h hV (j := j) (by omega)
  obtain ⟨g1, g2⟩ := bo_bq (dom := dom) h1 (by omega) h2 (hV (j + 1))
  exact ⟨g1.mono (by omega), g2⟩
def bfX (dom : Bool) (m : Nat) (S : Ms) (A : Nat → Int) : Nat → Ms × (Nat → Int)
 | 0 => (S, A)
 | j + 1 => (boS (oneS (bfX dom m S A j).1 10 (bfX dom m S A j).2 (2 ^ (m - 1 - j))) dom (bfX dom m S A j).2 (oneR (bfX dom m S A j).1 10 (bfX dom m S A j).2 (2 ^ (m - 1 - j))),
   boR (oneS (bfX dom m S A j).1 10 (bfX dom m S A j).2 (2 ^ (m - 1 - j))) dom (bfX dom m S A j).2 (oneR (bfX dom m S A j).1 10 (bfX dom m S A j).2 (2 ^ (m - 1 - j))))
def lgW (w : Int) : Nat := if w = 2 then 1 else if w = 4 then 2 else if w = 8 then 3 else if w = 16 then 4 else if w = 32 then 5 else if w = 64 then 6 else 0
theorem lgW_le (w : Int) : lgW w ≤ 6 := by
  unfold lgW; repeat' split
  all_goals omega
def bfS (S : Ms) (dom : Bool) (A : Nat → Int) (w : Int) : Ms := (bfX dom (lgW w) S A (lgW w)).1
def bfR (S : Ms) (dom : Bool) (A : Nat → Int) (w : Int) : Nat → Int := (bfX dom (lgW w) S A (lgW w)).2
theorem bfX_ext (dom : Bool) (m : Nat) (S : Ms) (A : Nat → Int) : ∀ j, Ext S (bfX dom m S A j).1
 | 0 => Ext.refl _
 | j + 1 => ((bfX_ext dom m S A j).trans (oneS_ext _ _ _ _)).trans (boS_ext _ _ _ _)
theorem sh_lt {m j : Nat} (hm : m ≤ 6) : 2 ^ (m - 1 - j) < 64 := by
 have h : 2 ^ (m - 1 - j) ≤ 2 ^ 5 := Nat.pow_le_pow_right (by decide) (by omega)
 have h2 : (2 : Nat) ^ 5 = 32 := by decide
 omega
theorem bfX_step (dom : Bool) (m : Nat) (S : Ms) (A : Nat → Int) (j : Nat) : bfX dom m S A (j + 1) = (boS (oneS (bfX dom m S A j).1 10 (bfX dom m S A j).2 (2 ^ (m - 1 - j))) dom (bfX dom m S A j).2 (oneR (bfX dom m S A j).1 10 (bfX dom m S A j).2 (2 ^ (m - 1 - j))),
   boR (oneS (bfX dom m S A j).1 10 (bfX dom m S A j).2 (2 ^ (m - 1 - j))) dom (bfX dom m S A j).2 (oneR (bfX dom m S A j).1 10 (bfX dom m S A j).2 (2 ^ (m - 1 - j)))) := rfl
theorem stp_bq {T : Ms} {R : Nat → Int} {q c : Nat} (hn : T.n = 2 ∨ T.n = 3) (hc : c < 64) (h1 : Bq q T) (h2 : Wb R) (hq : q + 70 ≤ 1000000) : Bq (q + 6) (oneS T 10 R c) ∧ Wb (oneR T 10 R c) ∧ Bq (q + 60) (boS (oneS T 10 R c) dom R (oneR T 10 R c)) ∧ Wb (boR (oneS T 10 R c) dom R (oneR T 10 R c)) := by
 have hc2 : c < 2 ^ 64 := by omega
 have o1 := oneS_bq h1 hn (K := 10) (i64k 10 (by decide) (by decide)) h2 hc2
 have o2 := oneR_wb h1 (by omega) hn (K := 10) (i64k 10 (by decide) (by decide)) h2 hc2
 obtain ⟨g1, g2⟩ := bo_bq (dom := dom) o1 (by omega) h2 o2
 exact ⟨o1, o2, g1.mono (by omega), g2⟩
theorem bfX_bq {m : Nat} (hm : m ≤ 6) (hn : S.n = 2 ∨ S.n = 3) (h : Bq k S) (hA : Wb A) {j : Nat} (hk : k + 70 * j ≤ 1000000) : Bq (k + 70 * j) (bfX dom m S A j).1 ∧ Wb (bfX dom m S A j).2 := by
 induction j with
 | zero => exact ⟨h, hA⟩
 | succ j ih =>
  obtain ⟨h1, h2⟩ := ih (by omega)
  have n1 : (bfX dom m S A j).1.n = 2 ∨ (bfX dom m S A j).1.n = 3 := by rw [(bfX_ext dom m S A j).n]; exact hn
  have hs := sh_lt (j := j) hm
  rw [bfX_step]
  generalize (bfX dom m S A j).1 = T at *
  generalize (bfX dom m S A j).2 = R at *
  generalize 2 ^ (m - 1 - j) = c at *
  obtain ⟨_, _, g1, g2⟩ := stp_bq (dom := dom) n1 hs h1 h2 (by omega)
  exact ⟨g1.mono (by omega), g2⟩
def kN (m j : Nat) : Nat := if j < m then 2 ^ (m - 1 - j) else 0
theorem kN_at {m j : Nat} (h : j < m) : kN m j = 2 ^ (m - 1 - j) := if_pos h
theorem kN_end (m : Nat) : kN m m = 0 := if_neg (Nat.lt_irrefl m)
theorem kN_half (m j : Nat) : kN m j / 2 = kN m (j + 1) := by
 unfold kN
 by_cases h : j + 1 < m
 · rw [if_pos (by omega), if_pos h, show m - 1 - j = (m - 1 - (j + 1)) + 1 by omega, Nat.pow_succ, Nat.mul_div_cancel _ (by decide)]
 ·
  rw [if_neg h]
  by_cases h2 : j < m
  · rw [if_pos h2, show m - 1 - j = 0 by omega]
  · rw [if_neg h2]
theorem kN_pos {m j : Nat} (h : j < m) : 0 < kN m j := by rw [kN_at h]; exact Nat.two_pow_pos _
theorem kN_lt {m j : Nat} (hm : m ≤ 6) : kN m j < 64 := by
 unfold kN
 split
 · exact sh_lt hm
 · decide
end
end Go.Proofs.YthkijncnndoafaaGreatDoor
