import Derived.Test.YtinihebnajaejaaDoorProg
import Derived.Test.YtinihebnajaejaaDoorMgai
import Derived.Test.YtinihebnajaejaaDoorMgah
import Derived.Test.YtinihebnajaejaaDoorMgao
import Derived.Test.YtinihebnajaejaaDoorMgap
/- Share: the program's functions of words, over any machine: the functions that are handed on. -/
namespace Go.Proofs.YtinihebnajaejaaDoor
open Go.RowKit
set_option maxRecDepth 100000
theorem Ow.mem {Pm : World → Nat → Ms → (Nat → Prop) → Prop} {F0 : Nat → Prop} {w0 w : World} {b : Nat} {S : Ms} {bs : List (Nat × Obj)} (h : Ow Pm F0 w0 w b S bs) {n : Nat} {u : Obj} (hq : (n, u) ∈ bs) : w.heap[n]? = some u := (h.bx _ hq).2
theorem clo_enc0 {Pm : World → Nat → Ms → (Nat → Prop) → Prop} (hM : Mach Pm) {F0 : Nat → Prop} {w0 w : World} {b : Nat} {S : Ms} {bs : List (Nat × Obj)} (p1 : Nat) (h : Ow Pm F0 w0 w b S bs) :
    Calls Tryd.prog 27 #[.int .i64 0, .pointer (some ⟨p1, 0, none⟩)] w fun e w2 => e = .returned (.int .i64 (-1)) ∧ Ow Pm F0 w0 w2 b S bs := by
  have HP := hid (h.self hM (Below.refl _ w))
  clear h
  go_enter Tryd.func27, Tryd.ntmps27
  go_wp2
  go_ret
  exact ⟨rfl, HP.out⟩
set_option maxHeartbeats 1600000 in
theorem clo_enc {Pm : World → Nat → Ms → (Nat → Prop) → Prop} (hM : Mach Pm) {F0 : Nat → Prop} {w0 w : World} {b k : Nat} {S : Ms} {bs : List (Nat × Obj)} (p1 j : Nat) (h : Ow Pm F0 w0 w b S bs) (h1 : (p1, Obj.cells #[.pointer (some ⟨b, 0, none⟩)] 24 (0, 0)) ∈ bs) (hq : Bq k S) (hk : k ≤ 1000000) (hj : j ≤ 100) (h0 : 0 < j) :
    Calls Tryd.prog 27 #[.int .i64 (j : Int), .pointer (some ⟨p1, 0, none⟩)] w fun e w2 => e = .returned (.int .i64 (S.doR (opRand j))) ∧ Ow Pm F0 w0 w2 b (S.doS (opRand j) 0) bs := by
  have c1 := row_c (i := 0) (u := .pointer (some ⟨b, 0, none⟩)) (h.mem h1) rfl
  have HC : Hid (Calls Tryd.prog 28 #[.pointer (some ⟨b, 0, none⟩), .int .i64 (j : Int)] w fun e w2 => e = .returned (.int .i64 (S.doR (opRand j))) ∧ Ow Pm F0 w0 w2 b (S.doS (opRand j) 0) bs) := hid (h.lift hM (fun F hF => hM.rand b k S F (j : Int) w hF hq hk (opRand_wf hj)))
  have q0 : ((j : Int) == 0) = false := by simp; omega
  clear h h1 hq hk hj
  generalize S.doR (opRand j) = r at *
  generalize S.doS (opRand j) 0 = S1 at *
  go_enter Tryd.func27, Tryd.ntmps27
  go_wp2_with (go_at_call 28; (with_reducible refine HC.out.mono ?_); rintro e w2 ⟨rfl, hp⟩; have HP := hid hp; clear hp c1)
  go_ret
  exact ⟨rfl, HP.out⟩
end Go.Proofs.YtinihebnajaejaaDoor

/- Share: the program's Value. -/
namespace Go.Proofs.YtinihebnajaejaaDoor
open Go.RowKit
set_option maxRecDepth 100000
theorem run_index_wd (w : World) (A : Nat → Int) (m : Nat) (hm : m < 3) : (Instr.index 32 (.agg (wdV A)) (.int .i64 (m : Int))).run Tryd.prog w = .ok (.int .i64 (A m)) w := by
  have hs : Tryd.t3.size = 1 := rfl
  match m, hm with
  | 0, _ => simp [Instr.index, asIntOf, run_underlying Tryd.underlying32, part, run_underlying Tryd.underlying3, isAgg, go_sem, sizeOf, hs, wdV]
  | 1, _ => simp [Instr.index, asIntOf, run_underlying Tryd.underlying32, part, run_underlying Tryd.underlying3, isAgg, go_sem, sizeOf, hs, wdV]
  | 2, _ => simp [Instr.index, asIntOf, run_underlying Tryd.underlying32, part, run_underlying Tryd.underlying3, isAgg, go_sem, sizeOf, hs, wdV]
theorem step_index_wd {w : World} {ops : Array Oper} {rest : List Oper} {o : Oper} {a : Act} {Q : Exit → Act → World → Prop} (hgd : o.guard = none) (x y : Operand) (ho : o.op = .index 32 x y)
    (A : Nat → Int) (m : Nat) (hm : m < 3) (hx : a.eval x = .agg (wdV A)) (hy : a.eval y = .int .i64 (m : Int)) (k : wpList Tryd.prog ops Q rest (a.put o.dst (.int .i64 (A m))) w) : wpList Tryd.prog ops Q (o :: rest) a w :=
  wpList_plain hgd fun _ hK => by
    unfold Oper.wp execOp
    simp only [ho, hx, hy, Sem.run_bind, Sem.run_pure, Result.andThen_ok, run_index_wd w A m hm]
    exact hK _ _ k
set_option maxHeartbeats 3200000 in
theorem svalue_any (v : Value) (vv : Nat → Nat) (L : Nat) (A : Nat → Int) (w : World) (h : Rd .u64 w v (wdL vv L)) (hv : ∀ i, i < L → vv i < 2 ^ 64) :
    Calls Tryd.prog 15 #[v, .agg (wdV A)] w fun e w' => e = .returned (.int .u64 (vlN vv L A : Nat)) ∧ Below w.heap.size w w' := by
  obtain ⟨a, cap, rfl, hp⟩ := (rd_wr h).at_
  obtain ⟨w1, hw1⟩ : ∃ w1, w.alloc (.cells (wdV A) 34) = w1 := ⟨_, rfl⟩
  have HB1 : Hid (Below w.heap.size w w1) := hid (by rw [← hw1]; exact (Below.refl _ _).alloc (Nat.le_refl _) _)
  have HX1 : Hid (w1.heap[w.heap.size]? = some (.cells (wdV A) 34 (0, 0))) := hid (by rw [← hw1]; exact heap_alloc_new _ _)
  have HW1 := hid hw1
  have HP := hid hp
  have HV := hid (vlP_lt hv A)
  have HV2 := hid hv
  clear h hp hw1 hv
  go_enter Tryd.func15, Tryd.ntmps15
  go_upto_region 1 with fail
  rw [HW1.out]
  go_wp2_with (refine step_load_row rfl 32 _ rfl w.heap.size 34 (wdV A) _ rfl HX1.out Tryd.underlying32 rfl (by kernel_rfl) ?_)
  go_loopw [5, 10] (fun x i wr => ∃ m : Nat, m ≤ 3 ∧ i = .int .i64 m ∧ x = .int .u64 (vlP vv L A m : Nat) ∧ Below w1.heap.size w1 wr) (fun _ i _ => 3 - (intOf i).toNat)
  case atStart => exact ⟨0, by omega, rfl, rfl, Below.refl _ _⟩
  case round =>
    obtain ⟨m, hm, rfl, rfl, hI⟩ := hrel
    have HI := hid hI
    clear hI
    by_cases hlt : m < 3
    · have j1 : (0 : Int) ≤ (m : Int) := by omega
      have j2 : (m : Int) < 3 := by omega
      have HL3 := hid hlt
      have HS : Hid (vlP vv L A (m + 1) = vlP vv L A m ^^^ wordAt vv L (A m)) := hid rfl
      have hxl := HV.out m
      by_cases h0 : A m < 0
      · have q1 : decide (0 ≤ A m) = false := decide_eq_false (by omega)
        have hz : wordAt vv L (A m) = 0 := if_neg (by omega)
        have HE : Hid (vlP vv L A (m + 1) = vlP vv L A m) := hid (by rw [HS.out, hz, Nat.xor_zero])
        clear hz h0
        go_wp2_with (refine step_index_wd rfl _ _ rfl A m HL3.out rfl rfl ?_)
        go_roundw
        case rel => exact ⟨m + 1, by omega, by go_num, by rw [HE.out], HI.out⟩
        case measure => simp [intOf]; omega
      · have q1 : decide (0 ≤ A m) = true := decide_eq_true (by omega)
        by_cases h1 : A m < (L : Int)
        · obtain ⟨z, hz⟩ := Int.eq_ofNat_of_zero_le (by omega : 0 ≤ A m)
          have hzL : z < L := by omega
          obtain ⟨g, off, rfl, hg, hc⟩ := HP.out (by omega)
          have cz : wr.cell? ⟨g, off + z, none⟩ = some (.int .u64 (vv z : Int)) := tcell_self (hc z hzL) (HB1.out.trans (HI.out.mono HB1.out.size))
          have hw : wordAt vv L (A m) = vv z := by unfold wordAt; rw [if_pos ⟨by omega, h1⟩, hz]; simp
          have hvz := HV2.out z hzL
          have hx := wx64 hxl hvz
          have HE : Hid (vlP vv L A (m + 1) = vlP vv L A m ^^^ vv z) := hid (by rw [HS.out, hw])
          have HZ := hid hz
          rw [hz] at q1 h1
          clear hw hc h0 HS hz
          have c1 : (0 : Int) ≤ (z : Int) := by omega
          have c2 : (z : Int) < (L : Int) := by omega
          generalize vlP vv L A m ^^^ vv z = r at *
          generalize vlP vv L A m = y at *
          generalize vv z = u at *
          go_wp2_with (refine step_index_wd rfl _ _ rfl A m HL3.out rfl rfl ?_; rw [HZ.out])
          go_roundw
          case rel => exact ⟨m + 1, by omega, by go_num, by rw [HE.out], HI.out⟩
          case measure => simp [intOf]; omega
        · have q2 : decide (A m < (L : Int)) = false := decide_eq_false h1
          have hz : wordAt vv L (A m) = 0 := if_neg (by omega)
          have HE : Hid (vlP vv L A (m + 1) = vlP vv L A m) := hid (by rw [HS.out, hz, Nat.xor_zero])
          clear hz h0 h1
          go_wp2_with (refine step_index_wd rfl _ _ rfl A m HL3.out rfl rfl ?_)
          go_roundw
          case rel => exact ⟨m + 1, by omega, by go_num, by rw [HE.out], HI.out⟩
          case measure => simp [intOf]; omega
    · obtain rfl : m = 3 := by omega
      go_wp2
      go_ret
      exact ⟨rfl, HB1.out.trans (HI.out.mono HB1.out.size)⟩
end Go.Proofs.YtinihebnajaejaaDoor

/- Share: the program's functions of words, over any machine: the interface is met. -/
namespace Go.Proofs.YtinihebnajaejaaDoor
open Go.RowKit
set_option maxRecDepth 100000
/-- What Encode's closure leaves, share by share. -/
def enSt (S : Ms) (j : Nat) : Ms := eaS (S.beginS 1) opRand 1 (j - 1)
def enU (S : Ms) (j : Nat) : Nat → Int := eaR (S.beginS 1) opRand 1 none3 (j - 1)
def enRg (S : Ms) : Nat → Int
  | 0 => -1
  | j + 1 => (eaS (S.beginS 1) opRand 1 j).doR (opRand (j + 1))
theorem enU_step (S : Ms) (j : Nat) : enU S (j + 1) = updI (enU S j) j (enRg S j) := by
  cases j with
  | zero =>
    funext i
    show none3 i = updI none3 0 (-1) i
    unfold updI none3
    split <;> rfl
  | succ j =>
    show updI (eaR (S.beginS 1) opRand 1 none3 j) (1 + j) ((eaS (S.beginS 1) opRand 1 j).doR (opRand (1 + j))) = updI (eaR (S.beginS 1) opRand 1 none3 j) (j + 1) ((eaS (S.beginS 1) opRand 1 j).doR (opRand (j + 1)))
    rw [Nat.add_comm 1 j]
set_option maxHeartbeats 6400000 in
theorem senc_any {Pm : World → Nat → Ms → (Nat → Prop) → Prop} (hM : Mach Pm) (b k : Nat) (S : Ms) (F : Nat → Prop) (x : Nat) (w : World) (hm : Pm w b S F) (hq : Bq k S) (hk : k + 10 ≤ 100000) (hn : S.n = 2 ∨ S.n = 3) (hx : x < 2 ^ 64) :
    Calls Tryd.prog 8 #[.pointer (some ⟨b, 0, none⟩), .int .u64 (x : Int)] w fun e w' => e = .returned (.agg (wdV (encR S))) ∧ PmR Pm b (encS S x) F w w' := by
  have hsb := sh_bd hn
  obtain ⟨n, hnn⟩ : ∃ n, S.sh = n := ⟨_, rfl⟩
  have hnI : S.n = (n : Int) := by unfold Ms.sh at hnn; omega
  have HQB : Hid (Bq k (S.beginS 1)) := hid (hq.begins 1)
  have HSQ : Hid (∀ m, m ≤ 3 → Bq (k + m) (eaS (S.beginS 1) opRand 1 m)) := hid (fun m hm => eaS_bq HQB.out 1 m (fun j hj => opRand_wf (by omega)))
  have HSN : Hid (∀ m, (eaS (S.beginS 1) opRand 1 m).n = (n : Int)) := hid (fun m => (eaS_n _ _ 1 m).trans ((beginS_n S 1).1.trans hnI))
  have HQE := hid (enS1_bq hq hn)
  have HOE := hid (opEn_wf hq hk hn)
  have HBG : Hid (∀ (bs : List (Nat × Obj)) (w' : World), Ow Pm F w w' b S bs → Calls Tryd.prog 25 #[.pointer (some ⟨b, 0, none⟩), .int .i64 1] w' fun e w2 => e = .returned (.tuple #[]) ∧ Ow Pm F w w2 b (S.beginS 1) bs) := hid (fun bs w' h' => h'.lift hM (fun F' hF => hM.begin_ b k S F' 1 w' hF hq (by omega)))
  have HEA : Hid (∀ (bs : List (Nat × Obj)) (w' : World), Ow Pm F w w' b (S.beginS 1) bs → (w.heap.size, Obj.cells #[.pointer (some ⟨b, 0, none⟩)] 24 (0, 0)) ∈ bs → Calls Tryd.prog 26 #[.pointer (some ⟨b, 0, none⟩), .func (.func 27) #[] #[.pointer (some ⟨w.heap.size, 0, none⟩)]] w' fun e w2 => e = .returned (.agg (wdV (enR1 S))) ∧ Ow Pm F w w2 b (enS1 S) bs) := hid (fun bs w' h' hb => by
    have e1 : enU S n = enR1 S := by unfold enU enR1; rw [hnn]
    have e2 : enSt S n = enS1 S := by unfold enSt enS1; rw [hnn]
    rw [← e1, ← e2]
    refine each_enc hM w.heap.size n k (enSt S) (enU S) (enRg S) h' (by omega) HQB.out (by omega) (HSN.out 0) rfl (fun j _ => enU_step S j) (fun j bs' w2 hj hs h2 => ?_)
    cases j with
    | zero => exact clo_enc0 hM _ h2
    | succ j =>
      have := clo_enc hM w.heap.size (j + 1) h2 (hs _ hb) (HSQ.out j (by omega)) (by omega) (by omega) (by omega)
      have e3 : enSt S (j + 1 + 1) = (eaS (S.beginS 1) opRand 1 j).doS (opRand (j + 1)) 0 := by
        show (eaS (S.beginS 1) opRand 1 j).doS (opRand (1 + j)) 0 = _
        rw [Nat.add_comm 1 j]
      rw [e3]
      exact this)
  have HCE : Hid (∀ (bs : List (Nat × Obj)) (w' : World), Ow Pm F w w' b (enS1 S) bs → Calls Tryd.prog 29 #[.pointer (some ⟨b, 0, none⟩), .int .u64 (x : Int), .int .i64 (enR1 S 1), .int .i64 (enR1 S 2)] w' fun e w2 => e = .returned (.int .i64 ((enS1 S).doR (opEn S))) ∧ Ow Pm F w w2 b ((enS1 S).doS (opEn S) x) bs) := hid (fun bs w' h' => h'.lift hM (fun F' hF => hM.key b (k + 2) (enS1 S) F' x (enR1 S 1) (enR1 S 2) w' hF HQE.out (by omega) HOE.out hx))
  have HEN : Hid (∀ (bs : List (Nat × Obj)) (w' : World), Ow Pm F w w' b ((enS1 S).doS (opEn S) x) bs → Calls Tryd.prog 30 #[.pointer (some ⟨b, 0, none⟩)] w' fun e w2 => e = .returned (.tuple #[]) ∧ Ow Pm F w w2 b (encS S x) bs) := hid (fun bs w' h' => h'.lift hM (fun F' hF => hM.end_ b (k + 2 + 1) ((enS1 S).doS (opEn S) x) F' w' hF (HQE.out.does HOE.out hx) (by omega)))
  have HR : Hid ((wdV (enR1 S)).setIfInBounds 0 (.int .i64 ((enS1 S).doR (opEn S))) = wdV (encR S)) := hid (wdV_upd (enR1 S) 0 _ (by omega))
  obtain ⟨w1, hw1⟩ : ∃ w1, (w.alloc (.cells #[.pointer (some ⟨b, 0, none⟩)] 24)).alloc (.cells #[.int .i64 0, .int .i64 0, .int .i64 0] 34) = w1 := ⟨_, rfl⟩
  have H1 : Hid (Ow Pm F w w1 b S [(w.heap.size + 1, Obj.cells #[.int .i64 0, .int .i64 0, .int .i64 0] 34 (0, 0)), (w.heap.size, Obj.cells #[.pointer (some ⟨b, 0, none⟩)] 24 (0, 0))]) := hid (by
    have := ((Ow.start hm).new hM #[.pointer (some ⟨b, 0, none⟩)] 24).new hM #[.int .i64 0, .int .i64 0, .int .i64 0] 34
    rw [hw1] at this
    simp only [sz_al] at this
    exact this)
  have c1 := row_c (i := 0) (u := .pointer (some ⟨b, 0, none⟩)) (H1.out.bl 1 rfl) rfl
  have HW := hid hw1
  clear hm hq hk hn hsb hnI hw1 hx HQE HOE HQB HSQ HSN
  generalize (enS1 S).doR (opEn S) = r at *
  generalize (enS1 S).doS (opEn S) x = S2 at *
  generalize encS S x = S3 at *
  generalize encR S = R at *
  generalize enS1 S = V at *
  generalize enR1 S = U at *
  go_enter Tryd.func8, Tryd.ntmps8
  go_upto_region 1 with fail
  rw [HW.out]
  go_upto_region 2 with (go_at_call 25; (with_reducible refine (HBG.out _ _ H1.out).mono ?_); rintro e w2 ⟨rfl, hb⟩; have H2 := hid hb; clear hb c1; have c1 := row_c (i := 0) (u := .pointer (some ⟨b, 0, none⟩)) (H2.out.bl 1 rfl) rfl)
  go_upto_region 3 with (go_at_call 26; (with_reducible refine (HEA.out _ _ H2.out (by simp)).mono ?_); rintro e w3 ⟨rfl, hb⟩; have H3 := hid hb; clear hb c1)
  have H4 := hid (H3.out.new hM (wdV U) 34)
  obtain ⟨g5, hg5⟩ : ∃ g5, w3.heap.size = g5 := ⟨_, rfl⟩
  rw [hg5] at H4
  generalize w3.alloc (.cells (wdV U) 34) = w4 at *
  rw [hg5]
  clear hg5
  have k0 := row_c (i := 0) (u := .pointer (some ⟨b, 0, none⟩)) (H4.out.bl 2 rfl) rfl
  have k1 := row_c (i := 1) (u := .int .i64 (U 1)) (H4.out.bl 0 rfl) rfl
  have k2 := row_c (i := 2) (u := .int .i64 (U 2)) (H4.out.bl 0 rfl) rfl
  go_upto_region 4 with (go_at_call 29; (with_reducible refine (HCE.out _ _ H4.out).mono ?_); rintro e y2 ⟨rfl, hp⟩; have G1 := hid hp; have c0 := row_c (i := 0) (u := .int .i64 (U 0)) (G1.out.bl 0 rfl) rfl; have f0 := frozen_of_row y2 g5 0 _ _ (G1.out.bl 0 rfl); clear hp k0 k1 k2)
  have G2 := hid (G1.out.cell hM 0 (.int .i64 r))
  rw [HR.out] at G2
  clear c0 f0
  generalize y2.setCell ⟨g5, 0, none⟩ (.int .i64 r) = y3 at *
  have k0 := row_c (i := 0) (u := .pointer (some ⟨b, 0, none⟩)) (G2.out.bl 2 rfl) rfl
  go_upto_region 5 with (go_at_call 30; (with_reducible refine (HEN.out _ _ G2.out).mono ?_); rintro e y4 ⟨rfl, hp⟩; have G3 := hid hp; clear hp k0)
  go_wp2_with (first
    | (refine step_load_row rfl 34 _ rfl g5 34 (wdV R) _ rfl (G3.out.bl 0 rfl) Tryd.underlying34 rfl (by kernel_rfl) ?_)
    | (refine step_store_row rfl 34 _ _ rfl (w.heap.size + 1) 34 _ (wdV R) rfl rfl (G3.out.bl 1 rfl) (by kernel_rfl) rfl (by kernel_rfl) ?_))
  have H8 := hid (G3.out.swap.row hM (wdV R))
  exact bodyPost_ret (results_cell_row (by rfl) _ _ (w.heap.size + 1) 34 (wdV R) (0, 0) _ rfl (H8.out.bl 0 rfl) Tryd.underlying34 rfl (by kernel_rfl)) rfl ⟨rfl, H8.out.fin⟩
end Go.Proofs.YtinihebnajaejaaDoor

/- Fresh: both machines in one world; a law's beginning; the example. -/
namespace Go.Proofs.YtinihebnajaejaaDoor
open Go.RowKit
set_option maxRecDepth 100000
/-- The program's functions of words meet the interface. -/
theorem shI {Pm : World → Nat → Ms → (Nat → Prop) → Prop} (hM : Mach Pm) : ShI Pm where
  enc b k S F x w := senc_any hM b k S F x w
  value v vv L A w h hv := svalue_any v vv L A w h hv
theorem encR_wb {k : Nat} {S : Ms} (h : Bq k S) (hk : k + 10 ≤ 100000) (hn : S.n = 2 ∨ S.n = 3) : Wb (encR S) := (enR1_wb h hk hn).upd (doR_bd (enS1_bq h hn) (by omega) _)
theorem rdraws_any (n : Int) (w : World) : Calls Tryd.prog 7 #[.int .i64 n] w fun e w' => e = .returned (.int .i64 (frD n)) ∧ w' = w := by
  unfold frD
  by_cases h2 : n = 2
  · subst h2
    go_enter Tryd.func7, Tryd.ntmps7
    go_wp2
    go_ret
    exact ⟨rfl, rfl⟩
  · by_cases h3 : n = 3
    · subst h3
      go_enter Tryd.func7, Tryd.ntmps7
      go_wp2
      go_ret
      exact ⟨rfl, rfl⟩
    · rw [if_neg h2, if_neg h3]
      have q2 : ((n : Int) == 2) = false := by simpa using h2
      have q3 : ((n : Int) == 3) = false := by simpa using h3
      clear h2 h3
      go_enter Tryd.func7, Tryd.ntmps7
      go_wp2
      go_ret
      exact ⟨rfl, rfl⟩
theorem step_load_row_want {P : Program} {w : World} {ops : Array Oper} {rest : List Oper} {o : Oper} {a : Act} {Q : Exit → Act → World → Prop} (hgw : Region.wanted o (yielded ops a.tmps) = true) (ty : TypeId) (x : Operand) (ho : o.op = .load ty x)
    (b : Nat) (t : TypeId) (cs : Array Value) (d : TypeDesc) (hx : a.eval x = .pointer (some ⟨b, 0, none⟩)) (hA : w.heap[b]? = some (.cells cs t (0, 0))) (hu : P.underlying ty = some d) (hag : (match d with | .struct _ | .array _ _ => true | _ => false) = true) (hi : (P.info? ty).map (·.size) = some cs.size)
    (k : wpList P ops Q rest (a.put o.dst (.agg cs)) w) : wpList P ops Q (o :: rest) a w :=
  wpList_step fun K hK => by
    rw [if_pos hgw]
    unfold Oper.wp execOp
    simp only [ho, hx, Instr.loadAt, Instr.sureAddr, Sem.run_bind, Sem.run_pure, Result.andThen_ok, run_loadVar_row w b t ty cs (0, 0) d hA hu hag hi]
    exact hK _ _ k
theorem exec_neWd {w : World} {o : Oper} {a : Act} (u v : Operand) (ho : o.op = .binOp .neq 34 u v 34) (W : Nat → Int) (hx : a.eval u = .agg (wdV W)) (hy : a.eval v = .agg (wdV W)) :
    (execOp a.eval o).run Tryd.prog w = .ok (.value (.bool false)) w := by
  have heq := fun w => eqWd W W w
  have hguard : Tryd.prog.eqGuardType Tryd.prog.depth 34 = false := by kernel_rfl
  have hd : decide (W 0 = W 0 ∧ W 1 = W 1 ∧ W 2 = W 2) = true := decide_eq_true ⟨rfl, rfl, rfl⟩
  rw [hd] at heq
  clear hd
  unfold execOp
  rw [ho]
  simp only [hx, hy]
  generalize wdV W = A at *
  go_simp
theorem wpList_neWd {w : World} {ops : Array Oper} {rest : List Oper} {o : Oper} {a : Act} {Q : Exit → Act → World → Prop} (hgw : Region.wanted o (yielded ops a.tmps) = true) (u v : Operand) (ho : o.op = .binOp .neq 34 u v 34) (W : Nat → Int) (hx : a.eval u = .agg (wdV W)) (hy : a.eval v = .agg (wdV W))
    (h : wpList Tryd.prog ops Q rest (a.put o.dst (.bool false)) w) : wpList Tryd.prog ops Q (o :: rest) a w :=
  wpList_step fun K hK => by
    rw [if_pos hgw]
    unfold Oper.wp
    rw [exec_neWd u v ho W hx hy]
    exact hK _ _ h
theorem Pv.bz {Pm : World → Nat → Ms → (Nat → Prop) → Prop} {lo : Nat} {X : Nat → Prop} {W w : World} {p b : Nat} {S1 S2 : Ms} (h : Pv W) (hl : gpair < lo) (hz : Bz Pm lo X W w p b S1 S2) : Pv w := h.stays hz.low.size (hz.low.block _ hl)
section
variable {Pm : World → Nat → Ms → (Nat → Prop) → Prop} (hM : Mach Pm) {lo : Nat} {X : Nat → Prop} {W w : World} {b bd k : Nat} {S S2 : Ms}
include hM
theorem qsimple (A : Nat → Int) (h : Bz Pm lo X W w b bd S S2) (hp : Pv w) (hl : gpair < lo) (hq : Bq k S) (hk : k + 20 ≤ 100000) (hn : S.n = 2 ∨ S.n = 3) (hA : Wb A) :
    Calls Tryd.prog 10 #[.pointer (some ⟨b, 0, none⟩), .agg (wdV A)] w fun e w' => e = .returned (.agg (wdV (frR S true A))) ∧ Bz Pm lo X W w' b bd (frS S true A) S2 ∧ ∀ k, X k → w'.heap[k]? = w.heap[k]? := by
  obtain ⟨F, G, ov, bv, vv, tv, h1, h2, h3, h4, h5, h6, h7⟩ := h
  exact (fsimple_any hM b k S F A w h1 hp (fun e => by have := (h3 _ e).1; omega) hq hk hn hA).mono fun e w' hr => ⟨hr.1, Bz.prog hM h1 h2 h3 h4 h5 h6 h7 hr.2⟩
theorem ysimple (A : Nat → Int) (h : Bz Pm lo X W w b bd S2 S) (hq : Bq k S) (hk : k + 20 ≤ 100000) (hn : S.n = 2 ∨ S.n = 3) (hA : Wb A) :
    Calls Tryd.prog 11 #[.pointer (some ⟨bd, 0, none⟩), .agg (wdV A)] w fun e w' => e = .returned (.agg (wdV (frR S true A))) ∧ Bz Pm lo X W w' b bd S2 (frS S true A) ∧ ∀ k, X k → w'.heap[k]? = w.heap[k]? :=
  Bz.docs hM h (fun _ _ h0 => dsimple_any A h0 hq hk hn hA)
theorem qfull (A : Nat → Int) (h : Bz Pm lo X W w b bd S S2) (hp : Pv w) (hl : gpair < lo) (hq : Bq k S) (hk : k + 20 ≤ 100000) (hn : S.n = 2 ∨ S.n = 3) (hA : Wb A) :
    Calls Tryd.prog 12 #[.pointer (some ⟨b, 0, none⟩), .agg (wdV A)] w fun e w' => e = .returned (.agg (wdV (frR S false A))) ∧ Bz Pm lo X W w' b bd (frS S false A) S2 ∧ ∀ k, X k → w'.heap[k]? = w.heap[k]? := by
  obtain ⟨F, G, ov, bv, vv, tv, h1, h2, h3, h4, h5, h6, h7⟩ := h
  exact (ffull_any hM b k S F A w h1 hp (fun e => by have := (h3 _ e).1; omega) hq hk hn hA).mono fun e w' hr => ⟨hr.1, Bz.prog hM h1 h2 h3 h4 h5 h6 h7 hr.2⟩
theorem yfull (A : Nat → Int) (h : Bz Pm lo X W w b bd S2 S) (hq : Bq k S) (hk : k + 20 ≤ 100000) (hn : S.n = 2 ∨ S.n = 3) (hA : Wb A) :
    Calls Tryd.prog 13 #[.pointer (some ⟨bd, 0, none⟩), .agg (wdV A)] w fun e w' => e = .returned (.agg (wdV (frR S false A))) ∧ Bz Pm lo X W w' b bd S2 (frS S false A) ∧ ∀ k, X k → w'.heap[k]? = w.heap[k]? :=
  Bz.docs hM h (fun _ _ h0 => dfull_any A h0 hq hk hn hA)
end
/-- The example's machines. -/
def awE0 : Ms := startD 2 9 (fun _ => 5) 1 0 1
def awE1 : Ms := awE0.doS ⟨3, 0, -1, -1, -1, 1⟩ 0
def awE2 : Ms := awE1.doS ⟨3, 1, -1, -1, -1, 2⟩ 0
def awA : Nat → Int := reg3 0 1 (-1)
theorem awr1 : awE0.doR ⟨3, 0, -1, -1, -1, 1⟩ = 0 := by decide +kernel
theorem awr2 : awE1.doR ⟨3, 1, -1, -1, -1, 2⟩ = 1 := by decide +kernel
theorem aww : wdL (frS awE2 false awA).v ((frS awE2 false awA).keep (frS awE2 false awA).L) = [1, 2, 5, 4, 7] := by decide +kernel
theorem awR : frR awE2 false awA 0 = 3 ∧ frR awE2 false awA 1 = 4 := by decide +kernel
theorem awB0 : Bq 0 awE0 := startD_bq 2 9 _ 1 0 1 0 (.inl rfl) (by decide) (by decide) (by decide) (fun i _ => by decide) (by decide) (by decide)
theorem aww1 : opwf ⟨3, 0, -1, -1, -1, 1⟩ := ⟨by decide, by decide, by decide, by decide, by decide, by decide⟩
theorem aww2 : opwf ⟨3, 1, -1, -1, -1, 2⟩ := ⟨by decide, by decide, by decide, by decide, by decide, by decide⟩
theorem awB1 : Bq 1 awE1 := awB0.does aww1 (by decide)
theorem awB2 : Bq 2 awE2 := awB1.does aww2 (by decide)
theorem awAw : Wb awA := reg3_wb (i64c 0 (by decide) (by decide)) (i64c 1 (by decide) (by decide)) I64.m1
theorem awB3 : Bq 12 (frS awE2 false awA) := frS_bq awB2 (by decide) awAw
set_option maxHeartbeats 6400000 in
theorem fawake_any {Pm : World → Nat → Ms → (Nat → Prop) → Prop} (hM : Mach Pm) (hN : MachN Pm) (w : World) (hp : Pv w) :
    Calls Tryd.prog 17 #[] w fun e w' => e = .returned (.bool true) ∧ Below w.heap.size w w' := by
  have HPV := hid hp
  have hlow := (Below.refl w.heap.size w).alloc (Nat.le_refl _) (.cells #[.int .u64 5] 22)
  have HLOW := hid hlow
  have HL0 : Hid (gpair < w.heap.size) := hid hp.1
  have HBG : Hid (Calls Tryd.prog 5 #[.int .i64 2, .slice (some ⟨w.heap.size, 0, none⟩) 1 1, .int .i64 9] (w.alloc (.cells #[.int .u64 5] 22)) fun e w' => ∃ p b, e = .returned (.tuple #[.agg (paC p b (.slice none 0 0) (.slice none 0 0)), .bool true]) ∧ Bz Pm (w.alloc (.cells #[.int .u64 5] 22)).heap.size (fun _ => False) (w.alloc (.cells #[.int .u64 5] 22)) w' p b awE0 awE0) := hid (by
    have hrd : RdS .u64 (w.alloc (.cells #[.int .u64 5] 22)) (fun g => g < (w.alloc (.cells #[.int .u64 5] 22)).heap.size) (.slice (some ⟨w.heap.size, 0, none⟩) 1 1) (wdL (fun _ => 5) 1) := by
      have hz : wdL (fun _ => 5) 1 = [(5 : Int)] := rfl
      rw [hz]
      refine ⟨some ⟨w.heap.size, 0, none⟩, 1, rfl, Nat.le_refl _, by decide, by show 1 * 8 ≤ _; decide, fun z hz => ?_, fun _ => ⟨w.heap.size, 0, rfl, by rw [sz_al]; omega, by rw [sz_al]; omega, fun j hj => ?_⟩⟩
      · simp at hz; subst hz; rfl
      · obtain rfl : j = 0 := by have : j < 1 := hj; omega
        exact row_c (i := 0) (heap_alloc_new w _) rfl
    exact lbegins_any hM hN 2 9 (.inl rfl) (by decide) (by decide) (fun _ => 5) 1 _ _ hrd)
  have HSZ : Hid ((w.alloc (.cells #[.int .u64 5] 22)).heap.size = w.heap.size + 1) := hid (sz_al _ _)
  have hp1 := hp.self hlow
  clear hlow hp
  obtain ⟨w0, hw0⟩ : ∃ w0, w.alloc (.cells #[.int .u64 5] 22) = w0 := ⟨_, rfl⟩
  rw [hw0] at HBG HSZ HLOW hp1
  have HP1 := hid hp1
  have HL1 : Hid (gpair < w0.heap.size) := hid hp1.1
  have HW0 := hid hw0
  clear hw0 hp1
  have HC1 : Hid (∀ (X : Nat → Prop) (W wx : World) (p b : Nat), Bz Pm w0.heap.size X W wx p b awE0 awE0 → Calls Tryd.prog 43 #[.pointer (some ⟨p, 0, none⟩), .int .i64 0, .int .u64 1] wx fun e w' => e = .returned (.int .i64 0) ∧ Bz Pm w0.heap.size X W w' p b awE1 awE0 ∧ ∀ k, X k → w'.heap[k]? = wx.heap[k]?) := hid (fun X W wx p b h => by have := zconst_ hM 0 1 h awB0 (by decide) aww1; rw [awr1] at this; exact this)
  have HC2 : Hid (∀ (X : Nat → Prop) (W wx : World) (p b : Nat), Bz Pm w0.heap.size X W wx p b awE1 awE0 → Calls Tryd.prog 43 #[.pointer (some ⟨p, 0, none⟩), .int .i64 1, .int .u64 2] wx fun e w' => e = .returned (.int .i64 1) ∧ Bz Pm w0.heap.size X W w' p b awE2 awE0 ∧ ∀ k, X k → w'.heap[k]? = wx.heap[k]?) := hid (fun X W wx p b h => by have := zconst_ hM 1 2 h awB1 (by decide) aww2; rw [awr2] at this; exact this)
  have HC3 : Hid (∀ (X : Nat → Prop) (W wx : World) (p b : Nat), Pv wx → Bz Pm w0.heap.size X W wx p b awE2 awE0 → Calls Tryd.prog 12 #[.pointer (some ⟨p, 0, none⟩), .agg (wdV awA)] wx fun e w' => e = .returned (.agg (wdV (frR awE2 false awA))) ∧ Bz Pm w0.heap.size X W w' p b (frS awE2 false awA) awE0 ∧ ∀ k, X k → w'.heap[k]? = wx.heap[k]?) := hid (fun X W wx p b hp h => qfull hM awA h hp HL1.out awB2 (by decide) (.inl rfl) awAw)
  have HVL : Hid (∀ (X : Nat → Prop) (W wx : World) (p b : Nat), Bz Pm w0.heap.size X W wx p b (frS awE2 false awA) awE0 → Calls Tryd.prog 16 #[.pointer (some ⟨p, 0, none⟩)] wx fun e w' => (∃ v, e = .returned v ∧ Rd .u64 w' v [1, 2, 5, 4, 7]) ∧ Below wx.heap.size wx w') := hid (fun X W wx p b h => (zvalues hM h awB3 (by decide)).mono fun e w' ⟨v, e1, e2, e3⟩ => ⟨⟨v, e1, by rw [aww] at e2; exact e2⟩, e3⟩)
  have HAW : Hid (wdV awA = #[.int .i64 0, .int .i64 1, .int .i64 (-1)]) := hid rfl
  have HR0 : Hid (frR awE2 false awA 0 = 3) := hid awR.1
  have HR1 : Hid (frR awE2 false awA 1 = 4) := hid awR.2
  generalize frR awE2 false awA = R at *
  generalize frS awE2 false awA = E3 at *
  obtain ⟨A0, hA0⟩ : ∃ A0, awA = A0 := ⟨_, rfl⟩
  rw [hA0] at HAW HC3
  generalize awE2 = E2 at *
  generalize awE1 = E1 at *
  generalize awE0 = E0 at *
  clear hA0
  go_enter Tryd.func17, Tryd.ntmps17
  go_upto_region 1 with fail
  go_upto_region 2 with (first
    | (rw [HW0.out]; go_at_call 5; (with_reducible refine (HBG.out).mono ?_); rintro e w2 ⟨p, b, rfl, hz⟩; have Z2 := hid hz; clear hz)
    | (go_at_call 5; (with_reducible refine (HBG.out).mono ?_); rintro e w2 ⟨p, b, rfl, hz⟩; have Z2 := hid hz; clear hz))
  have H3 := hid ((Gy.start Z2.out).new hM (paC p b (.slice none 0 0) (.slice none 0 0)) 28)
  obtain ⟨b1, hb1⟩ : ∃ b1, w2.heap.size = b1 := ⟨_, rfl⟩
  rw [hb1] at H3
  generalize w2.alloc (.cells #[.pointer (some ⟨p, 0, none⟩), .pointer (some ⟨b, 0, none⟩), .slice none 0 0, .slice none 0 0] 28) = w3 at *
  rw [hb1]
  clear hb1
  go_upto_region 5 with (go_at_call 31; (with_reducible refine (none_any _).mono ?_); rintro e w4 ⟨rfl, hb⟩; have H4 := hid (H3.out.self hM hb); clear hb)
  have H5 := hid (H4.out.new hM (wdV none3) 34)
  obtain ⟨b3, hb3⟩ : ∃ b3, w4.heap.size = b3 := ⟨_, rfl⟩
  rw [hb3] at H5
  have H5 : Hid (Gy Pm w0.heap.size (fun _ => False) w0 w2 (w4.alloc (.cells #[.int .i64 (none3 0), .int .i64 (none3 1), .int .i64 (none3 2)] 34)) p b E0 E0 [(b3, .cells #[.int .i64 (-1), .int .i64 (-1), .int .i64 (-1)] 34 (0, 0)), (b1, .cells (paC p b (.slice none 0 0) (.slice none 0 0)) 28 (0, 0))]) := H5
  generalize w4.alloc (.cells #[.int .i64 (none3 0), .int .i64 (none3 1), .int .i64 (none3 2)] 34) = w5 at *
  rw [hb3]
  clear hb3 H3 H4
  have c1 := row_c (i := 0) (u := .pointer (some ⟨p, 0, none⟩)) (H5.out.bl 1 rfl) rfl
  go_upto_region 6 with (go_at_call 43; (with_reducible refine (H5.out.lift (fun X W hz => HC1.out X W _ _ _ hz)).mono ?_); rintro e w6 ⟨rfl, hb⟩; have H6 := hid hb; clear hb c1; have d0 := row_c (i := 0) (u := .int .i64 (-1)) (H6.out.bl 0 rfl) rfl; have f0 := frozen_of_row w6 b3 0 _ _ (H6.out.bl 0 rfl))
  have H7 : Hid (Gy Pm w0.heap.size (fun _ => False) w0 w2 (w6.setCell ⟨b3, 0, none⟩ (.int .i64 0)) p b E1 E0 [(b3, .cells #[.int .i64 0, .int .i64 (-1), .int .i64 (-1)] 34 (0, 0)), (b1, .cells (paC p b (.slice none 0 0) (.slice none 0 0)) 28 (0, 0))]) := hid (H6.out.cell hM 0 (.int .i64 0))
  generalize w6.setCell ⟨b3, 0, none⟩ (.int .i64 0) = w7 at *
  clear d0 f0
  have c1 := row_c (i := 0) (u := .pointer (some ⟨p, 0, none⟩)) (H7.out.bl 1 rfl) rfl
  go_upto_region 7 with (go_at_call 43; (with_reducible refine (H7.out.lift (fun X W hz => HC2.out X W _ _ _ hz)).mono ?_); rintro e w8 ⟨rfl, hb⟩; have H8 := hid hb; clear hb c1; have d0 := row_c (i := 1) (u := .int .i64 (-1)) (H8.out.bl 0 rfl) rfl; have f0 := frozen_of_row w8 b3 1 _ _ (H8.out.bl 0 rfl))
  have H9 : Hid (Gy Pm w0.heap.size (fun _ => False) w0 w2 (w8.setCell ⟨b3, 1, none⟩ (.int .i64 1)) p b E2 E0 [(b3, .cells (wdV A0) 34 (0, 0)), (b1, .cells (paC p b (.slice none 0 0) (.slice none 0 0)) 28 (0, 0))]) := hid (by rw [HAW.out]; exact H8.out.cell hM 1 (.int .i64 1))
  generalize w8.setCell ⟨b3, 1, none⟩ (.int .i64 1) = w9 at *
  clear d0 f0
  have HP9 := hid (HP1.out.bz HL1.out H9.out.z)
  have c1 := row_c (i := 0) (u := .pointer (some ⟨p, 0, none⟩)) (H9.out.bl 1 rfl) rfl
  go_upto_region 8 with (first
    | (refine step_load_row rfl 34 _ rfl b3 34 (wdV A0) _ rfl (H9.out.bl 0 rfl) Tryd.underlying34 rfl (by kernel_rfl) ?_)
    | (go_at_call 12; (with_reducible refine (H9.out.lift (fun X W hz => HC3.out X W _ _ _ HP9.out hz)).mono ?_); rintro e w10 ⟨rfl, hb⟩; have H10 := hid hb; clear hb c1)
    | (refine step_store_row rfl 34 _ _ rfl b3 34 _ (wdV R) rfl rfl (H10.out.bl 0 rfl) (by kernel_rfl) rfl (by kernel_rfl) ?_))
  have H11 := hid (H10.out.row hM (wdV R))
  generalize w10.setRow b3 (wdV R) = w11 at *
  have c1 := row_c (i := 0) (u := .pointer (some ⟨p, 0, none⟩)) (H11.out.bl 1 rfl) rfl
  go_upto_region 9 with (go_at_call 16; (with_reducible refine (H11.out.asks hM (fun X W hz => HVL.out X W _ _ _ hz)).mono ?_); rintro e w12 ⟨⟨v, rfl, hv⟩, hb⟩; have H12 := hid hb; have V12 := hid hv; clear hb hv c1)
  obtain ⟨va, vc, rfl, hca⟩ := (rd_wr (f := fun i => [1, 2, 5, 4, 7].getD i 0) (L := 5) V12.out).at_
  obtain ⟨gv, ov, rfl, hgv, hcv⟩ := hca (by decide)
  have v3 : w12.cell? ⟨gv, ov + 3, none⟩ = some (.int .u64 4) := hcv 3 (by decide)
  have v4 : w12.cell? ⟨gv, ov + 4, none⟩ = some (.int .u64 7) := hcv 4 (by decide)
  have r0 := row_c (i := 0) (u := .int .i64 (R 0)) (H12.out.bl 0 rfl) rfl
  have r1 := row_c (i := 1) (u := .int .i64 (R 1)) (H12.out.bl 0 rfl) rfl
  rw [HR0.out] at r0
  rw [HR1.out] at r1
  clear hca hcv hgv
  go_wp2
  go_ret
  exact ⟨rfl, HLOW.out.trans (H12.out.fin.1.low.mono (by have := HSZ.out; omega))⟩
end Go.Proofs.YtinihebnajaejaaDoor
