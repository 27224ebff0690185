import Derived.Test.YthkijncnndoafaaGreatDoorBta
namespace Go.Proofs.YthkijncnndoafaaGreatDoor
open Go.RowKit
set_option maxRecDepth 100000
set_option maxHeartbeats 6400000 in
theorem yfold1 {Pm : World → Nat → Ms → (Nat → Prop) → Prop} (hM : Mach Pm) {lo : Nat} {X : Nat → Prop} {W w : World} {b bd k : Nat} {S S2 : Ms} (K : Int) (A : Nat → Int) (h : Bz Pm lo X W w bd b S2 S) (hq : Bq k S) (hk : k + 600 ≤ 100000) (hn : S.n = 2 ∨ S.n = 3) (hK : I64 K) (hA : Wb A) :
  Calls Tryz.prog 22 #[.pointer (some ⟨b, 0, none⟩), .int .i64 K, .agg (wdV A), .int .i64 2] w fun e w' => e = .returned (.agg (wdV ((bfX (isDom K) 1 S A 1).2))) ∧ Bz Pm lo X W w' bd b S2 ((bfX (isDom K) 1 S A 1).1) ∧ ∀ k, X k → w'.heap[k]? = w.heap[k]? := by
 have HB : ∀ j, j ≤ 1 → Bq (k + 70 * j) (bfX (isDom K) 1 S A j).1 ∧ Wb (bfX (isDom K) 1 S A j).2 := fun j hj => bfX_bq (dom := isDom K) (m := 1) (by decide) hn hq hA (j := j) (by omega)
 have HN : ∀ j, (bfX (isDom K) 1 S A j).1.n = 2 ∨ (bfX (isDom K) 1 S A j).1.n = 3 := fun j => by rw [(bfX_ext (isDom K) 1 S A j).n]; exact hn
 have HO : ∀ j, j < 1 → Bq (k + 70 * j + 6) (oneS (bfX (isDom K) 1 S A j).1 10 (bfX (isDom K) 1 S A j).2 (kN 1 j)) ∧ Wb (oneR (bfX (isDom K) 1 S A j).1 10 (bfX (isDom K) 1 S A j).2 (kN 1 j)) := fun j hj => by
  obtain ⟨a1, a2⟩ := HB j (by omega)
  obtain ⟨b1, b2, _, _⟩ := stp_bq (dom := isDom K) (HN j) (kN_lt (m := 1) (j := j) (by decide)) a1 a2 (by omega)
  exact ⟨b1, b2⟩
 have HC1 : Hid (∀ j, j < 1 → ∀ (bs : List (Nat × Obj)) (w' : World), Gy Pm lo X w w w' bd b S2 (bfX (isDom K) 1 S A j).1 bs → Calls Tryz.prog 54 #[.pointer (some ⟨b, 0, none⟩), .int .i64 10, .agg (wdV (bfX (isDom K) 1 S A j).2), .int .u64 (kN 1 j : Int)] w' fun e w2 => e = .returned (.agg (wdV (oneR (bfX (isDom K) 1 S A j).1 10 (bfX (isDom K) 1 S A j).2 (kN 1 j)))) ∧ Gy Pm lo X w w w2 bd b S2 (oneS (bfX (isDom K) 1 S A j).1 10 (bfX (isDom K) 1 S A j).2 (kN 1 j)) bs) := hid (fun j hj bs w' h' => h'.lift (fun _ _ hz => yone hM hz (HB j (by omega)).1 (by omega) (HN j) 10 (bfX (isDom K) 1 S A j).2 (kN 1 j) i64K10 (HB j (by omega)).2 (Nat.lt_trans (kN_lt (m := 1) (j := j) (by decide)) (by decide))))
 have HC2 : Hid (∀ j, j < 1 → ∀ (bs : List (Nat × Obj)) (w' : World), Gy Pm lo X w w w' bd b S2 (oneS (bfX (isDom K) 1 S A j).1 10 (bfX (isDom K) 1 S A j).2 (kN 1 j)) bs → Calls Tryz.prog 18 #[.pointer (some ⟨b, 0, none⟩), .int .i64 K, .agg (wdV (bfX (isDom K) 1 S A j).2), .agg (wdV (oneR (bfX (isDom K) 1 S A j).1 10 (bfX (isDom K) 1 S A j).2 (kN 1 j)))] w' fun e w2 => e = .returned (.agg (wdV (bfX (isDom K) 1 S A (j + 1)).2)) ∧ Gy Pm lo X w w w2 bd b S2 (bfX (isDom K) 1 S A (j + 1)).1 bs) := hid (fun j hj bs w' h' => h'.lift (fun _ _ hz => by
  have e := bfX_step (isDom K) 1 S A j
  rw [← kN_at hj] at e
  rw [e]
  exact yor hM K (bfX (isDom K) 1 S A j).2 (oneR (bfX (isDom K) 1 S A j).1 10 (bfX (isDom K) 1 S A j).2 (kN 1 j)) hz (HO j hj).1 (by omega) (by rw [(oneS_ext _ _ _ _).n]; exact HN j) hK (HB j (by omega)).2 (HO j hj).2))
 have HKH : Hid (∀ j, (kN 1 j) / 2 = kN 1 (j + 1)) := hid (kN_half 1)
 have HKP : Hid (∀ j, j < 1 → 0 < kN 1 j) := hid (fun j hj => kN_pos hj)
 have HKL : Hid (∀ j, kN 1 j < 64) := hid (fun j => kN_lt (by decide))
 have HKE : Hid (kN 1 1 = 0) := hid (kN_end 1)
 have HK0 : Hid (kN 1 0 = 1) := hid (by decide)
 have HLOW : Hid (Below lo W w) := hid h.low
 obtain ⟨w1, hw1⟩ : ∃ w1, ((w).alloc (.cells (wdV A) 37)).alloc (.cells #[.int .i64 0, .int .i64 0, .int .i64 0] 37) = w1 := ⟨_, rfl⟩
 have H1 : Hid (Gy Pm lo X w w w1 bd b S2 S [(w.heap.size + 1, Obj.cells #[.int .i64 0, .int .i64 0, .int .i64 0] 37 (0, 0)), (w.heap.size, Obj.cells (wdV A) 37 (0, 0))]) := hid (by
  have := (((Gy.start h.base).new hM (wdV A) 37).new hM #[.int .i64 0, .int .i64 0, .int .i64 0] 37)
  rw [hw1] at this
  simp only [sz_al] at this
  exact this)
 have HW := hid hw1
 clear hA hK HB HN HO h hq hk hn hw1
 obtain ⟨St, hSt⟩ : ∃ St : Nat → Ms, ∀ j, (bfX (isDom K) 1 S A j).1 = St j := ⟨_, fun _ => rfl⟩
 obtain ⟨R, hR⟩ : ∃ R : Nat → Nat → Int, ∀ j, (bfX (isDom K) 1 S A j).2 = R j := ⟨_, fun _ => rfl⟩
 have HS0 : Hid (S = St 0 ∧ A = R 0) := hid ⟨hSt 0, hR 0⟩
 simp only [hSt, hR] at HC1 HC2 ⊢
 clear hSt hR
 obtain ⟨OS, hOS⟩ : ∃ OS : Nat → Ms, ∀ j, oneS (St j) 10 (R j) (kN 1 j) = OS j := ⟨_, fun _ => rfl⟩
 obtain ⟨OR, hOR⟩ : ∃ OR : Nat → Nat → Int, ∀ j, oneR (St j) 10 (R j) (kN 1 j) = OR j := ⟨_, fun _ => rfl⟩
 simp only [hOS, hOR] at HC1 HC2
 clear hOS hOR
 obtain ⟨kn, hkn⟩ : ∃ kn : Nat → Nat, ∀ j, kN 1 j = kn j := ⟨_, fun _ => rfl⟩
 simp only [hkn] at HC1 HC2 HKH HKP HKL HKE HK0
 clear hkn
 have H2 : Hid (Gy Pm lo X w w w1 bd b S2 (St 0) [(w.heap.size + 1, Obj.cells #[.int .i64 0, .int .i64 0, .int .i64 0] 37 (0, 0)), (w.heap.size, Obj.cells (wdV (R 0)) 37 (0, 0))]) := hid (by rw [← HS0.out.1, ← HS0.out.2]; exact H1.out)
 clear H1
 go_enter Tryz.func22, Tryz.ntmps22
 go_upto_region 1 with fail
 rw [HW.out]
 have hk0 : (kn 0 : Int) = 1 := by rw [HK0.out]; rfl
 go_upto_region 9 with fail
 go_wp2
 go_loopw [9] (fun kv wr => ∃ j : Nat, j ≤ 1 ∧ kv = .int .i64 (kn j : Int) ∧ Gy Pm lo X w w wr bd b S2 (St j) [(w.heap.size + 1, Obj.cells #[.int .i64 0, .int .i64 0, .int .i64 0] 37 (0, 0)), (w.heap.size, Obj.cells (wdV (R j)) 37 (0, 0))]) (fun kv _ => (intOf kv).toNat)
 case atStart => exact ⟨0, by omega, by rw [hk0], H2.out⟩
 case round =>
  clear H2
  obtain ⟨j, hj, rfl, hJ⟩ := hrel
  have HJ := hid hJ
  clear hJ
  by_cases hlt : j < 1
  ·
   have kp := HKP.out j hlt
   have kl := HKL.out j
   have kh := HKH.out j
   have q1 : decide ((kn j : Int) > 0) = true := decide_eq_true (by omega)
   have q2 : decide (0 < kn j) = true := decide_eq_true kp
   have ek : IntKind.u64.wrap (kn j : Int) = (kn j : Int) := by rw [IntKind.wrap_u64]; omega
   have HKJ : Hid (j + 1 ≤ 1) := hid (by omega)
   have HKQ : Hid (((kn j : Int)).tdiv 2 = (kn (j + 1) : Int)) := hid (by rw [← kh]; rfl)
   have HMS : Hid (kn (j + 1) < kn j) := hid (by omega)
   replace HC1 := hid (HC1.out j hlt)
   replace HC2 := hid (HC2.out j hlt)
   clear hj hlt
   go_upto_region 11 with fail
   have G0 := hid (HJ.out.self hM ((Below.refl _ wr).drew))
   refine wp_region_rt (fun w' => True) (fun w' => w'.heap[w.heap.size]? = some (.cells (wdV (R j)) 37 (0, 0))) 9 (by kernel_rfl) (⟨trivial, G0.out.bl 1 rfl⟩) (fun h0 => ?_)
   generalize wr.drew = y0 at *
   refine rt_takeA (i := 0) (v := .pointer (some ⟨b, 0, none⟩)) rfl (by kernel_rfl) (by kernel_rfl) (by kernel_rfl) rfl (fun _ _ _ h => h) (.inl ⟨by rfl, fun w hw => by clear hw; go_simp⟩) h0 ?_
   try simp only [Act.put, lay_out]
   refine rt_takeA (i := 1) (v := .int .i64 K) rfl (by kernel_rfl) (by kernel_rfl) (by kernel_rfl) rfl (fun _ _ _ h => h) (.inl ⟨by rfl, fun w hw => by clear hw; go_simp⟩) h0 ?_
   try simp only [Act.put, lay_out]
   refine rt_takeT (i := 2) (v := .agg (wdV (R j))) rfl (by kernel_rfl) (by kernel_rfl) (by kernel_rfl) rfl (by kernel_rfl) (by kernel_rfl) (fun _ _ _ h => h) (yields_load_row (by rfl) 37 _ rfl (w.heap.size) 37 (wdV (R j)) _ rfl (fun w hw => hw) Tryz.underlying37 rfl (by kernel_rfl)) h0 ?_
   try simp only [Act.put, lay_out]
   refine rt_takeA (i := 3) (v := .pointer (some ⟨b, 0, none⟩)) rfl (by kernel_rfl) (by kernel_rfl) (by kernel_rfl) rfl (fun _ _ _ h => h) (.inl ⟨by rfl, fun w hw => by clear hw; go_simp⟩) h0 ?_
   try simp only [Act.put, lay_out]
   refine rt_takeT (i := 4) (v := .agg (wdV (R j))) rfl (by kernel_rfl) (by kernel_rfl) (by kernel_rfl) rfl (by kernel_rfl) (by kernel_rfl) (fun _ _ _ h => h) (yields_load_row (by rfl) 37 _ rfl (w.heap.size) 37 (wdV (R j)) _ rfl (fun w hw => hw) Tryz.underlying37 rfl (by kernel_rfl)) h0 ?_
   try simp only [Act.put, lay_out]
   refine rt_takeA (i := 5) (v := .int .i64 (kn j : Int)) rfl (by kernel_rfl) (by kernel_rfl) (by kernel_rfl) rfl (fun _ _ _ h => h) (.inl ⟨by rfl, fun w hw => by clear hw; go_simp⟩) h0 ?_
   try simp only [Act.put, lay_out]
   refine rt_takeA (i := 6) (v := .int .u64 (kn j : Int)) rfl (by kernel_rfl) (by kernel_rfl) (by kernel_rfl) rfl (fun _ _ _ h => h) (.inl ⟨by rfl, fun w hw => by clear hw; go_simp⟩) h0 ?_
   try simp only [Act.put, lay_out]
   refine rt_ready (rs := [7]) (by kernel_rfl) (by simp) (RtReady.consT rfl (fun K hK => ?_) RtReady.nil)
   rw [if_pos (by rfl)]
   go_simp
   go_at_call 54
   (with_reducible refine (HC1.out _ _ G0.out).mono ?_); rintro e y1 ⟨rfl, hz⟩
   have G1 := hid hz
   clear hz
   refine hK.out _ _ (⟨trivial, G1.out.bl 1 rfl⟩) (fun h1x => ?_)
   clear hK K
   try simp only [Act.put, lay_out]
   refine rt_ready (rs := [8]) (by kernel_rfl) (by simp) (RtReady.consT rfl (fun K hK => ?_) RtReady.nil)
   rw [if_pos (by rfl)]
   go_simp
   go_at_call 18
   (with_reducible refine (HC2.out _ _ G1.out).mono ?_); rintro e y2 ⟨rfl, hz⟩
   have G2 := hid hz
   clear hz
   refine hK.out _ _ (⟨trivial, G2.out.bl 1 rfl⟩) (fun h2x => ?_)
   clear hK K
   try simp only [Act.put, lay_out]
   refine rt_ready (rs := [9]) (by kernel_rfl) (by simp) (RtReady.consS rfl (by kernel_rfl) (fun K hK => ?_) RtReady.nil)
   rw [if_pos (by rfl)]
   refine wp_store_row 37 _ _ rfl (w.heap.size) (wdV (R (j + 1))) rfl rfl 37 _ (G2.out.bl 1 rfl) (by kernel_rfl) rfl (by kernel_rfl) ?_
   have G3 := hid (G2.out.rowI hM 1 rfl (wdV (R (j + 1))))
   generalize y2.setRow (w.heap.size) (wdV (R (j + 1))) = y3 at *
   refine hK.out _ _ (trivial) (fun h3x => ?_)
   clear hK K
   try simp only [Act.put, lay_out]
   refine rt_done (by kernel_rfl) ?_ _
   try refine NoPanic.normal ?_
   clear h0 h1x h2x h3x
   try simp only [Act.put, lay_out]
   go_wp2
   go_roundw
   case rel => exact ⟨j + 1, HKJ.out, by go_num, G3.out⟩
   case measure => simp [intOf]; omega
  ·
   obtain rfl : j = 1 := by omega
   have q1 : decide ((kn 1 : Int) > 0) = false := decide_eq_false (by rw [HKE.out]; decide)
   have q2 : decide (0 < kn 1) = false := decide_eq_false (by rw [HKE.out]; decide)
   clear hlt hj
   go_wp2_with (first
    | (refine step_load_row rfl 37 _ rfl (w.heap.size) 37 (wdV (R 1)) _ rfl (HJ.out.bl 1 rfl) Tryz.underlying37 rfl (by kernel_rfl) ?_)
    | (refine step_store_row rfl 37 _ _ rfl (w.heap.size + 1) 37 _ (wdV (R 1)) rfl rfl (HJ.out.bl 0 rfl) (by kernel_rfl) rfl (by kernel_rfl) ?_))
   have H9 := hid (HJ.out.rowI hM 0 rfl (wdV (R 1)))
   exact bodyPost_ret (results_cell_row (by rfl) _ _ (w.heap.size + 1) 37 (wdV (R 1)) (0, 0) _ rfl (H9.out.bl 0 rfl) Tryz.underlying37 rfl (by kernel_rfl)) rfl ⟨rfl, H9.out.fin.1.up HLOW.out, H9.out.fin.2⟩
set_option maxHeartbeats 6400000 in
theorem yfold2 {Pm : World → Nat → Ms → (Nat → Prop) → Prop} (hM : Mach Pm) {lo : Nat} {X : Nat → Prop} {W w : World} {b bd k : Nat} {S S2 : Ms} (K : Int) (A : Nat → Int) (h : Bz Pm lo X W w bd b S2 S) (hq : Bq k S) (hk : k + 600 ≤ 100000) (hn : S.n = 2 ∨ S.n = 3) (hK : I64 K) (hA : Wb A) :
  Calls Tryz.prog 22 #[.pointer (some ⟨b, 0, none⟩), .int .i64 K, .agg (wdV A), .int .i64 4] w fun e w' => e = .returned (.agg (wdV ((bfX (isDom K) 2 S A 2).2))) ∧ Bz Pm lo X W w' bd b S2 ((bfX (isDom K) 2 S A 2).1) ∧ ∀ k, X k → w'.heap[k]? = w.heap[k]? := by
 have HB : ∀ j, j ≤ 2 → Bq (k + 70 * j) (bfX (isDom K) 2 S A j).1 ∧ Wb (bfX (isDom K) 2 S A j).2 := fun j hj => bfX_bq (dom := isDom K) (m := 2) (by decide) hn hq hA (j := j) (by omega)
 have HN : ∀ j, (bfX (isDom K) 2 S A j).1.n = 2 ∨ (bfX (isDom K) 2 S A j).1.n = 3 := fun j => by rw [(bfX_ext (isDom K) 2 S A j).n]; exact hn
 have HO : ∀ j, j < 2 → Bq (k + 70 * j + 6) (oneS (bfX (isDom K) 2 S A j).1 10 (bfX (isDom K) 2 S A j).2 (kN 2 j)) ∧ Wb (oneR (bfX (isDom K) 2 S A j).1 10 (bfX (isDom K) 2 S A j).2 (kN 2 j)) := fun j hj => by
  obtain ⟨a1, a2⟩ := HB j (by omega)
  obtain ⟨b1, b2, _, _⟩ := stp_bq (dom := isDom K) (HN j) (kN_lt (m := 2) (j := j) (by decide)) a1 a2 (by omega)
  exact ⟨b1, b2⟩
 have HC1 : Hid (∀ j, j < 2 → ∀ (bs : List (Nat × Obj)) (w' : World), Gy Pm lo X w w w' bd b S2 (bfX (isDom K) 2 S A j).1 bs → Calls Tryz.prog 54 #[.pointer (some ⟨b, 0, none⟩), .int .i64 10, .agg (wdV (bfX (isDom K) 2 S A j).2), .int .u64 (kN 2 j : Int)] w' fun e w2 => e = .returned (.agg (wdV (oneR (bfX (isDom K) 2 S A j).1 10 (bfX (isDom K) 2 S A j).2 (kN 2 j)))) ∧ Gy Pm lo X w w w2 bd b S2 (oneS (bfX (isDom K) 2 S A j).1 10 (bfX (isDom K) 2 S A j).2 (kN 2 j)) bs) := hid (fun j hj bs w' h' => h'.lift (fun _ _ hz => yone hM hz (HB j (by omega)).1 (by omega) (HN j) 10 (bfX (isDom K) 2 S A j).2 (kN 2 j) i64K10 (HB j (by omega)).2 (Nat.lt_trans (kN_lt (m := 2) (j := j) (by decide)) (by decide))))
 have HC2 : Hid (∀ j, j < 2 → ∀ (bs : List (Nat × Obj)) (w' : World), Gy Pm lo X w w w' bd b S2 (oneS (bfX (isDom K) 2 S A j).1 10 (bfX (isDom K) 2 S A j).2 (kN 2 j)) bs → Calls Tryz.prog 18 #[.pointer (some ⟨b, 0, none⟩), .int .i64 K, .agg (wdV (bfX (isDom K) 2 S A j).2), .agg (wdV (oneR (bfX (isDom K) 2 S A j).1 10 (bfX (isDom K) 2 S A j).2 (kN 2 j)))] w' fun e w2 => e = .returned (.agg (wdV (bfX (isDom K) 2 S A (j + 1)).2)) ∧ Gy Pm lo X w w w2 bd b S2 (bfX (isDom K) 2 S A (j + 1)).1 bs) := hid (fun j hj bs w' h' => h'.lift (fun _ _ hz => by
  have e := bfX_step (isDom K) 2 S A j
  rw [← kN_at hj] at e
  rw [e]
  exact yor hM K (bfX (isDom K) 2 S A j).2 (oneR (bfX (isDom K) 2 S A j).1 10 (bfX (isDom K) 2 S A j).2 (kN 2 j)) hz (HO j hj).1 (by omega) (by rw [(oneS_ext _ _ _ _).n]; exact HN j) hK (HB j (by omega)).2 (HO j hj).2))
 have HKH : Hid (∀ j, (kN 2 j) / 2 = kN 2 (j + 1)) := hid (kN_half 2)
 have HKP : Hid (∀ j, j < 2 → 0 < kN 2 j) := hid (fun j hj => kN_pos hj)
 have HKL : Hid (∀ j, kN 2 j < 64) := hid (fun j => kN_lt (by decide))
 have HKE : Hid (kN 2 2 = 0) := hid (kN_end 2)
 have HK0 : Hid (kN 2 0 = 2) := hid (by decide)
 have HLOW : Hid (Below lo W w) := hid h.low
 obtain ⟨w1, hw1⟩ : ∃ w1, ((w).alloc (.cells (wdV A) 37)).alloc (.cells #[.int .i64 0, .int .i64 0, .int .i64 0] 37) = w1 := ⟨_, rfl⟩
 have H1 : Hid (Gy Pm lo X w w w1 bd b S2 S [(w.heap.size + 1, Obj.cells #[.int .i64 0, .int .i64 0, .int .i64 0] 37 (0, 0)), (w.heap.size, Obj.cells (wdV A) 37 (0, 0))]) := hid (by
  have := (((Gy.start h.base).new hM (wdV A) 37).new hM #[.int .i64 0, .int .i64 0, .int .i64 0] 37)
  rw [hw1] at this
  simp only [sz_al] at this
  exact this)
 have HW := hid hw1
 clear hA hK HB HN HO h hq hk hn hw1
 obtain ⟨St, hSt⟩ : ∃ St : Nat → Ms, ∀ j, (bfX (isDom K) 2 S A j).1 = St j := ⟨_, fun _ => rfl⟩
 obtain ⟨R, hR⟩ : ∃ R : Nat → Nat → Int, ∀ j, (bfX (isDom K) 2 S A j).2 = R j := ⟨_, fun _ => rfl⟩
 have HS0 : Hid (S = St 0 ∧ A = R 0) := hid ⟨hSt 0, hR 0⟩
 simp only [hSt, hR] at HC1 HC2 ⊢
 clear hSt hR
 obtain ⟨OS, hOS⟩ : ∃ OS : Nat → Ms, ∀ j, oneS (St j) 10 (R j) (kN 2 j) = OS j := ⟨_, fun _ => rfl⟩
 obtain ⟨OR, hOR⟩ : ∃ OR : Nat → Nat → Int, ∀ j, oneR (St j) 10 (R j) (kN 2 j) = OR j := ⟨_, fun _ => rfl⟩
 simp only [hOS, hOR] at HC1 HC2
 clear hOS hOR
 obtain ⟨kn, hkn⟩ : ∃ kn : Nat → Nat, ∀ j, kN 2 j = kn j := ⟨_, fun _ => rfl⟩
 simp only [hkn] at HC1 HC2 HKH HKP HKL HKE HK0
 clear hkn
 have H2 : Hid (Gy Pm lo X w w w1 bd b S2 (St 0) [(w.heap.size + 1, Obj.cells #[.int .i64 0, .int .i64 0, .int .i64 0] 37 (0, 0)), (w.heap.size, Obj.cells (wdV (R 0)) 37 (0, 0))]) := hid (by rw [← HS0.out.1, ← HS0.out.2]; exact H1.out)
 clear H1
 go_enter Tryz.func22, Tryz.ntmps22
 go_upto_region 1 with fail
 rw [HW.out]
 have hk0 : (kn 0 : Int) = 2 := by rw [HK0.out]; rfl
 go_upto_region 9 with fail
 go_wp2
 go_loopw [9] (fun kv wr => ∃ j : Nat, j ≤ 2 ∧ kv = .int .i64 (kn j : Int) ∧ Gy Pm lo X w w wr bd b S2 (St j) [(w.heap.size + 1, Obj.cells #[.int .i64 0, .int .i64 0, .int .i64 0] 37 (0, 0)), (w.heap.size, Obj.cells (wdV (R j)) 37 (0, 0))]) (fun kv _ => (intOf kv).toNat)
 case atStart => exact ⟨0, by omega, by rw [hk0], H2.out⟩
 case round =>
  clear H2
  obtain ⟨j, hj, rfl, hJ⟩ := hrel
  have HJ := hid hJ
  clear hJ
  by_cases hlt : j < 2
  ·
   have kp := HKP.out j hlt
   have kl := HKL.out j
   have kh := HKH.out j
   have q1 : decide ((kn j : Int) > 0) = true := decide_eq_true (by omega)
   have q2 : decide (0 < kn j) = true := decide_eq_true kp
   have ek : IntKind.u64.wrap (kn j : Int) = (kn j : Int) := by rw [IntKind.wrap_u64]; omega
   have HKJ : Hid (j + 1 ≤ 2) := hid (by omega)
   have HKQ : Hid (((kn j : Int)).tdiv 2 = (kn (j + 1) : Int)) := hid (by rw [← kh]; rfl)
   have HMS : Hid (kn (j + 1) < kn j) := hid (by omega)
   replace HC1 := hid (HC1.out j hlt)
   replace HC2 := hid (HC2.out j hlt)
   clear hj hlt
   go_upto_region 11 with fail
   have G0 := hid (HJ.out.self hM ((Below.refl _ wr).drew))
   refine wp_region_rt (fun w' => True) (fun w' => w'.heap[w.heap.size]? = some (.cells (wdV (R j)) 37 (0, 0))) 9 (by kernel_rfl) (⟨trivial, G0.out.bl 1 rfl⟩) (fun h0 => ?_)
   generalize wr.drew = y0 at *
   refine rt_takeA (i := 0) (v := .pointer (some ⟨b, 0, none⟩)) rfl (by kernel_rfl) (by kernel_rfl) (by kernel_rfl) rfl (fun _ _ _ h => h) (.inl ⟨by rfl, fun w hw => by clear hw; go_simp⟩) h0 ?_
   try simp only [Act.put, lay_out]
   refine rt_takeA (i := 1) (v := .int .i64 K) rfl (by kernel_rfl) (by kernel_rfl) (by kernel_rfl) rfl (fun _ _ _ h => h) (.inl ⟨by rfl, fun w hw => by clear hw; go_simp⟩) h0 ?_
   try simp only [Act.put, lay_out]
   refine rt_takeT (i := 2) (v := .agg (wdV (R j))) rfl (by kernel_rfl) (by kernel_rfl) (by kernel_rfl) rfl (by kernel_rfl) (by kernel_rfl) (fun _ _ _ h => h) (yields_load_row (by rfl) 37 _ rfl (w.heap.size) 37 (wdV (R j)) _ rfl (fun w hw => hw) Tryz.underlying37 rfl (by kernel_rfl)) h0 ?_
   try simp only [Act.put, lay_out]
   refine rt_takeA (i := 3) (v := .pointer (some ⟨b, 0, none⟩)) rfl (by kernel_rfl) (by kernel_rfl) (by kernel_rfl) rfl (fun _ _ _ h => h) (.inl ⟨by rfl, fun w hw => by clear hw; go_simp⟩) h0 ?_
   try simp only [Act.put, lay_out]
   refine rt_takeT (i := 4) (v := .agg (wdV (R j))) rfl (by kernel_rfl) (by kernel_rfl) (by kernel_rfl) rfl (by kernel_rfl) (by kernel_rfl) (fun _ _ _ h => h) (yields_load_row (by rfl) 37 _ rfl (w.heap.size) 37 (wdV (R j)) _ rfl (fun w hw => hw) Tryz.underlying37 rfl (by kernel_rfl)) h0 ?_
   try simp only [Act.put, lay_out]
   refine rt_takeA (i := 5) (v := .int .i64 (kn j : Int)) rfl (by kernel_rfl) (by kernel_rfl) (by kernel_rfl) rfl (fun _ _ _ h => h) (.inl ⟨by rfl, fun w hw => by clear hw; go_simp⟩) h0 ?_
   try simp only [Act.put, lay_out]
   refine rt_takeA (i := 6) (v := .int .u64 (kn j : Int)) rfl (by kernel_rfl) (by kernel_rfl) (by kernel_rfl) rfl (fun _ _ _ h => h) (.inl ⟨by rfl, fun w hw => by clear hw; go_simp⟩) h0 ?_
   try simp only [Act.put, lay_out]
   refine rt_ready (rs := [7]) (by kernel_rfl) (by simp) (RtReady.consT rfl (fun K hK => ?_) RtReady.nil)
   rw [if_pos (by rfl)]
   go_simp
   go_at_call 54
   (with_reducible refine (HC1.out _ _ G0.out).mono ?_); rintro e y1 ⟨rfl, hz⟩
   have G1 := hid hz
   clear hz
   refine hK.out _ _ (⟨trivial, G1.out.bl 1 rfl⟩) (fun h1x => ?_)
   clear hK K
   try simp only [Act.put, lay_out]
   refine rt_ready (rs := [8]) (by kernel_rfl) (by simp) (RtReady.consT rfl (fun K hK => ?_) RtReady.nil)
   rw [if_pos (by rfl)]
   go_simp
   go_at_call 18
   (with_reducible refine (HC2.out _ _ G1.out).mono ?_); rintro e y2 ⟨rfl, hz⟩
   have G2 := hid hz
   clear hz
   refine hK.out _ _ (⟨trivial, G2.out.bl 1 rfl⟩) (fun h2x => ?_)
   clear hK K
   try simp only [Act.put, lay_out]
   refine rt_ready (rs := [9]) (by kernel_rfl) (by simp) (RtReady.consS rfl (by kernel_rfl) (fun K hK => ?_) RtReady.nil)
   rw [if_pos (by rfl)]
   refine wp_store_row 37 _ _ rfl (w.heap.size) (wdV (R (j + 1))) rfl rfl 37 _ (G2.out.bl 1 rfl) (by kernel_rfl) rfl (by kernel_rfl) ?_
   have G3 := hid (G2.out.rowI hM 1 rfl (wdV (R (j + 1))))
   generalize y2.setRow (w.heap.size) (wdV (R (j + 1))) = y3 at *
   refine hK.out _ _ (trivial) (fun h3x => ?_)
   clear hK K
   try simp only [Act.put, lay_out]
   refine rt_done (by kernel_rfl) ?_ _
   try refine NoPanic.normal ?_
   clear h0 h1x h2x h3x
   try simp only [Act.put, lay_out]
   go_wp2
   go_roundw
   case rel => exact ⟨j + 1, HKJ.out, by go_num, G3.out⟩
   case measure => simp [intOf]; omega
  ·
   obtain rfl : j = 2 := by omega
   have q1 : decide ((kn 2 : Int) > 0) = false := decide_eq_false (by rw [HKE.out]; decide)
   have q2 : decide (0 < kn 2) = false := decide_eq_false (by rw [HKE.out]; decide)
   clear hlt hj
   go_wp2_with (first
    | (refine step_load_row rfl 37 _ rfl (w.heap.size) 37 (wdV (R 2)) _ rfl (HJ.out.bl 1 rfl) Tryz.underlying37 rfl (by kernel_rfl) ?_)
    | (refine step_store_row rfl 37 _ _ rfl (w.heap.size + 1) 37 _ (wdV (R 2)) rfl rfl (HJ.out.bl 0 rfl) (by kernel_rfl) rfl (by kernel_rfl) ?_))
   have H9 := hid (HJ.out.rowI hM 0 rfl (wdV (R 2)))
   exact bodyPost_ret (results_cell_row (by rfl) _ _ (w.heap.size + 1) 37 (wdV (R 2)) (0, 0) _ rfl (H9.out.bl 0 rfl) Tryz.underlying37 rfl (by kernel_rfl)) rfl ⟨rfl, H9.out.fin.1.up HLOW.out, H9.out.fin.2⟩
set_option maxHeartbeats 6400000 in
theorem yfold3 {Pm : World → Nat → Ms → (Nat → Prop) → Prop} (hM : Mach Pm) {lo : Nat} {X : Nat → Prop} {W w : World} {b bd k : Nat} {S S2 : Ms} (K : Int) (A : Nat → Int) (h : Bz Pm lo X W w bd b S2 S) (hq : Bq k S) (hk : k + 600 ≤ 100000) (hn : S.n = 2 ∨ S.n = 3) (hK : I64 K) (hA : Wb A) :
  Calls Tryz.prog 22 #[.pointer (some ⟨b, 0, none⟩), .int .i64 K, .agg (wdV A), .int .i64 8] w fun e w' => e = .returned (.agg (wdV ((bfX (isDom K) 3 S A 3).2))) ∧ Bz Pm lo X W w' bd b S2 ((bfX (isDom K) 3 S A 3).1) ∧ ∀ k, X k → w'.heap[k]? = w.heap[k]? := by
 have HB : ∀ j, j ≤ 3 → Bq (k + 70 * j) (bfX (isDom K) 3 S A j).1 ∧ Wb (bfX (isDom K) 3 S A j).2 := fun j hj => bfX_bq (dom := isDom K) (m := 3) (by decide) hn hq hA (j := j) (by omega)
 have HN : ∀ j, (bfX (isDom K) 3 S A j).1.n = 2 ∨ (bfX (isDom K) 3 S A j).1.n = 3 := fun j => by rw [(bfX_ext (isDom K) 3 S A j).n]; exact hn
 have HO : ∀ j, j < 3 → Bq (k + 70 * j + 6) (oneS (bfX (isDom K) 3 S A j).1 10 (bfX (isDom K) 3 S A j).2 (kN 3 j)) ∧ Wb (oneR (bfX (isDom K) 3 S A j).1 10 (bfX (isDom K) 3 S A j).2 (kN 3 j)) := fun j hj => by
  obtain ⟨a1, a2⟩ := HB j (by omega)
  obtain ⟨b1, b2, _, _⟩ := stp_bq (dom := isDom K) (HN j) (kN_lt (m := 3) (j := j) (by decide)) a1 a2 (by omega)
  exact ⟨b1, b2⟩
 have HC1 : Hid (∀ j, j < 3 → ∀ (bs : List (Nat × Obj)) (w' : World), Gy Pm lo X w w w' bd b S2 (bfX (isDom K) 3 S A j).1 bs → Calls Tryz.prog 54 #[.pointer (some ⟨b, 0, none⟩), .int .i64 10, .agg (wdV (bfX (isDom K) 3 S A j).2), .int .u64 (kN 3 j : Int)] w' fun e w2 => e = .returned (.agg (wdV (oneR (bfX (isDom K) 3 S A j).1 10 (bfX (isDom K) 3 S A j).2 (kN 3 j)))) ∧ Gy Pm lo X w w w2 bd b S2 (oneS (bfX (isDom K) 3 S A j).1 10 (bfX (isDom K) 3 S A j).2 (kN 3 j)) bs) := hid (fun j hj bs w' h' => h'.lift (fun _ _ hz => yone hM hz (HB j (by omega)).1 (by omega) (HN j) 10 (bfX (isDom K) 3 S A j).2 (kN 3 j) i64K10 (HB j (by omega)).2 (Nat.lt_trans (kN_lt (m := 3) (j := j) (by decide)) (by decide))))
 have HC2 : Hid (∀ j, j < 3 → ∀ (bs : List (Nat × Obj)) (w' : World), Gy Pm lo X w w w' bd b S2 (oneS (bfX (isDom K) 3 S A j).1 10 (bfX (isDom K) 3 S A j).2 (kN 3 j)) bs → Calls Tryz.prog 18 #[.pointer (some ⟨b, 0, none⟩), .int .i64 K, .agg (wdV (bfX (isDom K) 3 S A j).2), .agg (wdV (oneR (bfX (isDom K) 3 S A j).1 10 (bfX (isDom K) 3 S A j).2 (kN 3 j)))] w' fun e w2 => e = .returned (.agg (wdV (bfX (isDom K) 3 S A (j + 1)).2)) ∧ Gy Pm lo X w w w2 bd b S2 (bfX (isDom K) 3 S A (j + 1)).1 bs) := hid (fun j hj bs w' h' => h'.lift (fun _ _ hz => by
  have e := bfX_step (isDom K) 3 S A j
  rw [← kN_at hj] at e
  rw [e]
  exact yor hM K (bfX (isDom K) 3 S A j).2 (oneR (bfX (isDom K) 3 S A j).1 10 (bfX (isDom K) 3 S A j).2 (kN 3 j)) hz (HO j hj).1 (by omega) (by rw [(oneS_ext _ _ _ _).n]; exact HN j) hK (HB j (by omega)).2 (HO j hj).2))
 have HKH : Hid (∀ j, (kN 3 j) / 2 = kN 3 (j + 1)) := hid (kN_half 3)
 have HKP : Hid (∀ j, j < 3 → 0 < kN 3 j) := hid (fun j hj => kN_pos hj)
 have HKL : Hid (∀ j, kN 3 j < 64) := hid (fun j => kN_lt (by decide))
 have HKE : Hid (kN 3 3 = 0) := hid (kN_end 3)
 have HK0 : Hid (kN 3 0 = 4) := hid (by decide)
 have HLOW : Hid (Below lo W w) := hid h.low
 obtain ⟨w1, hw1⟩ : ∃ w1, ((w).alloc (.cells (wdV A) 37)).alloc (.cells #[.int .i64 0, .int .i64 0, .int .i64 0] 37) = w1 := ⟨_, rfl⟩
 have H1 : Hid (Gy Pm lo X w w w1 bd b S2 S [(w.heap.size + 1, Obj.cells #[.int .i64 0, .int .i64 0, .int .i64 0] 37 (0, 0)), (w.heap.size, Obj.cells (wdV A) 37 (0, 0))]) := hid (by
  have := (((Gy.start h.base).new hM (wdV A) 37).new hM #[.int .i64 0, .int .i64 0, .int .i64 0] 37)
  rw [hw1] at this
  simp only [sz_al] at this
  exact this)
 have HW := hid hw1
 clear hA hK HB HN HO h hq hk hn hw1
 obtain ⟨St, hSt⟩ : ∃ St : Nat → Ms, ∀ j, (bfX (isDom K) 3 S A j).1 = St j := ⟨_, fun _ => rfl⟩
 obtain ⟨R, hR⟩ : ∃ R : Nat → Nat → Int, ∀ j, (bfX (isDom K) 3 S A j).2 = R j := ⟨_, fun _ => rfl⟩
 have HS0 : Hid (S = St 0 ∧ A = R 0) := hid ⟨hSt 0, hR 0⟩
 simp only [hSt, hR] at HC1 HC2 ⊢
 clear hSt hR
 obtain ⟨OS, hOS⟩ : ∃ OS : Nat → Ms, ∀ j, oneS (St j) 10 (R j) (kN 3 j) = OS j := ⟨_, fun _ => rfl⟩
 obtain ⟨OR, hOR⟩ : ∃ OR : Nat → Nat → Int, ∀ j, oneR (St j) 10 (R j) (kN 3 j) = OR j := ⟨_, fun _ => rfl⟩
 simp only [hOS, hOR] at HC1 HC2
 clear hOS hOR
 obtain ⟨kn, hkn⟩ : ∃ kn : Nat → Nat, ∀ j, kN 3 j = kn j := ⟨_, fun _ => rfl⟩
 simp only [hkn] at HC1 HC2 HKH HKP HKL HKE HK0
 clear hkn
 have H2 : Hid (Gy Pm lo X w w w1 bd b S2 (St 0) [(w.heap.size + 1, Obj.cells #[.int .i64 0, .int .i64 0, .int .i64 0] 37 (0, 0)), (w.heap.size, Obj.cells (wdV (R 0)) 37 (0, 0))]) := hid (by rw [← HS0.out.1, ← HS0.out.2]; exact H1.out)
 clear H1
 go_enter Tryz.func22, Tryz.ntmps22
 go_upto_region 1 with fail
 rw [HW.out]
 have hk0 : (kn 0 : Int) = 4 := by rw [HK0.out]; rfl
 go_upto_region 9 with fail
 go_wp2
 go_loopw [9] (fun kv wr => ∃ j : Nat, j ≤ 3 ∧ kv = .int .i64 (kn j : Int) ∧ Gy Pm lo X w w wr bd b S2 (St j) [(w.heap.size + 1, Obj.cells #[.int .i64 0, .int .i64 0, .int .i64 0] 37 (0, 0)), (w.heap.size, Obj.cells (wdV (R j)) 37 (0, 0))]) (fun kv _ => (intOf kv).toNat)
 case atStart => exact ⟨0, by omega, by rw [hk0], H2.out⟩
 case round =>
  clear H2
  obtain ⟨j, hj, rfl, hJ⟩ := hrel
  have HJ := hid hJ
  clear hJ
  by_cases hlt : j < 3
  ·
   have kp := HKP.out j hlt
   have kl := HKL.out j
   have kh := HKH.out j
   have q1 : decide ((kn j : Int) > 0) = true := decide_eq_true (by omega)
   have q2 : decide (0 < kn j) = true := decide_eq_true kp
   have ek : IntKind.u64.wrap (kn j : Int) = (kn j : Int) := by rw [IntKind.wrap_u64]; omega
   have HKJ : Hid (j + 1 ≤ 3) := hid (by omega)
   have HKQ : Hid (((kn j : Int)).tdiv 2 = (kn (j + 1) : Int)) := hid (by rw [← kh]; rfl)
   have HMS : Hid (kn (j + 1) < kn j) := hid (by omega)
   replace HC1 := hid (HC1.out j hlt)
   replace HC2 := hid (HC2.out j hlt)
   clear hj hlt
   go_upto_region 11 with fail
   have G0 := hid (HJ.out.self hM ((Below.refl _ wr).drew))
   refine wp_region_rt (fun w' => True) (fun w' => w'.heap[w.heap.size]? = some (.cells (wdV (R j)) 37 (0, 0))) 9 (by kernel_rfl) (⟨trivial, G0.out.bl 1 rfl⟩) (fun h0 => ?_)
   generalize wr.drew = y0 at *
   refine rt_takeA (i := 0) (v := .pointer (some ⟨b, 0, none⟩)) rfl (by kernel_rfl) (by kernel_rfl) (by kernel_rfl) rfl (fun _ _ _ h => h) (.inl ⟨by rfl, fun w hw => by clear hw; go_simp⟩) h0 ?_
   try simp only [Act.put, lay_out]
   refine rt_takeA (i := 1) (v := .int .i64 K) rfl (by kernel_rfl) (by kernel_rfl) (by kernel_rfl) rfl (fun _ _ _ h => h) (.inl ⟨by rfl, fun w hw => by clear hw; go_simp⟩) h0 ?_
   try simp only [Act.put, lay_out]
   refine rt_takeT (i := 2) (v := .agg (wdV (R j))) rfl (by kernel_rfl) (by kernel_rfl) (by kernel_rfl) rfl (by kernel_rfl) (by kernel_rfl) (fun _ _ _ h => h) (yields_load_row (by rfl) 37 _ rfl (w.heap.size) 37 (wdV (R j)) _ rfl (fun w hw => hw) Tryz.underlying37 rfl (by kernel_rfl)) h0 ?_
   try simp only [Act.put, lay_out]
   refine rt_takeA (i := 3) (v := .pointer (some ⟨b, 0, none⟩)) rfl (by kernel_rfl) (by kernel_rfl) (by kernel_rfl) rfl (fun _ _ _ h => h) (.inl ⟨by rfl, fun w hw => by clear hw; go_simp⟩) h0 ?_
   try simp only [Act.put, lay_out]
   refine rt_takeT (i := 4) (v := .agg (wdV (R j))) rfl (by kernel_rfl) (by kernel_rfl) (by kernel_rfl) rfl (by kernel_rfl) (by kernel_rfl) (fun _ _ _ h => h) (yields_load_row (by rfl) 37 _ rfl (w.heap.size) 37 (wdV (R j)) _ rfl (fun w hw => hw) Tryz.underlying37 rfl (by kernel_rfl)) h0 ?_
   try simp only [Act.put, lay_out]
   refine rt_takeA (i := 5) (v := .int .i64 (kn j : Int)) rfl (by kernel_rfl) (by kernel_rfl) (by kernel_rfl) rfl (fun _ _ _ h => h) (.inl ⟨by rfl, fun w hw => by clear hw; go_simp⟩) h0 ?_
   try simp only [Act.put, lay_out]
   refine rt_takeA (i := 6) (v := .int .u64 (kn j : Int)) rfl (by kernel_rfl) (by kernel_rfl) (by kernel_rfl) rfl (fun _ _ _ h => h) (.inl ⟨by rfl, fun w hw => by clear hw; go_simp⟩) h0 ?_
   try simp only [Act.put, lay_out]
   refine rt_ready (rs := [7]) (by kernel_rfl) (by simp) (RtReady.consT rfl (fun K hK => ?_) RtReady.nil)
   rw [if_pos (by rfl)]
   go_simp
   go_at_call 54
   (with_reducible refine (HC1.out _ _ G0.out).mono ?_); rintro e y1 ⟨rfl, hz⟩
   have G1 := hid hz
   clear hz
   refine hK.out _ _ (⟨trivial, G1.out.bl 1 rfl⟩) (fun h1x => ?_)
   clear hK K
   try simp only [Act.put, lay_out]
   refine rt_ready (rs := [8]) (by kernel_rfl) (by simp) (RtReady.consT rfl (fun K hK => ?_) RtReady.nil)
   rw [if_pos (by rfl)]
   go_simp
   go_at_call 18
   (with_reducible refine (HC2.out _ _ G1.out).mono ?_); rintro e y2 ⟨rfl, hz⟩
   have G2 := hid hz
   clear hz
   refine hK.out _ _ (⟨trivial, G2.out.bl 1 rfl⟩) (fun h2x => ?_)
   clear hK K
   try simp only [Act.put, lay_out]
   refine rt_ready (rs := [9]) (by kernel_rfl) (by simp) (RtReady.consS rfl (by kernel_rfl) (fun K hK => ?_) RtReady.nil)
   rw [if_pos (by rfl)]
   refine wp_store_row 37 _ _ rfl (w.heap.size) (wdV (R (j + 1))) rfl rfl 37 _ (G2.out.bl 1 rfl) (by kernel_rfl) rfl (by kernel_rfl) ?_
   have G3 := hid (G2.out.rowI hM 1 rfl (wdV (R (j + 1))))
   generalize y2.setRow (w.heap.size) (wdV (R (j + 1))) = y3 at *
   refine hK.out _ _ (trivial) (fun h3x => ?_)
   clear hK K
   try simp only [Act.put, lay_out]
   refine rt_done (by kernel_rfl) ?_ _
   try refine NoPanic.normal ?_
   clear h0 h1x h2x h3x
   try simp only [Act.put, lay_out]
   go_wp2
   go_roundw
   case rel => exact ⟨j + 1, HKJ.out, by go_num, G3.out⟩
   case measure => simp [intOf]; omega
  ·
   obtain rfl : j = 3 := by omega
   have q1 : decide ((kn 3 : Int) > 0) = false := decide_eq_false (by rw [HKE.out]; decide)
   have q2 : decide (0 < kn 3) = false := decide_eq_false (by rw [HKE.out]; decide)
   clear hlt hj
   go_wp2_with (first
    | (refine step_load_row rfl 37 _ rfl (w.heap.size) 37 (wdV (R 3)) _ rfl (HJ.out.bl 1 rfl) Tryz.underlying37 rfl (by kernel_rfl) ?_)
    | (refine step_store_row rfl 37 _ _ rfl (w.heap.size + 1) 37 _ (wdV (R 3)) rfl rfl (HJ.out.bl 0 rfl) (by kernel_rfl) rfl (by kernel_rfl) ?_))
   have H9 := hid (HJ.out.rowI hM 0 rfl (wdV (R 3)))
   exact bodyPost_ret (results_cell_row (by rfl) _ _ (w.heap.size + 1) 37 (wdV (R 3)) (0, 0) _ rfl (H9.out.bl 0 rfl) Tryz.underlying37 rfl (by kernel_rfl)) rfl ⟨rfl, H9.out.fin.1.up HLOW.out, H9.out.fin.2⟩
set_option maxHeartbeats 6400000 in
theorem yfold4 {Pm : World → Nat → Ms → (Nat → Prop) → Prop} (hM : Mach Pm) {lo : Nat} {X : Nat → Prop} {W w : World} {b bd k : Nat} {S S2 : Ms} (K : Int) (A : Nat → Int) (h : Bz Pm lo X W w bd b S2 S) (hq : Bq k S) (hk : k + 600 ≤ 100000) (hn : S.n = 2 ∨ S.n = 3) (hK : I64 K) (hA : Wb A) :
  Calls Tryz.prog 22 #[.pointer (some ⟨b, 0, none⟩), .int .i64 K, .agg (wdV A), .int .i64 16] w fun e w' => e = .returned (.agg (wdV ((bfX (isDom K) 4 S A 4).2))) ∧ Bz Pm lo X W w' bd b S2 ((bfX (isDom K) 4 S A 4).1) ∧ ∀ k, X k → w'.heap[k]? = w.heap[k]? := by
 have HB : ∀ j, j ≤ 4 → Bq (k + 70 * j) (bfX (isDom K) 4 S A j).1 ∧ Wb (bfX (isDom K) 4 S A j).2 := fun j hj => bfX_bq (dom := isDom K) (m := 4) (by decide) hn hq hA (j := j) (by omega)
 have HN : ∀ j, (bfX (isDom K) 4 S A j).1.n = 2 ∨ (bfX (isDom K) 4 S A j).1.n = 3 := fun j => by rw [(bfX_ext (isDom K) 4 S A j).n]; exact hn
 have HO : ∀ j, j < 4 → Bq (k + 70 * j + 6) (oneS (bfX (isDom K) 4 S A j).1 10 (bfX (isDom K) 4 S A j).2 (kN 4 j)) ∧ Wb (oneR (bfX (isDom K) 4 S A j).1 10 (bfX (isDom K) 4 S A j).2 (kN 4 j)) := fun j hj => by
  obtain ⟨a1, a2⟩ := HB j (by omega)
  obtain ⟨b1, b2, _, _⟩ := stp_bq (dom := isDom K) (HN j) (kN_lt (m := 4) (j := j) (by decide)) a1 a2 (by omega)
  exact ⟨b1, b2⟩
 have HC1 : Hid (∀ j, j < 4 → ∀ (bs : List (Nat × Obj)) (w' : World), Gy Pm lo X w w w' bd b S2 (bfX (isDom K) 4 S A j).1 bs → Calls Tryz.prog 54 #[.pointer (some ⟨b, 0, none⟩), .int .i64 10, .agg (wdV (bfX (isDom K) 4 S A j).2), .int .u64 (kN 4 j : Int)] w' fun e w2 => e = .returned (.agg (wdV (oneR (bfX (isDom K) 4 S A j).1 10 (bfX (isDom K) 4 S A j).2 (kN 4 j)))) ∧ Gy Pm lo X w w w2 bd b S2 (oneS (bfX (isDom K) 4 S A j).1 10 (bfX (isDom K) 4 S A j).2 (kN 4 j)) bs) := hid (fun j hj bs w' h' => h'.lift (fun _ _ hz => yone hM hz (HB j (by omega)).1 (by omega) (HN j) 10 (bfX (isDom K) 4 S A j).2 (kN 4 j) i64K10 (HB j (by omega)).2 (Nat.lt_trans (kN_lt (m := 4) (j := j) (by decide)) (by decide))))
 have HC2 : Hid (∀ j, j < 4 → ∀ (bs : List (Nat × Obj)) (w' : World), Gy Pm lo X w w w' bd b S2 (oneS (bfX (isDom K) 4 S A j).1 10 (bfX (isDom K) 4 S A j).2 (kN 4 j)) bs → Calls Tryz.prog 18 #[.pointer (some ⟨b, 0, none⟩), .int .i64 K, .agg (wdV (bfX (isDom K) 4 S A j).2), .agg (wdV (oneR (bfX (isDom K) 4 S A j).1 10 (bfX (isDom K) 4 S A j).2 (kN 4 j)))] w' fun e w2 => e = .returned (.agg (wdV (bfX (isDom K) 4 S A (j + 1)).2)) ∧ Gy Pm lo X w w w2 bd b S2 (bfX (isDom K) 4 S A (j + 1)).1 bs) := hid (fun j hj bs w' h' => h'.lift (fun _ _ hz => by
  have e := bfX_step (isDom K) 4 S A j
  rw [← kN_at hj] at e
  rw [e]
  exact yor hM K (bfX (isDom K) 4 S A j).2 (oneR (bfX (isDom K) 4 S A j).1 10 (bfX (isDom K) 4 S A j).2 (kN 4 j)) hz (HO j hj).1 (by omega) (by rw [(oneS_ext _ _ _ _).n]; exact HN j) hK (HB j (by omega)).2 (HO j hj).2))
 have HKH : Hid (∀ j, (kN 4 j) / 2 = kN 4 (j + 1)) := hid (kN_half 4)
 have HKP : Hid (∀ j, j < 4 → 0 < kN 4 j) := hid (fun j hj => kN_pos hj)
 have HKL : Hid (∀ j, kN 4 j < 64) := hid (fun j => kN_lt (by decide))
 have HKE : Hid (kN 4 4 = 0) := hid (kN_end 4)
 have HK0 : Hid (kN 4 0 = 8) := hid (by decide)
 have HLOW : Hid (Below lo W w) := hid h.low
 obtain ⟨w1, hw1⟩ : ∃ w1, ((w).alloc (.cells (wdV A) 37)).alloc (.cells #[.int .i64 0, .int .i64 0, .int .i64 0] 37) = w1 := ⟨_, rfl⟩
 have H1 : Hid (Gy Pm lo X w w w1 bd b S2 S [(w.heap.size + 1, Obj.cells #[.int .i64 0, .int .i64 0, .int .i64 0] 37 (0, 0)), (w.heap.size, Obj.cells (wdV A) 37 (0, 0))]) := hid (by
  have := (((Gy.start h.base).new hM (wdV A) 37).new hM #[.int .i64 0, .int .i64 0, .int .i64 0] 37)
  rw [hw1] at this
  simp only [sz_al] at this
  exact this)
 have HW := hid hw1
 clear hA hK HB HN HO h hq hk hn hw1
 obtain ⟨St, hSt⟩ : ∃ St : Nat → Ms, ∀ j, (bfX (isDom K) 4 S A j).1 = St j := ⟨_, fun _ => rfl⟩
 obtain ⟨R, hR⟩ : ∃ R : Nat → Nat → Int, ∀ j, (bfX (isDom K) 4 S A j).2 = R j := ⟨_, fun _ => rfl⟩
 have HS0 : Hid (S = St 0 ∧ A = R 0) := hid ⟨hSt 0, hR 0⟩
 simp only [hSt, hR] at HC1 HC2 ⊢
 clear hSt hR
 obtain ⟨OS, hOS⟩ : ∃ OS : Nat → Ms, ∀ j, oneS (St j) 10 (R j) (kN 4 j) = OS j := ⟨_, fun _ => rfl⟩
 obtain ⟨OR, hOR⟩ : ∃ OR : Nat → Nat → Int, ∀ j, oneR (St j) 10 (R j) (kN 4 j) = OR j := ⟨_, fun _ => rfl⟩
 simp only [hOS, hOR] at HC1 HC2
 clear hOS hOR
 obtain ⟨kn, hkn⟩ : ∃ kn : Nat → Nat, ∀ j, kN 4 j = kn j := ⟨_, fun _ => rfl⟩
 simp only [hkn] at HC1 HC2 HKH HKP HKL HKE HK0
 clear hkn
 have H2 : Hid (Gy Pm lo X w w w1 bd b S2 (St 0) [(w.heap.size + 1, Obj.cells #[.int .i64 0, .int .i64 0, .int .i64 0] 37 (0, 0)), (w.heap.size, Obj.cells (wdV (R 0)) 37 (0, 0))]) := hid (by rw [← HS0.out.1, ← HS0.out.2]; exact H1.out)
 clear H1
 go_enter Tryz.func22, Tryz.ntmps22
 go_upto_region 1 with fail
 rw [HW.out]
 have hk0 : (kn 0 : Int) = 8 := by rw [HK0.out]; rfl
 go_upto_region 9 with fail
 go_wp2
 go_loopw [9] (fun kv wr => ∃ j : Nat, j ≤ 4 ∧ kv = .int .i64 (kn j : Int) ∧ Gy Pm lo X w w wr bd b S2 (St j) [(w.heap.size + 1, Obj.cells #[.int .i64 0, .int .i64 0, .int .i64 0] 37 (0, 0)), (w.heap.size, Obj.cells (wdV (R j)) 37 (0, 0))]) (fun kv _ => (intOf kv).toNat)
 case atStart => exact ⟨0, by omega, by rw [hk0], H2.out⟩
 case round =>
  clear H2
  obtain ⟨j, hj, rfl, hJ⟩ := hrel
  have HJ := hid hJ
  clear hJ
  by_cases hlt : j < 4
  ·
   have kp := HKP.out j hlt
   have kl := HKL.out j
   have kh := HKH.out j
   have q1 : decide ((kn j : Int) > 0) = true := decide_eq_true (by omega)
   have q2 : decide (0 < kn j) = true := decide_eq_true kp
   have ek : IntKind.u64.wrap (kn j : Int) = (kn j : Int) := by rw [IntKind.wrap_u64]; omega
   have HKJ : Hid (j + 1 ≤ 4) := hid (by omega)
   have HKQ : Hid (((kn j : Int)).tdiv 2 = (kn (j + 1) : Int)) := hid (by rw [← kh]; rfl)
   have HMS : Hid (kn (j + 1) < kn j) := hid (by omega)
   replace HC1 := hid (HC1.out j hlt)
   replace HC2 := hid (HC2.out j hlt)
   clear hj hlt
   go_upto_region 11 with fail
   have G0 := hid (HJ.out.self hM ((Below.refl _ wr).drew))
   refine wp_region_rt (fun w' => True) (fun w' => w'.heap[w.heap.size]? = some (.cells (wdV (R j)) 37 (0, 0))) 9 (by kernel_rfl) (⟨trivial, G0.out.bl 1 rfl⟩) (fun h0 => ?_)
   generalize wr.drew = y0 at *
   refine rt_takeA (i := 0) (v := .pointer (some ⟨b, 0, none⟩)) rfl (by kernel_rfl) (by kernel_rfl) (by kernel_rfl) rfl (fun _ _ _ h => h) (.inl ⟨by rfl, fun w hw => by clear hw; go_simp⟩) h0 ?_
   try simp only [Act.put, lay_out]
   refine rt_takeA (i := 1) (v := .int .i64 K) rfl (by kernel_rfl) (by kernel_rfl) (by kernel_rfl) rfl (fun _ _ _ h => h) (.inl ⟨by rfl, fun w hw => by clear hw; go_simp⟩) h0 ?_
   try simp only [Act.put, lay_out]
   refine rt_takeT (i := 2) (v := .agg (wdV (R j))) rfl (by kernel_rfl) (by kernel_rfl) (by kernel_rfl) rfl (by kernel_rfl) (by kernel_rfl) (fun _ _ _ h => h) (yields_load_row (by rfl) 37 _ rfl (w.heap.size) 37 (wdV (R j)) _ rfl (fun w hw => hw) Tryz.underlying37 rfl (by kernel_rfl)) h0 ?_
   try simp only [Act.put, lay_out]
   refine rt_takeA (i := 3) (v := .pointer (some ⟨b, 0, none⟩)) rfl (by kernel_rfl) (by kernel_rfl) (by kernel_rfl) rfl (fun _ _ _ h => h) (.inl ⟨by rfl, fun w hw => by clear hw; go_simp⟩) h0 ?_
   try simp only [Act.put, lay_out]
   refine rt_takeT (i := 4) (v := .agg (wdV (R j))) rfl (by kernel_rfl) (by kernel_rfl) (by kernel_rfl) rfl (by kernel_rfl) (by kernel_rfl) (fun _ _ _ h => h) (yields_load_row (by rfl) 37 _ rfl (w.heap.size) 37 (wdV (R j)) _ rfl (fun w hw => hw) Tryz.underlying37 rfl (by kernel_rfl)) h0 ?_
   try simp only [Act.put, lay_out]
   refine rt_takeA (i := 5) (v := .int .i64 (kn j : Int)) rfl (by kernel_rfl) (by kernel_rfl) (by kernel_rfl) rfl (fun _ _ _ h => h) (.inl ⟨by rfl, fun w hw => by clear hw; go_simp⟩) h0 ?_
   try simp only [Act.put, lay_out]
   refine rt_takeA (i := 6) (v := .int .u64 (kn j : Int)) rfl (by kernel_rfl) (by kernel_rfl) (by kernel_rfl) rfl (fun _ _ _ h => h) (.inl ⟨by rfl, fun w hw => by clear hw; go_simp⟩) h0 ?_
   try simp only [Act.put, lay_out]
   refine rt_ready (rs := [7]) (by kernel_rfl) (by simp) (RtReady.consT rfl (fun K hK => ?_) RtReady.nil)
   rw [if_pos (by rfl)]
   go_simp
   go_at_call 54
   (with_reducible refine (HC1.out _ _ G0.out).mono ?_); rintro e y1 ⟨rfl, hz⟩
   have G1 := hid hz
   clear hz
   refine hK.out _ _ (⟨trivial, G1.out.bl 1 rfl⟩) (fun h1x => ?_)
   clear hK K
   try simp only [Act.put, lay_out]
   refine rt_ready (rs := [8]) (by kernel_rfl) (by simp) (RtReady.consT rfl (fun K hK => ?_) RtReady.nil)
   rw [if_pos (by rfl)]
   go_simp
   go_at_call 18
   (with_reducible refine (HC2.out _ _ G1.out).mono ?_); rintro e y2 ⟨rfl, hz⟩
   have G2 := hid hz
   clear hz
   refine hK.out _ _ (⟨trivial, G2.out.bl 1 rfl⟩) (fun h2x => ?_)
   clear hK K
   try simp only [Act.put, lay_out]
   refine rt_ready (rs := [9]) (by kernel_rfl) (by simp) (RtReady.consS rfl (by kernel_rfl) (fun K hK => ?_) RtReady.nil)
   rw [if_pos (by rfl)]
   refine wp_store_row 37 _ _ rfl (w.heap.size) (wdV (R (j + 1))) rfl rfl 37 _ (G2.out.bl 1 rfl) (by kernel_rfl) rfl (by kernel_rfl) ?_
   have G3 := hid (G2.out.rowI hM 1 rfl (wdV (R (j + 1))))
   generalize y2.setRow (w.heap.size) (wdV (R (j + 1))) = y3 at *
   refine hK.out _ _ (trivial) (fun h3x => ?_)
   clear hK K
   try simp only [Act.put, lay_out]
   refine rt_done (by kernel_rfl) ?_ _
   try refine NoPanic.normal ?_
   clear h0 h1x h2x h3x
   try simp only [Act.put, lay_out]
   go_wp2
   go_roundw
   case rel => exact ⟨j + 1, HKJ.out, by go_num, G3.out⟩
   case measure => simp [intOf]; omega
  ·
   obtain rfl : j = 4 := by omega
   have q1 : decide ((kn 4 : Int) > 0) = false := decide_eq_false (by rw [HKE.out]; decide)
   have q2 : decide (0 < kn 4) = false := decide_eq_false (by rw [HKE.out]; decide)
   clear hlt hj
   go_wp2_with (first
    | (refine step_load_row rfl 37 _ rfl (w.heap.size) 37 (wdV (R 4)) _ rfl (HJ.out.bl 1 rfl) Tryz.underlying37 rfl (by kernel_rfl) ?_)
    | (refine step_store_row rfl 37 _ _ rfl (w.heap.size + 1) 37 _ (wdV (R 4)) rfl rfl (HJ.out.bl 0 rfl) (by kernel_rfl) rfl (by kernel_rfl) ?_))
   have H9 := hid (HJ.out.rowI hM 0 rfl (wdV (R 4)))
   exact bodyPost_ret (results_cell_row (by rfl) _ _ (w.heap.size + 1) 37 (wdV (R 4)) (0, 0) _ rfl (H9.out.bl 0 rfl) Tryz.underlying37 rfl (by kernel_rfl)) rfl ⟨rfl, H9.out.fin.1.up HLOW.out, H9.out.fin.2⟩
set_option maxHeartbeats 6400000 in
theorem yfold5 {Pm : World → Nat → Ms → (Nat → Prop) → Prop} (hM : Mach Pm) {lo : Nat} {X : Nat → Prop} {W w : World} {b bd k : Nat} {S S2 : Ms} (K : Int) (A : Nat → Int) (h : Bz Pm lo X W w bd b S2 S) (hq : Bq k S) (hk : k + 600 ≤ 100000) (hn : S.n = 2 ∨ S.n = 3) (hK : I64 K) (hA : Wb A) :
  Calls Tryz.prog 22 #[.pointer (some ⟨b, 0, none⟩), .int .i64 K, .agg (wdV A), .int .i64 32] w fun e w' => e = .returned (.agg (wdV ((bfX (isDom K) 5 S A 5).2))) ∧ Bz Pm lo X W w' bd b S2 ((bfX (isDom K) 5 S A 5).1) ∧ ∀ k, X k → w'.heap[k]? = w.heap[k]? := by
 have HB : ∀ j, j ≤ 5 → Bq (k + 70 * j) (bfX (isDom K) 5 S A j).1 ∧ Wb (bfX (isDom K) 5 S A j).2 := fun j hj => bfX_bq (dom := isDom K) (m := 5) (by decide) hn hq hA (j := j) (by omega)
 have HN : ∀ j, (bfX (isDom K) 5 S A j).1.n = 2 ∨ (bfX (isDom K) 5 S A j).1.n = 3 := fun j => by rw [(bfX_ext (isDom K) 5 S A j).n]; exact hn
 have HO : ∀ j, j < 5 → Bq (k + 70 * j + 6) (oneS (bfX (isDom K) 5 S A j).1 10 (bfX (isDom K) 5 S A j).2 (kN 5 j)) ∧ Wb (oneR (bfX (isDom K) 5 S A j).1 10 (bfX (isDom K) 5 S A j).2 (kN 5 j)) := fun j hj => by
  obtain ⟨a1, a2⟩ := HB j (by omega)
  obtain ⟨b1, b2, _, _⟩ := stp_bq (dom := isDom K) (HN j) (kN_lt (m := 5) (j := j) (by decide)) a1 a2 (by omega)
  exact ⟨b1, b2⟩
 have HC1 : Hid (∀ j, j < 5 → ∀ (bs : List (Nat × Obj)) (w' : World), Gy Pm lo X w w w' bd b S2 (bfX (isDom K) 5 S A j).1 bs → Calls Tryz.prog 54 #[.pointer (some ⟨b, 0, none⟩), .int .i64 10, .agg (wdV (bfX (isDom K) 5 S A j).2), .int .u64 (kN 5 j : Int)] w' fun e w2 => e = .returned (.agg (wdV (oneR (bfX (isDom K) 5 S A j).1 10 (bfX (isDom K) 5 S A j).2 (kN 5 j)))) ∧ Gy Pm lo X w w w2 bd b S2 (oneS (bfX (isDom K) 5 S A j).1 10 (bfX (isDom K) 5 S A j).2 (kN 5 j)) bs) := hid (fun j hj bs w' h' => h'.lift (fun _ _ hz => yone hM hz (HB j (by omega)).1 (by omega) (HN j) 10 (bfX (isDom K) 5 S A j).2 (kN 5 j) i64K10 (HB j (by omega)).2 (Nat.lt_trans (kN_lt (m := 5) (j := j) (by decide)) (by decide))))
 have HC2 : Hid (∀ j, j < 5 → ∀ (bs : List (Nat × Obj)) (w' : World), Gy Pm lo X w w w' bd b S2 (oneS (bfX (isDom K) 5 S A j).1 10 (bfX (isDom K) 5 S A j).2 (kN 5 j)) bs → Calls Tryz.prog 18 #[.pointer (some ⟨b, 0, none⟩), .int .i64 K, .agg (wdV (bfX (isDom K) 5 S A j).2), .agg (wdV (oneR (bfX (isDom K) 5 S A j).1 10 (bfX (isDom K) 5 S A j).2 (kN 5 j)))] w' fun e w2 => e = .returned (.agg (wdV (bfX (isDom K) 5 S A (j + 1)).2)) ∧ Gy Pm lo X w w w2 bd b S2 (bfX (isDom K) 5 S A (j + 1)).1 bs) := hid (fun j hj bs w' h' => h'.lift (fun _ _ hz => by
  have e := bfX_step (isDom K) 5 S A j
  rw [← kN_at hj] at e
  rw [e]
  exact yor hM K (bfX (isDom K) 5 S A j).2 (oneR (bfX (isDom K) 5 S A j).1 10 (bfX (isDom K) 5 S A j).2 (kN 5 j)) hz (HO j hj).1 (by omega) (by rw [(oneS_ext _ _ _ _).n]; exact HN j) hK (HB j (by omega)).2 (HO j hj).2))
 have HKH : Hid (∀ j, (kN 5 j) / 2 = kN 5 (j + 1)) := hid (kN_half 5)
 have HKP : Hid (∀ j, j < 5 → 0 < kN 5 j) := hid (fun j hj => kN_pos hj)
 have HKL : Hid (∀ j, kN 5 j < 64) := hid (fun j => kN_lt (by decide))
 have HKE : Hid (kN 5 5 = 0) := hid (kN_end 5)
 have HK0 : Hid (kN 5 0 = 16) := hid (by decide)
 have HLOW : Hid (Below lo W w) := hid h.low
 obtain ⟨w1, hw1⟩ : ∃ w1, ((w).alloc (.cells (wdV A) 37)).alloc (.cells #[.int .i64 0, .int .i64 0, .int .i64 0] 37) = w1 := ⟨_, rfl⟩
 have H1 : Hid (Gy Pm lo X w w w1 bd b S2 S [(w.heap.size + 1, Obj.cells #[.int .i64 0, .int .i64 0, .int .i64 0] 37 (0, 0)), (w.heap.size, Obj.cells (wdV A) 37 (0, 0))]) := hid (by
  have := (((Gy.start h.base).new hM (wdV A) 37).new hM #[.int .i64 0, .int .i64 0, .int .i64 0] 37)
  rw [hw1] at this
  simp only [sz_al] at this
  exact this)
 have HW := hid hw1
 clear hA hK HB HN HO h hq hk hn hw1
 obtain ⟨St, hSt⟩ : ∃ St : Nat → Ms, ∀ j, (bfX (isDom K) 5 S A j).1 = St j := ⟨_, fun _ => rfl⟩
 obtain ⟨R, hR⟩ : ∃ R : Nat → Nat → Int, ∀ j, (bfX (isDom K) 5 S A j).2 = R j := ⟨_, fun _ => rfl⟩
 have HS0 : Hid (S = St 0 ∧ A = R 0) := hid ⟨hSt 0, hR 0⟩
 simp only [hSt, hR] at HC1 HC2 ⊢
 clear hSt hR
 obtain ⟨OS, hOS⟩ : ∃ OS : Nat → Ms, ∀ j, oneS (St j) 10 (R j) (kN 5 j) = OS j := ⟨_, fun _ => rfl⟩
 obtain ⟨OR, hOR⟩ : ∃ OR : Nat → Nat → Int, ∀ j, oneR (St j) 10 (R j) (kN 5 j) = OR j := ⟨_, fun _ => rfl⟩
 simp only [hOS, hOR] at HC1 HC2
 clear hOS hOR
 obtain ⟨kn, hkn⟩ : ∃ kn : Nat → Nat, ∀ j, kN 5 j = kn j := ⟨_, fun _ => rfl⟩
 simp only [hkn] at HC1 HC2 HKH HKP HKL HKE HK0
 clear hkn
 have H2 : Hid (Gy Pm lo X w w w1 bd b S2 (St 0) [(w.heap.size + 1, Obj.cells #[.int .i64 0, .int .i64 0, .int .i64 0] 37 (0, 0)), (w.heap.size, Obj.cells (wdV (R 0)) 37 (0, 0))]) := hid (by rw [← HS0.out.1, ← HS0.out.2]; exact H1.out)
 clear H1
 go_enter Tryz.func22, Tryz.ntmps22
 go_upto_region 1 with fail
 rw [HW.out]
 have hk0 : (kn 0 : Int) = 16 := by rw [HK0.out]; rfl
 go_upto_region 9 with fail
 go_wp2
 go_loopw [9] (fun kv wr => ∃ j : Nat, j ≤ 5 ∧ kv = .int .i64 (kn j : Int) ∧ Gy Pm lo X w w wr bd b S2 (St j) [(w.heap.size + 1, Obj.cells #[.int .i64 0, .int .i64 0, .int .i64 0] 37 (0, 0)), (w.heap.size, Obj.cells (wdV (R j)) 37 (0, 0))]) (fun kv _ => (intOf kv).toNat)
 case atStart => exact ⟨0, by omega, by rw [hk0], H2.out⟩
 case round =>
  clear H2
  obtain ⟨j, hj, rfl, hJ⟩ := hrel
  have HJ := hid hJ
  clear hJ
  by_cases hlt : j < 5
  ·
   have kp := HKP.out j hlt
   have kl := HKL.out j
   have kh := HKH.out j
   have q1 : decide ((kn j : Int) > 0) = true := decide_eq_true (by omega)
   have q2 : decide (0 < kn j) = true := decide_eq_true kp
   have ek : IntKind.u64.wrap (kn j : Int) = (kn j : Int) := by rw [IntKind.wrap_u64]; omega
   have HKJ : Hid (j + 1 ≤ 5) := hid (by omega)
   have HKQ : Hid (((kn j : Int)).tdiv 2 = (kn (j + 1) : Int)) := hid (by rw [← kh]; rfl)
   have HMS : Hid (kn (j + 1) < kn j) := hid (by omega)
   replace HC1 := hid (HC1.out j hlt)
   replace HC2 := hid (HC2.out j hlt)
   clear hj hlt
   go_upto_region 11 with fail
   have G0 := hid (HJ.out.self hM ((Below.refl _ wr).drew))
   refine wp_region_rt (fun w' => True) (fun w' => w'.heap[w.heap.size]? = some (.cells (wdV (R j)) 37 (0, 0))) 9 (by kernel_rfl) (⟨trivial, G0.out.bl 1 rfl⟩) (fun h0 => ?_)
   generalize wr.drew = y0 at *
   refine rt_takeA (i := 0) (v := .pointer (some ⟨b, 0, none⟩)) rfl (by kernel_rfl) (by kernel_rfl) (by kernel_rfl) rfl (fun _ _ _ h => h) (.inl ⟨by rfl, fun w hw => by clear hw; go_simp⟩) h0 ?_
   try simp only [Act.put, lay_out]
   refine rt_takeA (i := 1) (v := .int .i64 K) rfl (by kernel_rfl) (by kernel_rfl) (by kernel_rfl) rfl (fun _ _ _ h => h) (.inl ⟨by rfl, fun w hw => by clear hw; go_simp⟩) h0 ?_
   try simp only [Act.put, lay_out]
   refine rt_takeT (i := 2) (v := .agg (wdV (R j))) rfl (by kernel_rfl) (by kernel_rfl) (by kernel_rfl) rfl (by kernel_rfl) (by kernel_rfl) (fun _ _ _ h => h) (yields_load_row (by rfl) 37 _ rfl (w.heap.size) 37 (wdV (R j)) _ rfl (fun w hw => hw) Tryz.underlying37 rfl (by kernel_rfl)) h0 ?_
   try simp only [Act.put, lay_out]
   refine rt_takeA (i := 3) (v := .pointer (some ⟨b, 0, none⟩)) rfl (by kernel_rfl) (by kernel_rfl) (by kernel_rfl) rfl (fun _ _ _ h => h) (.inl ⟨by rfl, fun w hw => by clear hw; go_simp⟩) h0 ?_
   try simp only [Act.put, lay_out]
   refine rt_takeT (i := 4) (v := .agg (wdV (R j))) rfl (by kernel_rfl) (by kernel_rfl) (by kernel_rfl) rfl (by kernel_rfl) (by kernel_rfl) (fun _ _ _ h => h) (yields_load_row (by rfl) 37 _ rfl (w.heap.size) 37 (wdV (R j)) _ rfl (fun w hw => hw) Tryz.underlying37 rfl (by kernel_rfl)) h0 ?_
   try simp only [Act.put, lay_out]
   refine rt_takeA (i := 5) (v := .int .i64 (kn j : Int)) rfl (by kernel_rfl) (by kernel_rfl) (by kernel_rfl) rfl (fun _ _ _ h => h) (.inl ⟨by rfl, fun w hw => by clear hw; go_simp⟩) h0 ?_
   try simp only [Act.put, lay_out]
   refine rt_takeA (i := 6) (v := .int .u64 (kn j : Int)) rfl (by kernel_rfl) (by kernel_rfl) (by kernel_rfl) rfl (fun _ _ _ h => h) (.inl ⟨by rfl, fun w hw => by clear hw; go_simp⟩) h0 ?_
   try simp only [Act.put, lay_out]
   refine rt_ready (rs := [7]) (by kernel_rfl) (by simp) (RtReady.consT rfl (fun K hK => ?_) RtReady.nil)
   rw [if_pos (by rfl)]
   go_simp
   go_at_call 54
   (with_reducible refine (HC1.out _ _ G0.out).mono ?_); rintro e y1 ⟨rfl, hz⟩
   have G1 := hid hz
   clear hz
   refine hK.out _ _ (⟨trivial, G1.out.bl 1 rfl⟩) (fun h1x => ?_)
   clear hK K
   try simp only [Act.put, lay_out]
   refine rt_ready (rs := [8]) (by kernel_rfl) (by simp) (RtReady.consT rfl (fun K hK => ?_) RtReady.nil)
   rw [if_pos (by rfl)]
   go_simp
   go_at_call 18
   (with_reducible refine (HC2.out _ _ G1.out).mono ?_); rintro e y2 ⟨rfl, hz⟩
   have G2 := hid hz
   clear hz
   refine hK.out _ _ (⟨trivial, G2.out.bl 1 rfl⟩) (fun h2x => ?_)
   clear hK K
   try simp only [Act.put, lay_out]
   refine rt_ready (rs := [9]) (by kernel_rfl) (by simp) (RtReady.consS rfl (by kernel_rfl) (fun K hK => ?_) RtReady.nil)
   rw [if_pos (by rfl)]
   refine wp_store_row 37 _ _ rfl (w.heap.size) (wdV (R (j + 1))) rfl rfl 37 _ (G2.out.bl 1 rfl) (by kernel_rfl) rfl (by kernel_rfl) ?_
   have G3 := hid (G2.out.rowI hM 1 rfl (wdV (R (j + 1))))
   generalize y2.setRow (w.heap.size) (wdV (R (j + 1))) = y3 at *
   refine hK.out _ _ (trivial) (fun h3x => ?_)
   clear hK K
   try simp only [Act.put, lay_out]
   refine rt_done (by kernel_rfl) ?_ _
   try refine NoPanic.normal ?_
   clear h0 h1x h2x h3x
   try simp only [Act.put, lay_out]
   go_wp2
   go_roundw
   case rel => exact ⟨j + 1, HKJ.out, by go_num, G3.out⟩
   case measure => simp [intOf]; omega
  ·
   obtain rfl : j = 5 := by omega
   have q1 : decide ((kn 5 : Int) > 0) = false := decide_eq_false (by rw [HKE.out]; decide)
   have q2 : decide (0 < kn 5) = false := decide_eq_false (by rw [HKE.out]; decide)
   clear hlt hj
   go_wp2_with (first
    | (refine step_load_row rfl 37 _ rfl (w.heap.size) 37 (wdV (R 5)) _ rfl (HJ.out.bl 1 rfl) Tryz.underlying37 rfl (by kernel_rfl) ?_)
    | (refine step_store_row rfl 37 _ _ rfl (w.heap.size + 1) 37 _ (wdV (R 5)) rfl rfl (HJ.out.bl 0 rfl) (by kernel_rfl) rfl (by kernel_rfl) ?_))
   have H9 := hid (HJ.out.rowI hM 0 rfl (wdV (R 5)))
   exact bodyPost_ret (results_cell_row (by rfl) _ _ (w.heap.size + 1) 37 (wdV (R 5)) (0, 0) _ rfl (H9.out.bl 0 rfl) Tryz.underlying37 rfl (by kernel_rfl)) rfl ⟨rfl, H9.out.fin.1.up HLOW.out, H9.out.fin.2⟩
set_option maxHeartbeats 6400000 in
theorem yfold6 {Pm : World → Nat → Ms → (Nat → Prop) → Prop} (hM : Mach Pm) {lo : Nat} {X : Nat → Prop} {W w : World} {b bd k : Nat} {S S2 : Ms} (K : Int) (A : Nat → Int) (h : Bz Pm lo X W w bd b S2 S) (hq : Bq k S) (hk : k + 600 ≤ 100000) (hn : S.n = 2 ∨ S.n = 3) (hK : I64 K) (hA : Wb A) :
  Calls Tryz.prog 22 #[.pointer (some ⟨b, 0, none⟩), .int .i64 K, .agg (wdV A), .int .i64 64] w fun e w' => e = .returned (.agg (wdV ((bfX (isDom K) 6 S A 6).2))) ∧ Bz Pm lo X W w' bd b S2 ((bfX (isDom K) 6 S A 6).1) ∧ ∀ k, X k → w'.heap[k]? = w.heap[k]? := by
 have HB : ∀ j, j ≤ 6 → Bq (k + 70 * j) (bfX (isDom K) 6 S A j).1 ∧ Wb (bfX (isDom K) 6 S A j).2 := fun j hj => bfX_bq (dom := isDom K) (m := 6) (by decide) hn hq hA (j := j) (by omega)
 have HN : ∀ j, (bfX (isDom K) 6 S A j).1.n = 2 ∨ (bfX (isDom K) 6 S A j).1.n = 3 := fun j => by rw [(bfX_ext (isDom K) 6 S A j).n]; exact hn
 have HO : ∀ j, j < 6 → Bq (k + 70 * j + 6) (oneS (bfX (isDom K) 6 S A j).1 10 (bfX (isDom K) 6 S A j).2 (kN 6 j)) ∧ Wb (oneR (bfX (isDom K) 6 S A j).1 10 (bfX (isDom K) 6 S A j).2 (kN 6 j)) := fun j hj => by
  obtain ⟨a1, a2⟩ := HB j (by omega)
  obtain ⟨b1, b2, _, _⟩ := stp_bq (dom := isDom K) (HN j) (kN_lt (m := 6) (j := j) (by decide)) a1 a2 (by omega)
  exact ⟨b1, b2⟩
 have HC1 : Hid (∀ j, j < 6 → ∀ (bs : List (Nat × Obj)) (w' : World), Gy Pm lo X w w w' bd b S2 (bfX (isDom K) 6 S A j).1 bs → Calls Tryz.prog 54 #[.pointer (some ⟨b, 0, none⟩), .int .i64 10, .agg (wdV (bfX (isDom K) 6 S A j).2), .int .u64 (kN 6 j : Int)] w' fun e w2 => e = .returned (.agg (wdV (oneR (bfX (isDom K) 6 S A j).1 10 (bfX (isDom K) 6 S A j).2 (kN 6 j)))) ∧ Gy Pm lo X w w w2 bd b S2 (oneS (bfX (isDom K) 6 S A j).1 10 (bfX (isDom K) 6 S A j).2 (kN 6 j)) bs) := hid (fun j hj bs w' h' => h'.lift (fun _ _ hz => yone hM hz (HB j (by omega)).1 (by omega) (HN j) 10 (bfX (isDom K) 6 S A j).2 (kN 6 j) i64K10 (HB j (by omega)).2 (Nat.lt_trans (kN_lt (m := 6) (j := j) (by decide)) (by decide))))
 have HC2 : Hid (∀ j, j < 6 → ∀ (bs : List (Nat × Obj)) (w' : World), Gy Pm lo X w w w' bd b S2 (oneS (bfX (isDom K) 6 S A j).1 10 (bfX (isDom K) 6 S A j).2 (kN 6 j)) bs → Calls Tryz.prog 18 #[.pointer (some ⟨b, 0, none⟩), .int .i64 K, .agg (wdV (bfX (isDom K) 6 S A j).2), .agg (wdV (oneR (bfX (isDom K) 6 S A j).1 10 (bfX (isDom K) 6 S A j).2 (kN 6 j)))] w' fun e w2 => e = .returned (.agg (wdV (bfX (isDom K) 6 S A (j + 1)).2)) ∧ Gy Pm lo X w w w2 bd b S2 (bfX (isDom K) 6 S A (j + 1)).1 bs) := hid (fun j hj bs w' h' => h'.lift (fun _ _ hz => by
  have e := bfX_step (isDom K) 6 S A j
  rw [← kN_at hj] at e
  rw [e]
  exact yor hM K (bfX (isDom K) 6 S A j).2 (oneR (bfX (isDom K) 6 S A j).1 10 (bfX (isDom K) 6 S A j).2 (kN 6 j)) hz (HO j hj).1 (by omega) (by rw [(oneS_ext _ _ _ _).n]; exact HN j) hK (HB j (by omega)).2 (HO j hj).2))
 have HKH : Hid (∀ j, (kN 6 j) / 2 = kN 6 (j + 1)) := hid (kN_half 6)
 have HKP : Hid (∀ j, j < 6 → 0 < kN 6 j) := hid (fun j hj => kN_pos hj)
 have HKL : Hid (∀ j, kN 6 j < 64) := hid (fun j => kN_lt (by decide))
 have HKE : Hid (kN 6 6 = 0) := hid (kN_end 6)
 have HK0 : Hid (kN 6 0 = 32) := hid (by decide)
 have HLOW : Hid (Below lo W w) := hid h.low
 obtain ⟨w1, hw1⟩ : ∃ w1, ((w).alloc (.cells (wdV A) 37)).alloc (.cells #[.int .i64 0, .int .i64 0, .int .i64 0] 37) = w1 := ⟨_, rfl⟩
 have H1 : Hid (Gy Pm lo X w w w1 bd b S2 S [(w.heap.size + 1, Obj.cells #[.int .i64 0, .int .i64 0, .int .i64 0] 37 (0, 0)), (w.heap.size, Obj.cells (wdV A) 37 (0, 0))]) := hid (by
  have := (((Gy.start h.base).new hM (wdV A) 37).new hM #[.int .i64 0, .int .i64 0, .int .i64 0] 37)
  rw [hw1] at this
  simp only [sz_al] at this
  exact this)
 have HW := hid hw1
 clear hA hK HB HN HO h hq hk hn hw1
 obtain ⟨St, hSt⟩ : ∃ St : Nat → Ms, ∀ j, (bfX (isDom K) 6 S A j).1 = St j := ⟨_, fun _ => rfl⟩
 obtain ⟨R, hR⟩ : ∃ R : Nat → Nat → Int, ∀ j, (bfX (isDom K) 6 S A j).2 = R j := ⟨_, fun _ => rfl⟩
 have HS0 : Hid (S = St 0 ∧ A = R 0) := hid ⟨hSt 0, hR 0⟩
 simp only [hSt, hR] at HC1 HC2 ⊢
 clear hSt hR
 obtain ⟨OS, hOS⟩ : ∃ OS : Nat → Ms, ∀ j, oneS (St j) 10 (R j) (kN 6 j) = OS j := ⟨_, fun _ => rfl⟩
 obtain ⟨OR, hOR⟩ : ∃ OR : Nat → Nat → Int, ∀ j, oneR (St j) 10 (R j) (kN 6 j) = OR j := ⟨_, fun _ => rfl⟩
 simp only [hOS, hOR] at HC1 HC2
 clear hOS hOR
 obtain ⟨kn, hkn⟩ : ∃ kn : Nat → Nat, ∀ j, kN 6 j = kn j := ⟨_, fun _ => rfl⟩
 simp only [hkn] at HC1 HC2 HKH HKP HKL HKE HK0
 clear hkn
 have H2 : Hid (Gy Pm lo X w w w1 bd b S2 (St 0) [(w.heap.size + 1, Obj.cells #[.int .i64 0, .int .i64 0, .int .i64 0] 37 (0, 0)), (w.heap.size, Obj.cells (wdV (R 0)) 37 (0, 0))]) := hid (by rw [← HS0.out.1, ← HS0.out.2]; exact H1.out)
 clear H1
 go_enter Tryz.func22, Tryz.ntmps22
 go_upto_region 1 with fail
 rw [HW.out]
 have hk0 : (kn 0 : Int) = 32 := by rw [HK0.out]; rfl
 go_upto_region 9 with fail
 go_wp2
 go_loopw [9] (fun kv wr => ∃ j : Nat, j ≤ 6 ∧ kv = .int .i64 (kn j : Int) ∧ Gy Pm lo X w w wr bd b S2 (St j) [(w.heap.size + 1, Obj.cells #[.int .i64 0, .int .i64 0, .int .i64 0] 37 (0, 0)), (w.heap.size, Obj.cells (wdV (R j)) 37 (0, 0))]) (fun kv _ => (intOf kv).toNat)
 case atStart => exact ⟨0, by omega, by rw [hk0], H2.out⟩
 case round =>
  clear H2
  obtain ⟨j, hj, rfl, hJ⟩ := hrel
  have HJ := hid hJ
  clear hJ
  by_cases hlt : j < 6
  ·
   have kp := HKP.out j hlt
   have kl := HKL.out j
   have kh := HKH.out j
   have q1 : decide ((kn j : Int) > 0) = true := decide_eq_true (by omega)
   have q2 : decide (0 < kn j) = true := decide_eq_true kp
   have ek : IntKind.u64.wrap (kn j : Int) = (kn j : Int) := by rw [IntKind.wrap_u64]; omega
   have HKJ : Hid (j + 1 ≤ 6) := hid (by omega)
   have HKQ : Hid (((kn j : Int)).tdiv 2 = (kn (j + 1) : Int)) := hid (by rw [← kh]; rfl)
   have HMS : Hid (kn (j + 1) < kn j) := hid (by omega)
   replace HC1 := hid (HC1.out j hlt)
   replace HC2 := hid (HC2.out j hlt)
   clear hj hlt
   go_upto_region 11 with fail
   have G0 := hid (HJ.out.self hM ((Below.refl _ wr).drew))
   refine wp_region_rt (fun w' => True) (fun w' => w'.heap[w.heap.size]? = some (.cells (wdV (R j)) 37 (0, 0))) 9 (by kernel_rfl) (⟨trivial, G0.out.bl 1 rfl⟩) (fun h0 => ?_)
   generalize wr.drew = y0 at *
   refine rt_takeA (i := 0) (v := .pointer (some ⟨b, 0, none⟩)) rfl (by kernel_rfl) (by kernel_rfl) (by kernel_rfl) rfl (fun _ _ _ h => h) (.inl ⟨by rfl, fun w hw => by clear hw; go_simp⟩) h0 ?_
   try simp only [Act.put, lay_out]
   refine rt_takeA (i := 1) (v := .int .i64 K) rfl (by kernel_rfl) (by kernel_rfl) (by kernel_rfl) rfl (fun _ _ _ h => h) (.inl ⟨by rfl, fun w hw => by clear hw; go_simp⟩) h0 ?_
   try simp only [Act.put, lay_out]
   refine rt_takeT (i := 2) (v := .agg (wdV (R j))) rfl (by kernel_rfl) (by kernel_rfl) (by kernel_rfl) rfl (by kernel_rfl) (by kernel_rfl) (fun _ _ _ h => h) (yields_load_row (by rfl) 37 _ rfl (w.heap.size) 37 (wdV (R j)) _ rfl (fun w hw => hw) Tryz.underlying37 rfl (by kernel_rfl)) h0 ?_
   try simp only [Act.put, lay_out]
   refine rt_takeA (i := 3) (v := .pointer (some ⟨b, 0, none⟩)) rfl (by kernel_rfl) (by kernel_rfl) (by kernel_rfl) rfl (fun _ _ _ h => h) (.inl ⟨by rfl, fun w hw => by clear hw; go_simp⟩) h0 ?_
   try simp only [Act.put, lay_out]
   refine rt_takeT (i := 4) (v := .agg (wdV (R j))) rfl (by kernel_rfl) (by kernel_rfl) (by kernel_rfl) rfl (by kernel_rfl) (by kernel_rfl) (fun _ _ _ h => h) (yields_load_row (by rfl) 37 _ rfl (w.heap.size) 37 (wdV (R j)) _ rfl (fun w hw => hw) Tryz.underlying37 rfl (by kernel_rfl)) h0 ?_
   try simp only [Act.put, lay_out]
   refine rt_takeA (i := 5) (v := .int .i64 (kn j : Int)) rfl (by kernel_rfl) (by kernel_rfl) (by kernel_rfl) rfl (fun _ _ _ h => h) (.inl ⟨by rfl, fun w hw => by clear hw; go_simp⟩) h0 ?_
   try simp only [Act.put, lay_out]
   refine rt_takeA (i := 6) (v := .int .u64 (kn j : Int)) rfl (by kernel_rfl) (by kernel_rfl) (by kernel_rfl) rfl (fun _ _ _ h => h) (.inl ⟨by rfl, fun w hw => by clear hw; go_simp⟩) h0 ?_
   try simp only [Act.put, lay_out]
   refine rt_ready (rs := [7]) (by kernel_rfl) (by simp) (RtReady.consT rfl (fun K hK => ?_) RtReady.nil)
   rw [if_pos (by rfl)]
   go_simp
   go_at_call 54
   (with_reducible refine (HC1.out _ _ G0.out).mono ?_); rintro e y1 ⟨rfl, hz⟩
   have G1 := hid hz
   clear hz
   refine hK.out _ _ (⟨trivial, G1.out.bl 1 rfl⟩) (fun h1x => ?_)
   clear hK K
   try simp only [Act.put, lay_out]
   refine rt_ready (rs := [8]) (by kernel_rfl) (by simp) (RtReady.consT rfl (fun K hK => ?_) RtReady.nil)
   rw [if_pos (by rfl)]
   go_simp
   go_at_call 18
   (with_reducible refine (HC2.out _ _ G1.out).mono ?_); rintro e y2 ⟨rfl, hz⟩
   have G2 := hid hz
   clear hz
   refine hK.out _ _ (⟨trivial, G2.out.bl 1 rfl⟩) (fun h2x => ?_)
   clear hK K
   try simp only [Act.put, lay_out]
   refine rt_ready (rs := [9]) (by kernel_rfl) (by simp) (RtReady.consS rfl (by kernel_rfl) (fun K hK => ?_) RtReady.nil)
   rw [if_pos (by rfl)]
   refine wp_store_row 37 _ _ rfl (w.heap.size) (wdV (R (j + 1))) rfl rfl 37 _ (G2.out.bl 1 rfl) (by kernel_rfl) rfl (by kernel_rfl) ?_
   have G3 := hid (G2.out.rowI hM 1 rfl (wdV (R (j + 1))))
   generalize y2.setRow (w.heap.size) (wdV (R (j + 1))) = y3 at *
   refine hK.out _ _ (trivial) (fun h3x => ?_)
   clear hK K
   try simp only [Act.put, lay_out]
   refine rt_done (by kernel_rfl) ?_ _
   try refine NoPanic.normal ?_
   clear h0 h1x h2x h3x
   try simp only [Act.put, lay_out]
   go_wp2
   go_roundw
   case rel => exact ⟨j + 1, HKJ.out, by go_num, G3.out⟩
   case measure => simp [intOf]; omega
  ·
   obtain rfl : j = 6 := by omega
   have q1 : decide ((kn 6 : Int) > 0) = false := decide_eq_false (by rw [HKE.out]; decide)
   have q2 : decide (0 < kn 6) = false := decide_eq_false (by rw [HKE.out]; decide)
   clear hlt hj
   go_wp2_with (first
    | (refine step_load_row rfl 37 _ rfl (w.heap.size) 37 (wdV (R 6)) _ rfl (HJ.out.bl 1 rfl) Tryz.underlying37 rfl (by kernel_rfl) ?_)
    | (refine step_store_row rfl 37 _ _ rfl (w.heap.size + 1) 37 _ (wdV (R 6)) rfl rfl (HJ.out.bl 0 rfl) (by kernel_rfl) rfl (by kernel_rfl) ?_))
   have H9 := hid (HJ.out.rowI hM 0 rfl (wdV (R 6)))
   exact bodyPost_ret (results_cell_row (by rfl) _ _ (w.heap.size + 1) 37 (wdV (R 6)) (0, 0) _ rfl (H9.out.bl 0 rfl) Tryz.underlying37 rfl (by kernel_rfl)) rfl ⟨rfl, H9.out.fin.1.up HLOW.out, H9.out.fin.2⟩
set_option maxHeartbeats 6400000 in
theorem yfold0 {Pm : World → Nat → Ms → (Nat → Prop) → Prop} (hM : Mach Pm) {lo : Nat} {X : Nat → Prop} {W w : World} {b bd k : Nat} {S S2 : Ms} (K : Int) (A : Nat → Int) (z : Int) (h : Bz Pm lo X W w bd b S2 S) (_ : Bq k S) (_ : k + 600 ≤ 100000) (_ : S.n = 2 ∨ S.n = 3) (_ : I64 K) (_ : Wb A) (h2 : z ≠ 2) (h4 : z ≠ 4) (h8 : z ≠ 8) (h16 : z ≠ 16) (h32 : z ≠ 32) (h64 : z ≠ 64) :
  Calls Tryz.prog 22 #[.pointer (some ⟨b, 0, none⟩), .int .i64 K, .agg (wdV A), .int .i64 z] w fun e w' => e = .returned (.agg (wdV (A))) ∧ Bz Pm lo X W w' bd b S2 (S) ∧ ∀ k, X k → w'.heap[k]? = w.heap[k]? := by
 have HLOW : Hid (Below lo W w) := hid h.low
 obtain ⟨w1, hw1⟩ : ∃ w1, ((w).alloc (.cells (wdV A) 37)).alloc (.cells #[.int .i64 0, .int .i64 0, .int .i64 0] 37) = w1 := ⟨_, rfl⟩
 have H1 : Hid (Gy Pm lo X w w w1 bd b S2 S [(w.heap.size + 1, Obj.cells #[.int .i64 0, .int .i64 0, .int .i64 0] 37 (0, 0)), (w.heap.size, Obj.cells (wdV A) 37 (0, 0))]) := hid (by
  have := (((Gy.start h.base).new hM (wdV A) 37).new hM #[.int .i64 0, .int .i64 0, .int .i64 0] 37)
  rw [hw1] at this
  simp only [sz_al] at this
  exact this)
 have HW := hid hw1
 clear h hw1
 have q2 : ((z : Int) == 2) = false := by simpa using h2
 have q4 : ((z : Int) == 4) = false := by simpa using h4
 have q8 : ((z : Int) == 8) = false := by simpa using h8
 have q16 : ((z : Int) == 16) = false := by simpa using h16
 have q32 : ((z : Int) == 32) = false := by simpa using h32
 have q64 : ((z : Int) == 64) = false := by simpa using h64
 clear h2 h4 h8 h16 h32 h64
 go_enter Tryz.func22, Tryz.ntmps22
 go_upto_region 1 with fail
 rw [HW.out]
 go_wp2_with (first
  | (refine step_load_row rfl 37 _ rfl (w.heap.size) 37 (wdV A) _ rfl (H1.out.bl 1 rfl) Tryz.underlying37 rfl (by kernel_rfl) ?_)
  | (refine step_store_row rfl 37 _ _ rfl (w.heap.size + 1) 37 _ (wdV A) rfl rfl (H1.out.bl 0 rfl) (by kernel_rfl) rfl (by kernel_rfl) ?_))
 have H9 := hid (H1.out.rowI hM 0 rfl (wdV A))
 exact bodyPost_ret (results_cell_row (by rfl) _ _ (w.heap.size + 1) 37 (wdV A) (0, 0) _ rfl (H9.out.bl 0 rfl) Tryz.underlying37 rfl (by kernel_rfl)) rfl ⟨rfl, H9.out.fin.1.up HLOW.out, H9.out.fin.2⟩
theorem yfold {Pm : World → Nat → Ms → (Nat → Prop) → Prop} (hM : Mach Pm) {lo : Nat} {X : Nat → Prop} {W w : World} {b bd k : Nat} {S S2 : Ms} (K : Int) (A : Nat → Int) (z : Int) (h : Bz Pm lo X W w bd b S2 S) (hq : Bq k S) (hk : k + 600 ≤ 100000) (hn : S.n = 2 ∨ S.n = 3) (hK : I64 K) (hA : Wb A) :
  Calls Tryz.prog 22 #[.pointer (some ⟨b, 0, none⟩), .int .i64 K, .agg (wdV A), .int .i64 z] w fun e w' => e = .returned (.agg (wdV (bfR S (isDom K) A z))) ∧ Bz Pm lo X W w' bd b S2 (bfS S (isDom K) A z) ∧ ∀ k, X k → w'.heap[k]? = w.heap[k]? := by
 by_cases h2 : z = 2
 ·
  subst h2
  have e : lgW 2 = 1 := by decide
  unfold bfR bfS
  rw [e]
  exact yfold1 hM K A h hq hk hn hK hA
 by_cases h4 : z = 4
 ·
  subst h4
  have e : lgW 4 = 2 := by decide
  unfold bfR bfS
  rw [e]
  exact yfold2 hM K A h hq hk hn hK hA
 by_cases h8 : z = 8
 ·
  subst h8
  have e : lgW 8 = 3 := by decide
  unfold bfR bfS
  rw [e]
  exact yfold3 hM K A h hq hk hn hK hA
 by_cases h16 : z = 16
 ·
  subst h16
  have e : lgW 16 = 4 := by decide
  unfold bfR bfS
  rw [e]
  exact yfold4 hM K A h hq hk hn hK hA
 by_cases h32 : z = 32
 ·
  subst h32
  have e : lgW 32 = 5 := by decide
  unfold bfR bfS
  rw [e]
  exact yfold5 hM K A h hq hk hn hK hA
 by_cases h64 : z = 64
 ·
  subst h64
  have e : lgW 64 = 6 := by decide
  unfold bfR bfS
  rw [e]
  exact yfold6 hM K A h hq hk hn hK hA
 have e : lgW z = 0 := by unfold lgW; rw [if_neg h2, if_neg h4, if_neg h8, if_neg h16, if_neg h32, if_neg h64]
 unfold bfR bfS
 rw [e]
 exact yfold0 hM K A z h hq hk hn hK hA h2 h4 h8 h16 h32 h64
end Go.Proofs.YthkijncnndoafaaGreatDoor
