import Derived.Test.YthkijncnndoafaaGreatDoorMpw
import Derived.Test.YthkijncnndoafaaGreatDoorTmc
import Derived.Test.YthkijncnndoafaaGreatDoorTmd
namespace Go.Proofs.YthkijncnndoafaaGreatDoor
open Go.RowKit Go.Maps
set_option maxRecDepth 100000
def Sy9 (r : Nat → Int) : Prop := ∀ i, i < 3 → ∀ k, k < 3 → r (i * 3 + k) = r (k * 3 + i)
theorem Sy9.upd {r : Nat → Int} (h : Sy9 r) {a c : Nat} (ha : a < 3) (hc : c < 3) (x : Int) : Sy9 (updI (updI r (a * 3 + c) x) (c * 3 + a) x) := fun i hi k hk => by
 have h0 := h i hi k hk
 by_cases e1 : i * 3 + k = c * 3 + a
 ·
  have e2 : k * 3 + i = a * 3 + c := by omega
  rw [e1, e2, updI_at]
  by_cases e3 : a * 3 + c = c * 3 + a
  · rw [e3, updI_at]
  · rw [updI_no _ _ e3, updI_at]
 ·
  by_cases e2 : i * 3 + k = a * 3 + c
  ·
   have e3 : k * 3 + i = c * 3 + a := by omega
   rw [updI_no _ _ e1, e2, updI_at, e3, updI_at]
  ·
   rw [updI_no _ _ e1, updI_no _ _ e2, updI_no _ _ (by omega : k * 3 + i ≠ c * 3 + a), updI_no _ _ (by omega : k * 3 + i ≠ a * 3 + c)]
   exact h0
theorem mkI_sy {S : Ms} {r : Nat → Int} {k : Nat} (hk : k < 3) (h : Sy9 r) : ∀ {i}, i ≤ k → Sy9 (mkI dS0 dR0 S r k i).2
 | 0, _ => h
 | i + 1, hi => (mkI_sy hk h (i := i) (by omega)).upd (by omega) hk _
theorem mkG_sy (S : Ms) : ∀ {k}, k ≤ 3 → Sy9 (mkG dS0 dR0 S k).2
 | 0, _ => fun _ _ _ _ => rfl
 | k + 1, hk => mkI_sy (by omega) (mkG_sy S (k := k) (by omega)) (Nat.le_refl k)
theorem mk_all {n : Nat} (hn : n = 2 ∨ n = 3) (S : Ms) : mkG dS0 dR0 S n = rnG dS0 dR0 S n n := by
 rcases hn with rfl | rfl
 · exact mk_2 dS0 dR0 S
 · exact mk_3 dS0 dR0 S
theorem pt_there {w : World} {b g n : Nat} {p : Nat → Int} (h : w.heap[n]? = some (.cells (ptC b g p) 129 (0, 0))) : w.there n 2 9 := fun j hj => ⟨by rw [row_c (i := 2 + j) h (pt_at b g p hj)]; rfl, frozen_of_row w n (2 + j) _ _ h⟩
theorem pt_set {w : World} {b g n : Nat} {p p' : Nat → Int} (h : w.heap[n]? = some (.cells (ptC b g p) 129 (0, 0))) : (w.setCells n 2 (iz 9 p').toList).heap[n]? = some (.cells (ptC b g p') 129 (0, 0)) := by
 rw [setCells_row n 129 (0, 0) (iz 9 p').toList 2 w _ h (by rw [Array.length_toList, iz_size]; exact Nat.le_refl _)]
 rfl
set_option maxHeartbeats 12800000 in
theorem tmul_isw {Pm : World → Nat → Ms → (Nat → Prop) → Prop} (hM : Mach Pm) (b k nn : Nat) (S : Ms) (F : Nat → Prop) (A B : Nat → Int) (w : World) (hm : Pm w b S F) (hq : Bq k S) (hk : k + 50 ≤ 100000) (hn : S.n = (nn : Int)) (hn23 : nn = 2 ∨ nn = 3) (hA : Wb A) (hB : Wb B) :
  Calls Tryz.prog 90 #[.pointer (some ⟨b, 0, none⟩), .agg (wdV A), .agg (wdV B), .func (.func 92) #[] #[]] w fun e w' => e = .returned (.agg (wdV (tmG dS0 dR0 nn false A B (S.beginS 3)).2)) ∧ PmR Pm b (tmG dS0 dR0 nn false A B (S.beginS 3)).1.endS F w w' := by
 have hn3 : nn ≤ 3 := by omega
 have hmk := mk_all hn23 (S.beginS 3)
 have hS2 : Bn k (nn : Int) (S.beginS 3) := ⟨hq.begins 3, (beginS_n S 3).1.trans hn⟩
 have hR := rnG_bq (n := nn) hn3 hS2 (i := nn) (by omega)
 have hP := pdG_bq (n := nn) hn3 hR.1 hA hB (i := nn) (by omega) (by omega)
 have hFb : ∀ j, j ≤ nn → Bn (k + 3 * nn + 3 * nn + 9 * j) (nn : Int) (fnG dS0 dR0 false (rnG dS0 dR0 (S.beginS 3) nn nn).2 (pdG dS0 dR0 A B (rnG dS0 dR0 (S.beginS 3) nn nn).1 nn nn).2 (pdG dS0 dR0 A B (rnG dS0 dR0 (S.beginS 3) nn nn).1 nn nn).1 nn j).1 := fun j hj => (fnG_bq (n := nn) (dom := false) hn3 hP.1 hR.2 hP.2 (i := j) (by omega) (by omega)).1
 have HBG : Hid (∀ (bs : List (Nat × Obj)) (w' : World), Ow Pm F w w' b S bs → Calls Tryz.prog 93 #[.pointer (some ⟨b, 0, none⟩), .int .i64 3] w' fun e w2 => e = .returned (.tuple #[]) ∧ Ow Pm F w w2 b (S.beginS 3) bs) := hid (fun bs w' h' => h'.lift hM (fun F' hF' => hM.begin_ b k S F' 3 w' hF' hq (by omega)))
 have HDR : Hid (∀ (bs : List (Nat × Obj)) (w' : World), Ow Pm F w w' b (S.beginS 3) bs → Calls Tryz.prog 100 #[.pointer (some ⟨b, 0, none⟩)] w' fun e w2 => ∃ g o, e = .returned (.map (some g)) ∧ Msk 100 (rnG dS0 dR0 (S.beginS 3) nn nn).2 o ∧ Ow Pm F w w2 b (rnG dS0 dR0 (S.beginS 3) nn nn).1 ((g, o) :: bs)) := hid (fun bs w' h' => by
  have := tdrawn_any hM k nn (S.beginS 3) h' hS2.1 (by omega) hS2.2 hn3
  rw [hmk] at this
  exact this)
 have HPD : Hid (∀ (bs : List (Nat × Obj)) (w' : World), Ow Pm F w w' b (rnG dS0 dR0 (S.beginS 3) nn nn).1 bs → Calls Tryz.prog 101 #[.pointer (some ⟨b, 0, none⟩), .agg (wdV A), .agg (wdV B)] w' fun e w2 => e = .returned (.agg (iz 9 (pdG dS0 dR0 A B (rnG dS0 dR0 (S.beginS 3) nn nn).1 nn nn).2)) ∧ Ow Pm F w w2 b (pdG dS0 dR0 A B (rnG dS0 dR0 (S.beginS 3) nn nn).1 nn nn).1 bs) := hid (fun bs w' h' => tprod_any hM (k + 3 * nn) nn _ A B h' hR.1.1 (by omega) hR.1.2 hn3 hA hB)
 have HNB : Hid (∀ (bs : List (Nat × Obj)) (w' : World), Ow Pm F w w' b (fnG dS0 dR0 false (rnG dS0 dR0 (S.beginS 3) nn nn).2 (pdG dS0 dR0 A B (rnG dS0 dR0 (S.beginS 3) nn nn).1 nn nn).2 (pdG dS0 dR0 A B (rnG dS0 dR0 (S.beginS 3) nn nn).1 nn nn).1 nn 0).1 bs → Calls Tryz.prog 76 #[.pointer (some ⟨b, 0, none⟩)] w' fun e w2 => e = .returned (.int .i64 (nn : Int)) ∧ Below w'.heap.size w' w2) := hid (fun bs w' h' => h'.asks (fun F' hF' => by have := hM.n b (k + 3 * nn + 3 * nn) _ F' w' hF' (hFb 0 (by omega)).1 (by omega); rw [(hFb 0 (by omega)).2] at this; exact this))
 have HSH : Hid (∀ j, j < nn → ∀ (g : Nat) (o : Obj) (bs : List (Nat × Obj)) (w' : World), (g, o) ∈ bs → Msk 100 (rnG dS0 dR0 (S.beginS 3) nn nn).2 o → Ow Pm F w w' b (fnG dS0 dR0 false (rnG dS0 dR0 (S.beginS 3) nn nn).2 (pdG dS0 dR0 A B (rnG dS0 dR0 (S.beginS 3) nn nn).1 nn nn).2 (pdG dS0 dR0 A B (rnG dS0 dR0 (S.beginS 3) nn nn).1 nn nn).1 nn j).1 bs → Calls Tryz.prog 102 #[.agg (ptC b g (pdG dS0 dR0 A B (rnG dS0 dR0 (S.beginS 3) nn nn).1 nn nn).2), .int .i64 (j : Int), .func (.func 92) #[] #[]] w' fun e w2 => e = .returned (.int .i64 (fnI dS0 dR0 false (rnG dS0 dR0 (S.beginS 3) nn nn).2 (pdG dS0 dR0 A B (rnG dS0 dR0 (S.beginS 3) nn nn).1 nn nn).2 (fnG dS0 dR0 false (rnG dS0 dR0 (S.beginS 3) nn nn).2 (pdG dS0 dR0 A B (rnG dS0 dR0 (S.beginS 3) nn nn).1 nn nn).2 (pdG dS0 dR0 A B (rnG dS0 dR0 (S.beginS 3) nn nn).1 nn nn).1 nn j).1 j nn).2) ∧ Ow Pm F w w2 b (fnG dS0 dR0 false (rnG dS0 dR0 (S.beginS 3) nn nn).2 (pdG dS0 dR0 A B (rnG dS0 dR0 (S.beginS 3) nn nn).1 nn nn).2 (pdG dS0 dR0 A B (rnG dS0 dR0 (S.beginS 3) nn nn).1 nn nn).1 nn (j + 1)).1 bs) := hid (fun j hj g o bs w' hg ho h' =>
  tshare_isw hM g o 100 (rnG dS0 dR0 (S.beginS 3) nn nn).2 (pdG dS0 dR0 A B (rnG dS0 dR0 (S.beginS 3) nn nn).1 nn nn).2 (k + 3 * nn + 3 * nn + 9 * j) nn j _ h' hg ho (hFb j (by omega)).1 (by omega) (hFb j (by omega)).2 hn3 (by omega) (fun k hk3 => by have q := mkG_sy (S.beginS 3) (k := nn) (by omega); rw [hmk] at q; exact q j (by omega) k (by omega)) hR.2 hP.2)
 have HU : Hid (∀ j, (fnG dS0 dR0 false (rnG dS0 dR0 (S.beginS 3) nn nn).2 (pdG dS0 dR0 A B (rnG dS0 dR0 (S.beginS 3) nn nn).1 nn nn).2 (pdG dS0 dR0 A B (rnG dS0 dR0 (S.beginS 3) nn nn).1 nn nn).1 nn (j + 1)).2 = updI (fnG dS0 dR0 false (rnG dS0 dR0 (S.beginS 3) nn nn).2 (pdG dS0 dR0 A B (rnG dS0 dR0 (S.beginS 3) nn nn).1 nn nn).2 (pdG dS0 dR0 A B (rnG dS0 dR0 (S.beginS 3) nn nn).1 nn nn).1 nn j).2 j (fnI dS0 dR0 false (rnG dS0 dR0 (S.beginS 3) nn nn).2 (pdG dS0 dR0 A B (rnG dS0 dR0 (S.beginS 3) nn nn).1 nn nn).2 (fnG dS0 dR0 false (rnG dS0 dR0 (S.beginS 3) nn nn).2 (pdG dS0 dR0 A B (rnG dS0 dR0 (S.beginS 3) nn nn).1 nn nn).2 (pdG dS0 dR0 A B (rnG dS0 dR0 (S.beginS 3) nn nn).1 nn nn).1 nn j).1 j nn).2) := hid (fun j => rfl)
 have HEN : Hid (∀ (bs : List (Nat × Obj)) (w' : World), Ow Pm F w w' b (fnG dS0 dR0 false (rnG dS0 dR0 (S.beginS 3) nn nn).2 (pdG dS0 dR0 A B (rnG dS0 dR0 (S.beginS 3) nn nn).1 nn nn).2 (pdG dS0 dR0 A B (rnG dS0 dR0 (S.beginS 3) nn nn).1 nn nn).1 nn nn).1 bs → Calls Tryz.prog 96 #[.pointer (some ⟨b, 0, none⟩)] w' fun e w2 => e = .returned (.tuple #[]) ∧ Ow Pm F w w2 b (tmG dS0 dR0 nn false A B (S.beginS 3)).1.endS bs) := hid (fun bs w' h' => h'.lift hM (fun F' hF' => hM.end_ b (k + 3 * nn + 3 * nn + 9 * nn) _ F' w' hF' (hFb nn (by omega)).1 (by omega)))
 have HU9 : Hid ((fnG dS0 dR0 false (rnG dS0 dR0 (S.beginS 3) nn nn).2 (pdG dS0 dR0 A B (rnG dS0 dR0 (S.beginS 3) nn nn).1 nn nn).2 (pdG dS0 dR0 A B (rnG dS0 dR0 (S.beginS 3) nn nn).1 nn nn).1 nn nn).2 = (tmG dS0 dR0 nn false A B (S.beginS 3)).2) := hid rfl
 have HU0 : Hid ((fnG dS0 dR0 false (rnG dS0 dR0 (S.beginS 3) nn nn).2 (pdG dS0 dR0 A B (rnG dS0 dR0 (S.beginS 3) nn nn).1 nn nn).2 (pdG dS0 dR0 A B (rnG dS0 dR0 (S.beginS 3) nn nn).1 nn nn).1 nn 0).2 = none3) := hid rfl
 have HF0 : Hid ((fnG dS0 dR0 false (rnG dS0 dR0 (S.beginS 3) nn nn).2 (pdG dS0 dR0 A B (rnG dS0 dR0 (S.beginS 3) nn nn).1 nn nn).2 (pdG dS0 dR0 A B (rnG dS0 dR0 (S.beginS 3) nn nn).1 nn nn).1 nn 0).1 = (pdG dS0 dR0 A B (rnG dS0 dR0 (S.beginS 3) nn nn).1 nn nn).1) := hid rfl
 have HN3 := hid hn3
 obtain ⟨w1, hw1⟩ : ∃ w1, ((w.alloc (.cells (wdV A) 37)).alloc (.cells (wdV B) 37)).alloc (.cells #[.int .i64 0, .int .i64 0, .int .i64 0] 37) = w1 := ⟨_, rfl⟩
 have H1 : Hid (Ow Pm F w w1 b S [(w.heap.size + 2, Obj.cells #[.int .i64 0, .int .i64 0, .int .i64 0] 37 (0, 0)), (w.heap.size + 1, Obj.cells (wdV B) 37 (0, 0)), (w.heap.size, Obj.cells (wdV A) 37 (0, 0))]) := hid (by
  have := (((Ow.start hm).new hM (wdV A) 37).new hM (wdV B) 37).new hM #[.int .i64 0, .int .i64 0, .int .i64 0] 37
  rw [hw1] at this
  simp only [sz_al] at this
  exact this)
 have HW := hid hw1
 clear hm hq hk hn hn3 hn23 hA hB hmk hS2 hR hP hFb hw1
 obtain ⟨R9, hR9⟩ : ∃ R9, (rnG dS0 dR0 (S.beginS 3) nn nn).2 = R9 := ⟨_, rfl⟩
 obtain ⟨P9, hP9⟩ : ∃ P9, (pdG dS0 dR0 A B (rnG dS0 dR0 (S.beginS 3) nn nn).1 nn nn).2 = P9 := ⟨_, rfl⟩
 simp only [hR9, hP9] at HDR HPD HNB HSH HU HEN HU9 HU0 HF0
 clear hR9 hP9
 obtain ⟨SP, hSP⟩ : ∃ SP, (pdG dS0 dR0 A B (rnG dS0 dR0 (S.beginS 3) nn nn).1 nn nn).1 = SP := ⟨_, rfl⟩
 simp only [hSP] at HDR HPD HNB HSH HU HEN HU9 HU0 HF0
 clear hSP
 obtain ⟨SR, hSR⟩ : ∃ SR, (rnG dS0 dR0 (S.beginS 3) nn nn).1 = SR := ⟨_, rfl⟩
 simp only [hSR] at HDR HPD
 clear hSR
 obtain ⟨rg, hrg⟩ : ∃ rg : Nat → Int, ∀ j, (fnI dS0 dR0 false R9 P9 (fnG dS0 dR0 false R9 P9 SP nn j).1 j nn).2 = rg j := ⟨_, fun _ => rfl⟩
 simp only [hrg] at HSH HU
 clear hrg
 obtain ⟨St, hSt⟩ : ∃ St : Nat → Ms, ∀ j, (fnG dS0 dR0 false R9 P9 SP nn j).1 = St j := ⟨_, fun _ => rfl⟩
 obtain ⟨U, hU⟩ : ∃ U : Nat → Nat → Int, ∀ j, (fnG dS0 dR0 false R9 P9 SP nn j).2 = U j := ⟨_, fun _ => rfl⟩
 simp only [hSt, hU] at HNB HSH HU HEN HU9 HU0 HF0
 clear hSt hU
 rw [← HU9.out]
 generalize (tmG dS0 dR0 nn false A B (S.beginS 3)).1.endS = S9 at *
 clear HU9
 generalize (S.beginS 3) = S2 at *
 go_enter Tryz.func90, Tryz.ntmps90
 go_upto_region 1 with fail
 rw [HW.out]
 have H2 := hid (H1.out.new hM (wdV none3) 37)
 go_upto_region 2 with fail
 obtain ⟨g9, hg9⟩ : ∃ g9, w1.heap.size = g9 := ⟨_, rfl⟩
 rw [hg9] at H2
 have H3 : Hid (Ow Pm F w (w1.alloc (.cells #[.int .i64 (-1), .int .i64 (-1), .int .i64 (-1)] 37)) b S ((g9, .cells (wdV none3) 37 (0, 0)) :: [(w.heap.size + 2, Obj.cells #[.int .i64 0, .int .i64 0, .int .i64 0] 37 (0, 0)), (w.heap.size + 1, Obj.cells (wdV B) 37 (0, 0)), (w.heap.size, Obj.cells (wdV A) 37 (0, 0))])) := H2
 generalize w1.alloc (.cells #[.int .i64 (-1), .int .i64 (-1), .int .i64 (-1)] 37) = w3 at *
 rw [hg9]
 clear hg9 H2 H1
 go_upto_region 3 with (go_at_call 93; (with_reducible refine (HBG.out _ _ H3.out).mono ?_); rintro e w4 ⟨rfl, hb⟩; have H4 := hid hb; clear hb)
 go_upto_region 4 with (go_at_call 100; (with_reducible refine (HDR.out _ _ H4.out).mono ?_); rintro e w5 ⟨g, o, rfl, ho, hb⟩; have H5 := hid hb; have HO := hid ho; clear hb ho)
 have H6 := hid (H5.out.new hM (ptC b g zero9) 129)
 obtain ⟨g10, hg10⟩ : ∃ g10, w5.heap.size = g10 := ⟨_, rfl⟩
 rw [hg10] at H6
 have H7 : Hid (Ow Pm F w (w5.alloc (.cells #[.pointer (some ⟨b, 0, none⟩), .map (some g), .int .i64 0, .int .i64 0, .int .i64 0, .int .i64 0, .int .i64 0, .int .i64 0, .int .i64 0, .int .i64 0, .int .i64 0] 129)) b SR ((g10, .cells (ptC b g zero9) 129 (0, 0)) :: (g, o) :: (g9, .cells (wdV none3) 37 (0, 0)) :: [(w.heap.size + 2, Obj.cells #[.int .i64 0, .int .i64 0, .int .i64 0] 37 (0, 0)), (w.heap.size + 1, Obj.cells (wdV B) 37 (0, 0)), (w.heap.size, Obj.cells (wdV A) 37 (0, 0))])) := hid H6.out
 generalize w5.alloc (.cells #[.pointer (some ⟨b, 0, none⟩), .map (some g), .int .i64 0, .int .i64 0, .int .i64 0, .int .i64 0, .int .i64 0, .int .i64 0, .int .i64 0, .int .i64 0, .int .i64 0] 129) = w7 at *
 rw [hg10]
 clear hg10 H6 H5 H4 H3
 go_upto_region 5 with (first
  | (refine step_load_row rfl 37 _ rfl w.heap.size 37 (wdV A) _ rfl (H7.out.bl 5 rfl) Tryz.underlying37 rfl (by kernel_rfl) ?_)
  | (refine step_load_row rfl 37 _ rfl (w.heap.size + 1) 37 (wdV B) _ rfl (H7.out.bl 4 rfl) Tryz.underlying37 rfl (by kernel_rfl) ?_)
  | (go_at_call 101; (with_reducible refine (HPD.out _ _ H7.out).mono ?_); rintro e w8 ⟨rfl, hb⟩; have H8 := hid hb; clear hb)
  | (refine wpList_store_mid rfl 110 _ _ rfl g10 2 (iz 9 P9) rfl rfl (by rw [iz_size]; exact pt_there (H8.out.bl 0 rfl)) (by rw [iz_size]; kernel_rfl) (by kernel_rfl) ?_))
 have H9 : Hid (Ow Pm F w (w8.setCells g10 2 (iz 9 P9).toList) b SP ((g10, .cells (ptC b g P9) 129 (0, 0)) :: (g, o) :: (g9, .cells (wdV none3) 37 (0, 0)) :: [(w.heap.size + 2, Obj.cells #[.int .i64 0, .int .i64 0, .int .i64 0] 37 (0, 0)), (w.heap.size + 1, Obj.cells (wdV B) 37 (0, 0)), (w.heap.size, Obj.cells (wdV A) 37 (0, 0))])) := hid (H8.out.turn hM (pt_set (H8.out.bl 0 rfl)) (fun q hq => setCells_apart g10 _ 2 w8 q hq) (Nat.le_of_eq (setCells_size g10 _ 2 w8).symm) (setCells_out g10 _ 2 w8))
 generalize w8.setCells g10 2 (iz 9 P9).toList = w9 at *
 clear H7 H8
 have H10 : Hid (Ow Pm F w w9 b (St 0) ((g9, .cells (wdV (U 0)) 37 (0, 0)) :: (g10, .cells (ptC b g P9) 129 (0, 0)) :: (g, o) :: (w.heap.size + 2, .cells #[.int .i64 0, .int .i64 0, .int .i64 0] 37 (0, 0)) :: (w.heap.size + 1, .cells (wdV B) 37 (0, 0)) :: (w.heap.size, .cells (wdV A) 37 (0, 0)) :: [])) := hid (by
  rw [HF0.out, HU0.out]
  exact H9.out.sub (fun q hq => by simp at hq ⊢; rcases hq with e | e | e | e | e | e <;> simp [e]) (by
   have := H9.out.nd
   simp only [List.map_cons, List.map_nil, List.nodup_cons, List.mem_cons, List.not_mem_nil, not_or] at this ⊢
   refine ⟨⟨fun e => this.1.2.1 e.symm, fun e => this.2.1.1 e.symm, this.2.2.1.1, this.2.2.1.2.1, this.2.2.1.2.2.1, fun h => h⟩, ⟨this.1.1, this.1.2.2.1, this.1.2.2.2.1, this.1.2.2.2.2.1, fun h => h⟩, ⟨this.2.1.2.1, this.2.1.2.2.1, this.2.1.2.2.2.1, fun h => h⟩, this.2.2.2⟩))
 clear H9
 go_wp2_with (go_at_call 76; (with_reducible refine (HNB.out _ _ H10.out).mono ?_); rintro e w10 ⟨rfl, hb⟩; have H11 := hid (H10.out.self hM hb); clear hb)
 go_loopw [27] (fun iv wr => ∃ j : Nat, j ≤ nn ∧ iv = .int .i64 j ∧ Ow Pm F w wr b (St j) ((g9, .cells (wdV (U j)) 37 (0, 0)) :: (g10, .cells (ptC b g P9) 129 (0, 0)) :: (g, o) :: (w.heap.size + 2, .cells #[.int .i64 0, .int .i64 0, .int .i64 0] 37 (0, 0)) :: (w.heap.size + 1, .cells (wdV B) 37 (0, 0)) :: (w.heap.size, .cells (wdV A) 37 (0, 0)) :: [])) (fun iv _ => nn - (intOf iv).toNat)
 case atStart => exact ⟨0, by omega, rfl, H11.out⟩
 case round =>
  clear H10 H11
  obtain ⟨j, hj, rfl, hI⟩ := hrel
  have HI := hid hI
  clear hI
  have hn3 := HN3.out
  by_cases hlt : j < nn
  ·
   have j1 : (j : Int) < (nn : Int) := by omega
   have j0 : (0 : Int) ≤ (j : Int) := by omega
   have j3 : (j : Int) < 3 := by omega
   have HJ3 : Hid (j < 3) := hid (by omega)
   have HJX : Hid (j + 1 ≤ nn) := hid (by omega)
   replace HSH := hid (fun bs' w' hg h' => HSH.out j hlt g o bs' w' hg HO.out h')
   have HER : Hid ((wdV (U j)).setIfInBounds j (.int .i64 (rg j)) = wdV (U (j + 1))) := hid (by rw [wdV_upd _ j _ (by omega), HU.out j])
   clear hj hlt
   go_wp2_with (first
    | (refine step_load_row rfl 129 _ rfl g10 129 (ptC b g P9) _ rfl (HI.out.bl 1 rfl) Tryz.underlying129 rfl (by kernel_rfl) ?_)
    | (go_at_call 102; (with_reducible refine (HSH.out _ _ (by simp) HI.out).mono ?_); rintro e w6 ⟨rfl, hz⟩; have H6 := hid hz; have cj := row_c (i := j) (H6.out.bl 0 rfl) (wdV_at (U j) j HJ3.out); have fj := frozen_of_row w6 g9 j _ _ (H6.out.bl 0 rfl); clear hz))
   have H7 := hid (H6.out.cell hM j (.int .i64 (rg j)))
   rw [HER.out] at H7
   go_roundw
   case rel => exact ⟨j + 1, HJX.out, by go_num, H7.out⟩
   case measure => simp [intOf]; omega
  ·
   obtain rfl : nn = j := by omega
   clear hlt hj
   go_wp2_with (first
    | (go_at_call 96; (with_reducible refine (HEN.out _ _ HI.out).mono ?_); rintro e w8 ⟨rfl, hb⟩; have H8 := hid hb; clear hb)
    | (refine step_load_row rfl 37 _ rfl g9 37 (wdV (U nn)) _ rfl (H8.out.bl 0 rfl) Tryz.underlying37 rfl (by kernel_rfl) ?_)
    | (refine step_store_row rfl 37 _ _ rfl (w.heap.size + 2) 37 _ (wdV (U nn)) rfl rfl (H8.out.bl 3 rfl) (by kernel_rfl) rfl (by kernel_rfl) ?_))
   have H9 := hid (H8.out.rowI hM 3 rfl (wdV (U nn)))
   exact bodyPost_ret (results_cell_row (by rfl) _ _ (w.heap.size + 2) 37 (wdV (U nn)) (0, 0) _ rfl (H9.out.bl 3 rfl) Tryz.underlying37 rfl (by kernel_rfl)) rfl ⟨rfl, H9.out.fin⟩
set_option maxHeartbeats 12800000 in
theorem tmul_dom {Pm : World → Nat → Ms → (Nat → Prop) → Prop} (hM : Mach Pm) (b k nn : Nat) (S : Ms) (F : Nat → Prop) (A B : Nat → Int) (w : World) (hm : Pm w b S F) (hq : Bq k S) (hk : k + 50 ≤ 100000) (hn : S.n = (nn : Int)) (hn23 : nn = 2 ∨ nn = 3) (hA : Wb A) (hB : Wb B) :
  Calls Tryz.prog 90 #[.pointer (some ⟨b, 0, none⟩), .agg (wdV A), .agg (wdV B), .func (.func 91) #[] #[]] w fun e w' => e = .returned (.agg (wdV (tmG dS0 dR0 nn true A B (S.beginS 3)).2)) ∧ PmR Pm b (tmG dS0 dR0 nn true A B (S.beginS 3)).1.endS F w w' := by
 have hn3 : nn ≤ 3 := by omega
 have hmk := mk_all hn23 (S.beginS 3)
 have hS2 : Bn k (nn : Int) (S.beginS 3) := ⟨hq.begins 3, (beginS_n S 3).1.trans hn⟩
 have hR := rnG_bq (n := nn) hn3 hS2 (i := nn) (by omega)
 have hP := pdG_bq (n := nn) hn3 hR.1 hA hB (i := nn) (by omega) (by omega)
 have hFb : ∀ j, j ≤ nn → Bn (k + 3 * nn + 3 * nn + 9 * j) (nn : Int) (fnG dS0 dR0 true (rnG dS0 dR0 (S.beginS 3) nn nn).2 (pdG dS0 dR0 A B (rnG dS0 dR0 (S.beginS 3) nn nn).1 nn nn).2 (pdG dS0 dR0 A B (rnG dS0 dR0 (S.beginS 3) nn nn).1 nn nn).1 nn j).1 := fun j hj => (fnG_bq (n := nn) (dom := true) hn3 hP.1 hR.2 hP.2 (i := j) (by omega) (by omega)).1
 have HBG : Hid (∀ (bs : List (Nat × Obj)) (w' : World), Ow Pm F w w' b S bs → Calls Tryz.prog 93 #[.pointer (some ⟨b, 0, none⟩), .int .i64 3] w' fun e w2 => e = .returned (.tuple #[]) ∧ Ow Pm F w w2 b (S.beginS 3) bs) := hid (fun bs w' h' => h'.lift hM (fun F' hF' => hM.begin_ b k S F' 3 w' hF' hq (by omega)))
 have HDR : Hid (∀ (bs : List (Nat × Obj)) (w' : World), Ow Pm F w w' b (S.beginS 3) bs → Calls Tryz.prog 100 #[.pointer (some ⟨b, 0, none⟩)] w' fun e w2 => ∃ g o, e = .returned (.map (some g)) ∧ Msk 100 (rnG dS0 dR0 (S.beginS 3) nn nn).2 o ∧ Ow Pm F w w2 b (rnG dS0 dR0 (S.beginS 3) nn nn).1 ((g, o) :: bs)) := hid (fun bs w' h' => by
  have := tdrawn_any hM k nn (S.beginS 3) h' hS2.1 (by omega) hS2.2 hn3
  rw [hmk] at this
  exact this)
 have HPD : Hid (∀ (bs : List (Nat × Obj)) (w' : World), Ow Pm F w w' b (rnG dS0 dR0 (S.beginS 3) nn nn).1 bs → Calls Tryz.prog 101 #[.pointer (some ⟨b, 0, none⟩), .agg (wdV A), .agg (wdV B)] w' fun e w2 => e = .returned (.agg (iz 9 (pdG dS0 dR0 A B (rnG dS0 dR0 (S.beginS 3) nn nn).1 nn nn).2)) ∧ Ow Pm F w w2 b (pdG dS0 dR0 A B (rnG dS0 dR0 (S.beginS 3) nn nn).1 nn nn).1 bs) := hid (fun bs w' h' => tprod_any hM (k + 3 * nn) nn _ A B h' hR.1.1 (by omega) hR.1.2 hn3 hA hB)
 have HNB : Hid (∀ (bs : List (Nat × Obj)) (w' : World), Ow Pm F w w' b (fnG dS0 dR0 true (rnG dS0 dR0 (S.beginS 3) nn nn).2 (pdG dS0 dR0 A B (rnG dS0 dR0 (S.beginS 3) nn nn).1 nn nn).2 (pdG dS0 dR0 A B (rnG dS0 dR0 (S.beginS 3) nn nn).1 nn nn).1 nn 0).1 bs → Calls Tryz.prog 76 #[.pointer (some ⟨b, 0, none⟩)] w' fun e w2 => e = .returned (.int .i64 (nn : Int)) ∧ Below w'.heap.size w' w2) := hid (fun bs w' h' => h'.asks (fun F' hF' => by have := hM.n b (k + 3 * nn + 3 * nn) _ F' w' hF' (hFb 0 (by omega)).1 (by omega); rw [(hFb 0 (by omega)).2] at this; exact this))
 have HSH : Hid (∀ j, j < nn → ∀ (g : Nat) (o : Obj) (bs : List (Nat × Obj)) (w' : World), (g, o) ∈ bs → Msk 100 (rnG dS0 dR0 (S.beginS 3) nn nn).2 o → Ow Pm F w w' b (fnG dS0 dR0 true (rnG dS0 dR0 (S.beginS 3) nn nn).2 (pdG dS0 dR0 A B (rnG dS0 dR0 (S.beginS 3) nn nn).1 nn nn).2 (pdG dS0 dR0 A B (rnG dS0 dR0 (S.beginS 3) nn nn).1 nn nn).1 nn j).1 bs → Calls Tryz.prog 102 #[.agg (ptC b g (pdG dS0 dR0 A B (rnG dS0 dR0 (S.beginS 3) nn nn).1 nn nn).2), .int .i64 (j : Int), .func (.func 91) #[] #[]] w' fun e w2 => e = .returned (.int .i64 (fnI dS0 dR0 true (rnG dS0 dR0 (S.beginS 3) nn nn).2 (pdG dS0 dR0 A B (rnG dS0 dR0 (S.beginS 3) nn nn).1 nn nn).2 (fnG dS0 dR0 true (rnG dS0 dR0 (S.beginS 3) nn nn).2 (pdG dS0 dR0 A B (rnG dS0 dR0 (S.beginS 3) nn nn).1 nn nn).2 (pdG dS0 dR0 A B (rnG dS0 dR0 (S.beginS 3) nn nn).1 nn nn).1 nn j).1 j nn).2) ∧ Ow Pm F w w2 b (fnG dS0 dR0 true (rnG dS0 dR0 (S.beginS 3) nn nn).2 (pdG dS0 dR0 A B (rnG dS0 dR0 (S.beginS 3) nn nn).1 nn nn).2 (pdG dS0 dR0 A B (rnG dS0 dR0 (S.beginS 3) nn nn).1 nn nn).1 nn (j + 1)).1 bs) := hid (fun j hj g o bs w' hg ho h' =>
  tshare_dom hM g o 100 (rnG dS0 dR0 (S.beginS 3) nn nn).2 (pdG dS0 dR0 A B (rnG dS0 dR0 (S.beginS 3) nn nn).1 nn nn).2 (k + 3 * nn + 3 * nn + 9 * j) nn j _ h' hg ho (hFb j (by omega)).1 (by omega) (hFb j (by omega)).2 hn3 (by omega) hR.2 hP.2)
 have HU : Hid (∀ j, (fnG dS0 dR0 true (rnG dS0 dR0 (S.beginS 3) nn nn).2 (pdG dS0 dR0 A B (rnG dS0 dR0 (S.beginS 3) nn nn).1 nn nn).2 (pdG dS0 dR0 A B (rnG dS0 dR0 (S.beginS 3) nn nn).1 nn nn).1 nn (j + 1)).2 = updI (fnG dS0 dR0 true (rnG dS0 dR0 (S.beginS 3) nn nn).2 (pdG dS0 dR0 A B (rnG dS0 dR0 (S.beginS 3) nn nn).1 nn nn).2 (pdG dS0 dR0 A B (rnG dS0 dR0 (S.beginS 3) nn nn).1 nn nn).1 nn j).2 j (fnI dS0 dR0 true (rnG dS0 dR0 (S.beginS 3) nn nn).2 (pdG dS0 dR0 A B (rnG dS0 dR0 (S.beginS 3) nn nn).1 nn nn).2 (fnG dS0 dR0 true (rnG dS0 dR0 (S.beginS 3) nn nn).2 (pdG dS0 dR0 A B (rnG dS0 dR0 (S.beginS 3) nn nn).1 nn nn).2 (pdG dS0 dR0 A B (rnG dS0 dR0 (S.beginS 3) nn nn).1 nn nn).1 nn j).1 j nn).2) := hid (fun j => rfl)
 have HEN : Hid (∀ (bs : List (Nat × Obj)) (w' : World), Ow Pm F w w' b (fnG dS0 dR0 true (rnG dS0 dR0 (S.beginS 3) nn nn).2 (pdG dS0 dR0 A B (rnG dS0 dR0 (S.beginS 3) nn nn).1 nn nn).2 (pdG dS0 dR0 A B (rnG dS0 dR0 (S.beginS 3) nn nn).1 nn nn).1 nn nn).1 bs → Calls Tryz.prog 96 #[.pointer (some ⟨b, 0, none⟩)] w' fun e w2 => e = .returned (.tuple #[]) ∧ Ow Pm F w w2 b (tmG dS0 dR0 nn true A B (S.beginS 3)).1.endS bs) := hid (fun bs w' h' => h'.lift hM (fun F' hF' => hM.end_ b (k + 3 * nn + 3 * nn + 9 * nn) _ F' w' hF' (hFb nn (by omega)).1 (by omega)))
 have HU9 : Hid ((fnG dS0 dR0 true (rnG dS0 dR0 (S.beginS 3) nn nn).2 (pdG dS0 dR0 A B (rnG dS0 dR0 (S.beginS 3) nn nn).1 nn nn).2 (pdG dS0 dR0 A B (rnG dS0 dR0 (S.beginS 3) nn nn).1 nn nn).1 nn nn).2 = (tmG dS0 dR0 nn true A B (S.beginS 3)).2) := hid rfl
 have HU0 : Hid ((fnG dS0 dR0 true (rnG dS0 dR0 (S.beginS 3) nn nn).2 (pdG dS0 dR0 A B (rnG dS0 dR0 (S.beginS 3) nn nn).1 nn nn).2 (pdG dS0 dR0 A B (rnG dS0 dR0 (S.beginS 3) nn nn).1 nn nn).1 nn 0).2 = none3) := hid rfl
 have HF0 : Hid ((fnG dS0 dR0 true (rnG dS0 dR0 (S.beginS 3) nn nn).2 (pdG dS0 dR0 A B (rnG dS0 dR0 (S.beginS 3) nn nn).1 nn nn).2 (pdG dS0 dR0 A B (rnG dS0 dR0 (S.beginS 3) nn nn).1 nn nn).1 nn 0).1 = (pdG dS0 dR0 A B (rnG dS0 dR0 (S.beginS 3) nn nn).1 nn nn).1) := hid rfl
 have HN3 := hid hn3
 obtain ⟨w1, hw1⟩ : ∃ w1, ((w.alloc (.cells (wdV A) 37)).alloc (.cells (wdV B) 37)).alloc (.cells #[.int .i64 0, .int .i64 0, .int .i64 0] 37) = w1 := ⟨_, rfl⟩
 have H1 : Hid (Ow Pm F w w1 b S [(w.heap.size + 2, Obj.cells #[.int .i64 0, .int .i64 0, .int .i64 0] 37 (0, 0)), (w.heap.size + 1, Obj.cells (wdV B) 37 (0, 0)), (w.heap.size, Obj.cells (wdV A) 37 (0, 0))]) := hid (by
  have := (((Ow.start hm).new hM (wdV A) 37).new hM (wdV B) 37).new hM #[.int .i64 0, .int .i64 0, .int .i64 0] 37
  rw [hw1] at this
  simp only [sz_al] at this
  exact this)
 have HW := hid hw1
 clear hm hq hk hn hn3 hn23 hA hB hmk hS2 hR hP hFb hw1
 obtain ⟨R9, hR9⟩ : ∃ R9, (rnG dS0 dR0 (S.beginS 3) nn nn).2 = R9 := ⟨_, rfl⟩
 obtain ⟨P9, hP9⟩ : ∃ P9, (pdG dS0 dR0 A B (rnG dS0 dR0 (S.beginS 3) nn nn).1 nn nn).2 = P9 := ⟨_, rfl⟩
 simp only [hR9, hP9] at HDR HPD HNB HSH HU HEN HU9 HU0 HF0
 clear hR9 hP9
 obtain ⟨SP, hSP⟩ : ∃ SP, (pdG dS0 dR0 A B (rnG dS0 dR0 (S.beginS 3) nn nn).1 nn nn).1 = SP := ⟨_, rfl⟩
 simp only [hSP] at HDR HPD HNB HSH HU HEN HU9 HU0 HF0
 clear hSP
 obtain ⟨SR, hSR⟩ : ∃ SR, (rnG dS0 dR0 (S.beginS 3) nn nn).1 = SR := ⟨_, rfl⟩
 simp only [hSR] at HDR HPD
 clear hSR
 obtain ⟨rg, hrg⟩ : ∃ rg : Nat → Int, ∀ j, (fnI dS0 dR0 true R9 P9 (fnG dS0 dR0 true R9 P9 SP nn j).1 j nn).2 = rg j := ⟨_, fun _ => rfl⟩
 simp only [hrg] at HSH HU
 clear hrg
 obtain ⟨St, hSt⟩ : ∃ St : Nat → Ms, ∀ j, (fnG dS0 dR0 true R9 P9 SP nn j).1 = St j := ⟨_, fun _ => rfl⟩
 obtain ⟨U, hU⟩ : ∃ U : Nat → Nat → Int, ∀ j, (fnG dS0 dR0 true R9 P9 SP nn j).2 = U j := ⟨_, fun _ => rfl⟩
 simp only [hSt, hU] at HNB HSH HU HEN HU9 HU0 HF0
 clear hSt hU
 rw [← HU9.out]
 generalize (tmG dS0 dR0 nn true A B (S.beginS 3)).1.endS = S9 at *
 clear HU9
 generalize (S.beginS 3) = S2 at *
 go_enter Tryz.func90, Tryz.ntmps90
 go_upto_region 1 with fail
 rw [HW.out]
 have H2 := hid (H1.out.new hM (wdV none3) 37)
 go_upto_region 2 with fail
 obtain ⟨g9, hg9⟩ : ∃ g9, w1.heap.size = g9 := ⟨_, rfl⟩
 rw [hg9] at H2
 have H3 : Hid (Ow Pm F w (w1.alloc (.cells #[.int .i64 (-1), .int .i64 (-1), .int .i64 (-1)] 37)) b S ((g9, .cells (wdV none3) 37 (0, 0)) :: [(w.heap.size + 2, Obj.cells #[.int .i64 0, .int .i64 0, .int .i64 0] 37 (0, 0)), (w.heap.size + 1, Obj.cells (wdV B) 37 (0, 0)), (w.heap.size, Obj.cells (wdV A) 37 (0, 0))])) := H2
 generalize w1.alloc (.cells #[.int .i64 (-1), .int .i64 (-1), .int .i64 (-1)] 37) = w3 at *
 rw [hg9]
 clear hg9 H2 H1
 go_upto_region 3 with (go_at_call 93; (with_reducible refine (HBG.out _ _ H3.out).mono ?_); rintro e w4 ⟨rfl, hb⟩; have H4 := hid hb; clear hb)
 go_upto_region 4 with (go_at_call 100; (with_reducible refine (HDR.out _ _ H4.out).mono ?_); rintro e w5 ⟨g, o, rfl, ho, hb⟩; have H5 := hid hb; have HO := hid ho; clear hb ho)
 have H6 := hid (H5.out.new hM (ptC b g zero9) 129)
 obtain ⟨g10, hg10⟩ : ∃ g10, w5.heap.size = g10 := ⟨_, rfl⟩
 rw [hg10] at H6
 have H7 : Hid (Ow Pm F w (w5.alloc (.cells #[.pointer (some ⟨b, 0, none⟩), .map (some g), .int .i64 0, .int .i64 0, .int .i64 0, .int .i64 0, .int .i64 0, .int .i64 0, .int .i64 0, .int .i64 0, .int .i64 0] 129)) b SR ((g10, .cells (ptC b g zero9) 129 (0, 0)) :: (g, o) :: (g9, .cells (wdV none3) 37 (0, 0)) :: [(w.heap.size + 2, Obj.cells #[.int .i64 0, .int .i64 0, .int .i64 0] 37 (0, 0)), (w.heap.size + 1, Obj.cells (wdV B) 37 (0, 0)), (w.heap.size, Obj.cells (wdV A) 37 (0, 0))])) := hid H6.out
 generalize w5.alloc (.cells #[.pointer (some ⟨b, 0, none⟩), .map (some g), .int .i64 0, .int .i64 0, .int .i64 0, .int .i64 0, .int .i64 0, .int .i64 0, .int .i64 0, .int .i64 0, .int .i64 0] 129) = w7 at *
 rw [hg10]
 clear hg10 H6 H5 H4 H3
 go_upto_region 5 with (first
  | (refine step_load_row rfl 37 _ rfl w.heap.size 37 (wdV A) _ rfl (H7.out.bl 5 rfl) Tryz.underlying37 rfl (by kernel_rfl) ?_)
  | (refine step_load_row rfl 37 _ rfl (w.heap.size + 1) 37 (wdV B) _ rfl (H7.out.bl 4 rfl) Tryz.underlying37 rfl (by kernel_rfl) ?_)
  | (go_at_call 101; (with_reducible refine (HPD.out _ _ H7.out).mono ?_); rintro e w8 ⟨rfl, hb⟩; have H8 := hid hb; clear hb)
  | (refine wpList_store_mid rfl 110 _ _ rfl g10 2 (iz 9 P9) rfl rfl (by rw [iz_size]; exact pt_there (H8.out.bl 0 rfl)) (by rw [iz_size]; kernel_rfl) (by kernel_rfl) ?_))
 have H9 : Hid (Ow Pm F w (w8.setCells g10 2 (iz 9 P9).toList) b SP ((g10, .cells (ptC b g P9) 129 (0, 0)) :: (g, o) :: (g9, .cells (wdV none3) 37 (0, 0)) :: [(w.heap.size + 2, Obj.cells #[.int .i64 0, .int .i64 0, .int .i64 0] 37 (0, 0)), (w.heap.size + 1, Obj.cells (wdV B) 37 (0, 0)), (w.heap.size, Obj.cells (wdV A) 37 (0, 0))])) := hid (H8.out.turn hM (pt_set (H8.out.bl 0 rfl)) (fun q hq => setCells_apart g10 _ 2 w8 q hq) (Nat.le_of_eq (setCells_size g10 _ 2 w8).symm) (setCells_out g10 _ 2 w8))
 generalize w8.setCells g10 2 (iz 9 P9).toList = w9 at *
 clear H7 H8
 have H10 : Hid (Ow Pm F w w9 b (St 0) ((g9, .cells (wdV (U 0)) 37 (0, 0)) :: (g10, .cells (ptC b g P9) 129 (0, 0)) :: (g, o) :: (w.heap.size + 2, .cells #[.int .i64 0, .int .i64 0, .int .i64 0] 37 (0, 0)) :: (w.heap.size + 1, .cells (wdV B) 37 (0, 0)) :: (w.heap.size, .cells (wdV A) 37 (0, 0)) :: [])) := hid (by
  rw [HF0.out, HU0.out]
  exact H9.out.sub (fun q hq => by simp at hq ⊢; rcases hq with e | e | e | e | e | e <;> simp [e]) (by
   have := H9.out.nd
   simp only [List.map_cons, List.map_nil, List.nodup_cons, List.mem_cons, List.not_mem_nil, not_or] at this ⊢
   refine ⟨⟨fun e => this.1.2.1 e.symm, fun e => this.2.1.1 e.symm, this.2.2.1.1, this.2.2.1.2.1, this.2.2.1.2.2.1, fun h => h⟩, ⟨this.1.1, this.1.2.2.1, this.1.2.2.2.1, this.1.2.2.2.2.1, fun h => h⟩, ⟨this.2.1.2.1, this.2.1.2.2.1, this.2.1.2.2.2.1, fun h => h⟩, this.2.2.2⟩))
 clear H9
 go_wp2_with (go_at_call 76; (with_reducible refine (HNB.out _ _ H10.out).mono ?_); rintro e w10 ⟨rfl, hb⟩; have H11 := hid (H10.out.self hM hb); clear hb)
 go_loopw [27] (fun iv wr => ∃ j : Nat, j ≤ nn ∧ iv = .int .i64 j ∧ Ow Pm F w wr b (St j) ((g9, .cells (wdV (U j)) 37 (0, 0)) :: (g10, .cells (ptC b g P9) 129 (0, 0)) :: (g, o) :: (w.heap.size + 2, .cells #[.int .i64 0, .int .i64 0, .int .i64 0] 37 (0, 0)) :: (w.heap.size + 1, .cells (wdV B) 37 (0, 0)) :: (w.heap.size, .cells (wdV A) 37 (0, 0)) :: [])) (fun iv _ => nn - (intOf iv).toNat)
 case atStart => exact ⟨0, by omega, rfl, H11.out⟩
 case round =>
  clear H10 H11
  obtain ⟨j, hj, rfl, hI⟩ := hrel
  have HI := hid hI
  clear hI
  have hn3 := HN3.out
  by_cases hlt : j < nn
  ·
   have j1 : (j : Int) < (nn : Int) := by omega
   have j0 : (0 : Int) ≤ (j : Int) := by omega
   have j3 : (j : Int) < 3 := by omega
   have HJ3 : Hid (j < 3) := hid (by omega)
   have HJX : Hid (j + 1 ≤ nn) := hid (by omega)
   replace HSH := hid (fun bs' w' hg h' => HSH.out j hlt g o bs' w' hg HO.out h')
   have HER : Hid ((wdV (U j)).setIfInBounds j (.int .i64 (rg j)) = wdV (U (j + 1))) := hid (by rw [wdV_upd _ j _ (by omega), HU.out j])
   clear hj hlt
   go_wp2_with (first
    | (refine step_load_row rfl 129 _ rfl g10 129 (ptC b g P9) _ rfl (HI.out.bl 1 rfl) Tryz.underlying129 rfl (by kernel_rfl) ?_)
    | (go_at_call 102; (with_reducible refine (HSH.out _ _ (by simp) HI.out).mono ?_); rintro e w6 ⟨rfl, hz⟩; have H6 := hid hz; have cj := row_c (i := j) (H6.out.bl 0 rfl) (wdV_at (U j) j HJ3.out); have fj := frozen_of_row w6 g9 j _ _ (H6.out.bl 0 rfl); clear hz))
   have H7 := hid (H6.out.cell hM j (.int .i64 (rg j)))
   rw [HER.out] at H7
   go_roundw
   case rel => exact ⟨j + 1, HJX.out, by go_num, H7.out⟩
   case measure => simp [intOf]; omega
  ·
   obtain rfl : nn = j := by omega
   clear hlt hj
   go_wp2_with (first
    | (go_at_call 96; (with_reducible refine (HEN.out _ _ HI.out).mono ?_); rintro e w8 ⟨rfl, hb⟩; have H8 := hid hb; clear hb)
    | (refine step_load_row rfl 37 _ rfl g9 37 (wdV (U nn)) _ rfl (H8.out.bl 0 rfl) Tryz.underlying37 rfl (by kernel_rfl) ?_)
    | (refine step_store_row rfl 37 _ _ rfl (w.heap.size + 2) 37 _ (wdV (U nn)) rfl rfl (H8.out.bl 3 rfl) (by kernel_rfl) rfl (by kernel_rfl) ?_))
   have H9 := hid (H8.out.rowI hM 3 rfl (wdV (U nn)))
   exact bodyPost_ret (results_cell_row (by rfl) _ _ (w.heap.size + 2) 37 (wdV (U nn)) (0, 0) _ rfl (H9.out.bl 3 rfl) Tryz.underlying37 rfl (by kernel_rfl)) rfl ⟨rfl, H9.out.fin⟩
theorem tm_reg {S : Ms} (dom : Bool) (A B : Nat → Int) {nn : Nat} (hn : S.n = (nn : Int)) (hn23 : nn = 2 ∨ nn = 3) : wdV (tmG dS0 dR0 nn dom A B (S.beginS 3)).2 = wdV (tmR S dom A B) ∧ (tmG dS0 dR0 nn dom A B (S.beginS 3)).1.endS = tmS S dom A B := by
 have hsh : S.sh = nn := by unfold Ms.sh; omega
 obtain ⟨e1, e2⟩ := tm_all (S := S) dom A B (by omega)
 rw [hsh] at e1 e2
 refine ⟨?_, e1⟩
 show #[_, _, _] = #[_, _, _]
 rw [e2 0 (by omega), e2 1 (by omega), e2 2 (by omega)]
set_option maxHeartbeats 1600000 in
theorem tisww_any {Pm : World → Nat → Ms → (Nat → Prop) → Prop} (hM : Mach Pm) (b k : Nat) (S : Ms) (F : Nat → Prop) (A B : Nat → Int) (w : World) (hm : Pm w b S F) (hq : Bq k S) (hk : k + 50 ≤ 100000) (hn : S.n = 2 ∨ S.n = 3) (hA : Wb A) (hB : Wb B) :
  Calls Tryz.prog 74 #[.pointer (some ⟨b, 0, none⟩), .agg (wdV A), .agg (wdV B)] w fun e w' => e = .returned (.agg (wdV (tmR S false A B))) ∧ PmR Pm b (tmS S false A B) F w w' := by
 obtain ⟨nn, hnn, h23⟩ : ∃ nn : Nat, S.n = (nn : Int) ∧ (nn = 2 ∨ nn = 3) := ⟨S.n.toNat, by omega, by omega⟩
 obtain ⟨e1, e2⟩ := tm_reg false A B hnn h23
 have HC : Hid (∀ (bs : List (Nat × Obj)) (w' : World), Ow Pm F w w' b S bs → Calls Tryz.prog 90 #[.pointer (some ⟨b, 0, none⟩), .agg (wdV A), .agg (wdV B), .func (.func 92) #[] #[]] w' fun e w2 => e = .returned (.agg (wdV (tmR S false A B))) ∧ Ow Pm F w w2 b (tmS S false A B) bs) := hid (fun bs w' h' => h'.lift hM (fun F' hF' => by
  have := tmul_isw hM b k nn S F' A B w' hF' hq hk hnn h23 hA hB
  rw [e1, e2] at this
  exact this))
 obtain ⟨w1, hw1⟩ : ∃ w1, ((w.alloc (.cells (wdV A) 37)).alloc (.cells (wdV B) 37)).alloc (.cells #[.int .i64 0, .int .i64 0, .int .i64 0] 37) = w1 := ⟨_, rfl⟩
 have H1 : Hid (Ow Pm F w w1 b S [(w.heap.size + 2, Obj.cells #[.int .i64 0, .int .i64 0, .int .i64 0] 37 (0, 0)), (w.heap.size + 1, Obj.cells (wdV B) 37 (0, 0)), (w.heap.size, Obj.cells (wdV A) 37 (0, 0))]) := hid (by
  have := (((Ow.start hm).new hM (wdV A) 37).new hM (wdV B) 37).new hM #[.int .i64 0, .int .i64 0, .int .i64 0] 37
  rw [hw1] at this
  simp only [sz_al] at this
  exact this)
 have HW := hid hw1
 clear hm hq hk hn hA hB hnn h23 e1 e2 hw1
 generalize tmS S false A B = S9 at *
 generalize tmR S false A B = R9 at *
 go_enter Tryz.func74, Tryz.ntmps74
 go_upto_region 1 with fail
 rw [HW.out]
 go_wp2_with (first
  | (refine step_load_row rfl 37 _ rfl w.heap.size 37 (wdV A) _ rfl (H1.out.bl 2 rfl) Tryz.underlying37 rfl (by kernel_rfl) ?_)
  | (refine step_load_row rfl 37 _ rfl (w.heap.size + 1) 37 (wdV B) _ rfl (H1.out.bl 1 rfl) Tryz.underlying37 rfl (by kernel_rfl) ?_)
  | (go_at_call 90; (with_reducible refine (HC.out _ _ H1.out).mono ?_); rintro e w8 ⟨rfl, hb⟩; have H8 := hid hb; clear hb)
  | (refine step_store_row rfl 37 _ _ rfl (w.heap.size + 2) 37 _ (wdV R9) rfl rfl (H8.out.bl 0 rfl) (by kernel_rfl) rfl (by kernel_rfl) ?_))
 have H9 := hid (H8.out.rowI hM 0 rfl (wdV R9))
 exact bodyPost_ret (results_cell_row (by rfl) _ _ (w.heap.size + 2) 37 (wdV R9) (0, 0) _ rfl (H9.out.bl 0 rfl) Tryz.underlying37 rfl (by kernel_rfl)) rfl ⟨rfl, H9.out.fin⟩
set_option maxHeartbeats 1600000 in
theorem tdomw_any {Pm : World → Nat → Ms → (Nat → Prop) → Prop} (hM : Mach Pm) (b k : Nat) (S : Ms) (F : Nat → Prop) (A B : Nat → Int) (w : World) (hm : Pm w b S F) (hq : Bq k S) (hk : k + 50 ≤ 100000) (hn : S.n = 2 ∨ S.n = 3) (hA : Wb A) (hB : Wb B) :
  Calls Tryz.prog 73 #[.pointer (some ⟨b, 0, none⟩), .agg (wdV A), .agg (wdV B)] w fun e w' => e = .returned (.agg (wdV (tmR S true A B))) ∧ PmR Pm b (tmS S true A B) F w w' := by
 obtain ⟨nn, hnn, h23⟩ : ∃ nn : Nat, S.n = (nn : Int) ∧ (nn = 2 ∨ nn = 3) := ⟨S.n.toNat, by omega, by omega⟩
 obtain ⟨e1, e2⟩ := tm_reg true A B hnn h23
 have HC : Hid (∀ (bs : List (Nat × Obj)) (w' : World), Ow Pm F w w' b S bs → Calls Tryz.prog 90 #[.pointer (some ⟨b, 0, none⟩), .agg (wdV A), .agg (wdV B), .func (.func 91) #[] #[]] w' fun e w2 => e = .returned (.agg (wdV (tmR S true A B))) ∧ Ow Pm F w w2 b (tmS S true A B) bs) := hid (fun bs w' h' => h'.lift hM (fun F' hF' => by
  have := tmul_dom hM b k nn S F' A B w' hF' hq hk hnn h23 hA hB
  rw [e1, e2] at this
  exact this))
 obtain ⟨w1, hw1⟩ : ∃ w1, ((w.alloc (.cells (wdV A) 37)).alloc (.cells (wdV B) 37)).alloc (.cells #[.int .i64 0, .int .i64 0, .int .i64 0] 37) = w1 := ⟨_, rfl⟩
 have H1 : Hid (Ow Pm F w w1 b S [(w.heap.size + 2, Obj.cells #[.int .i64 0, .int .i64 0, .int .i64 0] 37 (0, 0)), (w.heap.size + 1, Obj.cells (wdV B) 37 (0, 0)), (w.heap.size, Obj.cells (wdV A) 37 (0, 0))]) := hid (by
  have := (((Ow.start hm).new hM (wdV A) 37).new hM (wdV B) 37).new hM #[.int .i64 0, .int .i64 0, .int .i64 0] 37
  rw [hw1] at this
  simp only [sz_al] at this
  exact this)
 have HW := hid hw1
 clear hm hq hk hn hA hB hnn h23 e1 e2 hw1
 generalize tmS S true A B = S9 at *
 generalize tmR S true A B = R9 at *
 go_enter Tryz.func73, Tryz.ntmps73
 go_upto_region 1 with fail
 rw [HW.out]
 go_wp2_with (first
  | (refine step_load_row rfl 37 _ rfl w.heap.size 37 (wdV A) _ rfl (H1.out.bl 2 rfl) Tryz.underlying37 rfl (by kernel_rfl) ?_)
  | (refine step_load_row rfl 37 _ rfl (w.heap.size + 1) 37 (wdV B) _ rfl (H1.out.bl 1 rfl) Tryz.underlying37 rfl (by kernel_rfl) ?_)
  | (go_at_call 90; (with_reducible refine (HC.out _ _ H1.out).mono ?_); rintro e w8 ⟨rfl, hb⟩; have H8 := hid hb; clear hb)
  | (refine step_store_row rfl 37 _ _ rfl (w.heap.size + 2) 37 _ (wdV R9) rfl rfl (H8.out.bl 0 rfl) (by kernel_rfl) rfl (by kernel_rfl) ?_))
 have H9 := hid (H8.out.rowI hM 0 rfl (wdV R9))
 exact bodyPost_ret (results_cell_row (by rfl) _ _ (w.heap.size + 2) 37 (wdV R9) (0, 0) _ rfl (H9.out.bl 0 rfl) Tryz.underlying37 rfl (by kernel_rfl)) rfl ⟨rfl, H9.out.fin⟩
set_option maxHeartbeats 1600000 in
theorem tby_any {Pm : World → Nat → Ms → (Nat → Prop) → Prop} (hM : Mach Pm) (b k : Nat) (S : Ms) (F : Nat → Prop) (K : Int) (A B : Nat → Int) (w : World) (hm : Pm w b S F) (hq : Bq k S) (hk : k + 50 ≤ 100000) (hn : S.n = 2 ∨ S.n = 3) (hA : Wb A) (hB : Wb B) :
  Calls Tryz.prog 46 #[.pointer (some ⟨b, 0, none⟩), .int .i64 K, .agg (wdV A), .agg (wdV B)] w fun e w' => e = .returned (.agg (wdV (tmR S (isDom K) A B))) ∧ PmR Pm b (tmS S (isDom K) A B) F w w' := by
 obtain ⟨w1, hw1⟩ : ∃ w1, ((w.alloc (.cells (wdV A) 37)).alloc (.cells (wdV B) 37)).alloc (.cells #[.int .i64 0, .int .i64 0, .int .i64 0] 37) = w1 := ⟨_, rfl⟩
 have H1 : Hid (Ow Pm F w w1 b S [(w.heap.size + 2, Obj.cells #[.int .i64 0, .int .i64 0, .int .i64 0] 37 (0, 0)), (w.heap.size + 1, Obj.cells (wdV B) 37 (0, 0)), (w.heap.size, Obj.cells (wdV A) 37 (0, 0))]) := hid (by
  have := (((Ow.start hm).new hM (wdV A) 37).new hM (wdV B) 37).new hM #[.int .i64 0, .int .i64 0, .int .i64 0] 37
  rw [hw1] at this
  simp only [sz_al] at this
  exact this)
 have HW := hid hw1
 by_cases h2 : K = 2
 ·
  have q1 : ((K : Int) == 2) = true := by simp [h2]
  have q2 : isDom K = true := by unfold isDom; simp [h2]
  rw [q2]
  have HC : Hid (∀ (bs : List (Nat × Obj)) (w' : World), Ow Pm F w w' b S bs → Calls Tryz.prog 73 #[.pointer (some ⟨b, 0, none⟩), .agg (wdV A), .agg (wdV B)] w' fun e w2 => e = .returned (.agg (wdV (tmR S true A B))) ∧ Ow Pm F w w2 b (tmS S true A B) bs) := hid (fun bs w' h' => h'.lift hM (fun F' hF' => tdomw_any hM b k S F' A B w' hF' hq hk hn hA hB))
  clear hm hq hk hn hA hB hw1 q2 h2
  generalize tmS S true A B = S9 at *
  generalize tmR S true A B = R9 at *
  go_enter Tryz.func46, Tryz.ntmps46
  go_upto_region 1 with fail
  rw [HW.out]
  go_wp2_with (first
   | (refine step_load_row rfl 37 _ rfl w.heap.size 37 (wdV A) _ rfl (H1.out.bl 2 rfl) Tryz.underlying37 rfl (by kernel_rfl) ?_)
   | (refine step_load_row rfl 37 _ rfl (w.heap.size + 1) 37 (wdV B) _ rfl (H1.out.bl 1 rfl) Tryz.underlying37 rfl (by kernel_rfl) ?_)
   | (go_at_call 73; (with_reducible refine (HC.out _ _ H1.out).mono ?_); rintro e w8 ⟨rfl, hb⟩; have H8 := hid hb; clear hb)
   | (refine step_store_row rfl 37 _ _ rfl (w.heap.size + 2) 37 _ (wdV R9) rfl rfl (H8.out.bl 0 rfl) (by kernel_rfl) rfl (by kernel_rfl) ?_))
  have H9 := hid (H8.out.rowI hM 0 rfl (wdV R9))
  exact bodyPost_ret (results_cell_row (by rfl) _ _ (w.heap.size + 2) 37 (wdV R9) (0, 0) _ rfl (H9.out.bl 0 rfl) Tryz.underlying37 rfl (by kernel_rfl)) rfl ⟨rfl, H9.out.fin⟩
 ·
  have q1 : ((K : Int) == 2) = false := by simp [h2]
  have q2 : isDom K = false := by unfold isDom; simp [h2]
  rw [q2]
  have HC : Hid (∀ (bs : List (Nat × Obj)) (w' : World), Ow Pm F w w' b S bs → Calls Tryz.prog 74 #[.pointer (some ⟨b, 0, none⟩), .agg (wdV A), .agg (wdV B)] w' fun e w2 => e = .returned (.agg (wdV (tmR S false A B))) ∧ Ow Pm F w w2 b (tmS S false A B) bs) := hid (fun bs w' h' => h'.lift hM (fun F' hF' => tisww_any hM b k S F' A B w' hF' hq hk hn hA hB))
  clear hm hq hk hn hA hB hw1 q2 h2
  generalize tmS S false A B = S9 at *
  generalize tmR S false A B = R9 at *
  go_enter Tryz.func46, Tryz.ntmps46
  go_upto_region 1 with fail
  rw [HW.out]
  go_wp2_with (first
   | (refine step_load_row rfl 37 _ rfl w.heap.size 37 (wdV A) _ rfl (H1.out.bl 2 rfl) Tryz.underlying37 rfl (by kernel_rfl) ?_)
   | (refine step_load_row rfl 37 _ rfl (w.heap.size + 1) 37 (wdV B) _ rfl (H1.out.bl 1 rfl) Tryz.underlying37 rfl (by kernel_rfl) ?_)
   | (go_at_call 74; (with_reducible refine (HC.out _ _ H1.out).mono ?_); rintro e w8 ⟨rfl, hb⟩; have H8 := hid hb; clear hb)
   | (refine step_store_row rfl 37 _ _ rfl (w.heap.size + 2) 37 _ (wdV R9) rfl rfl (H8.out.bl 0 rfl) (by kernel_rfl) rfl (by kernel_rfl) ?_))
  have H9 := hid (H8.out.rowI hM 0 rfl (wdV R9))
  exact bodyPost_ret (results_cell_row (by rfl) _ _ (w.heap.size + 2) 37 (wdV R9) (0, 0) _ rfl (H9.out.bl 0 rfl) Tryz.underlying37 rfl (by kernel_rfl)) rfl ⟨rfl, H9.out.fin⟩
theorem tdrw_any (n : Int) (w : World) : Calls Tryz.prog 37 #[.int .i64 n] w fun e w' => e = .returned (.int .i64 (tmD n)) ∧ Below w.heap.size w w' := by
 unfold tmD
 by_cases h2 : n = 2
 ·
  subst h2
  go_enter Tryz.func37, Tryz.ntmps37
  go_wp2
  go_ret
  exact ⟨rfl, Below.refl _ _⟩
 ·
  by_cases h3 : n = 3
  ·
   subst h3
   go_enter Tryz.func37, Tryz.ntmps37
   go_wp2
   go_ret
   exact ⟨rfl, Below.refl _ _⟩
  ·
   rw [if_neg h2, if_neg h3]
   have q2 : ((n : Int) == 2) = false := by simpa using h2
   have q3 : ((n : Int) == 3) = false := by simpa using h3
   clear h2 h3
   go_enter Tryz.func37, Tryz.ntmps37
   go_wp2
   go_ret
   exact ⟨rfl, Below.refl _ _⟩
theorem topsw_any (K n : Int) (w : World) : Calls Tryz.prog 40 #[.int .i64 K, .int .i64 n] w fun e w' => e = .returned (.int .i64 (tmN K n)) ∧ Below w.heap.size w w' := by
 by_cases h1 : K = 1
 ·
  subst h1
  by_cases n2 : n = 2
  ·
   subst n2
   go_enter Tryz.func40, Tryz.ntmps40
   go_wp2
   go_ret
   exact ⟨rfl, Below.refl _ _⟩
  ·
   by_cases n3 : n = 3
   ·
    subst n3
    go_enter Tryz.func40, Tryz.ntmps40
    go_wp2
    go_ret
    exact ⟨rfl, Below.refl _ _⟩
   ·
    have e : tmN 1 n = 0 := by unfold tmN; rw [if_pos (by decide), if_neg n2, if_neg n3]
    rw [e]
    have q2 : ((n : Int) == 2) = false := by simpa using n2
    have q3 : ((n : Int) == 3) = false := by simpa using n3
    clear n2 n3 e
    go_enter Tryz.func40, Tryz.ntmps40
    go_wp2
    go_ret
    exact ⟨rfl, Below.refl _ _⟩
 ·
  by_cases h2 : K = 2
  ·
   subst h2
   by_cases n2 : n = 2
   ·
    subst n2
    go_enter Tryz.func40, Tryz.ntmps40
    go_wp2
    go_ret
    exact ⟨rfl, Below.refl _ _⟩
   ·
    by_cases n3 : n = 3
    ·
     subst n3
     go_enter Tryz.func40, Tryz.ntmps40
     go_wp2
     go_ret
     exact ⟨rfl, Below.refl _ _⟩
    ·
     have e : tmN 2 n = 0 := by unfold tmN; rw [if_pos (by decide), if_neg n2, if_neg n3]
     rw [e]
     have q2 : ((n : Int) == 2) = false := by simpa using n2
     have q3 : ((n : Int) == 3) = false := by simpa using n3
     clear n2 n3 e
     go_enter Tryz.func40, Tryz.ntmps40
     go_wp2
     go_ret
     exact ⟨rfl, Below.refl _ _⟩
  ·
   have e : tmN K n = 0 := by unfold tmN; rw [if_neg (by omega)]
   rw [e]
   have q1 : ((K : Int) != 1) = true := by simpa using h1
   have q2 : ((K : Int) != 2) = true := by simpa using h2
   clear h1 h2 e
   go_enter Tryz.func40, Tryz.ntmps40
   go_wp2
   go_ret
   exact ⟨rfl, Below.refl _ _⟩
theorem tmI {Pm : World → Nat → Ms → (Nat → Prop) → Prop} (hM : Mach Pm) : TmI Pm (fun _ _ => True) where
 by_ b k S F K A B w h _ hq hk hn _ hA hB := tby_any hM b k S F K A B w h hq hk hn hA hB
 isw b k S F A B w h _ hq hk hn hA hB := tisww_any hM b k S F A B w h hq hk hn hA hB
 dom b k S F A B w h _ hq hk hn hA hB := tdomw_any hM b k S F A B w h hq hk hn hA hB
 draws n w _ := tdrw_any n w
 ops K n w _ _ := topsw_any K n w
end Go.Proofs.YthkijncnndoafaaGreatDoor
