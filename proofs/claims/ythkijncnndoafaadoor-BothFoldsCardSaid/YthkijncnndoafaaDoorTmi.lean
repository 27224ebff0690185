import Derived.Test.YthkijncnndoafaaDoorMpw
import Derived.Test.YthkijncnndoafaaDoorTmc
import Derived.Test.YthkijncnndoafaaDoorProg
import Derived.Test.YthkijncnndoafaaDoorFrg
/- Times: two words multiplied, over any machine: what the laws ask of the program. -/
namespace Go.Proofs.YthkijncnndoafaaDoor
open Go.RowKit Go.Maps
set_option maxRecDepth 100000
/-- The masks of two shares are the same in either order. -/
def Sy9 (r : Nat → Int) : Prop := ∀ i, i < 3 → ∀ k, k < 3 → r (i * 3 + k) = r (k * 3 + i)
theorem Sy9.upd {r : Nat → Int} (h : Sy9 r) {a c : Nat} (ha : a < 3) (hc : c < 3) (x : Int) : Sy9 (updI (updI r (a * 3 + c) x) (c * 3 + a) x) := fun i hi k hk => by
  have h0 := h i hi k hk
  by_cases e1 : i * 3 + k = c * 3 + a
  · have e2 : k * 3 + i = a * 3 + c := by omega
    rw [e1, e2, updI_at]
    by_cases e3 : a * 3 + c = c * 3 + a
    · rw [e3, updI_at]
    · rw [updI_no _ _ e3, updI_at]
  · by_cases e2 : i * 3 + k = a * 3 + c
    · have e3 : k * 3 + i = c * 3 + a := by omega
      rw [updI_no _ _ e1, e2, updI_at, e3, updI_at]
    · rw [updI_no _ _ e1, updI_no _ _ e2, updI_no _ _ (by omega : k * 3 + i ≠ c * 3 + a), updI_no _ _ (by omega : k * 3 + i ≠ a * 3 + c)]
      exact h0
theorem mkI_sy {S : Ms} {r : Nat → Int} {k : Nat} (hk : k < 3) (h : Sy9 r) : ∀ {i}, i ≤ k → Sy9 (mkI dS0 dR0 S r k i).2
  | 0, _ => h
  | i + 1, hi => (mkI_sy hk h (i := i) (by omega)).upd (by omega) hk _
theorem mkG_sy (S : Ms) : ∀ {k}, k ≤ 3 → Sy9 (mkG dS0 dR0 S k).2
  | 0, _ => fun _ _ _ _ => rfl
  | k + 1, hk => mkI_sy (by omega) (mkG_sy S (k := k) (by omega)) (Nat.le_refl k)
theorem mk_all {n : Nat} (hn : n = 2 ∨ n = 3) (S : Ms) : mkG dS0 dR0 S n = rnG dS0 dR0 S n n := by
  rcases hn with rfl | rfl
  · exact mk_2 dS0 dR0 S
  · exact mk_3 dS0 dR0 S
theorem pt_there {w : World} {b g n : Nat} {p : Nat → Int} (h : w.heap[n]? = some (.cells (ptC b g p) 102 (0, 0))) : w.there n 2 9 := fun j hj => ⟨by rw [row_c (i := 2 + j) h (pt_at b g p hj)]; rfl, frozen_of_row w n (2 + j) _ _ h⟩
theorem pt_set {w : World} {b g n : Nat} {p p' : Nat → Int} (h : w.heap[n]? = some (.cells (ptC b g p) 102 (0, 0))) : (w.setCells n 2 (iz 9 p').toList).heap[n]? = some (.cells (ptC b g p') 102 (0, 0)) := by
  rw [setCells_row n 102 (0, 0) (iz 9 p').toList 2 w _ h (by rw [Array.length_toList, iz_size]; exact Nat.le_refl _)]
  rfl
set_option maxHeartbeats 12800000 in
theorem tmul_isw {Pm : World → Nat → Ms → (Nat → Prop) → Prop} (hM : Mach Pm) (b k nn : Nat) (S : Ms) (F : Nat → Prop) (A B : Nat → Int) (w : World) (hm : Pm w b S F) (hq : Bq k S) (hk : k + 50 ≤ 100000) (hn : S.n = (nn : Int)) (hn23 : nn = 2 ∨ nn = 3) (hA : Wb A) (hB : Wb B) :
    Calls Tryd.prog 50 #[.pointer (some ⟨b, 0, none⟩), .agg (wdV A), .agg (wdV B), .func (.func 52) #[] #[]] w fun e w' => e = .returned (.agg (wdV (tmG dS0 dR0 nn false A B (S.beginS 3)).2)) ∧ PmR Pm b (tmG dS0 dR0 nn false A B (S.beginS 3)).1.endS F w w' := by
  have hn3 : nn ≤ 3 := by omega
  have hmk := mk_all hn23 (S.beginS 3)
  have hS2 : Bn k (nn : Int) (S.beginS 3) := ⟨hq.begins 3, (beginS_n S 3).1.trans hn⟩
  have hR := rnG_bq (n := nn) hn3 hS2 (i := nn) (by omega)
  have hP := pdG_bq (n := nn) hn3 hR.1 hA hB (i := nn) (by omega) (by omega)
  have hFb : ∀ j, j ≤ nn → Bn (k + 3 * nn + 3 * nn + 9 * j) (nn : Int) (fnG dS0 dR0 false (rnG dS0 dR0 (S.beginS 3) nn nn).2 (pdG dS0 dR0 A B (rnG dS0 dR0 (S.beginS 3) nn nn).1 nn nn).2 (pdG dS0 dR0 A B (rnG dS0 dR0 (S.beginS 3) nn nn).1 nn nn).1 nn j).1 := fun j hj => (fnG_bq (n := nn) (dom := false) hn3 hP.1 hR.2 hP.2 (i := j) (by omega) (by omega)).1
  have HBG : Hid (∀ (bs : List (Nat × Obj)) (w' : World), Ow Pm F w w' b S bs → Calls Tryd.prog 53 #[.pointer (some ⟨b, 0, none⟩), .int .i64 3] w' fun e w2 => e = .returned (.tuple #[]) ∧ Ow Pm F w w2 b (S.beginS 3) bs) := hid (fun bs w' h' => h'.lift hM (fun F' hF' => hM.begin_ b k S F' 3 w' hF' hq (by omega)))
  have HDR : Hid (∀ (bs : List (Nat × Obj)) (w' : World), Ow Pm F w w' b (S.beginS 3) bs → Calls Tryd.prog 60 #[.pointer (some ⟨b, 0, none⟩)] w' fun e w2 => ∃ g o, e = .returned (.map (some g)) ∧ Msk 100 (rnG dS0 dR0 (S.beginS 3) nn nn).2 o ∧ Ow Pm F w w2 b (rnG dS0 dR0 (S.beginS 3) nn nn).1 ((g, o) :: bs)) := hid (fun bs w' h' => by
    have := tdrawn_any hM k nn (S.beginS 3) h' hS2.1 (by omega) hS2.2 hn3
    rw [hmk] at this
    exact this)
  have HPD : Hid (∀ (bs : List (Nat × Obj)) (w' : World), Ow Pm F w w' b (rnG dS0 dR0 (S.beginS 3) nn nn).1 bs → Calls Tryd.prog 61 #[.pointer (some ⟨b, 0, none⟩), .agg (wdV A), .agg (wdV B)] w' fun e w2 => e = .returned (.agg (iz 9 (pdG dS0 dR0 A B (rnG dS0 dR0 (S.beginS 3) nn nn).1 nn nn).2)) ∧ Ow Pm F w w2 b (pdG dS0 dR0 A B (rnG dS0 dR0 (S.beginS 3) nn nn).1 nn nn).1 bs) := hid (fun bs w' h' => tprod_any hM (k + 3 * nn) nn _ A B h' hR.1.1 (by omega) hR.1.2 hn3 hA hB)
  have HNB : Hid (∀ (bs : List (Nat × Obj)) (w' : World), Ow Pm F w w' b (fnG dS0 dR0 false (rnG dS0 dR0 (S.beginS 3) nn nn).2 (pdG dS0 dR0 A B (rnG dS0 dR0 (S.beginS 3) nn nn).1 nn nn).2 (pdG dS0 dR0 A B (rnG dS0 dR0 (S.beginS 3) nn nn).1 nn nn).1 nn 0).1 bs → Calls Tryd.prog 40 #[.pointer (some ⟨b, 0, none⟩)] w' fun e w2 => e = .returned (.int .i64 (nn : Int)) ∧ Below w'.heap.size w' w2) := hid (fun bs w' h' => h'.asks (fun F' hF' => by have := hM.n b (k + 3 * nn + 3 * nn) _ F' w' hF' (hFb 0 (by omega)).1 (by omega); rw [(hFb 0 (by omega)).2] at this; exact this))
  have HSH : Hid (∀ j, j < nn → ∀ (g : Nat) (o : Obj) (bs : List (Nat × Obj)) (w' : World), (g, o) ∈ bs → Msk 100 (rnG dS0 dR0 (S.beginS 3) nn nn).2 o → Ow Pm F w w' b (fnG dS0 dR0 false (rnG dS0 dR0 (S.beginS 3) nn nn).2 (pdG dS0 dR0 A B (rnG dS0 dR0 (S.beginS 3) nn nn).1 nn nn).2 (pdG dS0 dR0 A B (rnG dS0 dR0 (S.beginS 3) nn nn).1 nn nn).1 nn j).1 bs → Calls Tryd.prog 62 #[.agg (ptC b g (pdG dS0 dR0 A B (rnG dS0 dR0 (S.beginS 3) nn nn).1 nn nn).2), .int .i64 (j : Int), .func (.func 52) #[] #[]] w' fun e w2 => e = .returned (.int .i64 (fnI dS0 dR0 false (rnG dS0 dR0 (S.beginS 3) nn nn).2 (pdG dS0 dR0 A B (rnG dS0 dR0 (S.beginS 3) nn nn).1 nn nn).2 (fnG dS0 dR0 false (rnG dS0 dR0 (S.beginS 3) nn nn).2 (pdG dS0 dR0 A B (rnG dS0 dR0 (S.beginS 3) nn nn).1 nn nn).2 (pdG dS0 dR0 A B (rnG dS0 dR0 (S.beginS 3) nn nn).1 nn nn).1 nn j).1 j nn).2) ∧ Ow Pm F w w2 b (fnG dS0 dR0 false (rnG dS0 dR0 (S.beginS 3) nn nn).2 (pdG dS0 dR0 A B (rnG dS0 dR0 (S.beginS 3) nn nn).1 nn nn).2 (pdG dS0 dR0 A B (rnG dS0 dR0 (S.beginS 3) nn nn).1 nn nn).1 nn (j + 1)).1 bs) := hid (fun j hj g o bs w' hg ho h' =>
    tshare_isw hM g o 100 (rnG dS0 dR0 (S.beginS 3) nn nn).2 (pdG dS0 dR0 A B (rnG dS0 dR0 (S.beginS 3) nn nn).1 nn nn).2 (k + 3 * nn + 3 * nn + 9 * j) nn j _ h' hg ho (hFb j (by omega)).1 (by omega) (hFb j (by omega)).2 hn3 (by omega) (fun k hk3 => by have q := mkG_sy (S.beginS 3) (k := nn) (by omega); rw [hmk] at q; exact q j (by omega) k (by omega)) hR.2 hP.2)
  have HU : Hid (∀ j, (fnG dS0 dR0 false (rnG dS0 dR0 (S.beginS 3) nn nn).2 (pdG dS0 dR0 A B (rnG dS0 dR0 (S.beginS 3) nn nn).1 nn nn).2 (pdG dS0 dR0 A B (rnG dS0 dR0 (S.beginS 3) nn nn).1 nn nn).1 nn (j + 1)).2 = updI (fnG dS0 dR0 false (rnG dS0 dR0 (S.beginS 3) nn nn).2 (pdG dS0 dR0 A B (rnG dS0 dR0 (S.beginS 3) nn nn).1 nn nn).2 (pdG dS0 dR0 A B (rnG dS0 dR0 (S.beginS 3) nn nn).1 nn nn).1 nn j).2 j (fnI dS0 dR0 false (rnG dS0 dR0 (S.beginS 3) nn nn).2 (pdG dS0 dR0 A B (rnG dS0 dR0 (S.beginS 3) nn nn).1 nn nn).2 (fnG dS0 dR0 false (rnG dS0 dR0 (S.beginS 3) nn nn).2 (pdG dS0 dR0 A B (rnG dS0 dR0 (S.beginS 3) nn nn).1 nn nn).2 (pdG dS0 dR0 A B (rnG dS0 dR0 (S.beginS 3) nn nn).1 nn nn).1 nn j).1 j nn).2) := hid (fun j => rfl)
  have HEN : Hid (∀ (bs : List (Nat × Obj)) (w' : World), Ow Pm F w w' b (fnG dS0 dR0 false (rnG dS0 dR0 (S.beginS 3) nn nn).2 (pdG dS0 dR0 A B (rnG dS0 dR0 (S.beginS 3) nn nn).1 nn nn).2 (pdG dS0 dR0 A B (rnG dS0 dR0 (S.beginS 3) nn nn).1 nn nn).1 nn nn).1 bs → Calls Tryd.prog 56 #[.pointer (some ⟨b, 0, none⟩)] w' fun e w2 => e = .returned (.tuple #[]) ∧ Ow Pm F w w2 b (tmG dS0 dR0 nn false A B (S.beginS 3)).1.endS bs) := hid (fun bs w' h' => h'.lift hM (fun F' hF' => hM.end_ b (k + 3 * nn + 3 * nn + 9 * nn) _ F' w' hF' (hFb nn (by omega)).1 (by omega)))
  have HU9 : Hid ((fnG dS0 dR0 false (rnG dS0 dR0 (S.beginS 3) nn nn).2 (pdG dS0 dR0 A B (rnG dS0 dR0 (S.beginS 3) nn nn).1 nn nn).2 (pdG dS0 dR0 A B (rnG dS0 dR0 (S.beginS 3) nn nn).1 nn nn).1 nn nn).2 = (tmG dS0 dR0 nn false A B (S.beginS 3)).2) := hid rfl
  have HU0 : Hid ((fnG dS0 dR0 false (rnG dS0 dR0 (S.beginS 3) nn nn).2 (pdG dS0 dR0 A B (rnG dS0 dR0 (S.beginS 3) nn nn).1 nn nn).2 (pdG dS0 dR0 A B (rnG dS0 dR0 (S.beginS 3) nn nn).1 nn nn).1 nn 0).2 = none3) := hid rfl
  have HF0 : Hid ((fnG dS0 dR0 false (rnG dS0 dR0 (S.beginS 3) nn nn).2 (pdG dS0 dR0 A B (rnG dS0 dR0 (S.beginS 3) nn nn).1 nn nn).2 (pdG dS0 dR0 A B (rnG dS0 dR0 (S.beginS 3) nn nn).1 nn nn).1 nn 0).1 = (pdG dS0 dR0 A B (rnG dS0 dR0 (S.beginS 3) nn nn).1 nn nn).1) := hid rfl
  have HN3 := hid hn3
  obtain ⟨w1, hw1⟩ : ∃ w1, ((w.alloc (.cells (wdV A) 34)).alloc (.cells (wdV B) 34)).alloc (.cells #[.int .i64 0, .int .i64 0, .int .i64 0] 34) = w1 := ⟨_, rfl⟩
  have H1 : Hid (Ow Pm F w w1 b S [(w.heap.size + 2, Obj.cells #[.int .i64 0, .int .i64 0, .int .i64 0] 34 (0, 0)), (w.heap.size + 1, Obj.cells (wdV B) 34 (0, 0)), (w.heap.size, Obj.cells (wdV A) 34 (0, 0))]) := hid (by
    have := (((Ow.start hm).new hM (wdV A) 34).new hM (wdV B) 34).new hM #[.int .i64 0, .int .i64 0, .int .i64 0] 34
    rw [hw1] at this
    simp only [sz_al] at this
    exact this)
  have HW := hid hw1
  clear hm hq hk hn hn3 hn23 hA hB hmk hS2 hR hP hFb hw1
  obtain ⟨R9, hR9⟩ : ∃ R9, (rnG dS0 dR0 (S.beginS 3) nn nn).2 = R9 := ⟨_, rfl⟩
  obtain ⟨P9, hP9⟩ : ∃ P9, (pdG dS0 dR0 A B (rnG dS0 dR0 (S.beginS 3) nn nn).1 nn nn).2 = P9 := ⟨_, rfl⟩
  simp only [hR9, hP9] at HDR HPD HNB HSH HU HEN HU9 HU0 HF0
  clear hR9 hP9
  obtain ⟨SP, hSP⟩ : ∃ SP, (pdG dS0 dR0 A B (rnG dS0 dR0 (S.beginS 3) nn nn).1 nn nn).1 = SP := ⟨_, rfl⟩
  simp only [hSP] at HDR HPD HNB HSH HU HEN HU9 HU0 HF0
  clear hSP
  obtain ⟨SR, hSR⟩ : ∃ SR, (rnG dS0 dR0 (S.beginS 3) nn nn).1 = SR := ⟨_, rfl⟩
  simp only [hSR] at HDR HPD
  clear hSR
  obtain ⟨rg, hrg⟩ : ∃ rg : Nat → Int, ∀ j, (fnI dS0 dR0 false R9 P9 (fnG dS0 dR0 false R9 P9 SP nn j).1 j nn).2 = rg j := ⟨_, fun _ => rfl⟩
  simp only [hrg] at HSH HU
  clear hrg
  obtain ⟨St, hSt⟩ : ∃ St : Nat → Ms, ∀ j, (fnG dS0 dR0 false R9 P9 SP nn j).1 = St j := ⟨_, fun _ => rfl⟩
  obtain ⟨U, hU⟩ : ∃ U : Nat → Nat → Int, ∀ j, (fnG dS0 dR0 false R9 P9 SP nn j).2 = U j := ⟨_, fun _ => rfl⟩
  simp only [hSt, hU] at HNB HSH HU HEN HU9 HU0 HF0
  clear hSt hU
  rw [← HU9.out]
  generalize (tmG dS0 dR0 nn false A B (S.beginS 3)).1.endS = S9 at *
  clear HU9
  generalize (S.beginS 3) = S2 at *
  go_enter Tryd.func50, Tryd.ntmps50
  go_upto_region 1 with fail
  rw [HW.out]
  have H2 := hid (H1.out.new hM (wdV none3) 34)
  go_upto_region 2 with fail
  obtain ⟨g9, hg9⟩ : ∃ g9, w1.heap.size = g9 := ⟨_, rfl⟩
  rw [hg9] at H2
  have H3 : Hid (Ow Pm F w (w1.alloc (.cells #[.int .i64 (-1), .int .i64 (-1), .int .i64 (-1)] 34)) b S ((g9, .cells (wdV none3) 34 (0, 0)) :: [(w.heap.size + 2, Obj.cells #[.int .i64 0, .int .i64 0, .int .i64 0] 34 (0, 0)), (w.heap.size + 1, Obj.cells (wdV B) 34 (0, 0)), (w.heap.size, Obj.cells (wdV A) 34 (0, 0))])) := H2
  generalize w1.alloc (.cells #[.int .i64 (-1), .int .i64 (-1), .int .i64 (-1)] 34) = w3 at *
  rw [hg9]
  clear hg9 H2 H1
  go_upto_region 3 with (go_at_call 53; (with_reducible refine (HBG.out _ _ H3.out).mono ?_); rintro e w4 ⟨rfl, hb⟩; have H4 := hid hb; clear hb)
  go_upto_region 4 with (go_at_call 60; (with_reducible refine (HDR.out _ _ H4.out).mono ?_); rintro e w5 ⟨g, o, rfl, ho, hb⟩; have H5 := hid hb; have HO := hid ho; clear hb ho)
  have H6 := hid (H5.out.new hM (ptC b g zero9) 102)
  obtain ⟨g10, hg10⟩ : ∃ g10, w5.heap.size = g10 := ⟨_, rfl⟩
  rw [hg10] at H6
  have H7 : Hid (Ow Pm F w (w5.alloc (.cells #[.pointer (some ⟨b, 0, none⟩), .map (some g), .int .i64 0, .int .i64 0, .int .i64 0, .int .i64 0, .int .i64 0, .int .i64 0, .int .i64 0, .int .i64 0, .int .i64 0] 102)) b SR ((g10, .cells (ptC b g zero9) 102 (0, 0)) :: (g, o) :: (g9, .cells (wdV none3) 34 (0, 0)) :: [(w.heap.size + 2, Obj.cells #[.int .i64 0, .int .i64 0, .int .i64 0] 34 (0, 0)), (w.heap.size + 1, Obj.cells (wdV B) 34 (0, 0)), (w.heap.size, Obj.cells (wdV A) 34 (0, 0))])) := hid H6.out
  generalize w5.alloc (.cells #[.pointer (some ⟨b, 0, none⟩), .map (some g), .int .i64 0, .int .i64 0, .int .i64 0, .int .i64 0, .int .i64 0, .int .i64 0, .int .i64 0, .int .i64 0, .int .i64 0] 102) = w7 at *
  rw [hg10]
  clear hg10 H6 H5 H4 H3
  go_upto_region 5 with (first
    | (refine step_load_row rfl 34 _ rfl w.heap.size 34 (wdV A) _ rfl (H7.out.bl 5 rfl) Tryd.underlying34 rfl (by kernel_rfl) ?_)
    | (refine step_load_row rfl 34 _ rfl (w.heap.size + 1) 34 (wdV B) _ rfl (H7.out.bl 4 rfl) Tryd.underlying34 rfl (by kernel_rfl) ?_)
    | (go_at_call 61; (with_reducible refine (HPD.out _ _ H7.out).mono ?_); rintro e w8 ⟨rfl, hb⟩; have H8 := hid hb; clear hb)
    | (refine wpList_store_mid rfl 100 _ _ rfl g10 2 (iz 9 P9) rfl rfl (by rw [iz_size]; exact pt_there (H8.out.bl 0 rfl)) (by rw [iz_size]; kernel_rfl) (by kernel_rfl) ?_))
  have H9 : Hid (Ow Pm F w (w8.setCells g10 2 (iz 9 P9).toList) b SP ((g10, .cells (ptC b g P9) 102 (0, 0)) :: (g, o) :: (g9, .cells (wdV none3) 34 (0, 0)) :: [(w.heap.size + 2, Obj.cells #[.int .i64 0, .int .i64 0, .int .i64 0] 34 (0, 0)), (w.heap.size + 1, Obj.cells (wdV B) 34 (0, 0)), (w.heap.size, Obj.cells (wdV A) 34 (0, 0))])) := hid (H8.out.turn hM (pt_set (H8.out.bl 0 rfl)) (fun q hq => setCells_apart g10 _ 2 w8 q hq) (Nat.le_of_eq (setCells_size g10 _ 2 w8).symm) (setCells_out g10 _ 2 w8))
  generalize w8.setCells g10 2 (iz 9 P9).toList = w9 at *
  clear H7 H8
  have H10 : Hid (Ow Pm F w w9 b (St 0) ((g9, .cells (wdV (U 0)) 34 (0, 0)) :: (g10, .cells (ptC b g P9) 102 (0, 0)) :: (g, o) :: (w.heap.size + 2, .cells #[.int .i64 0, .int .i64 0, .int .i64 0] 34 (0, 0)) :: (w.heap.size + 1, .cells (wdV B) 34 (0, 0)) :: (w.heap.size, .cells (wdV A) 34 (0, 0)) :: [])) := hid (by
    rw [HF0.out, HU0.out]
    exact H9.out.sub (fun q hq => by simp at hq ⊢; rcases hq with e | e | e | e | e | e <;> simp [e]) (by
      have := H9.out.nd
      simp only [List.map_cons, List.map_nil, List.nodup_cons, List.mem_cons, List.not_mem_nil, not_or] at this ⊢
      refine ⟨⟨fun e => this.1.2.1 e.symm, fun e => this.2.1.1 e.symm, this.2.2.1.1, this.2.2.1.2.1, this.2.2.1.2.2.1, fun h => h⟩, ⟨this.1.1, this.1.2.2.1, this.1.2.2.2.1, this.1.2.2.2.2.1, fun h => h⟩, ⟨this.2.1.2.1, this.2.1.2.2.1, this.2.1.2.2.2.1, fun h => h⟩, this.2.2.2⟩))
  clear H9
  go_wp2_with (go_at_call 40; (with_reducible refine (HNB.out _ _ H10.out).mono ?_); rintro e w10 ⟨rfl, hb⟩; have H11 := hid (H10.out.self hM hb); clear hb)
  go_loopw [27] (fun iv wr => ∃ j : Nat, j ≤ nn ∧ iv = .int .i64 j ∧ Ow Pm F w wr b (St j) ((g9, .cells (wdV (U j)) 34 (0, 0)) :: (g10, .cells (ptC b g P9) 102 (0, 0)) :: (g, o) :: (w.heap.size + 2, .cells #[.int .i64 0, .int .i64 0, .int .i64 0] 34 (0, 0)) :: (w.heap.size + 1, .cells (wdV B) 34 (0, 0)) :: (w.heap.size, .cells (wdV A) 34 (0, 0)) :: [])) (fun iv _ => nn - (intOf iv).toNat)
  case atStart => exact ⟨0, by omega, rfl, H11.out⟩
  case round =>
    clear H10 H11
    obtain ⟨j, hj, rfl, hI⟩ := hrel
    have HI := hid hI
    clear hI
    have hn3 := HN3.out
    by_cases hlt : j < nn
    · have j1 : (j : Int) < (nn : Int) := by omega
      have j0 : (0 : Int) ≤ (j : Int) := by omega
      have j3 : (j : Int) < 3 := by omega
      have HJ3 : Hid (j < 3) := hid (by omega)
      have HJX : Hid (j + 1 ≤ nn) := hid (by omega)
      replace HSH := hid (fun bs' w' hg h' => HSH.out j hlt g o bs' w' hg HO.out h')
      have HER : Hid ((wdV (U j)).setIfInBounds j (.int .i64 (rg j)) = wdV (U (j + 1))) := hid (by rw [wdV_upd _ j _ (by omega), HU.out j])
      clear hj hlt
      go_wp2_with (first
        | (refine step_load_row rfl 102 _ rfl g10 102 (ptC b g P9) _ rfl (HI.out.bl 1 rfl) Tryd.underlying102 rfl (by kernel_rfl) ?_)
        | (go_at_call 62; (with_reducible refine (HSH.out _ _ (by simp) HI.out).mono ?_); rintro e w6 ⟨rfl, hz⟩; have H6 := hid hz; have cj := row_c (i := j) (H6.out.bl 0 rfl) (wdV_at (U j) j HJ3.out); have fj := frozen_of_row w6 g9 j _ _ (H6.out.bl 0 rfl); clear hz))
      have H7 := hid (H6.out.cell hM j (.int .i64 (rg j)))
      rw [HER.out] at H7
      go_roundw
      case rel => exact ⟨j + 1, HJX.out, by go_num, H7.out⟩
      case measure => simp [intOf]; omega
    · obtain rfl : nn = j := by omega
      clear hlt hj
      go_wp2_with (first
        | (go_at_call 56; (with_reducible refine (HEN.out _ _ HI.out).mono ?_); rintro e w8 ⟨rfl, hb⟩; have H8 := hid hb; clear hb)
        | (refine step_load_row rfl 34 _ rfl g9 34 (wdV (U nn)) _ rfl (H8.out.bl 0 rfl) Tryd.underlying34 rfl (by kernel_rfl) ?_)
        | (refine step_store_row rfl 34 _ _ rfl (w.heap.size + 2) 34 _ (wdV (U nn)) rfl rfl (H8.out.bl 3 rfl) (by kernel_rfl) rfl (by kernel_rfl) ?_))
      have H9 := hid (H8.out.rowI hM 3 rfl (wdV (U nn)))
      exact bodyPost_ret (results_cell_row (by rfl) _ _ (w.heap.size + 2) 34 (wdV (U nn)) (0, 0) _ rfl (H9.out.bl 3 rfl) Tryd.underlying34 rfl (by kernel_rfl)) rfl ⟨rfl, H9.out.fin⟩
set_option maxHeartbeats 12800000 in
theorem tmul_dom {Pm : World → Nat → Ms → (Nat → Prop) → Prop} (hM : Mach Pm) (b k nn : Nat) (S : Ms) (F : Nat → Prop) (A B : Nat → Int) (w : World) (hm : Pm w b S F) (hq : Bq k S) (hk : k + 50 ≤ 100000) (hn : S.n = (nn : Int)) (hn23 : nn = 2 ∨ nn = 3) (hA : Wb A) (hB : Wb B) :
    Calls Tryd.prog 50 #[.pointer (some ⟨b, 0, none⟩), .agg (wdV A), .agg (wdV B), .func (.func 51) #[] #[]] w fun e w' => e = .returned (.agg (wdV (tmG dS0 dR0 nn true A B (S.beginS 3)).2)) ∧ PmR Pm b (tmG dS0 dR0 nn true A B (S.beginS 3)).1.endS F w w' := by
  have hn3 : nn ≤ 3 := by omega
  have hmk := mk_all hn23 (S.beginS 3)
  have hS2 : Bn k (nn : Int) (S.beginS 3) := ⟨hq.begins 3, (beginS_n S 3).1.trans hn⟩
  have hR := rnG_bq (n := nn) hn3 hS2 (i := nn) (by omega)
  have hP := pdG_bq (n := nn) hn3 hR.1 hA hB (i := nn) (by omega) (by omega)
  have hFb : ∀ j, j ≤ nn → Bn (k + 3 * nn + 3 * nn + 9 * j) (nn : Int) (fnG dS0 dR0 true (rnG dS0 dR0 (S.beginS 3) nn nn).2 (pdG dS0 dR0 A B (rnG dS0 dR0 (S.beginS 3) nn nn).1 nn nn).2 (pdG dS0 dR0 A B (rnG dS0 dR0 (S.beginS 3) nn nn).1 nn nn).1 nn j).1 := fun j hj => (fnG_bq (n := nn) (dom := true) hn3 hP.1 hR.2 hP.2 (i := j) (by omega) (by omega)).1
  have HBG : Hid (∀ (bs : List (Nat × Obj)) (w' : World), Ow Pm F w w' b S bs → Calls Tryd.prog 53 #[.pointer (some ⟨b, 0, none⟩), .int .i64 3] w' fun e w2 => e = .returned (.tuple #[]) ∧ Ow Pm F w w2 b (S.beginS 3) bs) := hid (fun bs w' h' => h'.lift hM (fun F' hF' => hM.begin_ b k S F' 3 w' hF' hq (by omega)))
  have HDR : Hid (∀ (bs : List (Nat × Obj)) (w' : World), Ow Pm F w w' b (S.beginS 3) bs → Calls Tryd.prog 60 #[.pointer (some ⟨b, 0, none⟩)] w' fun e w2 => ∃ g o, e = .returned (.map (some g)) ∧ Msk 100 (rnG dS0 dR0 (S.beginS 3) nn nn).2 o ∧ Ow Pm F w w2 b (rnG dS0 dR0 (S.beginS 3) nn nn).1 ((g, o) :: bs)) := hid (fun bs w' h' => by
    have := tdrawn_any hM k nn (S.beginS 3) h' hS2.1 (by omega) hS2.2 hn3
    rw [hmk] at this
    exact this)
  have HPD : Hid (∀ (bs : List (Nat × Obj)) (w' : World), Ow Pm F w w' b (rnG dS0 dR0 (S.beginS 3) nn nn).1 bs → Calls Tryd.prog 61 #[.pointer (some ⟨b, 0, none⟩), .agg (wdV A), .agg (wdV B)] w' fun e w2 => e = .returned (.agg (iz 9 (pdG dS0 dR0 A B (rnG dS0 dR0 (S.beginS 3) nn nn).1 nn nn).2)) ∧ Ow Pm F w w2 b (pdG dS0 dR0 A B (rnG dS0 dR0 (S.beginS 3) nn nn).1 nn nn).1 bs) := hid (fun bs w' h' => tprod_any hM (k + 3 * nn) nn _ A B h' hR.1.1 (by omega) hR.1.2 hn3 hA hB)
  have HNB : Hid (∀ (bs : List (Nat × Obj)) (w' : World), Ow Pm F w w' b (fnG dS0 dR0 true (rnG dS0 dR0 (S.beginS 3) nn nn).2 (pdG dS0 dR0 A B (rnG dS0 dR0 (S.beginS 3) nn nn).1 nn nn).2 (pdG dS0 dR0 A B (rnG dS0 dR0 (S.beginS 3) nn nn).1 nn nn).1 nn 0).1 bs → Calls Tryd.prog 40 #[.pointer (some ⟨b, 0, none⟩)] w' fun e w2 => e = .returned (.int .i64 (nn : Int)) ∧ Below w'.heap.size w' w2) := hid (fun bs w' h' => h'.asks (fun F' hF' => by have := hM.n b (k + 3 * nn + 3 * nn) _ F' w' hF' (hFb 0 (by omega)).1 (by omega); rw [(hFb 0 (by omega)).2] at this; exact this))
  have HSH : Hid (∀ j, j < nn → ∀ (g : Nat) (o : Obj) (bs : List (Nat × Obj)) (w' : World), (g, o) ∈ bs → Msk 100 (rnG dS0 dR0 (S.beginS 3) nn nn).2 o → Ow Pm F w w' b (fnG dS0 dR0 true (rnG dS0 dR0 (S.beginS 3) nn nn).2 (pdG dS0 dR0 A B (rnG dS0 dR0 (S.beginS 3) nn nn).1 nn nn).2 (pdG dS0 dR0 A B (rnG dS0 dR0 (S.beginS 3) nn nn).1 nn nn).1 nn j).1 bs → Calls Tryd.prog 62 #[.agg (ptC b g (pdG dS0 dR0 A B (rnG dS0 dR0 (S.beginS 3) nn nn).1 nn nn).2), .int .i64 (j : Int), .func (.func 51) #[] #[]] w' fun e w2 => e = .returned (.int .i64 (fnI dS0 dR0 true (rnG dS0 dR0 (S.beginS 3) nn nn).2 (pdG dS0 dR0 A B (rnG dS0 dR0 (S.beginS 3) nn nn).1 nn nn).2 (fnG dS0 dR0 true (rnG dS0 dR0 (S.beginS 3) nn nn).2 (pdG dS0 dR0 A B (rnG dS0 dR0 (S.beginS 3) nn nn).1 nn nn).2 (pdG dS0 dR0 A B (rnG dS0 dR0 (S.beginS 3) nn nn).1 nn nn).1 nn j).1 j nn).2) ∧ Ow Pm F w w2 b (fnG dS0 dR0 true (rnG dS0 dR0 (S.beginS 3) nn nn).2 (pdG dS0 dR0 A B (rnG dS0 dR0 (S.beginS 3) nn nn).1 nn nn).2 (pdG dS0 dR0 A B (rnG dS0 dR0 (S.beginS 3) nn nn).1 nn nn).1 nn (j + 1)).1 bs) := hid (fun j hj g o bs w' hg ho h' =>
    tshare_dom hM g o 100 (rnG dS0 dR0 (S.beginS 3) nn nn).2 (pdG dS0 dR0 A B (rnG dS0 dR0 (S.beginS 3) nn nn).1 nn nn).2 (k + 3 * nn + 3 * nn + 9 * j) nn j _ h' hg ho (hFb j (by omega)).1 (by omega) (hFb j (by omega)).2 hn3 (by omega) hR.2 hP.2)
  have HU : Hid (∀ j, (fnG dS0 dR0 true (rnG dS0 dR0 (S.beginS 3) nn nn).2 (pdG dS0 dR0 A B (rnG dS0 dR0 (S.beginS 3) nn nn).1 nn nn).2 (pdG dS0 dR0 A B (rnG dS0 dR0 (S.beginS 3) nn nn).1 nn nn).1 nn (j + 1)).2 = updI (fnG dS0 dR0 true (rnG dS0 dR0 (S.beginS 3) nn nn).2 (pdG dS0 dR0 A B (rnG dS0 dR0 (S.beginS 3) nn nn).1 nn nn).2 (pdG dS0 dR0 A B (rnG dS0 dR0 (S.beginS 3) nn nn).1 nn nn).1 nn j).2 j (fnI dS0 dR0 true (rnG dS0 dR0 (S.beginS 3) nn nn).2 (pdG dS0 dR0 A B (rnG dS0 dR0 (S.beginS 3) nn nn).1 nn nn).2 (fnG dS0 dR0 true (rnG dS0 dR0 (S.beginS 3) nn nn).2 (pdG dS0 dR0 A B (rnG dS0 dR0 (S.beginS 3) nn nn).1 nn nn).2 (pdG dS0 dR0 A B (rnG dS0 dR0 (S.beginS 3) nn nn).1 nn nn).1 nn j).1 j nn).2) := hid (fun j => rfl)
  have HEN : Hid (∀ (bs : List (Nat × Obj)) (w' : World), Ow Pm F w w' b (fnG dS0 dR0 true (rnG dS0 dR0 (S.beginS 3) nn nn).2 (pdG dS0 dR0 A B (rnG dS0 dR0 (S.beginS 3) nn nn).1 nn nn).2 (pdG dS0 dR0 A B (rnG dS0 dR0 (S.beginS 3) nn nn).1 nn nn).1 nn nn).1 bs → Calls Tryd.prog 56 #[.pointer (some ⟨b, 0, none⟩)] w' fun e w2 => e = .returned (.tuple #[]) ∧ Ow Pm F w w2 b (tmG dS0 dR0 nn true A B (S.beginS 3)).1.endS bs) := hid (fun bs w' h' => h'.lift hM (fun F' hF' => hM.end_ b (k + 3 * nn + 3 * nn + 9 * nn) _ F' w' hF' (hFb nn (by omega)).1 (by omega)))
  have HU9 : Hid ((fnG dS0 dR0 true (rnG dS0 dR0 (S.beginS 3) nn nn).2 (pdG dS0 dR0 A B (rnG dS0 dR0 (S.beginS 3) nn nn).1 nn nn).2 (pdG dS0 dR0 A B (rnG dS0 dR0 (S.beginS 3) nn nn).1 nn nn).1 nn nn).2 = (tmG dS0 dR0 nn true A B (S.beginS 3)).2) := hid rfl
  have HU0 : Hid ((fnG dS0 dR0 true (rnG dS0 dR0 (S.beginS 3) nn nn).2 (pdG dS0 dR0 A B (rnG dS0 dR0 (S.beginS 3) nn nn).1 nn nn).2 (pdG dS0 dR0 A B (rnG dS0 dR0 (S.beginS 3) nn nn).1 nn nn).1 nn 0).2 = none3) := hid rfl
  have HF0 : Hid ((fnG dS0 dR0 true (rnG dS0 dR0 (S.beginS 3) nn nn).2 (pdG dS0 dR0 A B (rnG dS0 dR0 (S.beginS 3) nn nn).1 nn nn).2 (pdG dS0 dR0 A B (rnG dS0 dR0 (S.beginS 3) nn nn).1 nn nn).1 nn 0).1 = (pdG dS0 dR0 A B (rnG dS0 dR0 (S.beginS 3) nn nn).1 nn nn).1) := hid rfl
  have HN3 := hid hn3
  obtain ⟨w1, hw1⟩ : ∃ w1, ((w.alloc (.cells (wdV A) 34)).alloc (.cells (wdV B) 34)).alloc (.cells #[.int .i64 0, .int .i64 0, .int .i64 0] 34) = w1 := ⟨_, rfl⟩
  have H1 : Hid (Ow Pm F w w1 b S [(w.heap.size + 2, Obj.cells #[.int .i64 0, .int .i64 0, .int .i64 0] 34 (0, 0)), (w.heap.size + 1, Obj.cells (wdV B) 34 (0, 0)), (w.heap.size, Obj.cells (wdV A) 34 (0, 0))]) := hid (by
    have := (((Ow.start hm).new hM (wdV A) 34).new hM (wdV B) 34).new hM #[.int .i64 0, .int .i64 0, .int .i64 0] 34
    rw [hw1] at this
    simp only [sz_al] at this
    exact this)
  have HW := hid hw1
  clear hm hq hk hn hn3 hn23 hA hB hmk hS2 hR hP hFb hw1
  obtain ⟨R9, hR9⟩ : ∃ R9, (rnG dS0 dR0 (S.beginS 3) nn nn).2 = R9 := ⟨_, rfl⟩
  obtain ⟨P9, hP9⟩ : ∃ P9, (pdG dS0 dR0 A B (rnG dS0 dR0 (S.beginS 3) nn nn).1 nn nn).2 = P9 := ⟨_, rfl⟩
  simp only [hR9, hP9] at HDR HPD HNB HSH HU HEN HU9 HU0 HF0
  clear hR9 hP9
  obtain ⟨SP, hSP⟩ : ∃ SP, (pdG dS0 dR0 A B (rnG dS0 dR0 (S.beginS 3) nn nn).1 nn nn).1 = SP := ⟨_, rfl⟩
  simp only [hSP] at HDR HPD HNB HSH HU HEN HU9 HU0 HF0
  clear hSP
  obtain ⟨SR, hSR⟩ : ∃ SR, (rnG dS0 dR0 (S.beginS 3) nn nn).1 = SR := ⟨_, rfl⟩
  simp only [hSR] at HDR HPD
  clear hSR
  obtain ⟨rg, hrg⟩ : ∃ rg : Nat → Int, ∀ j, (fnI dS0 dR0 true R9 P9 (fnG dS0 dR0 true R9 P9 SP nn j).1 j nn).2 = rg j := ⟨_, fun _ => rfl⟩
  simp only [hrg] at HSH HU
  clear hrg
  obtain ⟨St, hSt⟩ : ∃ St : Nat → Ms, ∀ j, (fnG dS0 dR0 true R9 P9 SP nn j).1 = St j := ⟨_, fun _ => rfl⟩
  obtain ⟨U, hU⟩ : ∃ U : Nat → Nat → Int, ∀ j, (fnG dS0 dR0 true R9 P9 SP nn j).2 = U j := ⟨_, fun _ => rfl⟩
  simp only [hSt, hU] at HNB HSH HU HEN HU9 HU0 HF0
  clear hSt hU
  rw [← HU9.out]
  generalize (tmG dS0 dR0 nn true A B (S.beginS 3)).1.endS = S9 at *
  clear HU9
  generalize (S.beginS 3) = S2 at *
  go_enter Tryd.func50, Tryd.ntmps50
  go_upto_region 1 with fail
  rw [HW.out]
  have H2 := hid (H1.out.new hM (wdV none3) 34)
  go_upto_region 2 with fail
  obtain ⟨g9, hg9⟩ : ∃ g9, w1.heap.size = g9 := ⟨_, rfl⟩
  rw [hg9] at H2
  have H3 : Hid (Ow Pm F w (w1.alloc (.cells #[.int .i64 (-1), .int .i64 (-1), .int .i64 (-1)] 34)) b S ((g9, .cells (wdV none3) 34 (0, 0)) :: [(w.heap.size + 2, Obj.cells #[.int .i64 0, .int .i64 0, .int .i64 0] 34 (0, 0)), (w.heap.size + 1, Obj.cells (wdV B) 34 (0, 0)), (w.heap.size, Obj.cells (wdV A) 34 (0, 0))])) := H2
  generalize w1.alloc (.cells #[.int .i64 (-1), .int .i64 (-1), .int .i64 (-1)] 34) = w3 at *
  rw [hg9]
  clear hg9 H2 H1
  go_upto_region 3 with (go_at_call 53; (with_reducible refine (HBG.out _ _ H3.out).mono ?_); rintro e w4 ⟨rfl, hb⟩; have H4 := hid hb; clear hb)
  go_upto_region 4 with (go_at_call 60; (with_reducible refine (HDR.out _ _ H4.out).mono ?_); rintro e w5 ⟨g, o, rfl, ho, hb⟩; have H5 := hid hb; have HO := hid ho; clear hb ho)
  have H6 := hid (H5.out.new hM (ptC b g zero9) 102)
  obtain ⟨g10, hg10⟩ : ∃ g10, w5.heap.size = g10 := ⟨_, rfl⟩
  rw [hg10] at H6
  have H7 : Hid (Ow Pm F w (w5.alloc (.cells #[.pointer (some ⟨b, 0, none⟩), .map (some g), .int .i64 0, .int .i64 0, .int .i64 0, .int .i64 0, .int .i64 0, .int .i64 0, .int .i64 0, .int .i64 0, .int .i64 0] 102)) b SR ((g10, .cells (ptC b g zero9) 102 (0, 0)) :: (g, o) :: (g9, .cells (wdV none3) 34 (0, 0)) :: [(w.heap.size + 2, Obj.cells #[.int .i64 0, .int .i64 0, .int .i64 0] 34 (0, 0)), (w.heap.size + 1, Obj.cells (wdV B) 34 (0, 0)), (w.heap.size, Obj.cells (wdV A) 34 (0, 0))])) := hid H6.out
  generalize w5.alloc (.cells #[.pointer (some ⟨b, 0, none⟩), .map (some g), .int .i64 0, .int .i64 0, .int .i64 0, .int .i64 0, .int .i64 0, .int .i64 0, .int .i64 0, .int .i64 0, .int .i64 0] 102) = w7 at *
  rw [hg10]
  clear hg10 H6 H5 H4 H3
  go_upto_region 5 with (first
    | (refine step_load_row rfl 34 _ rfl w.heap.size 34 (wdV A) _ rfl (H7.out.bl 5 rfl) Tryd.underlying34 rfl (by kernel_rfl) ?_)
    | (refine step_load_row rfl 34 _ rfl (w.heap.size + 1) 34 (wdV B) _ rfl (H7.out.bl 4 rfl) Tryd.underlying34 rfl (by kernel_rfl) ?_)
    | (go_at_call 61; (with_reducible refine (HPD.out _ _ H7.out).mono ?_); rintro e w8 ⟨rfl, hb⟩; have H8 := hid hb; clear hb)
    | (refine wpList_store_mid rfl 100 _ _ rfl g10 2 (iz 9 P9) rfl rfl (by rw [iz_size]; exact pt_there (H8.out.bl 0 rfl)) (by rw [iz_size]; kernel_rfl) (by kernel_rfl) ?_))
  have H9 : Hid (Ow Pm F w (w8.setCells g10 2 (iz 9 P9).toList) b SP ((g10, .cells (ptC b g P9) 102 (0, 0)) :: (g, o) :: (g9, .cells (wdV none3) 34 (0, 0)) :: [(w.heap.size + 2, Obj.cells #[.int .i64 0, .int .i64 0, .int .i64 0] 34 (0, 0)), (w.heap.size + 1, Obj.cells (wdV B) 34 (0, 0)), (w.heap.size, Obj.cells (wdV A) 34 (0, 0))])) := hid (H8.out.turn hM (pt_set (H8.out.bl 0 rfl)) (fun q hq => setCells_apart g10 _ 2 w8 q hq) (Nat.le_of_eq (setCells_size g10 _ 2 w8).symm) (setCells_out g10 _ 2 w8))
  generalize w8.setCells g10 2 (iz 9 P9).toList = w9 at *
  clear H7 H8
  have H10 : Hid (Ow Pm F w w9 b (St 0) ((g9, .cells (wdV (U 0)) 34 (0, 0)) :: (g10, .cells (ptC b g P9) 102 (0, 0)) :: (g, o) :: (w.heap.size + 2, .cells #[.int .i64 0, .int .i64 0, .int .i64 0] 34 (0, 0)) :: (w.heap.size + 1, .cells (wdV B) 34 (0, 0)) :: (w.heap.size, .cells (wdV A) 34 (0, 0)) :: [])) := hid (by
    rw [HF0.out, HU0.out]
    exact H9.out.sub (fun q hq => by simp at hq ⊢; rcases hq with e | e | e | e | e | e <;> simp [e]) (by
      have := H9.out.nd
      simp only [List.map_cons, List.map_nil, List.nodup_cons, List.mem_cons, List.not_mem_nil, not_or] at this ⊢
      refine ⟨⟨fun e => this.1.2.1 e.symm, fun e => this.2.1.1 e.symm, this.2.2.1.1, this.2.2.1.2.1, this.2.2.1.2.2.1, fun h => h⟩, ⟨this.1.1, this.1.2.2.1, this.1.2.2.2.1, this.1.2.2.2.2.1, fun h => h⟩, ⟨this.2.1.2.1, this.2.1.2.2.1, this.2.1.2.2.2.1, fun h => h⟩, this.2.2.2⟩))
  clear H9
  go_wp2_with (go_at_call 40; (with_reducible refine (HNB.out _ _ H10.out).mono ?_); rintro e w10 ⟨rfl, hb⟩; have H11 := hid (H10.out.self hM hb); clear hb)
  go_loopw [27] (fun iv wr => ∃ j : Nat, j ≤ nn ∧ iv = .int .i64 j ∧ Ow Pm F w wr b (St j) ((g9, .cells (wdV (U j)) 34 (0, 0)) :: (g10, .cells (ptC b g P9) 102 (0, 0)) :: (g, o) :: (w.heap.size + 2, .cells #[.int .i64 0, .int .i64 0, .int .i64 0] 34 (0, 0)) :: (w.heap.size + 1, .cells (wdV B) 34 (0, 0)) :: (w.heap.size, .cells (wdV A) 34 (0, 0)) :: [])) (fun iv _ => nn - (intOf iv).toNat)
  case atStart => exact ⟨0, by omega, rfl, H11.out⟩
  case round =>
    clear H10 H11
    obtain ⟨j, hj, rfl, hI⟩ := hrel
    have HI := hid hI
    clear hI
    have hn3 := HN3.out
    by_cases hlt : j < nn
    · have j1 : (j : Int) < (nn : Int) := by omega
      have j0 : (0 : Int) ≤ (j : Int) := by omega
      have j3 : (j : Int) < 3 := by omega
      have HJ3 : Hid (j < 3) := hid (by omega)
      have HJX : Hid (j + 1 ≤ nn) := hid (by omega)
      replace HSH := hid (fun bs' w' hg h' => HSH.out j hlt g o bs' w' hg HO.out h')
      have HER : Hid ((wdV (U j)).setIfInBounds j (.int .i64 (rg j)) = wdV (U (j + 1))) := hid (by rw [wdV_upd _ j _ (by omega), HU.out j])
      clear hj hlt
      go_wp2_with (first
        | (refine step_load_row rfl 102 _ rfl g10 102 (ptC b g P9) _ rfl (HI.out.bl 1 rfl) Tryd.underlying102 rfl (by kernel_rfl) ?_)
        | (go_at_call 62; (with_reducible refine (HSH.out _ _ (by simp) HI.out).mono ?_); rintro e w6 ⟨rfl, hz⟩; have H6 := hid hz; have cj := row_c (i := j) (H6.out.bl 0 rfl) (wdV_at (U j) j HJ3.out); have fj := frozen_of_row w6 g9 j _ _ (H6.out.bl 0 rfl); clear hz))
      have H7 := hid (H6.out.cell hM j (.int .i64 (rg j)))
      rw [HER.out] at H7
      go_roundw
      case rel => exact ⟨j + 1, HJX.out, by go_num, H7.out⟩
      case measure => simp [intOf]; omega
    · obtain rfl : nn = j := by omega
      clear hlt hj
      go_wp2_with (first
        | (go_at_call 56; (with_reducible refine (HEN.out _ _ HI.out).mono ?_); rintro e w8 ⟨rfl, hb⟩; have H8 := hid hb; clear hb)
        | (refine step_load_row rfl 34 _ rfl g9 34 (wdV (U nn)) _ rfl (H8.out.bl 0 rfl) Tryd.underlying34 rfl (by kernel_rfl) ?_)
        | (refine step_store_row rfl 34 _ _ rfl (w.heap.size + 2) 34 _ (wdV (U nn)) rfl rfl (H8.out.bl 3 rfl) (by kernel_rfl) rfl (by kernel_rfl) ?_))
      have H9 := hid (H8.out.rowI hM 3 rfl (wdV (U nn)))
      exact bodyPost_ret (results_cell_row (by rfl) _ _ (w.heap.size + 2) 34 (wdV (U nn)) (0, 0) _ rfl (H9.out.bl 3 rfl) Tryd.underlying34 rfl (by kernel_rfl)) rfl ⟨rfl, H9.out.fin⟩
theorem tm_reg {S : Ms} (dom : Bool) (A B : Nat → Int) {nn : Nat} (hn : S.n = (nn : Int)) (hn23 : nn = 2 ∨ nn = 3) : wdV (tmG dS0 dR0 nn dom A B (S.beginS 3)).2 = wdV (tmR S dom A B) ∧ (tmG dS0 dR0 nn dom A B (S.beginS 3)).1.endS = tmS S dom A B := by
  have hsh : S.sh = nn := by unfold Ms.sh; omega
  obtain ⟨e1, e2⟩ := tm_all (S := S) dom A B (by omega)
  rw [hsh] at e1 e2
  refine ⟨?_, e1⟩
  show #[_, _, _] = #[_, _, _]
  rw [e2 0 (by omega), e2 1 (by omega), e2 2 (by omega)]
set_option maxHeartbeats 1600000 in
theorem tisww_any {Pm : World → Nat → Ms → (Nat → Prop) → Prop} (hM : Mach Pm) (b k : Nat) (S : Ms) (F : Nat → Prop) (A B : Nat → Int) (w : World) (hm : Pm w b S F) (hq : Bq k S) (hk : k + 50 ≤ 100000) (hn : S.n = 2 ∨ S.n = 3) (hA : Wb A) (hB : Wb B) :
    Calls Tryd.prog 44 #[.pointer (some ⟨b, 0, none⟩), .agg (wdV A), .agg (wdV B)] w fun e w' => e = .returned (.agg (wdV (tmR S false A B))) ∧ PmR Pm b (tmS S false A B) F w w' := by
  obtain ⟨nn, hnn, h23⟩ : ∃ nn : Nat, S.n = (nn : Int) ∧ (nn = 2 ∨ nn = 3) := ⟨S.n.toNat, by omega, by omega⟩
  obtain ⟨e1, e2⟩ := tm_reg false A B hnn h23
  have HC : Hid (∀ (bs : List (Nat × Obj)) (w' : World), Ow Pm F w w' b S bs → Calls Tryd.prog 50 #[.pointer (some ⟨b, 0, none⟩), .agg (wdV A), .agg (wdV B), .func (.func 52) #[] #[]] w' fun e w2 => e = .returned (.agg (wdV (tmR S false A B))) ∧ Ow Pm F w w2 b (tmS S false A B) bs) := hid (fun bs w' h' => h'.lift hM (fun F' hF' => by
    have := tmul_isw hM b k nn S F' A B w' hF' hq hk hnn h23 hA hB
    rw [e1, e2] at this
    exact this))
  obtain ⟨w1, hw1⟩ : ∃ w1, ((w.alloc (.cells (wdV A) 34)).alloc (.cells (wdV B) 34)).alloc (.cells #[.int .i64 0, .int .i64 0, .int .i64 0] 34) = w1 := ⟨_, rfl⟩
  have H1 : Hid (Ow Pm F w w1 b S [(w.heap.size + 2, Obj.cells #[.int .i64 0, .int .i64 0, .int .i64 0] 34 (0, 0)), (w.heap.size + 1, Obj.cells (wdV B) 34 (0, 0)), (w.heap.size, Obj.cells (wdV A) 34 (0, 0))]) := hid (by
    have := (((Ow.start hm).new hM (wdV A) 34).new hM (wdV B) 34).new hM #[.int .i64 0, .int .i64 0, .int .i64 0] 34
    rw [hw1] at this
    simp only [sz_al] at this
    exact this)
  have HW := hid hw1
  clear hm hq hk hn hA hB hnn h23 e1 e2 hw1
  generalize tmS S false A B = S9 at *
  generalize tmR S false A B = R9 at *
  go_enter Tryd.func44, Tryd.ntmps44
  go_upto_region 1 with fail
  rw [HW.out]
  go_wp2_with (first
    | (refine step_load_row rfl 34 _ rfl w.heap.size 34 (wdV A) _ rfl (H1.out.bl 2 rfl) Tryd.underlying34 rfl (by kernel_rfl) ?_)
    | (refine step_load_row rfl 34 _ rfl (w.heap.size + 1) 34 (wdV B) _ rfl (H1.out.bl 1 rfl) Tryd.underlying34 rfl (by kernel_rfl) ?_)
    | (go_at_call 50; (with_reducible refine (HC.out _ _ H1.out).mono ?_); rintro e w8 ⟨rfl, hb⟩; have H8 := hid hb; clear hb)
    | (refine step_store_row rfl 34 _ _ rfl (w.heap.size + 2) 34 _ (wdV R9) rfl rfl (H8.out.bl 0 rfl) (by kernel_rfl) rfl (by kernel_rfl) ?_))
  have H9 := hid (H8.out.rowI hM 0 rfl (wdV R9))
  exact bodyPost_ret (results_cell_row (by rfl) _ _ (w.heap.size + 2) 34 (wdV R9) (0, 0) _ rfl (H9.out.bl 0 rfl) Tryd.underlying34 rfl (by kernel_rfl)) rfl ⟨rfl, H9.out.fin⟩
set_option maxHeartbeats 1600000 in
theorem tdomw_any {Pm : World → Nat → Ms → (Nat → Prop) → Prop} (hM : Mach Pm) (b k : Nat) (S : Ms) (F : Nat → Prop) (A B : Nat → Int) (w : World) (hm : Pm w b S F) (hq : Bq k S) (hk : k + 50 ≤ 100000) (hn : S.n = 2 ∨ S.n = 3) (hA : Wb A) (hB : Wb B) :
    Calls Tryd.prog 43 #[.pointer (some ⟨b, 0, none⟩), .agg (wdV A), .agg (wdV B)] w fun e w' => e = .returned (.agg (wdV (tmR S true A B))) ∧ PmR Pm b (tmS S true A B) F w w' := by
  obtain ⟨nn, hnn, h23⟩ : ∃ nn : Nat, S.n = (nn : Int) ∧ (nn = 2 ∨ nn = 3) := ⟨S.n.toNat, by omega, by omega⟩
  obtain ⟨e1, e2⟩ := tm_reg true A B hnn h23
  have HC : Hid (∀ (bs : List (Nat × Obj)) (w' : World), Ow Pm F w w' b S bs → Calls Tryd.prog 50 #[.pointer (some ⟨b, 0, none⟩), .agg (wdV A), .agg (wdV B), .func (.func 51) #[] #[]] w' fun e w2 => e = .returned (.agg (wdV (tmR S true A B))) ∧ Ow Pm F w w2 b (tmS S true A B) bs) := hid (fun bs w' h' => h'.lift hM (fun F' hF' => by
    have := tmul_dom hM b k nn S F' A B w' hF' hq hk hnn h23 hA hB
    rw [e1, e2] at this
    exact this))
  obtain ⟨w1, hw1⟩ : ∃ w1, ((w.alloc (.cells (wdV A) 34)).alloc (.cells (wdV B) 34)).alloc (.cells #[.int .i64 0, .int .i64 0, .int .i64 0] 34) = w1 := ⟨_, rfl⟩
  have H1 : Hid (Ow Pm F w w1 b S [(w.heap.size + 2, Obj.cells #[.int .i64 0, .int .i64 0, .int .i64 0] 34 (0, 0)), (w.heap.size + 1, Obj.cells (wdV B) 34 (0, 0)), (w.heap.size, Obj.cells (wdV A) 34 (0, 0))]) := hid (by
    have := (((Ow.start hm).new hM (wdV A) 34).new hM (wdV B) 34).new hM #[.int .i64 0, .int .i64 0, .int .i64 0] 34
    rw [hw1] at this
    simp only [sz_al] at this
    exact this)
  have HW := hid hw1
  clear hm hq hk hn hA hB hnn h23 e1 e2 hw1
  generalize tmS S true A B = S9 at *
  generalize tmR S true A B = R9 at *
  go_enter Tryd.func43, Tryd.ntmps43
  go_upto_region 1 with fail
  rw [HW.out]
  go_wp2_with (first
    | (refine step_load_row rfl 34 _ rfl w.heap.size 34 (wdV A) _ rfl (H1.out.bl 2 rfl) Tryd.underlying34 rfl (by kernel_rfl) ?_)
    | (refine step_load_row rfl 34 _ rfl (w.heap.size + 1) 34 (wdV B) _ rfl (H1.out.bl 1 rfl) Tryd.underlying34 rfl (by kernel_rfl) ?_)
    | (go_at_call 50; (with_reducible refine (HC.out _ _ H1.out).mono ?_); rintro e w8 ⟨rfl, hb⟩; have H8 := hid hb; clear hb)
    | (refine step_store_row rfl 34 _ _ rfl (w.heap.size + 2) 34 _ (wdV R9) rfl rfl (H8.out.bl 0 rfl) (by kernel_rfl) rfl (by kernel_rfl) ?_))
  have H9 := hid (H8.out.rowI hM 0 rfl (wdV R9))
  exact bodyPost_ret (results_cell_row (by rfl) _ _ (w.heap.size + 2) 34 (wdV R9) (0, 0) _ rfl (H9.out.bl 0 rfl) Tryd.underlying34 rfl (by kernel_rfl)) rfl ⟨rfl, H9.out.fin⟩
set_option maxHeartbeats 1600000 in
theorem tby_any {Pm : World → Nat → Ms → (Nat → Prop) → Prop} (hM : Mach Pm) (b k : Nat) (S : Ms) (F : Nat → Prop) (K : Int) (A B : Nat → Int) (w : World) (hm : Pm w b S F) (hq : Bq k S) (hk : k + 50 ≤ 100000) (hn : S.n = 2 ∨ S.n = 3) (hA : Wb A) (hB : Wb B) :
    Calls Tryd.prog 38 #[.pointer (some ⟨b, 0, none⟩), .int .i64 K, .agg (wdV A), .agg (wdV B)] w fun e w' => e = .returned (.agg (wdV (tmR S (isDom K) A B))) ∧ PmR Pm b (tmS S (isDom K) A B) F w w' := by
  obtain ⟨w1, hw1⟩ : ∃ w1, ((w.alloc (.cells (wdV A) 34)).alloc (.cells (wdV B) 34)).alloc (.cells #[.int .i64 0, .int .i64 0, .int .i64 0] 34) = w1 := ⟨_, rfl⟩
  have H1 : Hid (Ow Pm F w w1 b S [(w.heap.size + 2, Obj.cells #[.int .i64 0, .int .i64 0, .int .i64 0] 34 (0, 0)), (w.heap.size + 1, Obj.cells (wdV B) 34 (0, 0)), (w.heap.size, Obj.cells (wdV A) 34 (0, 0))]) := hid (by
    have := (((Ow.start hm).new hM (wdV A) 34).new hM (wdV B) 34).new hM #[.int .i64 0, .int .i64 0, .int .i64 0] 34
    rw [hw1] at this
    simp only [sz_al] at this
    exact this)
  have HW := hid hw1
  by_cases h2 : K = 2
  · have q1 : ((K : Int) == 2) = true := by simp [h2]
    have q2 : isDom K = true := by unfold isDom; simp [h2]
    rw [q2]
    have HC : Hid (∀ (bs : List (Nat × Obj)) (w' : World), Ow Pm F w w' b S bs → Calls Tryd.prog 43 #[.pointer (some ⟨b, 0, none⟩), .agg (wdV A), .agg (wdV B)] w' fun e w2 => e = .returned (.agg (wdV (tmR S true A B))) ∧ Ow Pm F w w2 b (tmS S true A B) bs) := hid (fun bs w' h' => h'.lift hM (fun F' hF' => tdomw_any hM b k S F' A B w' hF' hq hk hn hA hB))
    clear hm hq hk hn hA hB hw1 q2 h2
    generalize tmS S true A B = S9 at *
    generalize tmR S true A B = R9 at *
    go_enter Tryd.func38, Tryd.ntmps38
    go_upto_region 1 with fail
    rw [HW.out]
    go_wp2_with (first
      | (refine step_load_row rfl 34 _ rfl w.heap.size 34 (wdV A) _ rfl (H1.out.bl 2 rfl) Tryd.underlying34 rfl (by kernel_rfl) ?_)
      | (refine step_load_row rfl 34 _ rfl (w.heap.size + 1) 34 (wdV B) _ rfl (H1.out.bl 1 rfl) Tryd.underlying34 rfl (by kernel_rfl) ?_)
      | (go_at_call 43; (with_reducible refine (HC.out _ _ H1.out).mono ?_); rintro e w8 ⟨rfl, hb⟩; have H8 := hid hb; clear hb)
      | (refine step_store_row rfl 34 _ _ rfl (w.heap.size + 2) 34 _ (wdV R9) rfl rfl (H8.out.bl 0 rfl) (by kernel_rfl) rfl (by kernel_rfl) ?_))
    have H9 := hid (H8.out.rowI hM 0 rfl (wdV R9))
    exact bodyPost_ret (results_cell_row (by rfl) _ _ (w.heap.size + 2) 34 (wdV R9) (0, 0) _ rfl (H9.out.bl 0 rfl) Tryd.underlying34 rfl (by kernel_rfl)) rfl ⟨rfl, H9.out.fin⟩
  · have q1 : ((K : Int) == 2) = false := by simp [h2]
    have q2 : isDom K = false := by unfold isDom; simp [h2]
    rw [q2]
    have HC : Hid (∀ (bs : List (Nat × Obj)) (w' : World), Ow Pm F w w' b S bs → Calls Tryd.prog 44 #[.pointer (some ⟨b, 0, none⟩), .agg (wdV A), .agg (wdV B)] w' fun e w2 => e = .returned (.agg (wdV (tmR S false A B))) ∧ Ow Pm F w w2 b (tmS S false A B) bs) := hid (fun bs w' h' => h'.lift hM (fun F' hF' => tisww_any hM b k S F' A B w' hF' hq hk hn hA hB))
    clear hm hq hk hn hA hB hw1 q2 h2
    generalize tmS S false A B = S9 at *
    generalize tmR S false A B = R9 at *
    go_enter Tryd.func38, Tryd.ntmps38
    go_upto_region 1 with fail
    rw [HW.out]
    go_wp2_with (first
      | (refine step_load_row rfl 34 _ rfl w.heap.size 34 (wdV A) _ rfl (H1.out.bl 2 rfl) Tryd.underlying34 rfl (by kernel_rfl) ?_)
      | (refine step_load_row rfl 34 _ rfl (w.heap.size + 1) 34 (wdV B) _ rfl (H1.out.bl 1 rfl) Tryd.underlying34 rfl (by kernel_rfl) ?_)
      | (go_at_call 44; (with_reducible refine (HC.out _ _ H1.out).mono ?_); rintro e w8 ⟨rfl, hb⟩; have H8 := hid hb; clear hb)
      | (refine step_store_row rfl 34 _ _ rfl (w.heap.size + 2) 34 _ (wdV R9) rfl rfl (H8.out.bl 0 rfl) (by kernel_rfl) rfl (by kernel_rfl) ?_))
    have H9 := hid (H8.out.rowI hM 0 rfl (wdV R9))
    exact bodyPost_ret (results_cell_row (by rfl) _ _ (w.heap.size + 2) 34 (wdV R9) (0, 0) _ rfl (H9.out.bl 0 rfl) Tryd.underlying34 rfl (by kernel_rfl)) rfl ⟨rfl, H9.out.fin⟩
/-- The program's functions meet what the laws ask. -/
theorem tmI {Pm : World → Nat → Ms → (Nat → Prop) → Prop} (hM : Mach Pm) : TmI Pm (fun _ _ => True) where
  by_ b k S F K A B w h _ hq hk hn _ hA hB := tby_any hM b k S F K A B w h hq hk hn hA hB
  isw b k S F A B w h _ hq hk hn hA hB := tisww_any hM b k S F A B w h hq hk hn hA hB
  dom b k S F A B w h _ hq hk hn hA hB := tdomw_any hM b k S F A B w h hq hk hn hA hB
end Go.Proofs.YthkijncnndoafaaDoor

/- Fresh: the program's functions, over any machine: words made anew. -/
namespace Go.Proofs.YthkijncnndoafaaDoor
open Go.RowKit
set_option maxRecDepth 100000
theorem Ow.liftF {Pm : World → Nat → Ms → (Nat → Prop) → Prop} {F0 : Nat → Prop} {w0 w : World} {b : Nat} {S S' : Ms} {bs : List (Nat × Obj)} (h : Ow Pm F0 w0 w b S bs) {f : FuncId} {args : Array Value} {E : Ending → Prop} (hc : ∀ F, Pm w b S F → (∀ k, F k → F0 k ∨ w0.heap.size ≤ k) → Calls Tryd.prog f args w fun e w' => E e ∧ PmR Pm b S' F w w') : Calls Tryd.prog f args w fun e w' => E e ∧ Ow Pm F0 w0 w' b S' bs := by
  obtain ⟨F, h1, h2, h3⟩ := h.ex
  refine (hc F h1 h2).mono fun e w' hr => ⟨hr.1, ?_⟩
  obtain ⟨F', g1, g2, g3⟩ := hr.2
  refine ⟨⟨F', g1, fun k hk => ?_, fun q hq e => ?_⟩, h.tch.trans g2 (fun j hj f => (h2 j f).resolve_right (by omega)), fun q hq => ⟨(h.bx q hq).1, (g2.block q.1 (h.lt hq) (h3 q hq)).trans (h.bx q hq).2⟩, h.nd⟩
  · rcases g3 k hk with f | f
    · exact h2 k f
    · exact .inr (Nat.le_trans h.tch.size f)
  · rcases g3 _ e with f | f
    · exact h3 q hq f
    · have := h.lt hq; omega
theorem dr_n (S : Ms) : ∀ j, (drG dS0 dR0 S j).1.n = S.n
  | 0 => rfl
  | j + 1 => ((doS_ext _ _ _).n).trans (dr_n S j)
theorem covered_any {Pm : World → Nat → Ms → (Nat → Prop) → Prop} (hM : Mach Pm) {F0 : Nat → Prop} {w0 w : World} {b : Nat} {bs : List (Nat × Obj)} (k c i : Nat) (S : Ms) (r : Int) (mk : Nat → Int) (hi : i < 3) (h : Ow Pm F0 w0 w b S bs) (hp : Pv w0) (hF : ¬ F0 gpair) (hq : Bq k S) (hk : k + 3 ≤ 100000) (hr : I64 r) (hm : Wb mk) :
    Calls Tryd.prog 55 #[.pointer (some ⟨b, 0, none⟩), .int .i64 (i : Int), .int .i64 r, .agg (wdV mk), .int .i64 (c : Int)] w fun e w' => e = .returned (.int .i64 (cvG dS0 dR0 c i mk S r 3).2) ∧ Ow Pm F0 w0 w' b (cvG dS0 dR0 c i mk S r 3).1 bs := by
  rcases (by omega : i = 0 ∨ i = 1 ∨ i = 2) with rfl | rfl | rfl
  · exact covered0_any hM k c S r mk h hp hF hq hk hr hm
  · exact covered1_any hM k c S r mk h hp hF hq hk hr hm
  · exact covered2_any hM k c S r mk h hp hF hq hk hr hm
set_option maxHeartbeats 12800000 in
theorem anew_any {Pm : World → Nat → Ms → (Nat → Prop) → Prop} (hM : Mach Pm) (b k n c : Nat) (S : Ms) (F : Nat → Prop) (A : Nat → Int) (w : World) (hm : Pm w b S F) (hp : Pv w) (hF : ¬ F gpair) (hq : Bq k S) (hk : k + 20 ≤ 100000) (hn : S.n = (n : Int)) (hn3 : n ≤ 3) (hc : c ≤ 3) (hA : Wb A) :
    Calls Tryd.prog 45 #[.pointer (some ⟨b, 0, none⟩), .agg (wdV A), .int .i64 (c : Int)] w fun e w' => e = .returned (.agg (wdV (anR n c A S))) ∧ PmR Pm b (anS n c A S) F w w' := by
  have hB := hq.begins 2
  have hD := dr_bq (j := c) hB (by omega)
  have HBG : Hid (∀ (bs : List (Nat × Obj)) (w' : World), Ow Pm F w w' b S bs → Calls Tryd.prog 53 #[.pointer (some ⟨b, 0, none⟩), .int .i64 2] w' fun e w2 => e = .returned (.tuple #[]) ∧ Ow Pm F w w2 b (S.beginS 2) bs) := hid (fun bs w' h' => h'.lift hM (fun F' hF' => hM.begin_ b k S F' 2 w' hF' hq (by omega)))
  have HDR : Hid (∀ (bs : List (Nat × Obj)) (w' : World), Ow Pm F w w' b (S.beginS 2) bs → Calls Tryd.prog 54 #[.pointer (some ⟨b, 0, none⟩), .int .i64 (c : Int)] w' fun e w2 => e = .returned (.agg (wdV (drG dS0 dR0 (S.beginS 2) c).2)) ∧ Ow Pm F w w2 b (drG dS0 dR0 (S.beginS 2) c).1 bs) := hid (fun bs w' h' => drawn_any hM k c _ h' hB (by omega) hc)
  have HNB : Hid (∀ (bs : List (Nat × Obj)) (w' : World), Ow Pm F w w' b (drG dS0 dR0 (S.beginS 2) c).1 bs → Calls Tryd.prog 40 #[.pointer (some ⟨b, 0, none⟩)] w' fun e w2 => e = .returned (.int .i64 (n : Int)) ∧ Below w'.heap.size w' w2) := hid (fun bs w' h' => h'.asks (fun F' hF' => by have := hM.n b (k + c) _ F' w' hF' hD.1 (by omega); rw [dr_n, (beginS_n S 2).1, hn] at this; exact this))
  have HC : Hid (∀ (j : Nat) (bs : List (Nat × Obj)) (w' : World), j < n → Ow Pm F w w' b (nwG dS0 dR0 c (drG dS0 dR0 (S.beginS 2) c).2 A (drG dS0 dR0 (S.beginS 2) c).1 j).1 bs → Calls Tryd.prog 55 #[.pointer (some ⟨b, 0, none⟩), .int .i64 (j : Int), .int .i64 (A j), .agg (wdV (drG dS0 dR0 (S.beginS 2) c).2), .int .i64 (c : Int)] w' fun e w2 => e = .returned (.int .i64 (cvG dS0 dR0 c j (drG dS0 dR0 (S.beginS 2) c).2 (nwG dS0 dR0 c (drG dS0 dR0 (S.beginS 2) c).2 A (drG dS0 dR0 (S.beginS 2) c).1 j).1 (A j) 3).2) ∧ Ow Pm F w w2 b (nwG dS0 dR0 c (drG dS0 dR0 (S.beginS 2) c).2 A (drG dS0 dR0 (S.beginS 2) c).1 (j + 1)).1 bs) :=
    hid (fun j bs w' hj h' => covered_any hM (k + c + 3 * j) c j _ _ _ (by omega) h' hp hF (nw_bq (c := c) hD.1 hD.2 hA (i := j) (by omega) (by omega)).1 (by omega) (hA j) hD.2)
  have HU : Hid (∀ j, (nwG dS0 dR0 c (drG dS0 dR0 (S.beginS 2) c).2 A (drG dS0 dR0 (S.beginS 2) c).1 (j + 1)).2 = updI (nwG dS0 dR0 c (drG dS0 dR0 (S.beginS 2) c).2 A (drG dS0 dR0 (S.beginS 2) c).1 j).2 j (cvG dS0 dR0 c j (drG dS0 dR0 (S.beginS 2) c).2 (nwG dS0 dR0 c (drG dS0 dR0 (S.beginS 2) c).2 A (drG dS0 dR0 (S.beginS 2) c).1 j).1 (A j) 3).2) := hid (fun j => rfl)
  have HEN : Hid (∀ (bs : List (Nat × Obj)) (w' : World), Ow Pm F w w' b (nwG dS0 dR0 c (drG dS0 dR0 (S.beginS 2) c).2 A (drG dS0 dR0 (S.beginS 2) c).1 n).1 bs → Calls Tryd.prog 56 #[.pointer (some ⟨b, 0, none⟩)] w' fun e w2 => e = .returned (.tuple #[]) ∧ Ow Pm F w w2 b (anS n c A S) bs) := hid (fun bs w' h' => h'.lift hM (fun F' hF' => hM.end_ b (k + c + 3 * n) _ F' w' hF' (nw_bq (c := c) hD.1 hD.2 hA (i := n) (by omega) (by omega)).1 (by omega)))
  have HR : Hid ((nwG dS0 dR0 c (drG dS0 dR0 (S.beginS 2) c).2 A (drG dS0 dR0 (S.beginS 2) c).1 n).2 = anR n c A S) := hid rfl
  have HU0 : Hid ((nwG dS0 dR0 c (drG dS0 dR0 (S.beginS 2) c).2 A (drG dS0 dR0 (S.beginS 2) c).1 0).2 = none3) := hid rfl
  have HS0 : Hid ((nwG dS0 dR0 c (drG dS0 dR0 (S.beginS 2) c).2 A (drG dS0 dR0 (S.beginS 2) c).1 0).1 = (drG dS0 dR0 (S.beginS 2) c).1) := hid rfl
  have HN3 : Hid (n ≤ 3) := hid hn3
  obtain ⟨w1, hw1⟩ : ∃ w1, (w.alloc (.cells (wdV A) 34)).alloc (.cells #[.int .i64 0, .int .i64 0, .int .i64 0] 34) = w1 := ⟨_, rfl⟩
  have H1 : Hid (Ow Pm F w w1 b S [(w.heap.size + 1, Obj.cells #[.int .i64 0, .int .i64 0, .int .i64 0] 34 (0, 0)), (w.heap.size, Obj.cells (wdV A) 34 (0, 0))]) := hid (by
    have := ((Ow.start hm).new hM (wdV A) 34).new hM #[.int .i64 0, .int .i64 0, .int .i64 0] 34
    rw [hw1] at this
    simp only [sz_al] at this
    exact this)
  have HW := hid hw1
  clear hm hp hF hq hk hn hn3 hc hA hB hD hw1
  obtain ⟨mk, hmk⟩ : ∃ mk, (drG dS0 dR0 (S.beginS 2) c).2 = mk := ⟨_, rfl⟩
  obtain ⟨Sd, hSd⟩ : ∃ Sd, (drG dS0 dR0 (S.beginS 2) c).1 = Sd := ⟨_, rfl⟩
  rw [hmk] at HDR HC HU HEN HR HU0 HS0
  rw [hSd] at HDR HC HU HEN HR HU0 HS0 HNB
  clear hmk hSd
  obtain ⟨rg, hrg⟩ : ∃ rg : Nat → Int, ∀ j, (cvG dS0 dR0 c j mk (nwG dS0 dR0 c mk A Sd j).1 (A j) 3).2 = rg j := ⟨_, fun _ => rfl⟩
  simp only [hrg] at HC HU
  clear hrg
  obtain ⟨St, hSt⟩ : ∃ St : Nat → Ms, ∀ j, (nwG dS0 dR0 c mk A Sd j).1 = St j := ⟨_, fun _ => rfl⟩
  obtain ⟨U, hU⟩ : ∃ U : Nat → Nat → Int, ∀ j, (nwG dS0 dR0 c mk A Sd j).2 = U j := ⟨_, fun _ => rfl⟩
  simp only [hSt, hU] at HC HU HEN HR HU0 HS0
  clear hSt hU
  rw [← HR.out]
  generalize anS n c A S = S3 at *
  clear HR
  generalize S.beginS 2 = S2 at *
  go_enter Tryd.func45, Tryd.ntmps45
  go_upto_region 1 with fail
  rw [HW.out]
  have H2 := hid (H1.out.new hM (wdV none3) 34)
  go_upto_region 2 with fail
  obtain ⟨g7, hg7⟩ : ∃ g7, w1.heap.size = g7 := ⟨_, rfl⟩
  rw [hg7] at H2
  have H3 : Hid (Ow Pm F w (w1.alloc (.cells #[.int .i64 (-1), .int .i64 (-1), .int .i64 (-1)] 34)) b S [(g7, .cells (wdV none3) 34 (0, 0)), (w.heap.size + 1, Obj.cells #[.int .i64 0, .int .i64 0, .int .i64 0] 34 (0, 0)), (w.heap.size, Obj.cells (wdV A) 34 (0, 0))]) := H2
  generalize w1.alloc (.cells #[.int .i64 (-1), .int .i64 (-1), .int .i64 (-1)] 34) = w3 at *
  rw [hg7]
  clear hg7 H2 H1
  go_upto_region 3 with (go_at_call 53; (with_reducible refine (HBG.out _ _ H3.out).mono ?_); rintro e w4 ⟨rfl, hb⟩; have H4 := hid hb; clear hb)
  go_upto_region 4 with (first
    | (go_at_call 54; (with_reducible refine (HDR.out _ _ H4.out).mono ?_); rintro e w5 ⟨rfl, hb⟩; have H5 := hid hb; clear hb)
    | fail)
  have H6 := hid (H5.out.new hM (wdV mk) 32)
  obtain ⟨g8, hg8⟩ : ∃ g8, w5.heap.size = g8 := ⟨_, rfl⟩
  rw [hg8] at H6
  generalize w5.alloc (.cells #[.int .i64 (mk 0), .int .i64 (mk 1), .int .i64 (mk 2)] 32) = w6 at *
  rw [hg8]
  clear hg8 H5 H4 H3
  rw [← HS0.out, ← HU0.out] at H6
  rw [← HS0.out] at HNB
  go_wp2_with (go_at_call 40; (with_reducible refine (HNB.out _ _ H6.out).mono ?_); rintro e w7 ⟨rfl, hb⟩; have H7 := hid (H6.out.self hM hb); clear hb)
  go_loopw [19] (fun iv wr => ∃ j : Nat, j ≤ n ∧ iv = .int .i64 j ∧ Ow Pm F w wr b (St j) ((g7, .cells (wdV (U j)) 34 (0, 0)) :: (g8, .cells (wdV mk) 32 (0, 0)) :: (w.heap.size + 1, .cells #[.int .i64 0, .int .i64 0, .int .i64 0] 34 (0, 0)) :: (w.heap.size, .cells (wdV A) 34 (0, 0)) :: [])) (fun iv _ => n - (intOf iv).toNat)
  case atStart => exact ⟨0, by omega, rfl, H7.out.swap⟩
  case round =>
    clear H7 H6
    obtain ⟨j, hj, rfl, hI⟩ := hrel
    have HI := hid hI
    clear hI
    have hn3 := HN3.out
    by_cases hlt : j < n
    · have j1 : (j : Int) < (n : Int) := by omega
      have j0 : (0 : Int) ≤ (j : Int) := by omega
      have j3 : (j : Int) < 3 := by omega
      have HJ3 : Hid (j < 3) := hid (by omega)
      have HCJ := hid (fun bs' w' h' => HC.out j bs' w' hlt h')
      have HER : Hid ((wdV (U j)).setIfInBounds j (.int .i64 (rg j)) = wdV (U (j + 1))) := hid (by rw [wdV_upd _ j _ (by omega), HU.out j])
      go_upto_region 7 with fail
      have G0 := hid (HI.out.self hM ((Below.refl _ wr).drew))
      refine wp_region_noPanic ?_
      refine wp_region_held_drew (S := fun w' => w'.heap[w.heap.size]? = some (.cells (wdV A) 34 (0, 0)) ∧ w'.heap[g8]? = some (.cells (wdV mk) 32 (0, 0))) (by kernel_rfl) (⟨G0.out.bl 3 rfl, G0.out.bl 1 rfl⟩) (fun h0 => ?_)
      generalize wr.drew = y0 at *
      refine wpAnyH_take (i := 0) (v := .int .i64 (j : Int)) rfl (by kernel_rfl) (by kernel_rfl) (by kernel_rfl) (fun _ _ _ h => h) (.inl ⟨by rfl, fun w hw => by clear hw; go_simp⟩) h0 ?_
      try simp only [Act.put, lay_out]
      refine wpAnyH_take (i := 1) (v := .pointer (some ⟨b, 0, none⟩)) rfl (by kernel_rfl) (by kernel_rfl) (by kernel_rfl) (fun _ _ _ h => h) (.inl ⟨by rfl, fun w hw => by clear hw; go_simp⟩) h0 ?_
      try simp only [Act.put, lay_out]
      refine wpAnyH_take (i := 2) (v := .int .i64 (j : Int)) rfl (by kernel_rfl) (by kernel_rfl) (by kernel_rfl) (fun _ _ _ h => h) (.inl ⟨by rfl, fun w hw => by clear hw; go_simp⟩) h0 ?_
      try simp only [Act.put, lay_out]
      refine wpAnyH_take (i := 3) (v := .int .i64 (j : Int)) rfl (by kernel_rfl) (by kernel_rfl) (by kernel_rfl) (fun _ _ _ h => h) (.inl ⟨by rfl, fun w hw => by clear hw; go_simp⟩) h0 ?_
      try simp only [Act.put, lay_out]
      refine wpAnyH_take (i := 4) (v := .pointer (some ⟨w.heap.size, 0, none⟩)) rfl (by kernel_rfl) (by kernel_rfl) (by kernel_rfl) (fun _ _ _ h => h) (.inl ⟨by rfl, fun w hw => by clear hw; go_simp⟩) h0 ?_
      try simp only [Act.put, lay_out]
      refine wpAnyH_take (i := 5) (v := .pointer (some ⟨w.heap.size, j, none⟩)) rfl (by kernel_rfl) (by kernel_rfl) (by kernel_rfl) (fun _ _ _ h => h) (.inl ⟨by rfl, fun w hw => by clear hw; go_simp⟩) h0 ?_
      try simp only [Act.put, lay_out]
      refine wpAnyH_take (i := 6) (v := .int .i64 (A j)) rfl (by kernel_rfl) (by kernel_rfl) (by kernel_rfl) (fun _ _ _ h => h) (.inl ⟨by rfl, fun w' hw => by have hc := row_c (i := j) (u := .int .i64 (A j)) hw.1 (wdV_at A j HJ3.out); clear hw; go_simp⟩) h0 ?_
      try simp only [Act.put, lay_out]
      refine wpAnyH_take (i := 7) (v := .agg (wdV mk)) rfl (by kernel_rfl) (by kernel_rfl) (by kernel_rfl) (fun _ _ _ h => h) (yields_load_row (by rfl) 32 _ rfl g8 32 (wdV mk) _ rfl (fun w h => h.2) Tryd.underlying32 rfl (by kernel_rfl)) h0 ?_
      try simp only [Act.put, lay_out]
      refine wpAnyH_take (i := 8) (v := .int .i64 (c : Int)) rfl (by kernel_rfl) (by kernel_rfl) (by kernel_rfl) (fun _ _ _ h => h) (.inl ⟨by rfl, fun w hw => by clear hw; go_simp⟩) h0 ?_
      try simp only [Act.put, lay_out]
      refine wpAnyH_take (i := 10) (v := .pointer (some ⟨g7, 0, none⟩)) rfl (by kernel_rfl) (by kernel_rfl) (by kernel_rfl) (fun _ _ _ h => h) (.inl ⟨by rfl, fun w hw => by clear hw; go_simp⟩) h0 ?_
      try simp only [Act.put, lay_out]
      refine wpAnyH_ready (rs := [9]) (by kernel_rfl) (by simp) (AllReadyH.cons rfl (fun K hK => ?_) AllReadyH.nil)
      rw [if_pos (by rfl)]
      go_simp
      go_at_call 55
      (with_reducible refine (HCJ.out _ _ G0.out).mono ?_); rintro e y2 ⟨rfl, hp⟩
      have G1 := hid hp
      clear hp
      refine hK.out _ _ (⟨G1.out.bl 3 rfl, G1.out.bl 1 rfl⟩) (fun h1x => ?_)
      clear hK K
      try simp only [Act.put, lay_out]
      refine wpAnyH_take (i := 11) (v := .pointer (some ⟨g7, j, none⟩)) rfl (by kernel_rfl) (by kernel_rfl) (by kernel_rfl) (fun _ _ _ h => h) (.inl ⟨by rfl, fun w hw => by clear hw; go_simp⟩) h1x ?_
      try simp only [Act.put, lay_out]
      have cj := row_c (i := j) (G1.out.bl 0 rfl) (wdV_at (U j) j HJ3.out)
      have fj := frozen_of_row y2 g7 j _ _ (G1.out.bl 0 rfl)
      refine wpAnyH_ready (rs := [12]) (by kernel_rfl) (by simp) (AllReadyH.cons rfl (fun K hK => ?_) AllReadyH.nil)
      rw [if_pos (by rfl)]
      go_simp
      have G2 := hid (G1.out.cell hM j (.int .i64 (rg j)))
      rw [HER.out] at G2
      generalize y2.setCell ⟨g7, j, none⟩ (.int .i64 (rg j)) = y3 at *
      refine hK.out _ _ (⟨G2.out.bl 3 rfl, G2.out.bl 1 rfl⟩) (fun h2x => ?_)
      clear hK K
      try simp only [Act.put, lay_out]
      refine wpAnyH_done (by kernel_rfl) ?_ _
      refine NoPanic.normal ?_
      clear h0 h1x h2x
      try simp only [Act.put, lay_out]
      go_wp2
      go_roundw
      case rel => exact ⟨j + 1, by omega, by go_num, G2.out⟩
      case measure => simp [intOf]; omega
    · obtain rfl : j = n := by omega
      clear hlt
      go_upto_region 10 with (go_at_call 56; (with_reducible refine (HEN.out _ _ HI.out).mono ?_); rintro e w8 ⟨rfl, hb⟩; have H8 := hid hb; clear hb)
      go_wp2_with (first
        | (refine step_load_row rfl 34 _ rfl g7 34 (wdV (U j)) _ rfl (H8.out.bl 0 rfl) Tryd.underlying34 rfl (by kernel_rfl) ?_)
        | (refine step_store_row rfl 34 _ _ rfl (w.heap.size + 1) 34 _ (wdV (U j)) rfl rfl (H8.out.bl 2 rfl) (by kernel_rfl) rfl (by kernel_rfl) ?_))
      have H9 := hid (H8.out.drop.swap.row hM (wdV (U j)))
      exact bodyPost_ret (results_cell_row (by rfl) _ _ (w.heap.size + 1) 34 (wdV (U j)) (0, 0) _ rfl (H9.out.bl 0 rfl) Tryd.underlying34 rfl (by kernel_rfl)) rfl ⟨rfl, H9.out.fin⟩
set_option maxHeartbeats 3200000 in
theorem ffull2_any {Pm : World → Nat → Ms → (Nat → Prop) → Prop} (hM : Mach Pm) (b k : Nat) (S : Ms) (F : Nat → Prop) (A : Nat → Int) (w : World) (hm : Pm w b S F) (hp : Pv w) (hF : ¬ F gpair) (hq : Bq k S) (hk : k + 20 ≤ 100000) (hn : S.n = 2) (hA : Wb A) :
    Calls Tryd.prog 39 #[.pointer (some ⟨b, 0, none⟩), .agg (wdV A)] w fun e w' => e = .returned (.agg (wdV (anR 2 1 A S))) ∧ PmR Pm b (anS 2 1 A S) F w w' := by
  have HNB : Hid (∀ (bs : List (Nat × Obj)) (w' : World), Ow Pm F w w' b S bs → Calls Tryd.prog 40 #[.pointer (some ⟨b, 0, none⟩)] w' fun e w2 => e = .returned (.int .i64 2) ∧ Below w'.heap.size w' w2) := hid (fun bs w' h' => h'.asks (fun F' hF' => by have := hM.n b k S F' w' hF' hq (by omega); rw [hn] at this; exact this))
  have HFD : Hid (∀ w', Calls Tryd.prog 46 #[.int .i64 2] w' fun e w2 => e = .returned (.int .i64 1) ∧ w2 = w') := hid (fun w' => fdraws_any 2 w')
  have HAN : Hid (∀ (bs : List (Nat × Obj)) (w' : World), Ow Pm F w w' b S bs → Calls Tryd.prog 45 #[.pointer (some ⟨b, 0, none⟩), .agg (wdV A), .int .i64 1] w' fun e w2 => e = .returned (.agg (wdV (anR 2 1 A S))) ∧ Ow Pm F w w2 b (anS 2 1 A S) bs) := hid (fun bs w' h' => by
    exact h'.liftF (fun F2 hF2 hF3 => anew_any hM b k 2 1 S F2 A w' hF2 (hp.ow hF h') (fun e => (hF3 _ e).elim hF (fun l => by have := hp.1; omega)) hq hk hn (by decide) (by decide) hA))
  obtain ⟨w1, hw1⟩ : ∃ w1, (w.alloc (.cells (wdV A) 34)).alloc (.cells #[.int .i64 0, .int .i64 0, .int .i64 0] 34) = w1 := ⟨_, rfl⟩
  have H1 : Hid (Ow Pm F w w1 b S [(w.heap.size + 1, Obj.cells #[.int .i64 0, .int .i64 0, .int .i64 0] 34 (0, 0)), (w.heap.size, Obj.cells (wdV A) 34 (0, 0))]) := hid (by
    have := ((Ow.start hm).new hM (wdV A) 34).new hM #[.int .i64 0, .int .i64 0, .int .i64 0] 34
    rw [hw1] at this
    simp only [sz_al] at this
    exact this)
  have G0 := hid (H1.out.self hM ((Below.refl _ w1).drew))
  have HW := hid hw1
  clear hm hp hF hq hk hn hA hw1
  generalize anR 2 1 A S = R at *
  generalize anS 2 1 A S = S1 at *
  go_enter Tryd.func39, Tryd.ntmps39
  go_upto_region 1 with fail
  rw [HW.out]
  refine wp_region_noPanic ?_
  refine wp_region_held_drew (S := fun w' => w'.heap[w.heap.size]? = some (.cells (wdV A) 34 (0, 0))) (by kernel_rfl) (G0.out.bl 1 rfl) (fun h0 => ?_)
  generalize w1.drew = y1 at *
  refine wpAnyH_take (i := 0) (v := .pointer (some ⟨b, 0, none⟩)) rfl (by kernel_rfl) (by kernel_rfl) (by kernel_rfl) (fun _ _ _ h => h) (.inl ⟨by rfl, fun w hw => by clear hw; go_simp⟩) h0 ?_
  try simp only [Act.put, lay_out]
  refine wpAnyH_take (i := 1) (v := .agg (wdV A)) rfl (by kernel_rfl) (by kernel_rfl) (by kernel_rfl) (fun _ _ _ h => h) (yields_load_row (by rfl) 34 _ rfl w.heap.size 34 (wdV A) _ rfl (fun w h => h) Tryd.underlying34 rfl (by kernel_rfl)) h0 ?_
  try simp only [Act.put, lay_out]
  refine wpAnyH_take (i := 2) (v := .pointer (some ⟨b, 0, none⟩)) rfl (by kernel_rfl) (by kernel_rfl) (by kernel_rfl) (fun _ _ _ h => h) (.inl ⟨by rfl, fun w hw => by clear hw; go_simp⟩) h0 ?_
  try simp only [Act.put, lay_out]
  refine wpAnyH_ready (rs := [3]) (by kernel_rfl) (by simp) (AllReadyH.cons rfl (fun K hK => ?_) AllReadyH.nil)
  rw [if_pos (by rfl)]
  go_simp
  go_at_call 40
  (with_reducible refine (HNB.out _ _ G0.out).mono ?_); rintro e y2 ⟨rfl, hb⟩
  have G1 := hid (G0.out.self hM hb)
  clear hb
  refine hK.out _ _ (G1.out.bl 1 rfl) (fun h1x => ?_)
  clear hK K
  try simp only [Act.put, lay_out]
  refine wpAnyH_ready (rs := [4]) (by kernel_rfl) (by simp) (AllReadyH.cons rfl (fun K hK => ?_) AllReadyH.nil)
  rw [if_pos (by rfl)]
  go_simp
  go_at_call 46
  (with_reducible refine (HFD.out _).mono ?_); rintro e y3 ⟨rfl, rfl⟩
  have G2 := G1
  refine hK.out _ _ (G2.out.bl 1 rfl) (fun h2x => ?_)
  clear hK K
  try simp only [Act.put, lay_out]
  refine wpAnyH_ready (rs := [5]) (by kernel_rfl) (by simp) (AllReadyH.cons rfl (fun K hK => ?_) AllReadyH.nil)
  rw [if_pos (by rfl)]
  go_simp
  go_at_call 45
  (with_reducible refine (HAN.out _ _ G2.out).mono ?_); rintro e y4 ⟨rfl, hp⟩
  have G3 := hid hp
  clear hp
  refine hK.out _ _ (G3.out.bl 1 rfl) (fun h3x => ?_)
  clear hK K
  try simp only [Act.put, lay_out]
  refine wpAnyH_ready (rs := [6]) (by kernel_rfl) (by simp) (AllReadyH.cons rfl (fun K hK => ?_) AllReadyH.nil)
  rw [if_pos (by rfl)]
  refine wp_store_row 34 _ _ rfl (w.heap.size + 1) (wdV R) rfl rfl 34 _ (G3.out.bl 0 rfl) (by kernel_rfl) rfl (by kernel_rfl) ?_
  have G4 := hid (G3.out.row hM (wdV R))
  generalize y4.setRow (w.heap.size + 1) (wdV R) = y5 at *
  refine hK.out _ _ (G4.out.bl 1 rfl) (fun h4x => ?_)
  clear hK K
  try simp only [Act.put, lay_out]
  refine wpAnyH_done (by kernel_rfl) ?_ _
  refine NoPanic.normal ?_
  clear h0 h1x h2x h3x h4x
  try simp only [Act.put, lay_out]
  go_wp2
  exact bodyPost_ret (results_cell_row (by rfl) _ _ (w.heap.size + 1) 34 (wdV R) (0, 0) _ rfl (G4.out.bl 0 rfl) Tryd.underlying34 rfl (by kernel_rfl)) rfl ⟨rfl, G4.out.fin⟩
set_option maxHeartbeats 3200000 in
theorem ffull3_any {Pm : World → Nat → Ms → (Nat → Prop) → Prop} (hM : Mach Pm) (b k : Nat) (S : Ms) (F : Nat → Prop) (A : Nat → Int) (w : World) (hm : Pm w b S F) (hp : Pv w) (hF : ¬ F gpair) (hq : Bq k S) (hk : k + 20 ≤ 100000) (hn : S.n = 3) (hA : Wb A) :
    Calls Tryd.prog 39 #[.pointer (some ⟨b, 0, none⟩), .agg (wdV A)] w fun e w' => e = .returned (.agg (wdV (anR 3 3 A S))) ∧ PmR Pm b (anS 3 3 A S) F w w' := by
  have HNB : Hid (∀ (bs : List (Nat × Obj)) (w' : World), Ow Pm F w w' b S bs → Calls Tryd.prog 40 #[.pointer (some ⟨b, 0, none⟩)] w' fun e w2 => e = .returned (.int .i64 3) ∧ Below w'.heap.size w' w2) := hid (fun bs w' h' => h'.asks (fun F' hF' => by have := hM.n b k S F' w' hF' hq (by omega); rw [hn] at this; exact this))
  have HFD : Hid (∀ w', Calls Tryd.prog 46 #[.int .i64 3] w' fun e w2 => e = .returned (.int .i64 3) ∧ w2 = w') := hid (fun w' => fdraws_any 3 w')
  have HAN : Hid (∀ (bs : List (Nat × Obj)) (w' : World), Ow Pm F w w' b S bs → Calls Tryd.prog 45 #[.pointer (some ⟨b, 0, none⟩), .agg (wdV A), .int .i64 3] w' fun e w2 => e = .returned (.agg (wdV (anR 3 3 A S))) ∧ Ow Pm F w w2 b (anS 3 3 A S) bs) := hid (fun bs w' h' => by
    exact h'.liftF (fun F2 hF2 hF3 => anew_any hM b k 3 3 S F2 A w' hF2 (hp.ow hF h') (fun e => (hF3 _ e).elim hF (fun l => by have := hp.1; omega)) hq hk hn (by decide) (by decide) hA))
  obtain ⟨w1, hw1⟩ : ∃ w1, (w.alloc (.cells (wdV A) 34)).alloc (.cells #[.int .i64 0, .int .i64 0, .int .i64 0] 34) = w1 := ⟨_, rfl⟩
  have H1 : Hid (Ow Pm F w w1 b S [(w.heap.size + 1, Obj.cells #[.int .i64 0, .int .i64 0, .int .i64 0] 34 (0, 0)), (w.heap.size, Obj.cells (wdV A) 34 (0, 0))]) := hid (by
    have := ((Ow.start hm).new hM (wdV A) 34).new hM #[.int .i64 0, .int .i64 0, .int .i64 0] 34
    rw [hw1] at this
    simp only [sz_al] at this
    exact this)
  have G0 := hid (H1.out.self hM ((Below.refl _ w1).drew))
  have HW := hid hw1
  clear hm hp hF hq hk hn hA hw1
  generalize anR 3 3 A S = R at *
  generalize anS 3 3 A S = S1 at *
  go_enter Tryd.func39, Tryd.ntmps39
  go_upto_region 1 with fail
  rw [HW.out]
  refine wp_region_noPanic ?_
  refine wp_region_held_drew (S := fun w' => w'.heap[w.heap.size]? = some (.cells (wdV A) 34 (0, 0))) (by kernel_rfl) (G0.out.bl 1 rfl) (fun h0 => ?_)
  generalize w1.drew = y1 at *
  refine wpAnyH_take (i := 0) (v := .pointer (some ⟨b, 0, none⟩)) rfl (by kernel_rfl) (by kernel_rfl) (by kernel_rfl) (fun _ _ _ h => h) (.inl ⟨by rfl, fun w hw => by clear hw; go_simp⟩) h0 ?_
  try simp only [Act.put, lay_out]
  refine wpAnyH_take (i := 1) (v := .agg (wdV A)) rfl (by kernel_rfl) (by kernel_rfl) (by kernel_rfl) (fun _ _ _ h => h) (yields_load_row (by rfl) 34 _ rfl w.heap.size 34 (wdV A) _ rfl (fun w h => h) Tryd.underlying34 rfl (by kernel_rfl)) h0 ?_
  try simp only [Act.put, lay_out]
  refine wpAnyH_take (i := 2) (v := .pointer (some ⟨b, 0, none⟩)) rfl (by kernel_rfl) (by kernel_rfl) (by kernel_rfl) (fun _ _ _ h => h) (.inl ⟨by rfl, fun w hw => by clear hw; go_simp⟩) h0 ?_
  try simp only [Act.put, lay_out]
  refine wpAnyH_ready (rs := [3]) (by kernel_rfl) (by simp) (AllReadyH.cons rfl (fun K hK => ?_) AllReadyH.nil)
  rw [if_pos (by rfl)]
  go_simp
  go_at_call 40
  (with_reducible refine (HNB.out _ _ G0.out).mono ?_); rintro e y2 ⟨rfl, hb⟩
  have G1 := hid (G0.out.self hM hb)
  clear hb
  refine hK.out _ _ (G1.out.bl 1 rfl) (fun h1x => ?_)
  clear hK K
  try simp only [Act.put, lay_out]
  refine wpAnyH_ready (rs := [4]) (by kernel_rfl) (by simp) (AllReadyH.cons rfl (fun K hK => ?_) AllReadyH.nil)
  rw [if_pos (by rfl)]
  go_simp
  go_at_call 46
  (with_reducible refine (HFD.out _).mono ?_); rintro e y3 ⟨rfl, rfl⟩
  have G2 := G1
  refine hK.out _ _ (G2.out.bl 1 rfl) (fun h2x => ?_)
  clear hK K
  try simp only [Act.put, lay_out]
  refine wpAnyH_ready (rs := [5]) (by kernel_rfl) (by simp) (AllReadyH.cons rfl (fun K hK => ?_) AllReadyH.nil)
  rw [if_pos (by rfl)]
  go_simp
  go_at_call 45
  (with_reducible refine (HAN.out _ _ G2.out).mono ?_); rintro e y4 ⟨rfl, hp⟩
  have G3 := hid hp
  clear hp
  refine hK.out _ _ (G3.out.bl 1 rfl) (fun h3x => ?_)
  clear hK K
  try simp only [Act.put, lay_out]
  refine wpAnyH_ready (rs := [6]) (by kernel_rfl) (by simp) (AllReadyH.cons rfl (fun K hK => ?_) AllReadyH.nil)
  rw [if_pos (by rfl)]
  refine wp_store_row 34 _ _ rfl (w.heap.size + 1) (wdV R) rfl rfl 34 _ (G3.out.bl 0 rfl) (by kernel_rfl) rfl (by kernel_rfl) ?_
  have G4 := hid (G3.out.row hM (wdV R))
  generalize y4.setRow (w.heap.size + 1) (wdV R) = y5 at *
  refine hK.out _ _ (G4.out.bl 1 rfl) (fun h4x => ?_)
  clear hK K
  try simp only [Act.put, lay_out]
  refine wpAnyH_done (by kernel_rfl) ?_ _
  refine NoPanic.normal ?_
  clear h0 h1x h2x h3x h4x
  try simp only [Act.put, lay_out]
  go_wp2
  exact bodyPost_ret (results_cell_row (by rfl) _ _ (w.heap.size + 1) 34 (wdV R) (0, 0) _ rfl (G4.out.bl 0 rfl) Tryd.underlying34 rfl (by kernel_rfl)) rfl ⟨rfl, G4.out.fin⟩
theorem wdV_eq {A B : Nat → Int} (h : ∀ i, i < 3 → A i = B i) : wdV A = wdV B := by
  show #[_, _, _] = #[_, _, _]
  rw [h 0 (by omega), h 1 (by omega), h 2 (by omega)]
theorem ffull_any {Pm : World → Nat → Ms → (Nat → Prop) → Prop} (hM : Mach Pm) (b k : Nat) (S : Ms) (F : Nat → Prop) (A : Nat → Int) (w : World) (hm : Pm w b S F) (hp : Pv w) (hF : ¬ F gpair) (hq : Bq k S) (hk : k + 20 ≤ 100000) (hn : S.n = 2 ∨ S.n = 3) (hA : Wb A) :
    Calls Tryd.prog 39 #[.pointer (some ⟨b, 0, none⟩), .agg (wdV A)] w fun e w' => e = .returned (.agg (wdV (frR S false A))) ∧ PmR Pm b (frS S false A) F w w' := by
  obtain ⟨e1, e2⟩ := an_fr (sm := false) (A := A) hn
  rw [← e1, ← wdV_eq e2]
  rcases hn with e | e
  · rw [show S.sh = 2 by unfold Ms.sh; omega, show frC S.n false = 1 by unfold frC; rw [if_neg (by omega)]]
    exact ffull2_any hM b k S F A w hm hp hF hq hk e hA
  · rw [show S.sh = 3 by unfold Ms.sh; omega, show frC S.n false = 3 by unfold frC; rw [if_pos e]; rfl]
    exact ffull3_any hM b k S F A w hm hp hF hq hk e hA
end Go.Proofs.YthkijncnndoafaaDoor
