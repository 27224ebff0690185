import Derived.Test.YtpjgpiieminaoaaGreatDoorGun
import Derived.Test.YtpjgpiieminaoaaGreatDoorObw
import Derived.Deep.CutBlock
/- Guard: GuardTells, over any machine. -/
namespace Go.Proofs.YtpjgpiieminaoaaGreatDoor
open Go.RowKit Go.Deep
set_option maxRecDepth 100000
/-- What is asked for. -/
def asG (T : Bool) (Kd z : Int) (x : Nat → Nat) (my : Nat) (mv : Value) : Array Value := #[.bool T, .int .i64 Kd, .int .i64 z, .int .u64 (x 0 : Int), .int .u64 (x 1 : Int), .int .u64 (x 2 : Int), .int .u64 (x 3 : Int), .int .u64 (x 4 : Int), .int .u64 (x 5 : Int), .int .u64 (x 6 : Int), .int .u64 (x 7 : Int), .int .u8 (my : Int), mv]
theorem asG_x (T : Bool) (Kd z : Int) (x : Nat → Nat) (my : Nat) (mv : Value) {i : Nat} (h : i < 8) : (asG T Kd z x my mv)[3 + i]? = some (.int .u64 (x i : Int)) := by
  rcases (by omega : i = 0 ∨ i = 1 ∨ i = 2 ∨ i = 3 ∨ i = 4 ∨ i = 5 ∨ i = 6 ∨ i = 7) with rfl | rfl | rfl | rfl | rfl | rfl | rfl | rfl <;> rfl
theorem gr_there {w : World} {g i : Nat} {f : Nat → Int} (h : w.heap[g]? = some (.cells (iz 24 f) 39 (0, 0))) (hi : i < 8) : w.there g (i * 3) 3 := fun j hj => ⟨by rw [row_c (i := i * 3 + j) h (iz_get f (by omega))]; rfl, frozen_of_row w g (i * 3 + j) _ _ h⟩
theorem gr_set {w : World} {g i : Nat} {f R : Nat → Int} (h : w.heap[g]? = some (.cells (iz 24 f) 39 (0, 0))) (hi : i < 8) : (w.setCells g (i * 3) (wdV R).toList).heap[g]? = some (.cells (iz 24 (updW f i R)) 39 (0, 0)) := by
  rw [setCells_row g 39 (0, 0) (wdV R).toList (i * 3) w _ h (by rw [iz_size]; show i * 3 + 3 ≤ 24; omega)]
  rcases (by omega : i = 0 ∨ i = 1 ∨ i = 2 ∨ i = 3 ∨ i = 4 ∨ i = 5 ∨ i = 6 ∨ i = 7) with rfl | rfl | rfl | rfl | rfl | rfl | rfl | rfl <;> rfl
theorem gr_cell {w : World} {g c : Nat} {S : Ms} {x : Nat → Nat} (h : w.heap[g]? = some (.cells (iz 24 (auF S x 8)) 39 (0, 0))) (hc : c < 8) : ∀ d, d < 3 → w.cell? ⟨g, c * 3 + d, none⟩ = some (.int .i64 (lyR S x c d)) := fun d hd => by
  rw [row_c (i := c * 3 + d) h (iz_get _ (by omega)), auF_at S x hc hd]
theorem built_w24 : Tryz.prog.built 39 [] = some #[.int .i64 0, .int .i64 0, .int .i64 0, .int .i64 0, .int .i64 0, .int .i64 0, .int .i64 0, .int .i64 0, .int .i64 0, .int .i64 0, .int .i64 0, .int .i64 0, .int .i64 0, .int .i64 0, .int .i64 0, .int .i64 0, .int .i64 0, .int .i64 0, .int .i64 0, .int .i64 0, .int .i64 0, .int .i64 0, .int .i64 0, .int .i64 0] := by kernel_rfl
theorem step_build_w24 {w : World} {ops : Array Oper} {rest : List Oper} {o : Oper} {a : Act} {Q : Exit → Act → World → Prop} (hgd : o.guard = none) (ho : o.op = .build 39 #[]) (k : wpList Tryz.prog ops Q rest (a.put o.dst (.agg #[.int .i64 0, .int .i64 0, .int .i64 0, .int .i64 0, .int .i64 0, .int .i64 0, .int .i64 0, .int .i64 0, .int .i64 0, .int .i64 0, .int .i64 0, .int .i64 0, .int .i64 0, .int .i64 0, .int .i64 0, .int .i64 0, .int .i64 0, .int .i64 0, .int .i64 0, .int .i64 0, .int .i64 0, .int .i64 0, .int .i64 0, .int .i64 0])) w) : wpList Tryz.prog ops Q (o :: rest) a w := by
  have e : ((#[] : Array (Nat × Operand)).map fun (i, x) => (i, a.eval x)).toList = [] := by simp
  refine wpList_build hgd 39 #[] ho (by rw [e, built_w24]; rfl) ?_
  rw [e, built_w24]
  exact k
theorem gr_cut {w : World} {g mm : Nat} (h : mm ≤ 8) : (Instr.sliceAt 39 (.pointer (some ⟨g, 0, none⟩)) none (some (.int .i64 (mm : Int))) none).run Tryz.prog w = .ok (.slice (some ⟨g, 0, none⟩) mm 8) w := by
  have hl : Tryz.prog.arrayLen 39 = 8 := by kernel_rfl
  have ht : Tryz.prog.underlying 39 = some (.array (Tryz.prog.arrayLen 39) (Tryz.prog.elem 39)) := by kernel_rfl
  have hs : (sizeOf (Tryz.prog.elem 39)).run Tryz.prog w = .ok 3 w := by rfl
  have := run_sliceAt_array_h (P := Tryz.prog) w 39 ⟨g, 0, none⟩ ht .i64 (mm : Int) (by omega) (by rw [hl]; omega)
  rw [hs, hl] at this
  rw [this]
  have e : (Int.toNat (mm : Int)) = mm := rfl
  simp only [Result.andThen, slicedAt, e]
  congr 2
def tp6 (n : Nat) (tw : Nat → Nat) (TN : Nat) : Ms := startD (n : Int) 600 tw TN 0 TN
theorem tp6_bq {n : Nat} (hn : n = 2 ∨ n = 3) {tw : Nat → Nat} {TN : Nat} (htw : ∀ i, i < TN → tw i < 2 ^ 64) (hTN : TN ≤ 17592186043904) : Bq 0 (tp6 n tw TN) := startD_bq (n : Int) 600 tw TN 0 TN 0 (by omega) (by decide) (by decide) (by omega) htw (by omega) (Nat.le_refl _)
set_option maxHeartbeats 25600000 in
theorem gtells_core {Pm : World → Nat → Ms → (Nat → Prop) → Prop} (hM : Mach Pm) (hN : MachN Pm) (hG : GdI Pm) (T : Bool) (nn : Nat) (hT : T = false ∧ nn = 2 ∨ T = true ∧ nn = 3) (Kd z : Int) (hz0 : I64 z) (x : Nat → Nat) (hx : ∀ i, x i < 2 ^ 64) (my : Nat) (hmy : my < 256) (mv : Value) (tw : Nat → Nat) (TN : Nat) (W : World)
    (hR : RdS .u64 W (fun g => g < W.heap.size) mv (wdL tw TN)) (htw : ∀ i, i < TN → tw i < 2 ^ 64) (hTN : TN ≤ 17592186043904) (hp : Pv W) :
    Calls Tryz.prog 3 #[.agg (asG T Kd z x my mv)] W fun e w' => e = .returned (.bool true) ∧ Below W.heap.size W w' := by
  obtain ⟨ma, mc, rfl, hm0⟩ := id hR
  have hnn : nn = 2 ∨ nn = 3 := hT.elim (fun e => .inl e.2) (fun e => .inr e.2)
  have HTT := hid hT
  have hlen := wdL_len tw TN
  have HBG : Hid (∀ wx : World, Below W.heap.size W wx → Calls Tryz.prog 4 #[.int .i64 (nn : Int), .slice ma TN mc, .int .i64 600] wx fun e w' => ∃ p b, e = .returned (.tuple #[.agg (paC p b (.slice none 0 0) (.slice none 0 0)), .bool true]) ∧ Bz Pm wx.heap.size (fun _ => False) wx w' p b (tp6 nn tw TN) (tp6 nn tw TN)) := hid (fun wx hb => by
    have := lbegins_any hM hN ((nn : Nat) : Int) 600 (by omega) (by decide) (by decide) tw TN _ wx ((hR.below hb).imp (T := fun g => g < wx.heap.size) (fun g h _ => Nat.lt_of_lt_of_le h hb.size))
    rw [hlen] at this
    exact this)
  rw [hlen]
  have hb0 := tp6_bq (n := nn) hnn htw hTN
  have hn0 : (tp6 nn tw TN).n = 2 ∨ (tp6 nn tw TN).n = 3 := by show (nn : Int) = 2 ∨ (nn : Int) = 3; omega
  have hW0 : Wt (tp6 nn tw TN) := ⟨rfl, rfl, hn0⟩
  obtain ⟨mm, hmm⟩ : ∃ mm, my % 9 = mm := ⟨_, rfl⟩
  have hm8 : mm ≤ 8 := by omega
  have HMM := hid hmm
  have HM8 := hid hm8
  have HMY := hid hmy
  obtain ⟨hl1, hl2, hl3⟩ := lu_laid hb0 hn0 hx
  have hl0 : Wb (lyR (tp6 nn tw TN) x 0) := by have := hl3 0; rwa [luV_at (tp6 nn tw TN) x (by decide)] at this
  have hld : (lyS (tp6 nn tw TN) x 8).dry = false := lu_dry rfl
  have HB4 := hid (gt_bq (Kd := Kd) (z := z) hb0 hn0 hx hm8)
  have HY4 : Hid ((gtS Kd z mm (tp6 nn tw TN) x).dry = false) := hid (gt_dry rfl)
  have HYES := hid (lu_yes hW0 hb0 hx)
  have HAW := hid (fun (w : World) (h : Below W.heap.size W w) => gawake_any hM hN hG w (hp.self h))
  have hlow := (Below.refl W.heap.size W).alloc (Nat.le_refl _) (.cells (asG T Kd z x my (.slice ma TN mc)) 26)
  obtain ⟨w1, hw1⟩ : ∃ w1, W.alloc (.cells (asG T Kd z x my (.slice ma TN mc)) 26) = w1 := ⟨_, rfl⟩
  rw [hw1] at hlow
  have HWJ := hid hlow
  have HLX0 : Hid (∀ wx, Below w1.heap.size w1 wx → wx.heap[W.heap.size]? = some (.cells (asG T Kd z x my (.slice ma TN mc)) 26 (0, 0))) := hid (fun wx hb => by
    have h0 : w1.heap[W.heap.size]? = some (.cells (asG T Kd z x my (.slice ma TN mc)) 26 (0, 0)) := by rw [← hw1]; exact heap_alloc_new _ _
    exact (hb.block _ (Array.getElem?_eq_some_iff.1 h0).1).trans h0)
  have hp1 := hp.self hlow
  have HP1 := hid hp1
  have HGL : Hid (gpair < w1.heap.size) := hid hp1.1
  have HPUa := hid (fun (i : Nat) (hi : i < 8) (X' : Nat → Prop) (W' wx : World) (lo p b : Nat) (S2 : Ms) (hz : Bz Pm lo X' W' wx p b (lyS (tp6 nn tw TN) x i) S2) => qpub hM (shI hM) (x i) hz (ly_bq hb0 hn0 hx i) (by omega) (by rw [lyS_n]; exact hn0) (hx i))
  have HPYa := hid (fun (i : Nat) (hi : i < 8) (X' : Nat → Prop) (W' wx : World) (lo p b : Nat) (S1 : Ms) (hz : Bz Pm lo X' W' wx p b S1 (lyS (tp6 nn tw TN) x i)) => ycst hM hz (ly_bq hb0 hn0 hx i) (by omega) (by rw [lyS_n]; exact hn0) 3 (i64k 3 (by decide) (by decide)) (x i) (hx i))
  have HV8 : Hid (∀ j, j < 8 → luV (tp6 nn tw TN) x j = lyR (tp6 nn tw TN) x j) := hid (fun j hj => luV_at (tp6 nn tw TN) x hj)
  have HAQ : Hid (∀ j, j < 8 → ∀ c, c < 3 → auF (tp6 nn tw TN) x 8 (j * 3 + c) = luV (tp6 nn tw TN) x j c) := hid (fun j hj c hc => by rw [auF_at (tp6 nn tw TN) x hj hc, luV_at (tp6 nn tw TN) x hj])
  have HQ0a : Hid (Kd = 0 → ∀ (X' : Nat → Prop) (W' wx : World) (lo p b : Nat) (S2 : Ms), Bz Pm lo X' W' wx p b (lyS (tp6 nn tw TN) x 8) S2 → Pv wx → gpair < lo → Calls Tryz.prog 9 #[.pointer (some ⟨p, 0, none⟩), .agg (wdV (lyR (tp6 nn tw TN) x 0))] wx fun e w' => e = .returned (.int .u64 (gdV (lyS (tp6 nn tw TN) x 8) (lyR (tp6 nn tw TN) x 0) : Int)) ∧ Bz Pm lo X' W' w' p b (gtS Kd z mm (tp6 nn tw TN) x) S2 ∧ ∀ k, X' k → w'.heap[k]? = wx.heap[k]?) := hid (fun e X' W' wx lo p b S2 hz hpv hgl => by
    rw [show gtS Kd z mm (tp6 nn tw TN) x = gdS (lyS (tp6 nn tw TN) x 8) (lyR (tp6 nn tw TN) x 0) from if_pos e]
    exact hG.op (lyR (tp6 nn tw TN) x 0) hz hpv hgl hl1 (by omega) hl2 hl0)
  have HY0a : Hid (Kd = 0 → ∀ (X' : Nat → Prop) (W' wx : World) (lo p b : Nat) (S2 : Ms), Bz Pm lo X' W' wx p b S2 (lyS (tp6 nn tw TN) x 8) → Calls Tryz.prog 10 #[.pointer (some ⟨b, 0, none⟩), .agg (wdV (lyR (tp6 nn tw TN) x 0))] wx fun e w' => e = .returned (.int .u64 (gdV (lyS (tp6 nn tw TN) x 8) (lyR (tp6 nn tw TN) x 0) : Int)) ∧ Bz Pm lo X' W' w' p b S2 (gtS Kd z mm (tp6 nn tw TN) x) ∧ ∀ k, X' k → w'.heap[k]? = wx.heap[k]?) := hid (fun e X' W' wx lo p b S2 hz => by
    rw [show gtS Kd z mm (tp6 nn tw TN) x = gdS (lyS (tp6 nn tw TN) x 8) (lyR (tp6 nn tw TN) x 0) from if_pos e]
    exact ygopen hM (lyR (tp6 nn tw TN) x 0) hz hl1 (by omega) hl2 hl0 hld)
  have HQ1a : Hid (Kd ≠ 0 → Kd = 1 → ∀ (X' : Nat → Prop) (W' wx : World) (lo p b : Nat) (S2 : Ms), Bz Pm lo X' W' wx p b (lyS (tp6 nn tw TN) x 8) S2 → Pv wx → gpair < lo → Calls Tryz.prog 11 #[.pointer (some ⟨p, 0, none⟩), .agg (wdV (lyR (tp6 nn tw TN) x 0))] wx fun e w' => e = .returned (.bool (decide (gmV (lyS (tp6 nn tw TN) x 8) (lyR (tp6 nn tw TN) x 0) 1 = 1))) ∧ Bz Pm lo X' W' w' p b (gtS Kd z mm (tp6 nn tw TN) x) S2 ∧ ∀ k, X' k → w'.heap[k]? = wx.heap[k]?) := hid (fun n0 e X' W' wx lo p b S2 hz hpv hgl => by
    rw [show gtS Kd z mm (tp6 nn tw TN) x = gmS (lyS (tp6 nn tw TN) x 8) (lyR (tp6 nn tw TN) x 0) 1 from (if_neg n0).trans (if_pos e)]
    exact hG.yes (lyR (tp6 nn tw TN) x 0) hz hpv hgl hl1 (by omega) hl2 hld hl0 HYES.out)
  have HY1a : Hid (Kd ≠ 0 → Kd = 1 → ∀ (X' : Nat → Prop) (W' wx : World) (lo p b : Nat) (S2 : Ms), Bz Pm lo X' W' wx p b S2 (lyS (tp6 nn tw TN) x 8) → Calls Tryz.prog 12 #[.pointer (some ⟨b, 0, none⟩), .agg (wdV (lyR (tp6 nn tw TN) x 0)), .int .u64 1] wx fun e w' => e = .returned (.int .u64 (gmV (lyS (tp6 nn tw TN) x 8) (lyR (tp6 nn tw TN) x 0) 1 : Int)) ∧ Bz Pm lo X' W' w' p b S2 (gtS Kd z mm (tp6 nn tw TN) x) ∧ ∀ k, X' k → w'.heap[k]? = wx.heap[k]?) := hid (fun n0 e X' W' wx lo p b S2 hz => by
    rw [show gtS Kd z mm (tp6 nn tw TN) x = gmS (lyS (tp6 nn tw TN) x 8) (lyR (tp6 nn tw TN) x 0) 1 from (if_neg n0).trans (if_pos e)]
    exact ygmask hM (lyR (tp6 nn tw TN) x 0) 1 hz hl1 (by omega) hl2 hl0 (by decide) hld)
  have HQ2a : Hid (Kd ≠ 0 → Kd ≠ 1 → Kd = 2 → ∀ (X' : Nat → Prop) (W' wx : World) (lo p b : Nat) (S2 : Ms) (v : Value), Bz Pm lo X' W' wx p b (lyS (tp6 nn tw TN) x 8) S2 → Pv wx → gpair < lo → WsR wx v mm (luV (tp6 nn tw TN) x) X' → Calls Tryz.prog 14 #[.pointer (some ⟨p, 0, none⟩), v, .int .i64 z] wx (TellsB Pm lo X' W' wx p b (gtS Kd z mm (tp6 nn tw TN) x) S2 (ns (gyM z (gyC z mm)) (gyF (lyS (tp6 nn tw TN) x 8) (luV (tp6 nn tw TN) x) z)))) := hid (fun n0 n1 e X' W' wx lo p b S2 v hz hpv hgl hw => by
    rw [show gtS Kd z mm (tp6 nn tw TN) x = gyS (lyS (tp6 nn tw TN) x 8) (luV (tp6 nn tw TN) x) z (gyC z mm) from (if_neg n0).trans ((if_neg n1).trans (if_pos e))]
    exact hG.bytes (luV (tp6 nn tw TN) x) mm v z hz hpv hgl hl1 (by omega) hl2 hld hl3 hw hz0)
  have HY2a : Hid (Kd ≠ 0 → Kd ≠ 1 → Kd = 2 → ∀ (X' : Nat → Prop) (W' wx : World) (lo p b : Nat) (S2 : Ms) (v : Value), Bz Pm lo X' W' wx p b S2 (lyS (tp6 nn tw TN) x 8) → WsR wx v mm (luV (tp6 nn tw TN) x) X' → Calls Tryz.prog 15 #[.pointer (some ⟨b, 0, none⟩), v, .int .i64 z] wx (TellsB Pm lo X' W' wx p b S2 (gtS Kd z mm (tp6 nn tw TN) x) (ns (gyM z (gyC z mm)) (gyF (lyS (tp6 nn tw TN) x 8) (luV (tp6 nn tw TN) x) z)))) := hid (fun n0 n1 e X' W' wx lo p b S2 v hz hw => by
    rw [show gtS Kd z mm (tp6 nn tw TN) x = gyS (lyS (tp6 nn tw TN) x 8) (luV (tp6 nn tw TN) x) z (gyC z mm) from (if_neg n0).trans ((if_neg n1).trans (if_pos e))]
    exact ygbytes hM (luV (tp6 nn tw TN) x) mm v z hz hl1 (by omega) hl2 hld hl3 hw hz0)
  have HQ3a : Hid (Kd ≠ 0 → Kd ≠ 1 → Kd ≠ 2 → ∀ (X' : Nat → Prop) (W' wx : World) (lo p b : Nat) (S2 : Ms), Bz Pm lo X' W' wx p b (lyS (tp6 nn tw TN) x 8) S2 → Pv wx → gpair < lo → Calls Tryz.prog 16 #[.pointer (some ⟨p, 0, none⟩), .agg (iz 24 (auF (tp6 nn tw TN) x 8)), .int .i64 z] wx (TellsB Pm lo X' W' wx p b (gtS Kd z mm (tp6 nn tw TN) x) S2 (gpO (lyS (tp6 nn tw TN) x 8) (luV (tp6 nn tw TN) x) z))) := hid (fun n0 n1 n2 X' W' wx lo p b S2 hz hpv hgl => by
    rw [show gtS Kd z mm (tp6 nn tw TN) x = gpZ (lyS (tp6 nn tw TN) x 8) (luV (tp6 nn tw TN) x) z from (if_neg n0).trans ((if_neg n1).trans (if_neg n2))]
    exact hG.planes (luV (tp6 nn tw TN) x) (auF (tp6 nn tw TN) x 8) z hz hpv hgl hl1 (by omega) hl2 hld hl3 HAQ.out hz0)
  have HY3a : Hid (Kd ≠ 0 → Kd ≠ 1 → Kd ≠ 2 → ∀ (X' : Nat → Prop) (W' wx : World) (lo p b : Nat) (S2 : Ms), Bz Pm lo X' W' wx p b S2 (lyS (tp6 nn tw TN) x 8) → Calls Tryz.prog 17 #[.pointer (some ⟨b, 0, none⟩), .agg (iz 24 (auF (tp6 nn tw TN) x 8)), .int .i64 z] wx (TellsB Pm lo X' W' wx p b S2 (gtS Kd z mm (tp6 nn tw TN) x) (gpO (lyS (tp6 nn tw TN) x 8) (luV (tp6 nn tw TN) x) z))) := hid (fun n0 n1 n2 X' W' wx lo p b S2 hz => by
    rw [show gtS Kd z mm (tp6 nn tw TN) x = gpZ (lyS (tp6 nn tw TN) x 8) (luV (tp6 nn tw TN) x) z from (if_neg n0).trans ((if_neg n1).trans (if_neg n2))]
    exact ygplanes hM (luV (tp6 nn tw TN) x) (auF (tp6 nn tw TN) x 8) z hz hl1 (by omega) hl2 hld hl3 HAQ.out hz0)
  have HDA := hid (fun w => hG.draws (nn : Int) w)
  have HDB := hid (fun w => rdraws_any (nn : Int) w)
  have HDC := hid (fun w => hG.draws z w)
  have HDD := hid (fun w => rdraws_any z w)
  obtain ⟨d1, hd1⟩ : ∃ d1, frD (nn : Int) = d1 := ⟨_, rfl⟩
  obtain ⟨d2, hd2⟩ : ∃ d2, frD z = d2 := ⟨_, rfl⟩
  rw [hd1] at HDA HDB
  rw [hd2] at HDC HDD
  have HA0 : Hid (auF (tp6 nn tw TN) x 0 = fun _ => 0) := hid (auF_0 (tp6 nn tw TN) x)
  have HAN := hid (auF_next (tp6 nn tw TN) x)
  have HCC0 : Hid (∀ (w : World) (g : Nat), w.heap[g]? = some (.cells (iz 24 (auF (tp6 nn tw TN) x 8)) 39 (0, 0)) → ∀ d, d < 3 → w.cell? ⟨g, 0 + d, none⟩ = some (.int .i64 (lyR (tp6 nn tw TN) x 0 d))) := hid (fun w g h d hd => by have := gr_cell h (c := 0) (by decide) d hd; rwa [Nat.zero_mul] at this)
  have HWS0 : Hid (∀ (w : World) (g : Nat) (X : Nat → Prop), w.heap[g]? = some (.cells (iz 24 (auF (tp6 nn tw TN) x 8)) 39 (0, 0)) → X g → WsR w (.slice (some ⟨g, 0, none⟩) mm 8) mm (luV (tp6 nn tw TN) x) X) := hid (fun w g X h hX => ⟨some ⟨g, 0, none⟩, 8, rfl, HM8.out, by decide, fun _ => ⟨g, 0, rfl, hX, (Array.getElem?_eq_some_iff.1 h).1, fun j hj c hc => by
    have h8 := HM8.out
    rw [Nat.zero_add, HV8.out j (by omega)]
    exact gr_cell h (c := j) (by omega) c hc⟩⟩)
  have HL0 : Hid (lyS (tp6 nn tw TN) x 0 = (tp6 nn tw TN)) := hid rfl
  have HLN : Hid (∀ i, lyS (tp6 nn tw TN) x (i + 1) = cstS (lyS (tp6 nn tw TN) x i) 3 (x i) ∧ lyR (tp6 nn tw TN) x i = cstR (lyS (tp6 nn tw TN) x i) 3 (x i)) := hid (fun i => ⟨rfl, rfl⟩)
  simp only [← (HLN.out _).1, ← (HLN.out _).2] at HPUa HPYa
  have HW := hid hw1
  clear HLN hd1 hd2 hb0 hn0 hW0 hl0 hl1 hl2 hl3 hld hlow hw1 hp1 hx hR htw hTN hm0 hlen hp hmm hm8 hmy hz0 HAQ HV8 hnn hT
  obtain ⟨y0, hy0⟩ : ∃ y0, gdV (lyS (tp6 nn tw TN) x 8) (lyR (tp6 nn tw TN) x 0) = y0 := ⟨_, rfl⟩
  obtain ⟨y1, hy1⟩ : ∃ y1, gmV (lyS (tp6 nn tw TN) x 8) (lyR (tp6 nn tw TN) x 0) 1 = y1 := ⟨_, rfl⟩
  obtain ⟨z2, hz2⟩ : ∃ z2, ns (gyM z (gyC z mm)) (gyF (lyS (tp6 nn tw TN) x 8) (luV (tp6 nn tw TN) x) z) = z2 := ⟨_, rfl⟩
  obtain ⟨z3, hz3⟩ : ∃ z3, gpO (lyS (tp6 nn tw TN) x 8) (luV (tp6 nn tw TN) x) z = z3 := ⟨_, rfl⟩
  obtain ⟨S4, hS4⟩ : ∃ S4, gtS Kd z mm (tp6 nn tw TN) x = S4 := ⟨_, rfl⟩
  simp only [hy0, hy1, hz2, hz3, hS4] at HB4 HY4 HYES HQ0a HY0a HQ1a HY1a HQ2a HY2a HQ3a HY3a
  clear hy0 hy1 hz2 hz3 hS4
  obtain ⟨LS, hLS⟩ : ∃ LS, lyS (tp6 nn tw TN) x = LS := ⟨_, rfl⟩
  obtain ⟨LR, hLR⟩ : ∃ LR, lyR (tp6 nn tw TN) x = LR := ⟨_, rfl⟩
  obtain ⟨AA, hAA⟩ : ∃ AA, auF (tp6 nn tw TN) x = AA := ⟨_, rfl⟩
  obtain ⟨VV, hVV⟩ : ∃ VV, luV (tp6 nn tw TN) x = VV := ⟨_, rfl⟩
  simp only [hLS, hLR, hAA, hVV] at HA0 HAN HCC0 HWS0 HL0 HPUa HPYa HQ0a HY0a HQ1a HY1a HQ2a HY2a HQ3a HY3a
  clear hLS hLR hAA hVV
  obtain ⟨AS, hAS⟩ : ∃ AS, (asG T Kd z x my (.slice ma TN mc)) = AS := ⟨_, rfl⟩
  have HA0s : Hid (AS[0]? = some (.bool T)) := hid (by rw [← hAS]; rfl)
  have HA1 : Hid (AS[1]? = some (.int .i64 Kd)) := hid (by rw [← hAS]; rfl)
  have HA2 : Hid (AS[2]? = some (.int .i64 z)) := hid (by rw [← hAS]; rfl)
  have HA11 : Hid (AS[11]? = some (.int .u8 (my : Int))) := hid (by rw [← hAS]; rfl)
  have HA12 : Hid (AS[12]? = some (.slice ma TN mc)) := hid (by rw [← hAS]; rfl)
  have HAX : Hid (∀ i, i < 8 → AS[3 + i]? = some (.int .u64 (x i : Int))) := hid (fun i hi => by rw [← hAS]; exact asG_x _ _ _ _ _ _ hi)
  rw [hAS] at HLX0
  have HLX := HLX0
  have HLXc : Hid (∀ wx, Below w1.heap.size w1 wx → ∀ i, i < 8 → wx.cell? ⟨W.heap.size, 3 + i, none⟩ = some (.int .u64 (x i : Int))) := hid (fun wx hb i hi => row_c (HLX.out wx hb) (HAX.out i hi))
  clear hAS HLX0
  go_enter Tryz.func3, Tryz.ntmps3
  go_upto_region 1 with fail
  rw [HW.out]
  have c0 := row_c (HLX.out w1 (Below.refl _ _)) HA0s.out
  go_upto_if 12 with fail
  clear c0
  go_cut [3] from 11 to 12 (fun nv wx => nv = .int .i64 (nn : Int) ∧ wx = w1)
  case first =>
    rcases HTT.out with ⟨rfl, rfl⟩ | ⟨rfl, rfl⟩
    · go_wp2_with fail
      go_meet
      exact ⟨rfl, rfl⟩
    · go_wp2_with fail
      go_meet
      exact ⟨rfl, rfl⟩
  case rest =>
  obtain ⟨rfl, hcut⟩ := hcut
  obtain rfl : w1 = wc := hcut.symm
  clear HTT
  have c12 := row_c (HLX.out w1 (Below.refl _ _)) HA12.out
  go_upto_region 5 with (go_at_call 4; (with_reducible refine (HBG.out _ HWJ.out).mono ?_); rintro e w2 ⟨p, b, rfl, hz⟩; have Z2 := hid hz; clear hz)
  clear c12
  have H3 := hid ((Gy.start Z2.out).new hM (paC p b (.slice none 0 0) (.slice none 0 0)) 31)
  obtain ⟨b4, hb1⟩ : ∃ b4, w2.heap.size = b4 := ⟨_, rfl⟩
  rw [hb1] at H3
  generalize w2.alloc (.cells #[.pointer (some ⟨p, 0, none⟩), .pointer (some ⟨b, 0, none⟩), .slice none 0 0, .slice none 0 0] 31) = w3' at *
  try rw [hb1]
  clear hb1 HBG HW
  have G0 := hid (H3.out.self hM ((Below.refl _ w3').drew))
  refine wp_region_noPanic ?_
  refine wp_region_held_drew (S := fun w' => w'.heap[W.heap.size]? = some (.cells AS 26 (0, 0))) (by kernel_rfl) (HLX.out _ G0.out.z.low) (fun h0 => ?_)
  generalize w3'.drew = y0x at *
  refine wpAnyH_take (i := 0) (v := .bool true) rfl (by kernel_rfl) (by kernel_rfl) (by kernel_rfl) (fun _ _ _ h => h) (.inl ⟨by rfl, fun w hw => by clear hw; go_simp⟩) h0 ?_
  try simp only [Act.put, lay_out]
  refine wpAnyH_take (i := 1) (v := .bool false) rfl (by kernel_rfl) (by kernel_rfl) (by kernel_rfl) (fun _ _ _ h => h) (.inl ⟨by rfl, fun w hw => by clear hw; go_simp⟩) h0 ?_
  try simp only [Act.put, lay_out]
  refine wpAnyH_take (i := 2) (v := .bool false) rfl (by kernel_rfl) (by kernel_rfl) (by kernel_rfl) (fun _ _ _ h => h) (.inl ⟨by rfl, fun w hw => by clear hw; go_simp⟩) h0 ?_
  try simp only [Act.put, lay_out]
  refine wpAnyH_take (i := 3) (v := .int .i64 (nn : Int)) rfl (by kernel_rfl) (by kernel_rfl) (by kernel_rfl) (fun _ _ _ h => h) (.inl ⟨by rfl, fun w hw => by clear hw; go_simp⟩) h0 ?_
  try simp only [Act.put, lay_out]
  refine wpAnyH_take (i := 5) (v := .int .i64 (nn : Int)) rfl (by kernel_rfl) (by kernel_rfl) (by kernel_rfl) (fun _ _ _ h => h) (.inl ⟨by rfl, fun w hw => by clear hw; go_simp⟩) h0 ?_
  try simp only [Act.put, lay_out]
  refine wpAnyH_ready (rs := [4]) (by kernel_rfl) (by simp) (AllReadyH.cons rfl (fun K hK => ?_) AllReadyH.nil)
  rw [if_pos (by rfl)]
  go_simp
  go_at_call 5
  (with_reducible refine (HDA.out _).mono ?_); rintro e y0x ⟨rfl, rfl⟩
  refine hK.out _ _ (HLX.out _ G0.out.z.low) (fun h1x => ?_)
  clear hK K
  try simp only [Act.put, lay_out]
  refine wpAnyH_ready (rs := [6]) (by kernel_rfl) (by simp) (AllReadyH.cons rfl (fun K hK => ?_) AllReadyH.nil)
  rw [if_pos (by rfl)]
  go_simp
  go_at_call 6
  (with_reducible refine (HDB.out _).mono ?_); rintro e y0x ⟨rfl, rfl⟩
  refine hK.out _ _ (HLX.out _ G0.out.z.low) (fun h2x => ?_)
  clear hK K
  try simp only [Act.put, lay_out]
  refine wpAnyH_take (i := 7) (v := .bool false) rfl (by kernel_rfl) (by kernel_rfl) (by kernel_rfl) (fun _ _ _ h => h) (.inl ⟨by rfl, fun w hw => by clear hw; go_simp⟩) h2x ?_
  try simp only [Act.put, lay_out]
  refine wpAnyH_take (i := 8) (v := .bool false) rfl (by kernel_rfl) (by kernel_rfl) (by kernel_rfl) (fun _ _ _ h => h) (.inl ⟨by rfl, fun w hw => by clear hw; go_simp⟩) h2x ?_
  try simp only [Act.put, lay_out]
  refine wpAnyH_take (i := 9) (v := .bool false) rfl (by kernel_rfl) (by kernel_rfl) (by kernel_rfl) (fun _ _ _ h => h) (.inl ⟨by rfl, fun w hw => by clear hw; go_simp⟩) h2x ?_
  try simp only [Act.put, lay_out]
  refine wpAnyH_take (i := 10) (v := .pointer (some ⟨W.heap.size, 2, none⟩)) rfl (by kernel_rfl) (by kernel_rfl) (by kernel_rfl) (fun _ _ _ h => h) (.inl ⟨by rfl, fun w hw => by clear hw; go_simp⟩) h2x ?_
  try simp only [Act.put, lay_out]
  refine wpAnyH_take (i := 11) (v := .int .i64 z) rfl (by kernel_rfl) (by kernel_rfl) (by kernel_rfl) (fun _ _ _ h => h) (.inl ⟨by rfl, fun w' hw => by have hc := row_c (i := 2) (u := .int .i64 z) hw HA2.out; clear hw; go_simp⟩) h2x ?_
  try simp only [Act.put, lay_out]
  refine wpAnyH_take (i := 13) (v := .pointer (some ⟨W.heap.size, 2, none⟩)) rfl (by kernel_rfl) (by kernel_rfl) (by kernel_rfl) (fun _ _ _ h => h) (.inl ⟨by rfl, fun w hw => by clear hw; go_simp⟩) h2x ?_
  try simp only [Act.put, lay_out]
  refine wpAnyH_take (i := 14) (v := .int .i64 z) rfl (by kernel_rfl) (by kernel_rfl) (by kernel_rfl) (fun _ _ _ h => h) (.inl ⟨by rfl, fun w' hw => by have hc := row_c (i := 2) (u := .int .i64 z) hw HA2.out; clear hw; go_simp⟩) h2x ?_
  try simp only [Act.put, lay_out]
  refine wpAnyH_ready (rs := [12]) (by kernel_rfl) (by simp) (AllReadyH.cons rfl (fun K hK => ?_) AllReadyH.nil)
  rw [if_pos (by rfl)]
  go_simp
  go_at_call 5
  (with_reducible refine (HDC.out _).mono ?_); rintro e y0x ⟨rfl, rfl⟩
  refine hK.out _ _ (HLX.out _ G0.out.z.low) (fun h3x => ?_)
  clear hK K
  try simp only [Act.put, lay_out]
  refine wpAnyH_ready (rs := [15]) (by kernel_rfl) (by simp) (AllReadyH.cons rfl (fun K hK => ?_) AllReadyH.nil)
  rw [if_pos (by rfl)]
  go_simp
  go_at_call 6
  (with_reducible refine (HDD.out _).mono ?_); rintro e y0x ⟨rfl, rfl⟩
  refine hK.out _ _ (HLX.out _ G0.out.z.low) (fun h4x => ?_)
  clear hK K
  try simp only [Act.put, lay_out]
  refine wpAnyH_take (i := 16) (v := .bool false) rfl (by kernel_rfl) (by kernel_rfl) (by kernel_rfl) (fun _ _ _ h => h) (.inl ⟨by rfl, fun w hw => by clear hw; go_simp⟩) h4x ?_
  try simp only [Act.put, lay_out]
  refine wpAnyH_take (i := 17) (v := .bool false) rfl (by kernel_rfl) (by kernel_rfl) (by kernel_rfl) (fun _ _ _ h => h) (.inl ⟨by rfl, fun w hw => by clear hw; go_simp⟩) h4x ?_
  try simp only [Act.put, lay_out]
  refine wpAnyH_done (by kernel_rfl) ?_ _
  refine NoPanic.normal ?_
  clear h0 h1x h2x h3x h4x
  try simp only [Act.put, lay_out]
  have H4 := G0
  clear H3 HDA HDB HDC HDD
  have HPU0 := hid (fun (i : Nat) (hi : i < 8) (S2 : Ms) (wx : World) (bs : List (Nat × Obj)) (h : Gy Pm w1.heap.size (fun _ => False) w1 w2 wx p b (LS i) S2 bs) => h.lift (f := 7) (args := #[.pointer (some ⟨p, 0, none⟩), .int .u64 (x i : Int)]) (E := fun e => e = .returned (.agg (wdV (LR i)))) (S1' := LS (i + 1)) (S2' := S2) (fun X' W' hz => HPUa.out i hi X' W' wx _ p b S2 hz))
  have HPY0 := hid (fun (i : Nat) (hi : i < 8) (S1 : Ms) (wx : World) (bs : List (Nat × Obj)) (h : Gy Pm w1.heap.size (fun _ => False) w1 w2 wx p b S1 (LS i) bs) => h.lift (f := 8) (args := #[.pointer (some ⟨b, 0, none⟩), .int .i64 3, .int .u64 (x i : Int)]) (E := fun e => e = .returned (.agg (wdV (LR i)))) (S1' := S1) (S2' := LS (i + 1)) (fun X' W' hz => HPYa.out i hi X' W' wx _ p b S1 hz))
  clear HPUa HPYa
  rw [← HL0.out] at H4
  go_upto_region 7 with fail
  have H5a := hid ((H4.out.new hM #[.int .i64 0, .int .i64 0, .int .i64 0, .int .i64 0, .int .i64 0, .int .i64 0, .int .i64 0, .int .i64 0, .int .i64 0, .int .i64 0, .int .i64 0, .int .i64 0, .int .i64 0, .int .i64 0, .int .i64 0, .int .i64 0, .int .i64 0, .int .i64 0, .int .i64 0, .int .i64 0, .int .i64 0, .int .i64 0, .int .i64 0, .int .i64 0] 39).new hM #[.int .i64 0, .int .i64 0, .int .i64 0, .int .i64 0, .int .i64 0, .int .i64 0, .int .i64 0, .int .i64 0, .int .i64 0, .int .i64 0, .int .i64 0, .int .i64 0, .int .i64 0, .int .i64 0, .int .i64 0, .int .i64 0, .int .i64 0, .int .i64 0, .int .i64 0, .int .i64 0, .int .i64 0, .int .i64 0, .int .i64 0, .int .i64 0] 39)
  simp only [sz_al] at H5a
  have H5b := hid (H5a.out.rowI hM 1 rfl #[.int .i64 0, .int .i64 0, .int .i64 0, .int .i64 0, .int .i64 0, .int .i64 0, .int .i64 0, .int .i64 0, .int .i64 0, .int .i64 0, .int .i64 0, .int .i64 0, .int .i64 0, .int .i64 0, .int .i64 0, .int .i64 0, .int .i64 0, .int .i64 0, .int .i64 0, .int .i64 0, .int .i64 0, .int .i64 0, .int .i64 0, .int .i64 0])
  have H5c := hid (H5b.out.rowI hM 0 rfl #[.int .i64 0, .int .i64 0, .int .i64 0, .int .i64 0, .int .i64 0, .int .i64 0, .int .i64 0, .int .i64 0, .int .i64 0, .int .i64 0, .int .i64 0, .int .i64 0, .int .i64 0, .int .i64 0, .int .i64 0, .int .i64 0, .int .i64 0, .int .i64 0, .int .i64 0, .int .i64 0, .int .i64 0, .int .i64 0, .int .i64 0, .int .i64 0])
  go_upto_region 8 with (first
    | (refine step_build_w24 rfl rfl ?_)
    | (refine step_store_row rfl 39 _ _ rfl y0x.heap.size 39 _ #[.int .i64 0, .int .i64 0, .int .i64 0, .int .i64 0, .int .i64 0, .int .i64 0, .int .i64 0, .int .i64 0, .int .i64 0, .int .i64 0, .int .i64 0, .int .i64 0, .int .i64 0, .int .i64 0, .int .i64 0, .int .i64 0, .int .i64 0, .int .i64 0, .int .i64 0, .int .i64 0, .int .i64 0, .int .i64 0, .int .i64 0, .int .i64 0] rfl rfl (H5a.out.bl 1 rfl) (by kernel_rfl) rfl (by kernel_rfl) ?_)
    | (refine step_store_row rfl 39 _ _ rfl (y0x.heap.size + 1) 39 _ #[.int .i64 0, .int .i64 0, .int .i64 0, .int .i64 0, .int .i64 0, .int .i64 0, .int .i64 0, .int .i64 0, .int .i64 0, .int .i64 0, .int .i64 0, .int .i64 0, .int .i64 0, .int .i64 0, .int .i64 0, .int .i64 0, .int .i64 0, .int .i64 0, .int .i64 0, .int .i64 0, .int .i64 0, .int .i64 0, .int .i64 0, .int .i64 0] rfl rfl (H5b.out.bl 0 rfl) (by kernel_rfl) rfl (by kernel_rfl) ?_))
  obtain ⟨w5, hw5⟩ : ∃ w5, (((y0x.alloc (.cells #[.int .i64 0, .int .i64 0, .int .i64 0, .int .i64 0, .int .i64 0, .int .i64 0, .int .i64 0, .int .i64 0, .int .i64 0, .int .i64 0, .int .i64 0, .int .i64 0, .int .i64 0, .int .i64 0, .int .i64 0, .int .i64 0, .int .i64 0, .int .i64 0, .int .i64 0, .int .i64 0, .int .i64 0, .int .i64 0, .int .i64 0, .int .i64 0] 39)).alloc (.cells #[.int .i64 0, .int .i64 0, .int .i64 0, .int .i64 0, .int .i64 0, .int .i64 0, .int .i64 0, .int .i64 0, .int .i64 0, .int .i64 0, .int .i64 0, .int .i64 0, .int .i64 0, .int .i64 0, .int .i64 0, .int .i64 0, .int .i64 0, .int .i64 0, .int .i64 0, .int .i64 0, .int .i64 0, .int .i64 0, .int .i64 0, .int .i64 0] 39)).setRow y0x.heap.size #[.int .i64 0, .int .i64 0, .int .i64 0, .int .i64 0, .int .i64 0, .int .i64 0, .int .i64 0, .int .i64 0, .int .i64 0, .int .i64 0, .int .i64 0, .int .i64 0, .int .i64 0, .int .i64 0, .int .i64 0, .int .i64 0, .int .i64 0, .int .i64 0, .int .i64 0, .int .i64 0, .int .i64 0, .int .i64 0, .int .i64 0, .int .i64 0]).setRow (y0x.heap.size + 1) #[.int .i64 0, .int .i64 0, .int .i64 0, .int .i64 0, .int .i64 0, .int .i64 0, .int .i64 0, .int .i64 0, .int .i64 0, .int .i64 0, .int .i64 0, .int .i64 0, .int .i64 0, .int .i64 0, .int .i64 0, .int .i64 0, .int .i64 0, .int .i64 0, .int .i64 0, .int .i64 0, .int .i64 0, .int .i64 0, .int .i64 0, .int .i64 0] = w5 := ⟨_, rfl⟩
  rw [hw5] at H5c
  rw [hw5]
  obtain ⟨g6, hg6⟩ : ∃ g6, y0x.heap.size = g6 := ⟨_, rfl⟩
  rw [hg6] at H5c
  rw [hg6]
  obtain ⟨g7, hg7⟩ : ∃ g7, g6 + 1 = g7 := ⟨_, rfl⟩
  rw [hg7] at H5c
  rw [hg7]
  have H5 : Hid (Gy Pm w1.heap.size (fun _ => False) w1 w2 w5 p b (LS 0) (LS 0) [(g7, Obj.cells (iz 24 (AA 0)) 39 (0, 0)), (g6, Obj.cells (iz 24 (AA 0)) 39 (0, 0)), (b4, Obj.cells (paC p b (.slice none 0 0) (.slice none 0 0)) 31 (0, 0))]) := hid (by rw [HA0.out]; exact H5c.out)
  clear hw5 hg6 hg7 H4 H5a H5b H5c HA0
  go_wp2
  go_loopw [8] (fun iv wr => ∃ i : Nat, i ≤ 8 ∧ iv = .int .i64 (i : Int) ∧ Gy Pm w1.heap.size (fun _ => False) w1 w2 wr p b (LS i) (LS i) [(g7, Obj.cells (iz 24 (AA i)) 39 (0, 0)), (g6, Obj.cells (iz 24 (AA i)) 39 (0, 0)), (b4, Obj.cells (paC p b (.slice none 0 0) (.slice none 0 0)) 31 (0, 0))]) (fun iv _ => 8 - (intOf iv).toNat)
  case atStart => exact ⟨0, by omega, rfl, H5.out⟩
  case round =>
    clear H5
    obtain ⟨i, hi, rfl, hI⟩ := hrel
    have HI := hid hI
    clear hI
    by_cases hlt : i < 8
    · have j1 : (i : Int) < 8 := by omega
      have j0 : (0 : Int) ≤ (i : Int) := by omega
      have HI3 : Hid (i < 8) := hid hlt
      have HPU := hid (HPU0.out i hlt)
      have HPY := hid (HPY0.out i hlt)
      clear hi hlt
      go_upto_region 11 with fail
      have G0 := hid (HI.out.self hM ((Below.refl _ wr).drew))
      refine wp_region_noPanic ?_
      refine wp_region_held_drew (S := fun w' => w'.heap[b4]? = some (.cells (paC p b (.slice none 0 0) (.slice none 0 0)) 31 (0, 0)) ∧ w'.cell? ⟨W.heap.size, 3 + i, none⟩ = some (.int .u64 (x i : Int))) (by kernel_rfl) (⟨G0.out.bl 2 rfl, HLXc.out _ G0.out.z.low i HI3.out⟩) (fun h0 => ?_)
      generalize wr.drew = y0 at *
      refine wpAnyH_take (i := 0) (v := .int .i64 (i : Int)) rfl (by kernel_rfl) (by kernel_rfl) (by kernel_rfl) (fun _ _ _ h => h) (.inl ⟨by rfl, fun w hw => by clear hw; go_simp⟩) h0 ?_
      try simp only [Act.put, lay_out]
      refine wpAnyH_take (i := 1) (v := .pointer (some ⟨b4, 0, none⟩)) rfl (by kernel_rfl) (by kernel_rfl) (by kernel_rfl) (fun _ _ _ h => h) (.inl ⟨by rfl, fun w hw => by clear hw; go_simp⟩) h0 ?_
      try simp only [Act.put, lay_out]
      refine wpAnyH_take (i := 2) (v := .pointer (some ⟨p, 0, none⟩)) rfl (by kernel_rfl) (by kernel_rfl) (by kernel_rfl) (fun _ _ _ h => h) (.inl ⟨by rfl, fun w' hw => by have hc := row_c (i := 0) (u := .pointer (some ⟨p, 0, none⟩)) hw.1 rfl; clear hw; go_simp⟩) h0 ?_
      try simp only [Act.put, lay_out]
      refine wpAnyH_take (i := 3) (v := .int .i64 (i : Int)) rfl (by kernel_rfl) (by kernel_rfl) (by kernel_rfl) (fun _ _ _ h => h) (.inl ⟨by rfl, fun w hw => by clear hw; go_simp⟩) h0 ?_
      try simp only [Act.put, lay_out]
      refine wpAnyH_take (i := 4) (v := .pointer (some ⟨W.heap.size, 3, none⟩)) rfl (by kernel_rfl) (by kernel_rfl) (by kernel_rfl) (fun _ _ _ h => h) (.inl ⟨by rfl, fun w hw => by clear hw; go_simp⟩) h0 ?_
      try simp only [Act.put, lay_out]
      refine wpAnyH_take (i := 5) (v := .pointer (some ⟨W.heap.size, 3 + i, none⟩)) rfl (by kernel_rfl) (by kernel_rfl) (by kernel_rfl) (fun _ _ _ h => h) (.inl ⟨by rfl, fun w hw => by clear hw; go_simp⟩) h0 ?_
      try simp only [Act.put, lay_out]
      refine wpAnyH_take (i := 6) (v := .int .u64 (x i : Int)) rfl (by kernel_rfl) (by kernel_rfl) (by kernel_rfl) (fun _ _ _ h => h) (.inl ⟨by rfl, fun w' hw => by have hc := hw.2; clear hw; go_simp⟩) h0 ?_
      try simp only [Act.put, lay_out]
      refine wpAnyH_ready (rs := [7]) (by kernel_rfl) (by simp) (AllReadyH.cons rfl (fun K hK => ?_) AllReadyH.nil)
      rw [if_pos (by rfl)]
      go_simp
      go_at_call 7
      (with_reducible refine (HPU.out _ _ _ G0.out).mono ?_); rintro e y1 ⟨rfl, hz⟩
      have G1 := hid hz
      clear hz
      refine hK.out _ _ (⟨G1.out.bl 2 rfl, HLXc.out _ G1.out.z.low i HI3.out⟩) (fun h1x => ?_)
      clear hK K
      try simp only [Act.put, lay_out]
      refine wpAnyH_take (i := 8) (v := .pointer (some ⟨g6, i * 3, none⟩)) rfl (by kernel_rfl) (by kernel_rfl) (by kernel_rfl) (fun _ _ _ h => h) (.inl ⟨by rfl, fun w hw => by clear hw; go_simp⟩) h1x ?_
      try simp only [Act.put, lay_out]
      refine wpAnyH_ready (rs := [9]) (by kernel_rfl) (by simp) (AllReadyH.cons rfl (fun K hK => ?_) AllReadyH.nil)
      rw [if_pos (by rfl)]
      refine wp_store_mid 37 _ _ rfl g6 (i * 3) (wdV (LR i)) rfl rfl (gr_there (G1.out.bl 1 rfl) HI3.out) (by kernel_rfl) (by kernel_rfl) ?_
      have G2 := hid (G1.out.turnI hM (i := 1) rfl (gr_set (R := LR i) (G1.out.bl 1 rfl) HI3.out) (fun q hq => setCells_apart g6 _ (i * 3) y1 q hq) (Nat.le_of_eq (setCells_size g6 _ (i * 3) y1).symm) (setCells_out g6 _ (i * 3) y1))
      rw [HAN.out i] at G2
      generalize y1.setCells g6 (i * 3) (wdV (LR i)).toList = y2 at *
      refine hK.out _ _ (⟨G2.out.bl 2 rfl, HLXc.out _ G2.out.z.low i HI3.out⟩) (fun h2x => ?_)
      clear hK K
      try simp only [Act.put, lay_out]
      refine wpAnyH_done (by kernel_rfl) ?_ _
      refine NoPanic.normal ?_
      clear h0 h1x h2x
      try simp only [Act.put, lay_out]
      have H8 := G2
      obtain ⟨w8, hw8⟩ : ∃ w8, y2 = w8 := ⟨_, rfl⟩
      rw [hw8] at H8
      rw [hw8]
      clear hw8 HI
      go_wp2_with fail
      have J0 := hid (H8.out.self hM ((Below.refl _ w8).drew))
      refine wp_region_noPanic ?_
      refine wp_region_held_drew (S := fun w' => w'.heap[b4]? = some (.cells (paC p b (.slice none 0 0) (.slice none 0 0)) 31 (0, 0)) ∧ w'.cell? ⟨W.heap.size, 3 + i, none⟩ = some (.int .u64 (x i : Int))) (by kernel_rfl) (⟨J0.out.bl 2 rfl, HLXc.out _ J0.out.z.low i HI3.out⟩) (fun h0 => ?_)
      generalize w8.drew = z0 at *
      refine wpAnyH_take (i := 0) (v := .int .i64 (i : Int)) rfl (by kernel_rfl) (by kernel_rfl) (by kernel_rfl) (fun _ _ _ h => h) (.inl ⟨by rfl, fun w hw => by clear hw; go_simp⟩) h0 ?_
      try simp only [Act.put, lay_out]
      refine wpAnyH_take (i := 1) (v := .pointer (some ⟨b4, 1, none⟩)) rfl (by kernel_rfl) (by kernel_rfl) (by kernel_rfl) (fun _ _ _ h => h) (.inl ⟨by rfl, fun w hw => by clear hw; go_simp⟩) h0 ?_
      try simp only [Act.put, lay_out]
      refine wpAnyH_take (i := 2) (v := .pointer (some ⟨b, 0, none⟩)) rfl (by kernel_rfl) (by kernel_rfl) (by kernel_rfl) (fun _ _ _ h => h) (.inl ⟨by rfl, fun w' hw => by have hc := row_c (i := 1) (u := .pointer (some ⟨b, 0, none⟩)) hw.1 rfl; clear hw; go_simp⟩) h0 ?_
      try simp only [Act.put, lay_out]
      refine wpAnyH_take (i := 3) (v := .int .i64 (i : Int)) rfl (by kernel_rfl) (by kernel_rfl) (by kernel_rfl) (fun _ _ _ h => h) (.inl ⟨by rfl, fun w hw => by clear hw; go_simp⟩) h0 ?_
      try simp only [Act.put, lay_out]
      refine wpAnyH_take (i := 4) (v := .pointer (some ⟨W.heap.size, 3, none⟩)) rfl (by kernel_rfl) (by kernel_rfl) (by kernel_rfl) (fun _ _ _ h => h) (.inl ⟨by rfl, fun w hw => by clear hw; go_simp⟩) h0 ?_
      try simp only [Act.put, lay_out]
      refine wpAnyH_take (i := 5) (v := .pointer (some ⟨W.heap.size, 3 + i, none⟩)) rfl (by kernel_rfl) (by kernel_rfl) (by kernel_rfl) (fun _ _ _ h => h) (.inl ⟨by rfl, fun w hw => by clear hw; go_simp⟩) h0 ?_
      try simp only [Act.put, lay_out]
      refine wpAnyH_take (i := 6) (v := .int .u64 (x i : Int)) rfl (by kernel_rfl) (by kernel_rfl) (by kernel_rfl) (fun _ _ _ h => h) (.inl ⟨by rfl, fun w' hw => by have hc := hw.2; clear hw; go_simp⟩) h0 ?_
      try simp only [Act.put, lay_out]
      refine wpAnyH_ready (rs := [7]) (by kernel_rfl) (by simp) (AllReadyH.cons rfl (fun K hK => ?_) AllReadyH.nil)
      rw [if_pos (by rfl)]
      go_simp
      go_at_call 8
      (with_reducible refine (HPY.out _ _ _ J0.out).mono ?_); rintro e z1 ⟨rfl, hz⟩
      have J1 := hid hz
      clear hz
      refine hK.out _ _ (⟨J1.out.bl 2 rfl, HLXc.out _ J1.out.z.low i HI3.out⟩) (fun h1x => ?_)
      clear hK K
      try simp only [Act.put, lay_out]
      refine wpAnyH_take (i := 8) (v := .pointer (some ⟨g7, i * 3, none⟩)) rfl (by kernel_rfl) (by kernel_rfl) (by kernel_rfl) (fun _ _ _ h => h) (.inl ⟨by rfl, fun w hw => by clear hw; go_simp⟩) h1x ?_
      try simp only [Act.put, lay_out]
      refine wpAnyH_ready (rs := [9]) (by kernel_rfl) (by simp) (AllReadyH.cons rfl (fun K hK => ?_) AllReadyH.nil)
      rw [if_pos (by rfl)]
      refine wp_store_mid 37 _ _ rfl g7 (i * 3) (wdV (LR i)) rfl rfl (gr_there (J1.out.bl 0 rfl) HI3.out) (by kernel_rfl) (by kernel_rfl) ?_
      have J2 := hid (J1.out.turnI hM (i := 0) rfl (gr_set (R := LR i) (J1.out.bl 0 rfl) HI3.out) (fun q hq => setCells_apart g7 _ (i * 3) z1 q hq) (Nat.le_of_eq (setCells_size g7 _ (i * 3) z1).symm) (setCells_out g7 _ (i * 3) z1))
      rw [HAN.out i] at J2
      generalize z1.setCells g7 (i * 3) (wdV (LR i)).toList = z2x at *
      refine hK.out _ _ (⟨J2.out.bl 2 rfl, HLXc.out _ J2.out.z.low i HI3.out⟩) (fun h2x => ?_)
      clear hK K
      try simp only [Act.put, lay_out]
      refine wpAnyH_done (by kernel_rfl) ?_ _
      refine NoPanic.normal ?_
      clear h0 h1x h2x
      try simp only [Act.put, lay_out]
      go_wp2
      go_roundw
      case rel => exact ⟨i + 1, HI3.out, by go_num, J2.out⟩
      case measure => simp [intOf]; omega
    · obtain rfl : i = 8 := by omega
      clear hlt hi HPU0 HPY0
      have HASx := hid (HLX.out _ HI.out.z.low)
      have c11 := row_c HASx.out HA11.out
      have c1 := row_c HASx.out HA1.out
      have ew : IntKind.i64.wrap (my : Int) = (my : Int) := by have := HMY.out; rw [IntKind.wrap_i64]; omega
      have em : (my : Int).tmod 9 = (mm : Int) := by rw [Int.tmod_eq_emod_of_nonneg (by omega), ← HMM.out]; omega
      have em' : (my : Int) % 9 = (mm : Int) := by rw [← HMM.out]; omega
      have hmy := HMY.out
      have hm8 := HM8.out
      have HCC := HCC0
      go_upto_block 2 with fail
      clear c11 c1 HASx ew em em' hmy
      go_cut [9] from 68 to 124 (fun fv wx => fv = .bool true ∧ Gy Pm w1.heap.size (fun _ => False) w1 w2 wx p b S4 S4 [(b4, Obj.cells (paC p b (.slice none 0 0) (.slice none 0 0)) 31 (0, 0))])
      case first =>
        have HT := HI
        clear HI
        by_cases k0 : Kd = 0
        · have e0 : ((Kd : Int) == 0) = true := by simp [k0]
          have HQ := hid (fun (S2 : Ms) (wx : World) (bs : List (Nat × Obj)) (h : Gy Pm w1.heap.size (fun _ => False) w1 w2 wx p b (LS 8) S2 bs) => h.lift (f := 9) (args := #[.pointer (some ⟨p, 0, none⟩), .agg (wdV (LR 0))]) (E := fun e => e = .returned (.int .u64 (y0 : Int))) (S1' := S4) (S2' := S2) (fun X' W' hz => HQ0a.out k0 X' W' wx _ p b S2 hz (Pv.bz HP1.out HGL.out h.z) HGL.out))
          have HY := hid (fun (S1 : Ms) (wx : World) (bs : List (Nat × Obj)) (h : Gy Pm w1.heap.size (fun _ => False) w1 w2 wx p b S1 (LS 8) bs) => h.lift (f := 10) (args := #[.pointer (some ⟨b, 0, none⟩), .agg (wdV (LR 0))]) (E := fun e => e = .returned (.int .u64 (y0 : Int))) (S1' := S1) (S2' := S4) (fun X' W' hz => HY0a.out k0 X' W' wx _ p b S1 hz))
          clear HQ0a HY0a HQ1a HY1a HQ2a HY2a HQ3a HY3a
          clear k0
          go_upto_region 18 with fail
          have G0 := hid (HT.out.self hM ((Below.refl _ wr).drew))
          refine wp_region_noPanic ?_
          refine wp_region_held_drew (S := fun w' => w'.heap[b4]? = some (.cells (paC p b (.slice none 0 0) (.slice none 0 0)) 31 (0, 0)) ∧ w'.heap[g6]? = some (.cells (iz 24 (AA 8)) 39 (0, 0)) ∧ w'.heap[g7]? = some (.cells (iz 24 (AA 8)) 39 (0, 0)) ∧ w'.heap[W.heap.size]? = some (.cells AS 26 (0, 0))) (by kernel_rfl) (⟨G0.out.mem (by simp), G0.out.mem (by simp), G0.out.mem (by simp), HLX.out _ G0.out.z.low⟩) (fun h0 => ?_)
          generalize wr.drew = q0 at *
          refine wpAnyH_take (i := 0) (v := .pointer (some ⟨b4, 0, none⟩)) rfl (by kernel_rfl) (by kernel_rfl) (by kernel_rfl) (fun _ _ _ h => h) (.inl ⟨by rfl, fun w hw => by clear hw; go_simp⟩) h0 ?_
          try simp only [Act.put, lay_out]
          refine wpAnyH_take (i := 1) (v := .pointer (some ⟨p, 0, none⟩)) rfl (by kernel_rfl) (by kernel_rfl) (by kernel_rfl) (fun _ _ _ h => h) (.inl ⟨by rfl, fun w' hw => by have hc := row_c (i := 0) (u := .pointer (some ⟨p, 0, none⟩)) hw.1 rfl; clear hw; go_simp⟩) h0 ?_
          try simp only [Act.put, lay_out]
          refine wpAnyH_take (i := 2) (v := .pointer (some ⟨g6, 0, none⟩)) rfl (by kernel_rfl) (by kernel_rfl) (by kernel_rfl) (fun _ _ _ h => h) (.inl ⟨by rfl, fun w hw => by clear hw; go_simp⟩) h0 ?_
          try simp only [Act.put, lay_out]
          refine wpAnyH_take (i := 3) (v := .agg (wdV (LR 0))) rfl (by kernel_rfl) (by kernel_rfl) (by kernel_rfl) (fun _ _ _ h => h) (yields_load_wdm (by rfl) _ rfl g6 0 (LR 0) rfl (fun w hw => HCC.out w g6 hw.2.1)) h0 ?_
          try simp only [Act.put, lay_out]
          refine wpAnyH_take (i := 5) (v := .pointer (some ⟨b4, 1, none⟩)) rfl (by kernel_rfl) (by kernel_rfl) (by kernel_rfl) (fun _ _ _ h => h) (.inl ⟨by rfl, fun w hw => by clear hw; go_simp⟩) h0 ?_
          try simp only [Act.put, lay_out]
          refine wpAnyH_take (i := 6) (v := .pointer (some ⟨b, 0, none⟩)) rfl (by kernel_rfl) (by kernel_rfl) (by kernel_rfl) (fun _ _ _ h => h) (.inl ⟨by rfl, fun w' hw => by have hc := row_c (i := 1) (u := .pointer (some ⟨b, 0, none⟩)) hw.1 rfl; clear hw; go_simp⟩) h0 ?_
          try simp only [Act.put, lay_out]
          refine wpAnyH_take (i := 7) (v := .pointer (some ⟨g7, 0, none⟩)) rfl (by kernel_rfl) (by kernel_rfl) (by kernel_rfl) (fun _ _ _ h => h) (.inl ⟨by rfl, fun w hw => by clear hw; go_simp⟩) h0 ?_
          try simp only [Act.put, lay_out]
          refine wpAnyH_take (i := 8) (v := .agg (wdV (LR 0))) rfl (by kernel_rfl) (by kernel_rfl) (by kernel_rfl) (fun _ _ _ h => h) (yields_load_wdm (by rfl) _ rfl g7 0 (LR 0) rfl (fun w hw => HCC.out w g7 hw.2.2.1)) h0 ?_
          try simp only [Act.put, lay_out]
          refine wpAnyH_ready (rs := [4]) (by kernel_rfl) (by simp) (AllReadyH.cons rfl (fun K hK => ?_) AllReadyH.nil)
          rw [if_pos (by rfl)]
          go_simp
          go_at_call 9
          (with_reducible refine (HQ.out _ _ _ G0.out).mono ?_); rintro e q1 ⟨rfl, hz⟩
          have G1 := hid hz
          clear hz
          refine hK.out _ _ (⟨G1.out.mem (by simp), G1.out.mem (by simp), G1.out.mem (by simp), HLX.out _ G1.out.z.low⟩) (fun h1x => ?_)
          clear hK K
          try simp only [Act.put, lay_out]
          refine wpAnyH_ready (rs := [9]) (by kernel_rfl) (by simp) (AllReadyH.cons rfl (fun K hK => ?_) AllReadyH.nil)
          rw [if_pos (by rfl)]
          go_simp
          go_at_call 10
          (with_reducible refine (HY.out _ _ _ G1.out).mono ?_); rintro e q2 ⟨rfl, hz⟩
          have G2 := hid hz
          clear hz
          refine hK.out _ _ (⟨G2.out.mem (by simp), G2.out.mem (by simp), G2.out.mem (by simp), HLX.out _ G2.out.z.low⟩) (fun h2x => ?_)
          clear hK K
          try simp only [Act.put, lay_out]
          refine wpAnyH_take (i := 10) (v := .bool true) rfl (by kernel_rfl) (by kernel_rfl) (by kernel_rfl) (fun _ _ _ h => h) (.inl ⟨by rfl, fun w hw => by clear hw; go_simp⟩) h2x ?_
          try simp only [Act.put, lay_out]
          refine wpAnyH_take (i := 11) (v := .bool true) rfl (by kernel_rfl) (by kernel_rfl) (by kernel_rfl) (fun _ _ _ h => h) (.inl ⟨by rfl, fun w hw => by clear hw; go_simp⟩) h2x ?_
          try simp only [Act.put, lay_out]
          refine wpAnyH_done (by kernel_rfl) ?_ _
          refine NoPanic.normal ?_
          clear h0 h1x h2x
          try simp only [Act.put, lay_out]
          go_wp2_with fail
          go_meet
          exact ⟨rfl, G2.out.sub (bs' := [(b4, Obj.cells (paC p b (.slice none 0 0) (.slice none 0 0)) 31 (0, 0))]) (by intro q hq; simp at hq; subst hq; simp) (by simp)⟩
        · have e0 : ((Kd : Int) == 0) = false := by simp [k0]
          by_cases k1 : Kd = 1
          · have e1 : ((Kd : Int) == 1) = true := by simp [k1]
            rcases (by have := HYES.out; omega : y1 = 0 ∨ y1 = 1) with rfl | rfl
            · clear HYES
              have HQ := hid (fun (S2 : Ms) (wx : World) (bs : List (Nat × Obj)) (h : Gy Pm w1.heap.size (fun _ => False) w1 w2 wx p b (LS 8) S2 bs) => h.lift (f := 11) (args := #[.pointer (some ⟨p, 0, none⟩), .agg (wdV (LR 0))]) (E := fun e => e = .returned (.bool false)) (S1' := S4) (S2' := S2) (fun X' W' hz => HQ1a.out k0 k1 X' W' wx _ p b S2 hz (Pv.bz HP1.out HGL.out h.z) HGL.out))
              have HY := hid (fun (S1 : Ms) (wx : World) (bs : List (Nat × Obj)) (h : Gy Pm w1.heap.size (fun _ => False) w1 w2 wx p b S1 (LS 8) bs) => h.lift (f := 12) (args := #[.pointer (some ⟨b, 0, none⟩), .agg (wdV (LR 0)), .int .u64 1]) (E := fun e => e = .returned (.int .u64 0)) (S1' := S1) (S2' := S4) (fun X' W' hz => HY1a.out k0 k1 X' W' wx _ p b S1 hz))
              clear HQ0a HY0a HQ1a HY1a HQ2a HY2a HQ3a HY3a
              clear k0 k1
              go_upto_region 20 with fail
              have G0 := hid (HT.out.self hM ((Below.refl _ wr).drew))
              refine wp_region_noPanic ?_
              refine wp_region_held_drew (S := fun w' => w'.heap[b4]? = some (.cells (paC p b (.slice none 0 0) (.slice none 0 0)) 31 (0, 0)) ∧ w'.heap[g6]? = some (.cells (iz 24 (AA 8)) 39 (0, 0)) ∧ w'.heap[g7]? = some (.cells (iz 24 (AA 8)) 39 (0, 0)) ∧ w'.heap[W.heap.size]? = some (.cells AS 26 (0, 0))) (by kernel_rfl) (⟨G0.out.mem (by simp), G0.out.mem (by simp), G0.out.mem (by simp), HLX.out _ G0.out.z.low⟩) (fun h0 => ?_)
              generalize wr.drew = q0 at *
              refine wpAnyH_take (i := 0) (v := .pointer (some ⟨b4, 0, none⟩)) rfl (by kernel_rfl) (by kernel_rfl) (by kernel_rfl) (fun _ _ _ h => h) (.inl ⟨by rfl, fun w hw => by clear hw; go_simp⟩) h0 ?_
              try simp only [Act.put, lay_out]
              refine wpAnyH_take (i := 1) (v := .pointer (some ⟨p, 0, none⟩)) rfl (by kernel_rfl) (by kernel_rfl) (by kernel_rfl) (fun _ _ _ h => h) (.inl ⟨by rfl, fun w' hw => by have hc := row_c (i := 0) (u := .pointer (some ⟨p, 0, none⟩)) hw.1 rfl; clear hw; go_simp⟩) h0 ?_
              try simp only [Act.put, lay_out]
              refine wpAnyH_take (i := 2) (v := .pointer (some ⟨g6, 0, none⟩)) rfl (by kernel_rfl) (by kernel_rfl) (by kernel_rfl) (fun _ _ _ h => h) (.inl ⟨by rfl, fun w hw => by clear hw; go_simp⟩) h0 ?_
              try simp only [Act.put, lay_out]
              refine wpAnyH_take (i := 3) (v := .agg (wdV (LR 0))) rfl (by kernel_rfl) (by kernel_rfl) (by kernel_rfl) (fun _ _ _ h => h) (yields_load_wdm (by rfl) _ rfl g6 0 (LR 0) rfl (fun w hw => HCC.out w g6 hw.2.1)) h0 ?_
              try simp only [Act.put, lay_out]
              refine wpAnyH_take (i := 5) (v := .pointer (some ⟨b4, 1, none⟩)) rfl (by kernel_rfl) (by kernel_rfl) (by kernel_rfl) (fun _ _ _ h => h) (.inl ⟨by rfl, fun w hw => by clear hw; go_simp⟩) h0 ?_
              try simp only [Act.put, lay_out]
              refine wpAnyH_take (i := 6) (v := .pointer (some ⟨b, 0, none⟩)) rfl (by kernel_rfl) (by kernel_rfl) (by kernel_rfl) (fun _ _ _ h => h) (.inl ⟨by rfl, fun w' hw => by have hc := row_c (i := 1) (u := .pointer (some ⟨b, 0, none⟩)) hw.1 rfl; clear hw; go_simp⟩) h0 ?_
              try simp only [Act.put, lay_out]
              refine wpAnyH_take (i := 7) (v := .pointer (some ⟨g7, 0, none⟩)) rfl (by kernel_rfl) (by kernel_rfl) (by kernel_rfl) (fun _ _ _ h => h) (.inl ⟨by rfl, fun w hw => by clear hw; go_simp⟩) h0 ?_
              try simp only [Act.put, lay_out]
              refine wpAnyH_take (i := 8) (v := .agg (wdV (LR 0))) rfl (by kernel_rfl) (by kernel_rfl) (by kernel_rfl) (fun _ _ _ h => h) (yields_load_wdm (by rfl) _ rfl g7 0 (LR 0) rfl (fun w hw => HCC.out w g7 hw.2.2.1)) h0 ?_
              try simp only [Act.put, lay_out]
              refine wpAnyH_ready (rs := [4]) (by kernel_rfl) (by simp) (AllReadyH.cons rfl (fun K hK => ?_) AllReadyH.nil)
              rw [if_pos (by rfl)]
              go_simp
              go_at_call 11
              (with_reducible refine (HQ.out _ _ _ G0.out).mono ?_); rintro e q1 ⟨rfl, hz⟩
              have G1 := hid hz
              clear hz
              refine hK.out _ _ (⟨G1.out.mem (by simp), G1.out.mem (by simp), G1.out.mem (by simp), HLX.out _ G1.out.z.low⟩) (fun h1x => ?_)
              clear hK K
              try simp only [Act.put, lay_out]
              refine wpAnyH_ready (rs := [9]) (by kernel_rfl) (by simp) (AllReadyH.cons rfl (fun K hK => ?_) AllReadyH.nil)
              rw [if_pos (by rfl)]
              go_simp
              go_at_call 12
              (with_reducible refine (HY.out _ _ _ G1.out).mono ?_); rintro e q2 ⟨rfl, hz⟩
              have G2 := hid hz
              clear hz
              refine hK.out _ _ (⟨G2.out.mem (by simp), G2.out.mem (by simp), G2.out.mem (by simp), HLX.out _ G2.out.z.low⟩) (fun h2x => ?_)
              clear hK K
              try simp only [Act.put, lay_out]
              refine wpAnyH_take (i := 10) (v := .bool false) rfl (by kernel_rfl) (by kernel_rfl) (by kernel_rfl) (fun _ _ _ h => h) (.inl ⟨by rfl, fun w hw => by clear hw; go_simp⟩) h2x ?_
              try simp only [Act.put, lay_out]
              refine wpAnyH_take (i := 11) (v := .bool true) rfl (by kernel_rfl) (by kernel_rfl) (by kernel_rfl) (fun _ _ _ h => h) (.inl ⟨by rfl, fun w hw => by clear hw; go_simp⟩) h2x ?_
              try simp only [Act.put, lay_out]
              refine wpAnyH_take (i := 12) (v := .bool true) rfl (by kernel_rfl) (by kernel_rfl) (by kernel_rfl) (fun _ _ _ h => h) (.inl ⟨by rfl, fun w hw => by clear hw; go_simp⟩) h2x ?_
              try simp only [Act.put, lay_out]
              refine wpAnyH_done (by kernel_rfl) ?_ _
              refine NoPanic.normal ?_
              clear h0 h1x h2x
              try simp only [Act.put, lay_out]
              go_wp2_with fail
              go_meet
              exact ⟨rfl, G2.out.sub (bs' := [(b4, Obj.cells (paC p b (.slice none 0 0) (.slice none 0 0)) 31 (0, 0))]) (by intro q hq; simp at hq; subst hq; simp) (by simp)⟩
            · clear HYES
              have HQ := hid (fun (S2 : Ms) (wx : World) (bs : List (Nat × Obj)) (h : Gy Pm w1.heap.size (fun _ => False) w1 w2 wx p b (LS 8) S2 bs) => h.lift (f := 11) (args := #[.pointer (some ⟨p, 0, none⟩), .agg (wdV (LR 0))]) (E := fun e => e = .returned (.bool true)) (S1' := S4) (S2' := S2) (fun X' W' hz => HQ1a.out k0 k1 X' W' wx _ p b S2 hz (Pv.bz HP1.out HGL.out h.z) HGL.out))
              have HY := hid (fun (S1 : Ms) (wx : World) (bs : List (Nat × Obj)) (h : Gy Pm w1.heap.size (fun _ => False) w1 w2 wx p b S1 (LS 8) bs) => h.lift (f := 12) (args := #[.pointer (some ⟨b, 0, none⟩), .agg (wdV (LR 0)), .int .u64 1]) (E := fun e => e = .returned (.int .u64 1)) (S1' := S1) (S2' := S4) (fun X' W' hz => HY1a.out k0 k1 X' W' wx _ p b S1 hz))
              clear HQ0a HY0a HQ1a HY1a HQ2a HY2a HQ3a HY3a
              clear k0 k1
              go_upto_region 20 with fail
              have G0 := hid (HT.out.self hM ((Below.refl _ wr).drew))
              refine wp_region_noPanic ?_
              refine wp_region_held_drew (S := fun w' => w'.heap[b4]? = some (.cells (paC p b (.slice none 0 0) (.slice none 0 0)) 31 (0, 0)) ∧ w'.heap[g6]? = some (.cells (iz 24 (AA 8)) 39 (0, 0)) ∧ w'.heap[g7]? = some (.cells (iz 24 (AA 8)) 39 (0, 0)) ∧ w'.heap[W.heap.size]? = some (.cells AS 26 (0, 0))) (by kernel_rfl) (⟨G0.out.mem (by simp), G0.out.mem (by simp), G0.out.mem (by simp), HLX.out _ G0.out.z.low⟩) (fun h0 => ?_)
              generalize wr.drew = q0 at *
              refine wpAnyH_take (i := 0) (v := .pointer (some ⟨b4, 0, none⟩)) rfl (by kernel_rfl) (by kernel_rfl) (by kernel_rfl) (fun _ _ _ h => h) (.inl ⟨by rfl, fun w hw => by clear hw; go_simp⟩) h0 ?_
              try simp only [Act.put, lay_out]
              refine wpAnyH_take (i := 1) (v := .pointer (some ⟨p, 0, none⟩)) rfl (by kernel_rfl) (by kernel_rfl) (by kernel_rfl) (fun _ _ _ h => h) (.inl ⟨by rfl, fun w' hw => by have hc := row_c (i := 0) (u := .pointer (some ⟨p, 0, none⟩)) hw.1 rfl; clear hw; go_simp⟩) h0 ?_
              try simp only [Act.put, lay_out]
              refine wpAnyH_take (i := 2) (v := .pointer (some ⟨g6, 0, none⟩)) rfl (by kernel_rfl) (by kernel_rfl) (by kernel_rfl) (fun _ _ _ h => h) (.inl ⟨by rfl, fun w hw => by clear hw; go_simp⟩) h0 ?_
              try simp only [Act.put, lay_out]
              refine wpAnyH_take (i := 3) (v := .agg (wdV (LR 0))) rfl (by kernel_rfl) (by kernel_rfl) (by kernel_rfl) (fun _ _ _ h => h) (yields_load_wdm (by rfl) _ rfl g6 0 (LR 0) rfl (fun w hw => HCC.out w g6 hw.2.1)) h0 ?_
              try simp only [Act.put, lay_out]
              refine wpAnyH_take (i := 5) (v := .pointer (some ⟨b4, 1, none⟩)) rfl (by kernel_rfl) (by kernel_rfl) (by kernel_rfl) (fun _ _ _ h => h) (.inl ⟨by rfl, fun w hw => by clear hw; go_simp⟩) h0 ?_
              try simp only [Act.put, lay_out]
              refine wpAnyH_take (i := 6) (v := .pointer (some ⟨b, 0, none⟩)) rfl (by kernel_rfl) (by kernel_rfl) (by kernel_rfl) (fun _ _ _ h => h) (.inl ⟨by rfl, fun w' hw => by have hc := row_c (i := 1) (u := .pointer (some ⟨b, 0, none⟩)) hw.1 rfl; clear hw; go_simp⟩) h0 ?_
              try simp only [Act.put, lay_out]
              refine wpAnyH_take (i := 7) (v := .pointer (some ⟨g7, 0, none⟩)) rfl (by kernel_rfl) (by kernel_rfl) (by kernel_rfl) (fun _ _ _ h => h) (.inl ⟨by rfl, fun w hw => by clear hw; go_simp⟩) h0 ?_
              try simp only [Act.put, lay_out]
              refine wpAnyH_take (i := 8) (v := .agg (wdV (LR 0))) rfl (by kernel_rfl) (by kernel_rfl) (by kernel_rfl) (fun _ _ _ h => h) (yields_load_wdm (by rfl) _ rfl g7 0 (LR 0) rfl (fun w hw => HCC.out w g7 hw.2.2.1)) h0 ?_
              try simp only [Act.put, lay_out]
              refine wpAnyH_ready (rs := [4]) (by kernel_rfl) (by simp) (AllReadyH.cons rfl (fun K hK => ?_) AllReadyH.nil)
              rw [if_pos (by rfl)]
              go_simp
              go_at_call 11
              (with_reducible refine (HQ.out _ _ _ G0.out).mono ?_); rintro e q1 ⟨rfl, hz⟩
              have G1 := hid hz
              clear hz
              refine hK.out _ _ (⟨G1.out.mem (by simp), G1.out.mem (by simp), G1.out.mem (by simp), HLX.out _ G1.out.z.low⟩) (fun h1x => ?_)
              clear hK K
              try simp only [Act.put, lay_out]
              refine wpAnyH_ready (rs := [9]) (by kernel_rfl) (by simp) (AllReadyH.cons rfl (fun K hK => ?_) AllReadyH.nil)
              rw [if_pos (by rfl)]
              go_simp
              go_at_call 12
              (with_reducible refine (HY.out _ _ _ G1.out).mono ?_); rintro e q2 ⟨rfl, hz⟩
              have G2 := hid hz
              clear hz
              refine hK.out _ _ (⟨G2.out.mem (by simp), G2.out.mem (by simp), G2.out.mem (by simp), HLX.out _ G2.out.z.low⟩) (fun h2x => ?_)
              clear hK K
              try simp only [Act.put, lay_out]
              refine wpAnyH_take (i := 10) (v := .bool true) rfl (by kernel_rfl) (by kernel_rfl) (by kernel_rfl) (fun _ _ _ h => h) (.inl ⟨by rfl, fun w hw => by clear hw; go_simp⟩) h2x ?_
              try simp only [Act.put, lay_out]
              refine wpAnyH_take (i := 11) (v := .bool true) rfl (by kernel_rfl) (by kernel_rfl) (by kernel_rfl) (fun _ _ _ h => h) (.inl ⟨by rfl, fun w hw => by clear hw; go_simp⟩) h2x ?_
              try simp only [Act.put, lay_out]
              refine wpAnyH_take (i := 12) (v := .bool true) rfl (by kernel_rfl) (by kernel_rfl) (by kernel_rfl) (fun _ _ _ h => h) (.inl ⟨by rfl, fun w hw => by clear hw; go_simp⟩) h2x ?_
              try simp only [Act.put, lay_out]
              refine wpAnyH_done (by kernel_rfl) ?_ _
              refine NoPanic.normal ?_
              clear h0 h1x h2x
              try simp only [Act.put, lay_out]
              go_wp2_with fail
              go_meet
              exact ⟨rfl, G2.out.sub (bs' := [(b4, Obj.cells (paC p b (.slice none 0 0) (.slice none 0 0)) 31 (0, 0))]) (by intro q hq; simp at hq; subst hq; simp) (by simp)⟩
          · have e1 : ((Kd : Int) == 1) = false := by simp [k1]
            by_cases k2 : Kd = 2
            · have e2 : ((Kd : Int) == 2) = true := by simp [k2]
              have HQ := hid (fun (S2 : Ms) (wx : World) (h : Gy Pm w1.heap.size (fun _ => False) w1 w2 wx p b (LS 8) S2 [(g7, Obj.cells (iz 24 (AA 8)) 39 (0, 0)), (g6, Obj.cells (iz 24 (AA 8)) 39 (0, 0)), (b4, Obj.cells (paC p b (.slice none 0 0) (.slice none 0 0)) 31 (0, 0))]) => h.tells (f := 14) (args := #[.pointer (some ⟨p, 0, none⟩), .slice (some ⟨g6, 0, none⟩) mm 8, .int .i64 z]) (S1' := S4) (S2' := S2) (zs := z2) (fun X' _ hX' W' hz => HQ2a.out k0 k1 k2 X' W' wx _ p b S2 _ hz (Pv.bz HP1.out HGL.out h.z) HGL.out (HWS0.out wx g6 X' (h.mem (by simp)) (hX' (g6, Obj.cells (iz 24 (AA 8)) 39 (0, 0)) (by simp)))))
              have HY := hid (fun (S1 : Ms) (wx : World) (Ys : List (Nat × Obj)) (h : Gy Pm w1.heap.size (fun _ => False) w1 w2 wx p b S1 (LS 8) ([(g7, Obj.cells (iz 24 (AA 8)) 39 (0, 0)), (g6, Obj.cells (iz 24 (AA 8)) 39 (0, 0)), (b4, Obj.cells (paC p b (.slice none 0 0) (.slice none 0 0)) 31 (0, 0))] ++ Ys)) => h.tells (f := 15) (args := #[.pointer (some ⟨b, 0, none⟩), .slice (some ⟨g7, 0, none⟩) mm 8, .int .i64 z]) (S1' := S1) (S2' := S4) (zs := z2) (fun X' _ hX' W' hz => HY2a.out k0 k1 k2 X' W' wx _ p b S1 _ hz (HWS0.out wx g7 X' (h.mem (by simp)) (hX' (g7, Obj.cells (iz 24 (AA 8)) 39 (0, 0)) (by simp)))))
              clear HQ0a HY0a HQ1a HY1a HQ2a HY2a HQ3a HY3a
              clear k0 k1 k2
              go_upto_region 22 with fail
              have G0 := hid (HT.out.self hM ((Below.refl _ wr).drew))
              refine wp_region_noPanic ?_
              refine wp_region_held_drew (S := fun w' => w'.heap[b4]? = some (.cells (paC p b (.slice none 0 0) (.slice none 0 0)) 31 (0, 0)) ∧ w'.heap[g6]? = some (.cells (iz 24 (AA 8)) 39 (0, 0)) ∧ w'.heap[g7]? = some (.cells (iz 24 (AA 8)) 39 (0, 0)) ∧ w'.heap[W.heap.size]? = some (.cells AS 26 (0, 0))) (by kernel_rfl) (⟨G0.out.mem (by simp), G0.out.mem (by simp), G0.out.mem (by simp), HLX.out _ G0.out.z.low⟩) (fun h0 => ?_)
              generalize wr.drew = q0 at *
              refine wpAnyH_take (i := 0) (v := .pointer (some ⟨b4, 0, none⟩)) rfl (by kernel_rfl) (by kernel_rfl) (by kernel_rfl) (fun _ _ _ h => h) (.inl ⟨by rfl, fun w hw => by clear hw; go_simp⟩) h0 ?_
              try simp only [Act.put, lay_out]
              refine wpAnyH_take (i := 1) (v := .pointer (some ⟨p, 0, none⟩)) rfl (by kernel_rfl) (by kernel_rfl) (by kernel_rfl) (fun _ _ _ h => h) (.inl ⟨by rfl, fun w' hw => by have hc := row_c (i := 0) (u := .pointer (some ⟨p, 0, none⟩)) hw.1 rfl; clear hw; go_simp⟩) h0 ?_
              try simp only [Act.put, lay_out]
              refine wpAnyH_take (i := 2) (v := .int .i64 (mm : Int)) rfl (by kernel_rfl) (by kernel_rfl) (by kernel_rfl) (fun _ _ _ h => h) (.inl ⟨by rfl, fun w hw => by clear hw; go_simp⟩) h0 ?_
              try simp only [Act.put, lay_out]
              refine wpAnyH_take (i := 3) (v := .slice (some ⟨g6, 0, none⟩) mm 8) rfl (by kernel_rfl) (by kernel_rfl) (by kernel_rfl) (fun _ _ _ h => h) (.inl ⟨by rfl, fun w hw => by have hc := gr_cut (w := w) (g := g6) HM8.out; clear hw; go_simp⟩) h0 ?_
              try simp only [Act.put, lay_out]
              refine wpAnyH_take (i := 4) (v := .pointer (some ⟨W.heap.size, 2, none⟩)) rfl (by kernel_rfl) (by kernel_rfl) (by kernel_rfl) (fun _ _ _ h => h) (.inl ⟨by rfl, fun w hw => by clear hw; go_simp⟩) h0 ?_
              try simp only [Act.put, lay_out]
              refine wpAnyH_take (i := 5) (v := .int .i64 z) rfl (by kernel_rfl) (by kernel_rfl) (by kernel_rfl) (fun _ _ _ h => h) (.inl ⟨by rfl, fun w' hw => by have hc := row_c (i := 2) (u := .int .i64 z) hw.2.2.2 HA2.out; clear hw; go_simp⟩) h0 ?_
              try simp only [Act.put, lay_out]
              refine wpAnyH_take (i := 7) (v := .pointer (some ⟨b4, 1, none⟩)) rfl (by kernel_rfl) (by kernel_rfl) (by kernel_rfl) (fun _ _ _ h => h) (.inl ⟨by rfl, fun w hw => by clear hw; go_simp⟩) h0 ?_
              try simp only [Act.put, lay_out]
              refine wpAnyH_take (i := 8) (v := .pointer (some ⟨b, 0, none⟩)) rfl (by kernel_rfl) (by kernel_rfl) (by kernel_rfl) (fun _ _ _ h => h) (.inl ⟨by rfl, fun w' hw => by have hc := row_c (i := 1) (u := .pointer (some ⟨b, 0, none⟩)) hw.1 rfl; clear hw; go_simp⟩) h0 ?_
              try simp only [Act.put, lay_out]
              refine wpAnyH_take (i := 9) (v := .int .i64 (mm : Int)) rfl (by kernel_rfl) (by kernel_rfl) (by kernel_rfl) (fun _ _ _ h => h) (.inl ⟨by rfl, fun w hw => by clear hw; go_simp⟩) h0 ?_
              try simp only [Act.put, lay_out]
              refine wpAnyH_take (i := 10) (v := .slice (some ⟨g7, 0, none⟩) mm 8) rfl (by kernel_rfl) (by kernel_rfl) (by kernel_rfl) (fun _ _ _ h => h) (.inl ⟨by rfl, fun w hw => by have hc := gr_cut (w := w) (g := g7) HM8.out; clear hw; go_simp⟩) h0 ?_
              try simp only [Act.put, lay_out]
              refine wpAnyH_take (i := 11) (v := .pointer (some ⟨W.heap.size, 2, none⟩)) rfl (by kernel_rfl) (by kernel_rfl) (by kernel_rfl) (fun _ _ _ h => h) (.inl ⟨by rfl, fun w hw => by clear hw; go_simp⟩) h0 ?_
              try simp only [Act.put, lay_out]
              refine wpAnyH_take (i := 12) (v := .int .i64 z) rfl (by kernel_rfl) (by kernel_rfl) (by kernel_rfl) (fun _ _ _ h => h) (.inl ⟨by rfl, fun w' hw => by have hc := row_c (i := 2) (u := .int .i64 z) hw.2.2.2 HA2.out; clear hw; go_simp⟩) h0 ?_
              try simp only [Act.put, lay_out]
              refine wpAnyH_ready (rs := [6]) (by kernel_rfl) (by simp) (AllReadyH.cons rfl (fun K hK => ?_) AllReadyH.nil)
              rw [if_pos (by rfl)]
              go_simp
              go_at_call 14
              (with_reducible refine (HQ.out _ _ G0.out).mono ?_); rintro e q1 ⟨v1, Y1, rfl, hr, hz⟩
              have G1 := hid hz
              have R1 := hid hr
              clear hz hr
              refine hK.out _ _ (⟨G1.out.mem (by simp), G1.out.mem (by simp), G1.out.mem (by simp), HLX.out _ G1.out.z.low⟩) (fun h1x => ?_)
              clear hK K
              try simp only [Act.put, lay_out]
              refine wpAnyH_ready (rs := [13]) (by kernel_rfl) (by simp) (AllReadyH.cons rfl (fun K hK => ?_) AllReadyH.nil)
              rw [if_pos (by rfl)]
              go_simp
              go_at_call 15
              (with_reducible refine (HY.out _ _ _ G1.out).mono ?_); rintro e q2 ⟨v2, Y2, rfl, hr, hz⟩
              have G2 := hid hz
              have R2 := hid hr
              clear hz hr
              refine hK.out _ _ (⟨G2.out.mem (by simp), G2.out.mem (by simp), G2.out.mem (by simp), HLX.out _ G2.out.z.low⟩) (fun h2x => ?_)
              clear hK K
              try simp only [Act.put, lay_out]
              refine wpAnyH_ready (rs := [14]) (by kernel_rfl) (by simp) (AllReadyH.cons rfl (fun K hK => ?_) AllReadyH.nil)
              rw [if_pos (by rfl)]
              go_simp
              go_at_call 13
              (with_reducible refine (same_ns v1 v2 _ _ q2 (R1.out.rd (fun q hq => G2.out.mem (List.mem_append_left _ (List.mem_append_right _ hq)))) (R2.out.rd (fun q hq => G2.out.mem (List.mem_append_right _ hq))) rfl).mono ?_); rintro e q3 ⟨rfl, e9⟩
              obtain rfl : q2 = q3 := e9.symm
              refine hK.out _ _ (⟨G2.out.mem (by simp), G2.out.mem (by simp), G2.out.mem (by simp), HLX.out _ G2.out.z.low⟩) (fun h3x => ?_)
              clear hK K
              try simp only [Act.put, lay_out]
              refine wpAnyH_take (i := 15) (v := .bool true) rfl (by kernel_rfl) (by kernel_rfl) (by kernel_rfl) (fun _ _ _ h => h) (.inl ⟨by rfl, fun w hw => by clear hw; go_simp⟩) h3x ?_
              try simp only [Act.put, lay_out]
              refine wpAnyH_done (by kernel_rfl) ?_ _
              refine NoPanic.normal ?_
              clear h0 h1x h2x h3x
              try simp only [Act.put, lay_out]
              go_wp2_with fail
              go_meet
              exact ⟨rfl, G2.out.sub (bs' := [(b4, Obj.cells (paC p b (.slice none 0 0) (.slice none 0 0)) 31 (0, 0))]) (by intro q hq; simp at hq; subst hq; simp) (by simp)⟩
            · have e2 : ((Kd : Int) == 2) = false := by simp [k2]
              have HQ := hid (fun (S2 : Ms) (wx : World) (h : Gy Pm w1.heap.size (fun _ => False) w1 w2 wx p b (LS 8) S2 [(g7, Obj.cells (iz 24 (AA 8)) 39 (0, 0)), (g6, Obj.cells (iz 24 (AA 8)) 39 (0, 0)), (b4, Obj.cells (paC p b (.slice none 0 0) (.slice none 0 0)) 31 (0, 0))]) => h.tells (f := 16) (args := #[.pointer (some ⟨p, 0, none⟩), .agg (iz 24 (AA 8)), .int .i64 z]) (S1' := S4) (S2' := S2) (zs := z3) (fun X' _ _ W' hz => HQ3a.out k0 k1 k2 X' W' wx _ p b S2 hz (Pv.bz HP1.out HGL.out h.z) HGL.out))
              have HY := hid (fun (S1 : Ms) (wx : World) (Ys : List (Nat × Obj)) (h : Gy Pm w1.heap.size (fun _ => False) w1 w2 wx p b S1 (LS 8) ([(g7, Obj.cells (iz 24 (AA 8)) 39 (0, 0)), (g6, Obj.cells (iz 24 (AA 8)) 39 (0, 0)), (b4, Obj.cells (paC p b (.slice none 0 0) (.slice none 0 0)) 31 (0, 0))] ++ Ys)) => h.tells (f := 17) (args := #[.pointer (some ⟨b, 0, none⟩), .agg (iz 24 (AA 8)), .int .i64 z]) (S1' := S1) (S2' := S4) (zs := z3) (fun X' _ _ W' hz => HY3a.out k0 k1 k2 X' W' wx _ p b S1 hz))
              clear HQ0a HY0a HQ1a HY1a HQ2a HY2a HQ3a HY3a
              clear k0 k1 k2
              go_upto_region 16 with fail
              have G0 := hid (HT.out.self hM ((Below.refl _ wr).drew))
              refine wp_region_noPanic ?_
              refine wp_region_held_drew (S := fun w' => w'.heap[b4]? = some (.cells (paC p b (.slice none 0 0) (.slice none 0 0)) 31 (0, 0)) ∧ w'.heap[g6]? = some (.cells (iz 24 (AA 8)) 39 (0, 0)) ∧ w'.heap[g7]? = some (.cells (iz 24 (AA 8)) 39 (0, 0)) ∧ w'.heap[W.heap.size]? = some (.cells AS 26 (0, 0))) (by kernel_rfl) (⟨G0.out.mem (by simp), G0.out.mem (by simp), G0.out.mem (by simp), HLX.out _ G0.out.z.low⟩) (fun h0 => ?_)
              generalize wr.drew = q0 at *
              refine wpAnyH_take (i := 0) (v := .pointer (some ⟨b4, 0, none⟩)) rfl (by kernel_rfl) (by kernel_rfl) (by kernel_rfl) (fun _ _ _ h => h) (.inl ⟨by rfl, fun w hw => by clear hw; go_simp⟩) h0 ?_
              try simp only [Act.put, lay_out]
              refine wpAnyH_take (i := 1) (v := .pointer (some ⟨p, 0, none⟩)) rfl (by kernel_rfl) (by kernel_rfl) (by kernel_rfl) (fun _ _ _ h => h) (.inl ⟨by rfl, fun w' hw => by have hc := row_c (i := 0) (u := .pointer (some ⟨p, 0, none⟩)) hw.1 rfl; clear hw; go_simp⟩) h0 ?_
              try simp only [Act.put, lay_out]
              refine wpAnyH_take (i := 2) (v := .agg (iz 24 (AA 8))) rfl (by kernel_rfl) (by kernel_rfl) (by kernel_rfl) (fun _ _ _ h => h) (yields_load_row (by rfl) 39 _ rfl g6 39 (iz 24 (AA 8)) _ rfl (fun w h => h.2.1) Tryz.underlying39 rfl (by kernel_rfl)) h0 ?_
              try simp only [Act.put, lay_out]
              refine wpAnyH_take (i := 3) (v := .pointer (some ⟨W.heap.size, 2, none⟩)) rfl (by kernel_rfl) (by kernel_rfl) (by kernel_rfl) (fun _ _ _ h => h) (.inl ⟨by rfl, fun w hw => by clear hw; go_simp⟩) h0 ?_
              try simp only [Act.put, lay_out]
              refine wpAnyH_take (i := 4) (v := .int .i64 z) rfl (by kernel_rfl) (by kernel_rfl) (by kernel_rfl) (fun _ _ _ h => h) (.inl ⟨by rfl, fun w' hw => by have hc := row_c (i := 2) (u := .int .i64 z) hw.2.2.2 HA2.out; clear hw; go_simp⟩) h0 ?_
              try simp only [Act.put, lay_out]
              refine wpAnyH_take (i := 6) (v := .pointer (some ⟨b4, 1, none⟩)) rfl (by kernel_rfl) (by kernel_rfl) (by kernel_rfl) (fun _ _ _ h => h) (.inl ⟨by rfl, fun w hw => by clear hw; go_simp⟩) h0 ?_
              try simp only [Act.put, lay_out]
              refine wpAnyH_take (i := 7) (v := .pointer (some ⟨b, 0, none⟩)) rfl (by kernel_rfl) (by kernel_rfl) (by kernel_rfl) (fun _ _ _ h => h) (.inl ⟨by rfl, fun w' hw => by have hc := row_c (i := 1) (u := .pointer (some ⟨b, 0, none⟩)) hw.1 rfl; clear hw; go_simp⟩) h0 ?_
              try simp only [Act.put, lay_out]
              refine wpAnyH_take (i := 8) (v := .agg (iz 24 (AA 8))) rfl (by kernel_rfl) (by kernel_rfl) (by kernel_rfl) (fun _ _ _ h => h) (yields_load_row (by rfl) 39 _ rfl g7 39 (iz 24 (AA 8)) _ rfl (fun w h => h.2.2.1) Tryz.underlying39 rfl (by kernel_rfl)) h0 ?_
              try simp only [Act.put, lay_out]
              refine wpAnyH_take (i := 9) (v := .pointer (some ⟨W.heap.size, 2, none⟩)) rfl (by kernel_rfl) (by kernel_rfl) (by kernel_rfl) (fun _ _ _ h => h) (.inl ⟨by rfl, fun w hw => by clear hw; go_simp⟩) h0 ?_
              try simp only [Act.put, lay_out]
              refine wpAnyH_take (i := 10) (v := .int .i64 z) rfl (by kernel_rfl) (by kernel_rfl) (by kernel_rfl) (fun _ _ _ h => h) (.inl ⟨by rfl, fun w' hw => by have hc := row_c (i := 2) (u := .int .i64 z) hw.2.2.2 HA2.out; clear hw; go_simp⟩) h0 ?_
              try simp only [Act.put, lay_out]
              refine wpAnyH_ready (rs := [5]) (by kernel_rfl) (by simp) (AllReadyH.cons rfl (fun K hK => ?_) AllReadyH.nil)
              rw [if_pos (by rfl)]
              go_simp
              go_at_call 16
              (with_reducible refine (HQ.out _ _ G0.out).mono ?_); rintro e q1 ⟨v1, Y1, rfl, hr, hz⟩
              have G1 := hid hz
              have R1 := hid hr
              clear hz hr
              refine hK.out _ _ (⟨G1.out.mem (by simp), G1.out.mem (by simp), G1.out.mem (by simp), HLX.out _ G1.out.z.low⟩) (fun h1x => ?_)
              clear hK K
              try simp only [Act.put, lay_out]
              refine wpAnyH_ready (rs := [11]) (by kernel_rfl) (by simp) (AllReadyH.cons rfl (fun K hK => ?_) AllReadyH.nil)
              rw [if_pos (by rfl)]
              go_simp
              go_at_call 17
              (with_reducible refine (HY.out _ _ _ G1.out).mono ?_); rintro e q2 ⟨v2, Y2, rfl, hr, hz⟩
              have G2 := hid hz
              have R2 := hid hr
              clear hz hr
              refine hK.out _ _ (⟨G2.out.mem (by simp), G2.out.mem (by simp), G2.out.mem (by simp), HLX.out _ G2.out.z.low⟩) (fun h2x => ?_)
              clear hK K
              try simp only [Act.put, lay_out]
              refine wpAnyH_ready (rs := [12]) (by kernel_rfl) (by simp) (AllReadyH.cons rfl (fun K hK => ?_) AllReadyH.nil)
              rw [if_pos (by rfl)]
              go_simp
              go_at_call 13
              (with_reducible refine (same_ns v1 v2 _ _ q2 (R1.out.rd (fun q hq => G2.out.mem (List.mem_append_left _ (List.mem_append_right _ hq)))) (R2.out.rd (fun q hq => G2.out.mem (List.mem_append_right _ hq))) rfl).mono ?_); rintro e q3 ⟨rfl, e9⟩
              obtain rfl : q2 = q3 := e9.symm
              refine hK.out _ _ (⟨G2.out.mem (by simp), G2.out.mem (by simp), G2.out.mem (by simp), HLX.out _ G2.out.z.low⟩) (fun h3x => ?_)
              clear hK K
              try simp only [Act.put, lay_out]
              refine wpAnyH_take (i := 13) (v := .bool true) rfl (by kernel_rfl) (by kernel_rfl) (by kernel_rfl) (fun _ _ _ h => h) (.inl ⟨by rfl, fun w hw => by clear hw; go_simp⟩) h3x ?_
              try simp only [Act.put, lay_out]
              refine wpAnyH_done (by kernel_rfl) ?_ _
              refine NoPanic.normal ?_
              clear h0 h1x h2x h3x
              try simp only [Act.put, lay_out]
              go_wp2_with fail
              go_meet
              exact ⟨rfl, G2.out.sub (bs' := [(b4, Obj.cells (paC p b (.slice none 0 0) (.slice none 0 0)) 31 (0, 0))]) (by intro q hq; simp at hq; subst hq; simp) (by simp)⟩
      case rest =>
        obtain ⟨rfl, hcut⟩ := hcut
        have H11 := hid hcut
        clear hcut HI HQ0a HY0a HQ1a HY1a HQ2a HY2a HQ3a HY3a HCC HCC0 HWS0 HYES hm8
        generalize wc = w11 at *
        have HE3 := hid (fun (w : World) (bs : List (Nat × Obj)) (h : Gy Pm w1.heap.size (fun _ => False) w1 w2 w p b S4 S4 bs) => h.asks hM (E := fun e _ => e = .returned (.bool true)) (f := 18) (args := #[.agg (paC p b (.slice none 0 0) (.slice none 0 0))]) (fun X W hz => (llike_any hM hz HB4.out (by decide) HY4.out none none 0 0 0 0).mono fun _ _ hr => ⟨hr.1, hr.2.2⟩))
        go_upto_region 23 with fail
        go_wp2_with (first
          | (refine step_load_row_want (by rfl) 31 _ rfl b4 31 (paC p b (.slice none 0 0) (.slice none 0 0)) _ rfl (H11.out.mem (by simp)) Tryz.underlying31 rfl (by kernel_rfl) ?_)
          | (go_at_call 18; (with_reducible refine (HE3.out _ _ H11.out).mono ?_); rintro e w16 ⟨rfl, hb⟩; have H16 := hid hb; have HAL : Hid (Below W.heap.size W w16) := hid (HWJ.out.trans (H16.out.z.low.mono HWJ.out.size)); clear hb)
          | (go_at_call 19; (with_reducible refine (HAW.out _ HAL.out).mono ?_); rintro e wz ⟨rfl, hb⟩; have HZ := hid (HAL.out.trans (hb.mono HAL.out.size)); clear hb))
        go_ret
        exact ⟨rfl, HZ.out⟩
end Go.Proofs.YtpjgpiieminaoaaGreatDoor
