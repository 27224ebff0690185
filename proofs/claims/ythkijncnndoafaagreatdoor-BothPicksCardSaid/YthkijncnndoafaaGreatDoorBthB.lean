import Derived.Test.YthkijncnndoafaaGreatDoorBtm
import Derived.Test.YthkijncnndoafaaGreatDoorBtf
import Derived.Test.YthkijncnndoafaaGreatDoorBtb
import Derived.Test.YthkijncnndoafaaGreatDoorBta
import Derived.Test.YthkijncnndoafaaGreatDoorTmi
import Derived.Test.YthkijncnndoafaaGreatDoorMpw
import Derived.Test.YthkijncnndoafaaGreatDoorShp
import Derived.Test.YthkijncnndoafaaGreatDoorGenB
import Derived.Test.YthkijncnndoafaaGreatDoorSgw
import Derived.Test.YthkijncnndoafaaGreatDoorWlm
import Derived.Test.YthkijncnndoafaaGreatDoorAcw
import Derived.Test.YthkijncnndoafaaGreatDoorGen
import Derived.Test.YthkijncnndoafaaGreatDoorFrp
import Derived.Test.YthkijncnndoafaaGreatDoorWde
import Derived.Test.YthkijncnndoafaaGreatDoorTmc
import Derived.Test.YthkijncnndoafaaGreatDoorTmd
import Derived.Test.YthkijncnndoafaaGreatDoorWdg
import Derived.Test.YthkijncnndoafaaGreatDoorOcb
import Derived.Test.YthkijncnndoafaaGreatDoorShy
import Derived.Test.YthkijncnndoafaaGreatDoorFrq
import Derived.Test.YthkijncnndoafaaGreatDoorBtc
import Derived.Test.YthkijncnndoafaaGreatDoorBopB
namespace Go.Proofs.YthkijncnndoafaaGreatDoor
open Go.RowKit Go.Deep
set_option maxRecDepth 100000
abbrev w3b (x : Nat → Nat) : Array Value := #[.int .u64 (x 0 : Int), .int .u64 (x 1 : Int), .int .u64 (x 2 : Int)]
def aA (S : Ms) (x : Nat → Nat) (i : Nat) : Nat → Int := fun q => if q / 3 < i then lyR S x (q / 3) (q % 3) else 0
def upd3 (f : Nat → Int) (i : Nat) (R : Nat → Int) : Nat → Int := fun q => if q / 3 = i then R (q % 3) else f q
theorem aA_next (S : Ms) (x : Nat → Nat) (i : Nat) : upd3 (aA S x i) i (lyR S x i) = aA S x (i + 1) := by
 funext q
 unfold upd3 aA
 by_cases e : q / 3 = i
 · rw [if_pos e, if_pos (by omega), e]
 ·
  rw [if_neg e]
  by_cases e2 : q / 3 < i
  · rw [if_pos e2, if_pos (by omega)]
  · rw [if_neg e2, if_neg (by omega)]
theorem aA_at (S : Ms) (x : Nat → Nat) {c d m : Nat} (hc : c < m) (hd : d < 3) : aA S x m (c * 3 + d) = lyR S x c d := by
 unfold aA
 rw [if_pos (by omega), show (c * 3 + d) / 3 = c by omega, show (c * 3 + d) % 3 = d by omega]
theorem ar_there {w : World} {g i : Nat} {f : Nat → Int} (h : w.heap[g]? = some (.cells (iz 9 f) 59 (0, 0))) (hi : i < 3) : w.there g (i * 3) 3 := fun j hj => ⟨by rw [row_c (i := i * 3 + j) h (iz_get f (by omega))]; rfl, frozen_of_row w g (i * 3 + j) _ _ h⟩
theorem ar_set {w : World} {g i : Nat} {f R : Nat → Int} (h : w.heap[g]? = some (.cells (iz 9 f) 59 (0, 0))) (hi : i < 3) : (w.setCells g (i * 3) (wdV R).toList).heap[g]? = some (.cells (iz 9 (upd3 f i R)) 59 (0, 0)) := by
 rw [setCells_row g 59 (0, 0) (wdV R).toList (i * 3) w _ h (by rw [iz_size]; show i * 3 + 3 ≤ 9; omega)]
 rcases (by omega : i = 0 ∨ i = 1 ∨ i = 2) with rfl | rfl | rfl <;> rfl
theorem ar_cell {w : World} {g c : Nat} {S : Ms} {x : Nat → Nat} (h : w.heap[g]? = some (.cells (iz 9 (aA S x 3)) 59 (0, 0))) (hc : c < 3) : ∀ d, d < 3 → w.cell? ⟨g, c * 3 + d, none⟩ = some (.int .i64 (lyR S x c d)) := fun d hd => by
 rw [row_c (i := c * 3 + d) h (iz_get _ (by omega)), aA_at S x hc hd]
theorem built_w9 : Tryz.prog.built 59 [] = some #[.int .i64 0, .int .i64 0, .int .i64 0, .int .i64 0, .int .i64 0, .int .i64 0, .int .i64 0, .int .i64 0, .int .i64 0] := by kernel_rfl
theorem step_build_w9 {w : World} {ops : Array Oper} {rest : List Oper} {o : Oper} {a : Act} {Q : Exit → Act → World → Prop} (hgd : o.guard = none) (ho : o.op = .build 59 #[]) (k : wpList Tryz.prog ops Q rest (a.put o.dst (.agg #[.int .i64 0, .int .i64 0, .int .i64 0, .int .i64 0, .int .i64 0, .int .i64 0, .int .i64 0, .int .i64 0, .int .i64 0])) w) : wpList Tryz.prog ops Q (o :: rest) a w := by
 have e : ((#[] : Array (Nat × Operand)).map fun (i, x) => (i, a.eval x)).toList = [] := by simp
 refine wpList_build hgd 59 #[] ho (by rw [e, built_w9]; rfl) ?_
 rw [e, built_w9]
 exact k
set_option maxHeartbeats 25600000 in
theorem bpicks_core {Pm : World → Nat → Ms → (Nat → Prop) → Prop} (hM : Mach Pm) (hN : MachN Pm) (T : Bool) (nn : Nat) (hT : T = false ∧ nn = 2 ∨ T = true ∧ nn = 3) (K : Int) (hK : I64 K) (x : Nat → Nat) (hx : ∀ i, x i < 2 ^ 64) (mv : Value) (tw : Nat → Nat) (TN : Nat) (W : World)
  (hR : RdS .u64 W (fun g => g < W.heap.size) mv (wdL tw TN)) (htw : ∀ i, i < TN → tw i < 2 ^ 64) (hTN : TN ≤ 17592186043904) (hp : Pv W) :
  Calls Tryz.prog 4 #[.bool T, .int .i64 K, .agg (w3b x), mv] W fun e w' => e = .returned (.bool true) ∧ Below W.heap.size W w' := by
 obtain ⟨ma, mc, rfl, hm0⟩ := id hR
 have hnn : nn = 2 ∨ nn = 3 := hT.elim (fun e => .inl e.2) (fun e => .inr e.2)
 have HT := hid hT
 have hlen := wdL_len tw TN
 have HBG : Hid (∀ wx : World, Below W.heap.size W wx → Calls Tryz.prog 6 #[.int .i64 (nn : Int), .slice ma TN mc, .int .i64 2000] wx fun e w' => ∃ p b, e = .returned (.tuple #[.agg (paC p b (.slice none 0 0) (.slice none 0 0)), .bool true]) ∧ Bz Pm wx.heap.size (fun _ => False) wx w' p b (tp0 nn tw TN) (tp0 nn tw TN)) := hid (fun wx hb => by
  have := lbegins_any hM hN ((nn : Nat) : Int) 2000 (by omega) (by decide) (by decide) tw TN _ wx ((hR.below hb).imp (T := fun g => g < wx.heap.size) (fun g h _ => Nat.lt_of_lt_of_le h hb.size))
  rw [hlen] at this
  exact this)
 rw [hlen]
 have hb0 := tp0_bq (n := nn) hnn htw hTN
 have hn0 : (tp0 nn tw TN).n = 2 ∨ (tp0 nn tw TN).n = 3 := by show (nn : Int) = 2 ∨ (nn : Int) = 3; omega
 have hW0 : Wt (tp0 nn tw TN) := ⟨rfl, rfl, hn0⟩
 obtain ⟨hb3, hw3, hb4, hb5⟩ := pk_bq (dom := isDom K) hb0 hn0 hx
 have HVP := hid (pk_vl (dom := isDom K) hW0 hb0 hx)
 have HB5 := hid hb5.1
 have HY5 : Hid ((pkS5 (tp0 nn tw TN) x (isDom K)).dry = false) := hid (by rw [show (pkS5 (tp0 nn tw TN) x (isDom K)).dry = (tp0 nn tw TN).dry from (((lyS_more (tp0 nn tw TN) x 0 3).trans (bpS_ext _ _ _ _ _)).trans (bkS_ext _ _ _ _)).dry]; rfl)
 have HAW := hid (fun (w : World) (h : Below W.heap.size W w) => bawake_any hM hN w (hp.self h))
 have hlow := (Below.refl W.heap.size W).alloc (Nat.le_refl _) (.cells (w3b x) 58)
 obtain ⟨w1, hw1⟩ : ∃ w1, W.alloc (.cells (w3b x) 58) = w1 := ⟨_, rfl⟩
 rw [hw1] at hlow
 have HW1L := hid hlow
 have HLX : Hid (∀ wx, Below w1.heap.size w1 wx → ∀ j, j < 3 → wx.cell? ⟨W.heap.size, j, none⟩ = some (.int .u64 (x j : Int))) := hid (fun wx hb j hj => by
  have h0 : w1.heap[W.heap.size]? = some (.cells (w3b x) 58 (0, 0)) := by rw [← hw1]; exact heap_alloc_new _ _
  refine tcell_self ?_ hb
  rw [row_c (i := j) h0 (u := .int .u64 (x j : Int)) (by rcases (by omega : j = 0 ∨ j = 1 ∨ j = 2) with rfl | rfl | rfl <;> rfl)])
 have hp1 := hp.self hlow
 have HP1 := hid hp1
 have HGL : Hid (gpair < w1.heap.size) := hid hp1.1
 have HPUa := hid (fun (i : Nat) (hi : i < 3) (X' : Nat → Prop) (W' wx : World) (lo p b : Nat) (S2 : Ms) (hz : Bz Pm lo X' W' wx p b (lyS (tp0 nn tw TN) x i) S2) => qpub hM (shI hM) (x i) hz (ly_bq hb0 hn0 hx i) (by omega) (by rw [lyS_n]; exact hn0) (hx i))
 have HPYa := hid (fun (i : Nat) (hi : i < 3) (X' : Nat → Prop) (W' wx : World) (lo p b : Nat) (S1 : Ms) (hz : Bz Pm lo X' W' wx p b S1 (lyS (tp0 nn tw TN) x i)) => ycst hM hz (ly_bq hb0 hn0 hx i) (by omega) (by rw [lyS_n]; exact hn0) 3 (i64k 3 (by decide) (by decide)) (x i) (hx i))
 have n3 : (pkS3 (tp0 nn tw TN) x).n = 2 ∨ (pkS3 (tp0 nn tw TN) x).n = 3 := by rw [pkS3_n]; exact hn0
 have n4 : (pkS4 (tp0 nn tw TN) x (isDom K)).n = 2 ∨ (pkS4 (tp0 nn tw TN) x (isDom K)).n = 3 := by rw [pkS4_n]; exact hn0
 have HPKa := hid (fun (X' : Nat → Prop) (W' wx : World) (lo p b : Nat) (S2 : Ms) (hz : Bz Pm lo X' W' wx p b (pkS3 (tp0 nn tw TN) x) S2) (hpv : Pv wx) (hl : gpair < lo) => qpick hM K (lyR (tp0 nn tw TN) x 0) (lyR (tp0 nn tw TN) x 1) (lyR (tp0 nn tw TN) x 2) hz hpv hl hb3 (by decide) n3 hK (hw3 0 (by decide)) (hw3 1 (by decide)) (hw3 2 (by decide)))
 have HYKa := hid (fun (X' : Nat → Prop) (W' wx : World) (lo p b : Nat) (S1 : Ms) (hz : Bz Pm lo X' W' wx p b S1 (pkS3 (tp0 nn tw TN) x)) => ypick hM K (lyR (tp0 nn tw TN) x 0) (lyR (tp0 nn tw TN) x 1) (lyR (tp0 nn tw TN) x 2) hz hb3 (by decide) n3 hK (hw3 0 (by decide)) (hw3 1 (by decide)) (hw3 2 (by decide)))
 have HPAa := hid (fun (X' : Nat → Prop) (W' wx : World) (lo p b : Nat) (S2 : Ms) (hz : Bz Pm lo X' W' wx p b (pkS4 (tp0 nn tw TN) x (isDom K)) S2) (hpv : Pv wx) (hl : gpair < lo) => qalike hM K (lyR (tp0 nn tw TN) x 1) (lyR (tp0 nn tw TN) x 2) hz hpv hl hb4.1 (by decide) n4 hK (hw3 1 (by decide)) (hw3 2 (by decide)))
 have HYAa := hid (fun (X' : Nat → Prop) (W' wx : World) (lo p b : Nat) (S1 : Ms) (hz : Bz Pm lo X' W' wx p b S1 (pkS4 (tp0 nn tw TN) x (isDom K))) => yalike hM K (lyR (tp0 nn tw TN) x 1) (lyR (tp0 nn tw TN) x 2) hz hb4.1 (by decide) n4 hK (hw3 1 (by decide)) (hw3 2 (by decide)))
 have HXB := hid hx
 have HW := hid hw1
 clear hb0 hn0 hW0 hb3 hw3 hb4 hb5 hlow hw1 hp1 n3 n4 hx hR htw hTN hm0 hlen hK hp hnn hT
 have HP4 : Hid (pkS4 (tp0 nn tw TN) x (isDom K) = bpS (pkS3 (tp0 nn tw TN) x) (isDom K) (lyR (tp0 nn tw TN) x 0) (lyR (tp0 nn tw TN) x 1) (lyR (tp0 nn tw TN) x 2) ∧ pkR4 (tp0 nn tw TN) x (isDom K) = bpR (pkS3 (tp0 nn tw TN) x) (isDom K) (lyR (tp0 nn tw TN) x 0) (lyR (tp0 nn tw TN) x 1) (lyR (tp0 nn tw TN) x 2)) := hid ⟨rfl, rfl⟩
 have HP5 : Hid (pkS5 (tp0 nn tw TN) x (isDom K) = bkS (pkS4 (tp0 nn tw TN) x (isDom K)) (isDom K) (lyR (tp0 nn tw TN) x 1) (lyR (tp0 nn tw TN) x 2) ∧ pkR5 (tp0 nn tw TN) x (isDom K) = bkR (pkS4 (tp0 nn tw TN) x (isDom K)) (isDom K) (lyR (tp0 nn tw TN) x 1) (lyR (tp0 nn tw TN) x 2)) := hid ⟨rfl, rfl⟩
 simp only [← HP5.out.1, ← HP5.out.2] at HPAa HYAa
 simp only [← HP4.out.1, ← HP4.out.2] at HPKa HYKa
 clear HP4 HP5
 obtain ⟨R5, hR5⟩ : ∃ R5, pkR5 (tp0 nn tw TN) x (isDom K) = R5 := ⟨_, rfl⟩
 obtain ⟨S5, hS5⟩ : ∃ S5, pkS5 (tp0 nn tw TN) x (isDom K) = S5 := ⟨_, rfl⟩
 obtain ⟨R4, hR4⟩ : ∃ R4, pkR4 (tp0 nn tw TN) x (isDom K) = R4 := ⟨_, rfl⟩
 obtain ⟨S4, hS4⟩ : ∃ S4, pkS4 (tp0 nn tw TN) x (isDom K) = S4 := ⟨_, rfl⟩
 simp only [hR5, hS5, hR4, hS4] at HVP HB5 HY5 HPKa HYKa HPAa HYAa
 clear hR5 hS5 hR4 hS4
 have HA0 : Hid (aA (tp0 nn tw TN) x 0 = zero9) := hid (by funext q; unfold aA; rw [if_neg (by omega)]; rfl)
 have HAN := hid (aA_next (tp0 nn tw TN) x)
 have HARC : Hid (∀ (w : World) (g : Nat), w.heap[g]? = some (.cells (iz 9 (aA (tp0 nn tw TN) x 3)) 59 (0, 0)) → ∀ c, c < 3 → ∀ d, d < 3 → w.cell? ⟨g, c * 3 + d, none⟩ = some (.int .i64 (lyR (tp0 nn tw TN) x c d))) := hid (fun w g h c hc => ar_cell h hc)
 have HL3 : Hid (lyS (tp0 nn tw TN) x 3 = pkS3 (tp0 nn tw TN) x) := hid rfl
 have HL0 : Hid (lyS (tp0 nn tw TN) x 0 = (tp0 nn tw TN)) := hid rfl
 have HLN : Hid (∀ i, lyS (tp0 nn tw TN) x (i + 1) = cstS (lyS (tp0 nn tw TN) x i) 3 (x i) ∧ lyR (tp0 nn tw TN) x i = cstR (lyS (tp0 nn tw TN) x i) 3 (x i)) := hid (fun i => ⟨rfl, rfl⟩)
 simp only [← (HLN.out _).1, ← (HLN.out _).2] at HPUa HPYa
 clear HLN
 obtain ⟨LS, hLS⟩ : ∃ LS, lyS (tp0 nn tw TN) x = LS := ⟨_, rfl⟩
 obtain ⟨LR, hLR⟩ : ∃ LR, lyR (tp0 nn tw TN) x = LR := ⟨_, rfl⟩
 obtain ⟨AA, hAA⟩ : ∃ AA, aA (tp0 nn tw TN) x = AA := ⟨_, rfl⟩
 simp only [hLS, hLR, hAA] at HA0 HAN HARC HL3 HL0 HPUa HPYa HPKa HYKa HPAa HYAa
 clear hLS hLR hAA
 rw [← HL3.out] at HPKa HYKa
 clear HL3
 go_enter Tryz.func4, Tryz.ntmps4
 go_upto_region 1 with fail
 rw [HW.out]
 have HWJ : Hid (Below W.heap.size W w1) := hid HW1L.out
 go_upto_if 20 with fail
 go_cut [9] from 20 to 20 (fun nv wx => nv = .int .i64 (nn : Int) ∧ wx = w1)
 case first =>
  rcases HT.out with ⟨rfl, rfl⟩ | ⟨rfl, rfl⟩
  ·
   go_wp2_with fail
   go_meet
   exact ⟨rfl, rfl⟩
  ·
   go_wp2_with fail
   go_meet
   exact ⟨rfl, rfl⟩
 case rest =>
 obtain ⟨rfl, hcut⟩ := hcut
 obtain rfl : w1 = wc := hcut.symm
 clear HT
 go_upto_region 5 with (go_at_call 6; (with_reducible refine (HBG.out _ HWJ.out).mono ?_); rintro e w2 ⟨p, b, rfl, hz⟩; have Z2 := hid hz; clear hz)
 have H3 := hid ((Gy.start Z2.out).new hM (paC p b (.slice none 0 0) (.slice none 0 0)) 30)
 obtain ⟨b1, hb1⟩ : ∃ b1, w2.heap.size = b1 := ⟨_, rfl⟩
 rw [hb1] at H3
 generalize w2.alloc (.cells #[.pointer (some ⟨p, 0, none⟩), .pointer (some ⟨b, 0, none⟩), .slice none 0 0, .slice none 0 0] 30) = w3' at *
 try rw [hb1]
 clear hb1 HBG HW
 have HPU0 := hid (fun (i : Nat) (hi : i < 3) (S2 : Ms) (wx : World) (bs : List (Nat × Obj)) (h : Gy Pm w1.heap.size (fun _ => False) w1 w2 wx p b (LS i) S2 bs) => h.lift (f := 11) (args := #[.pointer (some ⟨p, 0, none⟩), .int .u64 (x i : Int)]) (E := fun e => e = .returned (.agg (wdV (LR i)))) (S1' := LS (i + 1)) (S2' := S2) (fun X' W' hz => HPUa.out i hi X' W' wx _ p b S2 hz))
 have HPY0 := hid (fun (i : Nat) (hi : i < 3) (S1 : Ms) (wx : World) (bs : List (Nat × Obj)) (h : Gy Pm w1.heap.size (fun _ => False) w1 w2 wx p b S1 (LS i) bs) => h.lift (f := 12) (args := #[.pointer (some ⟨b, 0, none⟩), .int .i64 3, .int .u64 (x i : Int)]) (E := fun e => e = .returned (.agg (wdV (LR i)))) (S1' := S1) (S2' := LS (i + 1)) (fun X' W' hz => HPYa.out i hi X' W' wx _ p b S1 hz))
 have HPK := hid (fun (S2 : Ms) (wx : World) (bs : List (Nat × Obj)) (h : Gy Pm w1.heap.size (fun _ => False) w1 w2 wx p b (LS 3) S2 bs) => h.lift (f := 28) (args := #[.pointer (some ⟨p, 0, none⟩), .int .i64 K, .agg (wdV (LR 0)), .agg (wdV (LR 1)), .agg (wdV (LR 2))]) (E := fun e => e = .returned (.agg (wdV R4))) (S1' := S4) (S2' := S2) (fun X' W' hz => HPKa.out X' W' wx _ p b S2 hz (Pv.bz HP1.out HGL.out h.z) HGL.out))
 have HYK := hid (fun (S1 : Ms) (wx : World) (bs : List (Nat × Obj)) (h : Gy Pm w1.heap.size (fun _ => False) w1 w2 wx p b S1 (LS 3) bs) => h.lift (f := 29) (args := #[.pointer (some ⟨b, 0, none⟩), .int .i64 K, .agg (wdV (LR 0)), .agg (wdV (LR 1)), .agg (wdV (LR 2))]) (E := fun e => e = .returned (.agg (wdV R4))) (S1' := S1) (S2' := S4) (fun X' W' hz => HYKa.out X' W' wx _ p b S1 hz))
 have HPA := hid (fun (S2 : Ms) (wx : World) (bs : List (Nat × Obj)) (h : Gy Pm w1.heap.size (fun _ => False) w1 w2 wx p b S4 S2 bs) => h.lift (f := 30) (args := #[.pointer (some ⟨p, 0, none⟩), .int .i64 K, .agg (wdV (LR 1)), .agg (wdV (LR 2))]) (E := fun e => e = .returned (.agg (wdV R5))) (S1' := S5) (S2' := S2) (fun X' W' hz => HPAa.out X' W' wx _ p b S2 hz (Pv.bz HP1.out HGL.out h.z) HGL.out))
 have HYA := hid (fun (S1 : Ms) (wx : World) (bs : List (Nat × Obj)) (h : Gy Pm w1.heap.size (fun _ => False) w1 w2 wx p b S1 S4 bs) => h.lift (f := 31) (args := #[.pointer (some ⟨b, 0, none⟩), .int .i64 K, .agg (wdV (LR 1)), .agg (wdV (LR 2))]) (E := fun e => e = .returned (.agg (wdV R5))) (S1' := S1) (S2' := S5) (fun X' W' hz => HYAa.out X' W' wx _ p b S1 hz))
 clear HPUa HPYa HPKa HYKa HPAa HYAa
 rw [← HL0.out] at H3
 go_upto_region 7 with fail
 have H4 := hid ((H3.out.new hM #[.int .i64 0, .int .i64 0, .int .i64 0, .int .i64 0, .int .i64 0, .int .i64 0, .int .i64 0, .int .i64 0, .int .i64 0] 59).new hM #[.int .i64 0, .int .i64 0, .int .i64 0, .int .i64 0, .int .i64 0, .int .i64 0, .int .i64 0, .int .i64 0, .int .i64 0] 59)
 simp only [sz_al] at H4
 have H4b := hid (H4.out.rowI hM 1 rfl #[.int .i64 0, .int .i64 0, .int .i64 0, .int .i64 0, .int .i64 0, .int .i64 0, .int .i64 0, .int .i64 0, .int .i64 0])
 have H4c := hid (H4b.out.rowI hM 0 rfl #[.int .i64 0, .int .i64 0, .int .i64 0, .int .i64 0, .int .i64 0, .int .i64 0, .int .i64 0, .int .i64 0, .int .i64 0])
 go_upto_region 8 with (first
  | (refine step_build_w9 rfl rfl ?_)
  | (refine step_store_row rfl 59 _ _ rfl w3'.heap.size 59 _ #[.int .i64 0, .int .i64 0, .int .i64 0, .int .i64 0, .int .i64 0, .int .i64 0, .int .i64 0, .int .i64 0, .int .i64 0] rfl rfl (H4.out.bl 1 rfl) (by kernel_rfl) rfl (by kernel_rfl) ?_)
  | (refine step_store_row rfl 59 _ _ rfl (w3'.heap.size + 1) 59 _ #[.int .i64 0, .int .i64 0, .int .i64 0, .int .i64 0, .int .i64 0, .int .i64 0, .int .i64 0, .int .i64 0, .int .i64 0] rfl rfl (H4b.out.bl 0 rfl) (by kernel_rfl) rfl (by kernel_rfl) ?_))
 obtain ⟨w5, hw5⟩ : ∃ w5, (((w3'.alloc (.cells #[.int .i64 0, .int .i64 0, .int .i64 0, .int .i64 0, .int .i64 0, .int .i64 0, .int .i64 0, .int .i64 0, .int .i64 0] 59)).alloc (.cells #[.int .i64 0, .int .i64 0, .int .i64 0, .int .i64 0, .int .i64 0, .int .i64 0, .int .i64 0, .int .i64 0, .int .i64 0] 59)).setRow w3'.heap.size #[.int .i64 0, .int .i64 0, .int .i64 0, .int .i64 0, .int .i64 0, .int .i64 0, .int .i64 0, .int .i64 0, .int .i64 0]).setRow (w3'.heap.size + 1) #[.int .i64 0, .int .i64 0, .int .i64 0, .int .i64 0, .int .i64 0, .int .i64 0, .int .i64 0, .int .i64 0, .int .i64 0] = w5 := ⟨_, rfl⟩
 rw [hw5] at H4c
 rw [hw5]
 obtain ⟨g12, hg12⟩ : ∃ g12, w3'.heap.size = g12 := ⟨_, rfl⟩
 rw [hg12] at H4c
 rw [hg12]
 obtain ⟨g13, hg13⟩ : ∃ g13, g12 + 1 = g13 := ⟨_, rfl⟩
 rw [hg13] at H4c
 rw [hg13]
 have H5 : Hid (Gy Pm w1.heap.size (fun _ => False) w1 w2 w5 p b (LS 0) (LS 0) [(g13, Obj.cells (iz 9 (AA 0)) 59 (0, 0)), (g12, Obj.cells (iz 9 (AA 0)) 59 (0, 0)), (b1, Obj.cells (paC p b (.slice none 0 0) (.slice none 0 0)) 30 (0, 0))]) := hid (by rw [HA0.out]; exact H4c.out)
 clear hw5 hg12 hg13 H4 H4b H4c H3 HA0
 go_wp2
 go_loopw [14] (fun iv wr => ∃ i : Nat, i ≤ 3 ∧ iv = .int .i64 (i : Int) ∧ Gy Pm w1.heap.size (fun _ => False) w1 w2 wr p b (LS i) (LS i) [(g13, Obj.cells (iz 9 (AA i)) 59 (0, 0)), (g12, Obj.cells (iz 9 (AA i)) 59 (0, 0)), (b1, Obj.cells (paC p b (.slice none 0 0) (.slice none 0 0)) 30 (0, 0))]) (fun iv _ => 3 - (intOf iv).toNat)
 case atStart => exact ⟨0, by omega, rfl, H5.out⟩
 case round =>
  clear H5
  obtain ⟨i, hi, rfl, hI⟩ := hrel
  have HI := hid hI
  clear hI
  by_cases hlt : i < 3
  ·
   have j1 : (i : Int) < 3 := by omega
   have j0 : (0 : Int) ≤ (i : Int) := by omega
   have HI3 : Hid (i < 3) := hid hlt
   have HPU := hid (HPU0.out i hlt)
   have HPY := hid (HPY0.out i hlt)
   clear hi hlt
   go_upto_region 11 with fail
   have G0 := hid (HI.out.self hM ((Below.refl _ wr).drew))
   refine wp_region_noPanic ?_
   refine wp_region_held_drew (S := fun w' => w'.heap[b1]? = some (.cells (paC p b (.slice none 0 0) (.slice none 0 0)) 30 (0, 0)) ∧ w'.cell? ⟨W.heap.size, i, none⟩ = some (.int .u64 (x i : Int))) (by kernel_rfl) (⟨G0.out.bl 2 rfl, HLX.out _ G0.out.z.low i HI3.out⟩) (fun h0 => ?_)
   generalize wr.drew = y0 at *
   refine tK 0 (.int .i64 (i : Int)) rfl (.inl ⟨by rfl, fun w hw => by clear hw; go_simp⟩) h0 ?_
   try simp only [Act.put, lay_out]
   refine tK 1 (.pointer (some ⟨b1, 0, none⟩)) rfl (.inl ⟨by rfl, fun w hw => by clear hw; go_simp⟩) h0 ?_
   try simp only [Act.put, lay_out]
   refine tK 2 (.pointer (some ⟨p, 0, none⟩)) rfl (.inl ⟨by rfl, fun w' hw => by have hc := row_c (i := 0) (u := .pointer (some ⟨p, 0, none⟩)) hw.1 rfl; clear hw; go_simp⟩) h0 ?_
   try simp only [Act.put, lay_out]
   refine tK 3 (.int .i64 (i : Int)) rfl (.inl ⟨by rfl, fun w hw => by clear hw; go_simp⟩) h0 ?_
   try simp only [Act.put, lay_out]
   refine tK 4 (.pointer (some ⟨W.heap.size, i, none⟩)) rfl (.inl ⟨by rfl, fun w hw => by clear hw; go_simp⟩) h0 ?_
   try simp only [Act.put, lay_out]
   refine tK 5 (.int .u64 (x i : Int)) rfl (.inl ⟨by rfl, fun w' hw => by have hc := hw.2; clear hw; go_simp⟩) h0 ?_
   try simp only [Act.put, lay_out]
   refine wpAnyH_ready (rs := [6]) (by kernel_rfl) (by simp) (AllReadyH.cons rfl (fun K hK => ?_) AllReadyH.nil)
   rw [if_pos (by rfl)]
   go_simp
   go_at_call 11
   (with_reducible refine (HPU.out _ _ _ G0.out).mono ?_); rintro e y1 ⟨rfl, hz⟩
   have G1 := hid hz
   clear hz
   refine hK.out _ _ (⟨G1.out.bl 2 rfl, HLX.out _ G1.out.z.low i HI3.out⟩) (fun h1x => ?_)
   clear hK K
   try simp only [Act.put, lay_out]
   refine tK 7 (.pointer (some ⟨g12, i * 3, none⟩)) rfl (.inl ⟨by rfl, fun w hw => by clear hw; go_simp⟩) h1x ?_
   try simp only [Act.put, lay_out]
   refine wpAnyH_ready (rs := [8]) (by kernel_rfl) (by simp) (AllReadyH.cons rfl (fun K hK => ?_) AllReadyH.nil)
   rw [if_pos (by rfl)]
   refine wp_store_mid 37 _ _ rfl g12 (i * 3) (wdV (LR i)) rfl rfl (ar_there (G1.out.bl 1 rfl) HI3.out) (by kernel_rfl) (by kernel_rfl) ?_
   have G2 := hid (G1.out.turnI hM (i := 1) rfl (ar_set (R := LR i) (G1.out.bl 1 rfl) HI3.out) (fun q hq => setCells_apart g12 _ (i * 3) y1 q hq) (Nat.le_of_eq (setCells_size g12 _ (i * 3) y1).symm) (setCells_out g12 _ (i * 3) y1))
   rw [HAN.out i] at G2
   generalize y1.setCells g12 (i * 3) (wdV (LR i)).toList = y2 at *
   refine hK.out _ _ (⟨G2.out.bl 2 rfl, HLX.out _ G2.out.z.low i HI3.out⟩) (fun h2x => ?_)
   clear hK K
   try simp only [Act.put, lay_out]
   refine wpAnyH_done (by kernel_rfl) ?_ _
   refine NoPanic.normal ?_
   clear h0 h1x h2x
   try simp only [Act.put, lay_out]
   have H8 := G2
   obtain ⟨w8, hw8⟩ : ∃ w8, y2 = w8 := ⟨_, rfl⟩
   rw [hw8] at H8
   rw [hw8]
   clear hw8 HI
   go_wp2_with fail
   have J0 := hid (H8.out.self hM ((Below.refl _ w8).drew))
   refine wp_region_noPanic ?_
   refine wp_region_held_drew (S := fun w' => w'.heap[b1]? = some (.cells (paC p b (.slice none 0 0) (.slice none 0 0)) 30 (0, 0)) ∧ w'.cell? ⟨W.heap.size, i, none⟩ = some (.int .u64 (x i : Int))) (by kernel_rfl) (⟨J0.out.bl 2 rfl, HLX.out _ J0.out.z.low i HI3.out⟩) (fun h0 => ?_)
   generalize w8.drew = z0 at *
   refine tK 0 (.int .i64 (i : Int)) rfl (.inl ⟨by rfl, fun w hw => by clear hw; go_simp⟩) h0 ?_
   try simp only [Act.put, lay_out]
   refine tK 1 (.pointer (some ⟨b1, 1, none⟩)) rfl (.inl ⟨by rfl, fun w hw => by clear hw; go_simp⟩) h0 ?_
   try simp only [Act.put, lay_out]
   refine tK 2 (.pointer (some ⟨b, 0, none⟩)) rfl (.inl ⟨by rfl, fun w' hw => by have hc := row_c (i := 1) (u := .pointer (some ⟨b, 0, none⟩)) hw.1 rfl; clear hw; go_simp⟩) h0 ?_
   try simp only [Act.put, lay_out]
   refine tK 3 (.int .i64 (i : Int)) rfl (.inl ⟨by rfl, fun w hw => by clear hw; go_simp⟩) h0 ?_
   try simp only [Act.put, lay_out]
   refine tK 4 (.pointer (some ⟨W.heap.size, i, none⟩)) rfl (.inl ⟨by rfl, fun w hw => by clear hw; go_simp⟩) h0 ?_
   try simp only [Act.put, lay_out]
   refine tK 5 (.int .u64 (x i : Int)) rfl (.inl ⟨by rfl, fun w' hw => by have hc := hw.2; clear hw; go_simp⟩) h0 ?_
   try simp only [Act.put, lay_out]
   refine wpAnyH_ready (rs := [6]) (by kernel_rfl) (by simp) (AllReadyH.cons rfl (fun K hK => ?_) AllReadyH.nil)
   rw [if_pos (by rfl)]
   go_simp
   go_at_call 12
   (with_reducible refine (HPY.out _ _ _ J0.out).mono ?_); rintro e z1 ⟨rfl, hz⟩
   have J1 := hid hz
   clear hz
   refine hK.out _ _ (⟨J1.out.bl 2 rfl, HLX.out _ J1.out.z.low i HI3.out⟩) (fun h1x => ?_)
   clear hK K
   try simp only [Act.put, lay_out]
   refine tK 7 (.pointer (some ⟨g13, i * 3, none⟩)) rfl (.inl ⟨by rfl, fun w hw => by clear hw; go_simp⟩) h1x ?_
   try simp only [Act.put, lay_out]
   refine wpAnyH_ready (rs := [8]) (by kernel_rfl) (by simp) (AllReadyH.cons rfl (fun K hK => ?_) AllReadyH.nil)
   rw [if_pos (by rfl)]
   refine wp_store_mid 37 _ _ rfl g13 (i * 3) (wdV (LR i)) rfl rfl (ar_there (J1.out.bl 0 rfl) HI3.out) (by kernel_rfl) (by kernel_rfl) ?_
   have J2 := hid (J1.out.turnI hM (i := 0) rfl (ar_set (R := LR i) (J1.out.bl 0 rfl) HI3.out) (fun q hq => setCells_apart g13 _ (i * 3) z1 q hq) (Nat.le_of_eq (setCells_size g13 _ (i * 3) z1).symm) (setCells_out g13 _ (i * 3) z1))
   rw [HAN.out i] at J2
   generalize z1.setCells g13 (i * 3) (wdV (LR i)).toList = z2 at *
   refine hK.out _ _ (⟨J2.out.bl 2 rfl, HLX.out _ J2.out.z.low i HI3.out⟩) (fun h2x => ?_)
   clear hK K
   try simp only [Act.put, lay_out]
   refine wpAnyH_done (by kernel_rfl) ?_ _
   refine NoPanic.normal ?_
   clear h0 h1x h2x
   try simp only [Act.put, lay_out]
   go_wp2
   go_roundw
   case rel => exact ⟨i + 1, HI3.out, by go_num, J2.out⟩
   case measure => simp [intOf]; omega
  ·
   obtain rfl : i = 3 := by omega
   clear hlt hi HPU0 HPY0
   go_upto_region 13 with fail
   go_cut [15, 16] from 51 to 70 (fun q6 q7 wx => ∃ b15 b16, q6 = .pointer (some ⟨b15, 0, none⟩) ∧ q7 = .pointer (some ⟨b16, 0, none⟩) ∧ Gy Pm w1.heap.size (fun _ => False) w1 w2 wx p b S4 S4 ((b16, Obj.cells (wdV R4) 37 (0, 0)) :: (b15, Obj.cells (wdV R4) 37 (0, 0)) :: [(g13, Obj.cells (iz 9 (AA 3)) 59 (0, 0)), (g12, Obj.cells (iz 9 (AA 3)) 59 (0, 0)), (b1, Obj.cells (paC p b (.slice none 0 0) (.slice none 0 0)) 30 (0, 0))]))
   case first =>
    have G0 := hid (HI.out.self hM ((Below.refl _ wr).drew))
    refine wp_region_noPanic ?_
    refine wp_region_held_drew (S := fun w' => w'.heap[b1]? = some (.cells (paC p b (.slice none 0 0) (.slice none 0 0)) 30 (0, 0)) ∧ w'.heap[g12]? = some (.cells (iz 9 (AA 3)) 59 (0, 0)) ∧ w'.heap[g13]? = some (.cells (iz 9 (AA 3)) 59 (0, 0))) (by kernel_rfl) (⟨G0.out.mem (by simp), G0.out.mem (by simp), G0.out.mem (by simp)⟩) (fun h0 => ?_)
    generalize wr.drew = q0 at *
    refine tK 0 (.pointer (some ⟨b1, 0, none⟩)) rfl (.inl ⟨by rfl, fun w hw => by clear hw; go_simp⟩) h0 ?_
    try simp only [Act.put, lay_out]
    refine tK 1 (.pointer (some ⟨p, 0, none⟩)) rfl (.inl ⟨by rfl, fun w' hw => by have hc := row_c (i := 0) (u := .pointer (some ⟨p, 0, none⟩)) hw.1 rfl; clear hw; go_simp⟩) h0 ?_
    try simp only [Act.put, lay_out]
    refine tK 2 (.int .i64 K) rfl (.inl ⟨by rfl, fun w hw => by clear hw; go_simp⟩) h0 ?_
    try simp only [Act.put, lay_out]
    refine tK 3 (.pointer (some ⟨g12, 0, none⟩)) rfl (.inl ⟨by rfl, fun w hw => by clear hw; go_simp⟩) h0 ?_
    try simp only [Act.put, lay_out]
    refine tK 4 (.agg (wdV (LR 0))) rfl (yields_load_wdm (by rfl) _ rfl g12 0 (LR 0) rfl (fun w hw => HARC.out w g12 hw.2.1 0 (by decide))) h0 ?_
    try simp only [Act.put, lay_out]
    refine tK 5 (.pointer (some ⟨g12, 3, none⟩)) rfl (.inl ⟨by rfl, fun w hw => by clear hw; go_simp⟩) h0 ?_
    try simp only [Act.put, lay_out]
    refine tK 6 (.agg (wdV (LR 1))) rfl (yields_load_wdm (by rfl) _ rfl g12 3 (LR 1) rfl (fun w hw => HARC.out w g12 hw.2.1 1 (by decide))) h0 ?_
    try simp only [Act.put, lay_out]
    refine tK 7 (.pointer (some ⟨g12, 6, none⟩)) rfl (.inl ⟨by rfl, fun w hw => by clear hw; go_simp⟩) h0 ?_
    try simp only [Act.put, lay_out]
    refine tK 8 (.agg (wdV (LR 2))) rfl (yields_load_wdm (by rfl) _ rfl g12 6 (LR 2) rfl (fun w hw => HARC.out w g12 hw.2.1 2 (by decide))) h0 ?_
    try simp only [Act.put, lay_out]
    refine tK 10 (.pointer (some ⟨b1, 1, none⟩)) rfl (.inl ⟨by rfl, fun w hw => by clear hw; go_simp⟩) h0 ?_
    try simp only [Act.put, lay_out]
    refine tK 11 (.pointer (some ⟨b, 0, none⟩)) rfl (.inl ⟨by rfl, fun w' hw => by have hc := row_c (i := 1) (u := .pointer (some ⟨b, 0, none⟩)) hw.1 rfl; clear hw; go_simp⟩) h0 ?_
    try simp only [Act.put, lay_out]
    refine tK 12 (.int .i64 K) rfl (.inl ⟨by rfl, fun w hw => by clear hw; go_simp⟩) h0 ?_
    try simp only [Act.put, lay_out]
    refine tK 13 (.pointer (some ⟨g13, 0, none⟩)) rfl (.inl ⟨by rfl, fun w hw => by clear hw; go_simp⟩) h0 ?_
    try simp only [Act.put, lay_out]
    refine tK 14 (.agg (wdV (LR 0))) rfl (yields_load_wdm (by rfl) _ rfl g13 0 (LR 0) rfl (fun w hw => HARC.out w g13 hw.2.2 0 (by decide))) h0 ?_
    try simp only [Act.put, lay_out]
    refine tK 15 (.pointer (some ⟨g13, 3, none⟩)) rfl (.inl ⟨by rfl, fun w hw => by clear hw; go_simp⟩) h0 ?_
    try simp only [Act.put, lay_out]
    refine tK 16 (.agg (wdV (LR 1))) rfl (yields_load_wdm (by rfl) _ rfl g13 3 (LR 1) rfl (fun w hw => HARC.out w g13 hw.2.2 1 (by decide))) h0 ?_
    try simp only [Act.put, lay_out]
    refine tK 17 (.pointer (some ⟨g13, 6, none⟩)) rfl (.inl ⟨by rfl, fun w hw => by clear hw; go_simp⟩) h0 ?_
    try simp only [Act.put, lay_out]
    refine tK 18 (.agg (wdV (LR 2))) rfl (yields_load_wdm (by rfl) _ rfl g13 6 (LR 2) rfl (fun w hw => HARC.out w g13 hw.2.2 2 (by decide))) h0 ?_
    try simp only [Act.put, lay_out]
    refine wpAnyH_ready (rs := [9, 20, 21]) (by kernel_rfl) (by simp) (AllReadyH.cons rfl (fun K hK => ?_) (AllReadyH.cons rfl (fun K hK => ?_) (AllReadyH.cons rfl (fun K hK => ?_) AllReadyH.nil)))
    ·
     rw [if_pos (by rfl)]
     go_simp
     go_at_call 28
     (with_reducible refine (HPK.out _ _ _ G0.out).mono ?_); rintro e q1 ⟨rfl, hz⟩
     have G1 := hid hz
     clear hz
     refine hK.out _ _ (⟨G1.out.mem (by simp), G1.out.mem (by simp), G1.out.mem (by simp)⟩) (fun h1x => ?_)
     clear hK K
     try simp only [Act.put, lay_out]
     refine wpAnyH_ready (rs := [19, 20, 21]) (by kernel_rfl) (by simp) (AllReadyH.cons rfl (fun K hK => ?_) (AllReadyH.cons rfl (fun K hK => ?_) (AllReadyH.cons rfl (fun K hK => ?_) AllReadyH.nil)))
     ·
      rw [if_pos (by rfl)]
      go_simp
      go_at_call 29
      (with_reducible refine (HYK.out _ _ _ G1.out).mono ?_); rintro e q2 ⟨rfl, hz⟩
      have G2 := hid hz
      clear hz
      refine hK.out _ _ (⟨G2.out.mem (by simp), G2.out.mem (by simp), G2.out.mem (by simp)⟩) (fun h2x => ?_)
      clear hK K
      try simp only [Act.put, lay_out]
      refine wpAnyH_ready (rs := [20, 21]) (by kernel_rfl) (by simp) (AllReadyH.cons rfl (fun K hK => ?_) (AllReadyH.cons rfl (fun K hK => ?_) AllReadyH.nil))
      ·
       rw [if_pos (by rfl)]
       go_simp
       have G3 := hid (G2.out.new hM #[.int .i64 0, .int .i64 0, .int .i64 0] 37)
       refine hK.out _ _ (⟨G3.out.mem (by simp), G3.out.mem (by simp), G3.out.mem (by simp)⟩) (fun h3x => ?_)
       clear hK K
       try simp only [Act.put, lay_out]
       generalize q2.alloc (.cells #[.int .i64 0, .int .i64 0, .int .i64 0] 37) = q3 at *
       refine wpAnyH_ready (rs := [21]) (by kernel_rfl) (by simp) (AllReadyH.cons rfl (fun K hK => ?_) AllReadyH.nil)
       rw [if_pos (by rfl)]
       go_simp
       have G4 := hid (G3.out.new hM #[.int .i64 0, .int .i64 0, .int .i64 0] 37)
       refine hK.out _ _ (⟨G4.out.mem (by simp), G4.out.mem (by simp), G4.out.mem (by simp)⟩) (fun h4x => ?_)
       clear hK K
       try simp only [Act.put, lay_out]
       generalize q3.alloc (.cells #[.int .i64 0, .int .i64 0, .int .i64 0] 37) = q4 at *
       have G5 := hid G4.out.swap
       refine wpAnyH_ready (rs := [22]) (by kernel_rfl) (by simp) (AllReadyH.cons rfl (fun K hK => ?_) AllReadyH.nil)
       rw [if_pos (by rfl)]
       refine wp_store_row 37 _ _ rfl (q2.heap.size) (wdV R4) rfl rfl 37 _ (G5.out.bl 0 rfl) (by kernel_rfl) rfl (by kernel_rfl) ?_
       have G6 := hid (G5.out.row hM (wdV R4))
       refine hK.out _ _ (⟨G6.out.mem (by simp), G6.out.mem (by simp), G6.out.mem (by simp)⟩) (fun h5x => ?_)
       clear hK K
       try simp only [Act.put, lay_out]
       have G7 := hid G6.out.swap
       refine wpAnyH_ready (rs := [23]) (by kernel_rfl) (by simp) (AllReadyH.cons rfl (fun K hK => ?_) AllReadyH.nil)
       rw [if_pos (by rfl)]
       refine wp_store_row 37 _ _ rfl (q3.heap.size) (wdV R4) rfl rfl 37 _ (G7.out.bl 0 rfl) (by kernel_rfl) rfl (by kernel_rfl) ?_
       have G8 := hid (G7.out.row hM (wdV R4))
       refine hK.out _ _ (⟨G8.out.mem (by simp), G8.out.mem (by simp), G8.out.mem (by simp)⟩) (fun h6x => ?_)
       clear hK K
       try simp only [Act.put, lay_out]
       refine wpAnyH_done (by kernel_rfl) ?_ _
       refine NoPanic.normal ?_
       clear h0 h1x h2x h3x h4x h5x h6x
       try simp only [Act.put, lay_out]
       go_wp2_with fail
       go_meet
       exact ⟨_, _, rfl, rfl, G8.out⟩
      ·
       rw [if_pos (by rfl)]
       go_simp
       have G3 := hid (G2.out.new hM #[.int .i64 0, .int .i64 0, .int .i64 0] 37)
       refine hK.out _ _ (⟨G3.out.mem (by simp), G3.out.mem (by simp), G3.out.mem (by simp)⟩) (fun h3x => ?_)
       clear hK K
       try simp only [Act.put, lay_out]
       generalize q2.alloc (.cells #[.int .i64 0, .int .i64 0, .int .i64 0] 37) = q3 at *
       refine wpAnyH_ready (rs := [20]) (by kernel_rfl) (by simp) (AllReadyH.cons rfl (fun K hK => ?_) AllReadyH.nil)
       rw [if_pos (by rfl)]
       go_simp
       have G4 := hid (G3.out.new hM #[.int .i64 0, .int .i64 0, .int .i64 0] 37)
       refine hK.out _ _ (⟨G4.out.mem (by simp), G4.out.mem (by simp), G4.out.mem (by simp)⟩) (fun h4x => ?_)
       clear hK K
       try simp only [Act.put, lay_out]
       generalize q3.alloc (.cells #[.int .i64 0, .int .i64 0, .int .i64 0] 37) = q4 at *
       refine wpAnyH_ready (rs := [22]) (by kernel_rfl) (by simp) (AllReadyH.cons rfl (fun K hK => ?_) AllReadyH.nil)
       rw [if_pos (by rfl)]
       refine wp_store_row 37 _ _ rfl (q3.heap.size) (wdV R4) rfl rfl 37 _ (G4.out.bl 0 rfl) (by kernel_rfl) rfl (by kernel_rfl) ?_
       have G5 := hid (G4.out.row hM (wdV R4))
       refine hK.out _ _ (⟨G5.out.mem (by simp), G5.out.mem (by simp), G5.out.mem (by simp)⟩) (fun h5x => ?_)
       clear hK K
       try simp only [Act.put, lay_out]
       have G6 := hid G5.out.swap
       refine wpAnyH_ready (rs := [23]) (by kernel_rfl) (by simp) (AllReadyH.cons rfl (fun K hK => ?_) AllReadyH.nil)
       rw [if_pos (by rfl)]
       refine wp_store_row 37 _ _ rfl (q2.heap.size) (wdV R4) rfl rfl 37 _ (G6.out.bl 0 rfl) (by kernel_rfl) rfl (by kernel_rfl) ?_
       have G7 := hid (G6.out.row hM (wdV R4))
       refine hK.out _ _ (⟨G7.out.mem (by simp), G7.out.mem (by simp), G7.out.mem (by simp)⟩) (fun h6x => ?_)
       clear hK K
       try simp only [Act.put, lay_out]
       refine wpAnyH_done (by kernel_rfl) ?_ _
       refine NoPanic.normal ?_
       clear h0 h1x h2x h3x h4x h5x h6x
       try simp only [Act.put, lay_out]
       go_wp2_with fail
       go_meet
       exact ⟨_, _, rfl, rfl, G7.out⟩
     ·
      rw [if_pos (by rfl)]
      go_simp
      have G2 := hid (G1.out.new hM #[.int .i64 0, .int .i64 0, .int .i64 0] 37)
      refine hK.out _ _ (⟨G2.out.mem (by simp), G2.out.mem (by simp), G2.out.mem (by simp)⟩) (fun h2x => ?_)
      clear hK K
      try simp only [Act.put, lay_out]
      generalize q1.alloc (.cells #[.int .i64 0, .int .i64 0, .int .i64 0] 37) = q2 at *
      refine wpAnyH_ready (rs := [19, 21]) (by kernel_rfl) (by simp) (AllReadyH.cons rfl (fun K hK => ?_) (AllReadyH.cons rfl (fun K hK => ?_) AllReadyH.nil))
      ·
       rw [if_pos (by rfl)]
       go_simp
       go_at_call 29
       (with_reducible refine (HYK.out _ _ _ G2.out).mono ?_); rintro e q3 ⟨rfl, hz⟩
       have G3 := hid hz
       clear hz
       refine hK.out _ _ (⟨G3.out.mem (by simp), G3.out.mem (by simp), G3.out.mem (by simp)⟩) (fun h3x => ?_)
       clear hK K
       try simp only [Act.put, lay_out]
       refine wpAnyH_ready (rs := [21]) (by kernel_rfl) (by simp) (AllReadyH.cons rfl (fun K hK => ?_) AllReadyH.nil)
       rw [if_pos (by rfl)]
       go_simp
       have G4 := hid (G3.out.new hM #[.int .i64 0, .int .i64 0, .int .i64 0] 37)
       refine hK.out _ _ (⟨G4.out.mem (by simp), G4.out.mem (by simp), G4.out.mem (by simp)⟩) (fun h4x => ?_)
       clear hK K
       try simp only [Act.put, lay_out]
       generalize q3.alloc (.cells #[.int .i64 0, .int .i64 0, .int .i64 0] 37) = q4 at *
       have G5 := hid G4.out.swap
       refine wpAnyH_ready (rs := [22]) (by kernel_rfl) (by simp) (AllReadyH.cons rfl (fun K hK => ?_) AllReadyH.nil)
       rw [if_pos (by rfl)]
       refine wp_store_row 37 _ _ rfl (q1.heap.size) (wdV R4) rfl rfl 37 _ (G5.out.bl 0 rfl) (by kernel_rfl) rfl (by kernel_rfl) ?_
       have G6 := hid (G5.out.row hM (wdV R4))
       refine hK.out _ _ (⟨G6.out.mem (by simp), G6.out.mem (by simp), G6.out.mem (by simp)⟩) (fun h5x => ?_)
       clear hK K
       try simp only [Act.put, lay_out]
       have G7 := hid G6.out.swap
       refine wpAnyH_ready (rs := [23]) (by kernel_rfl) (by simp) (AllReadyH.cons rfl (fun K hK => ?_) AllReadyH.nil)
       rw [if_pos (by rfl)]
       refine wp_store_row 37 _ _ rfl (q3.heap.size) (wdV R4) rfl rfl 37 _ (G7.out.bl 0 rfl) (by kernel_rfl) rfl (by kernel_rfl) ?_
       have G8 := hid (G7.out.row hM (wdV R4))
       refine hK.out _ _ (⟨G8.out.mem (by simp), G8.out.mem (by simp), G8.out.mem (by simp)⟩) (fun h6x => ?_)
       clear hK K
       try simp only [Act.put, lay_out]
       refine wpAnyH_done (by kernel_rfl) ?_ _
       refine NoPanic.normal ?_
       clear h0 h1x h2x h3x h4x h5x h6x
       try simp only [Act.put, lay_out]
       go_wp2_with fail
       go_meet
       exact ⟨_, _, rfl, rfl, G8.out⟩
      ·
       rw [if_pos (by rfl)]
       go_simp
       have G3 := hid (G2.out.new hM #[.int .i64 0, .int .i64 0, .int .i64 0] 37)
       refine hK.out _ _ (⟨G3.out.mem (by simp), G3.out.mem (by simp), G3.out.mem (by simp)⟩) (fun h3x => ?_)
       clear hK K
       try simp only [Act.put, lay_out]
       generalize q2.alloc (.cells #[.int .i64 0, .int .i64 0, .int .i64 0] 37) = q3 at *
       refine wpAnyH_ready (rs := [19]) (by kernel_rfl) (by simp) (AllReadyH.cons rfl (fun K hK => ?_) AllReadyH.nil)
       rw [if_pos (by rfl)]
       go_simp
       go_at_call 29
       (with_reducible refine (HYK.out _ _ _ G3.out).mono ?_); rintro e q4 ⟨rfl, hz⟩
       have G4 := hid hz
       clear hz
       refine hK.out _ _ (⟨G4.out.mem (by simp), G4.out.mem (by simp), G4.out.mem (by simp)⟩) (fun h4x => ?_)
       clear hK K
       try simp only [Act.put, lay_out]
       have G5 := hid G4.out.swap
       refine wpAnyH_ready (rs := [22]) (by kernel_rfl) (by simp) (AllReadyH.cons rfl (fun K hK => ?_) AllReadyH.nil)
       rw [if_pos (by rfl)]
       refine wp_store_row 37 _ _ rfl (q1.heap.size) (wdV R4) rfl rfl 37 _ (G5.out.bl 0 rfl) (by kernel_rfl) rfl (by kernel_rfl) ?_
       have G6 := hid (G5.out.row hM (wdV R4))
       refine hK.out _ _ (⟨G6.out.mem (by simp), G6.out.mem (by simp), G6.out.mem (by simp)⟩) (fun h5x => ?_)
       clear hK K
       try simp only [Act.put, lay_out]
       have G7 := hid G6.out.swap
       refine wpAnyH_ready (rs := [23]) (by kernel_rfl) (by simp) (AllReadyH.cons rfl (fun K hK => ?_) AllReadyH.nil)
       rw [if_pos (by rfl)]
       refine wp_store_row 37 _ _ rfl (q2.heap.size) (wdV R4) rfl rfl 37 _ (G7.out.bl 0 rfl) (by kernel_rfl) rfl (by kernel_rfl) ?_
       have G8 := hid (G7.out.row hM (wdV R4))
       refine hK.out _ _ (⟨G8.out.mem (by simp), G8.out.mem (by simp), G8.out.mem (by simp)⟩) (fun h6x => ?_)
       clear hK K
       try simp only [Act.put, lay_out]
       refine wpAnyH_done (by kernel_rfl) ?_ _
       refine NoPanic.normal ?_
       clear h0 h1x h2x h3x h4x h5x h6x
       try simp only [Act.put, lay_out]
       go_wp2_with fail
       go_meet
       exact ⟨_, _, rfl, rfl, G8.out⟩
     ·
      rw [if_pos (by rfl)]
      go_simp
      have G2 := hid (G1.out.new hM #[.int .i64 0, .int .i64 0, .int .i64 0] 37)
      refine hK.out _ _ (⟨G2.out.mem (by simp), G2.out.mem (by simp), G2.out.mem (by simp)⟩) (fun h2x => ?_)
      clear hK K
      try simp only [Act.put, lay_out]
      generalize q1.alloc (.cells #[.int .i64 0, .int .i64 0, .int .i64 0] 37) = q2 at *
      refine wpAnyH_ready (rs := [19, 20]) (by kernel_rfl) (by simp) (AllReadyH.cons rfl (fun K hK => ?_) (AllReadyH.cons rfl (fun K hK => ?_) AllReadyH.nil))
      ·
       rw [if_pos (by rfl)]
       go_simp
       go_at_call 29
       (with_reducible refine (HYK.out _ _ _ G2.out).mono ?_); rintro e q3 ⟨rfl, hz⟩
       have G3 := hid hz
       clear hz
       refine hK.out _ _ (⟨G3.out.mem (by simp), G3.out.mem (by simp), G3.out.mem (by simp)⟩) (fun h3x => ?_)
       clear hK K
       try simp only [Act.put, lay_out]
       refine wpAnyH_ready (rs := [20]) (by kernel_rfl) (by simp) (AllReadyH.cons rfl (fun K hK => ?_) AllReadyH.nil)
       rw [if_pos (by rfl)]
       go_simp
       have G4 := hid (G3.out.new hM #[.int .i64 0, .int .i64 0, .int .i64 0] 37)
       refine hK.out _ _ (⟨G4.out.mem (by simp), G4.out.mem (by simp), G4.out.mem (by simp)⟩) (fun h4x => ?_)
       clear hK K
       try simp only [Act.put, lay_out]
       generalize q3.alloc (.cells #[.int .i64 0, .int .i64 0, .int .i64 0] 37) = q4 at *
       refine wpAnyH_ready (rs := [22]) (by kernel_rfl) (by simp) (AllReadyH.cons rfl (fun K hK => ?_) AllReadyH.nil)
       rw [if_pos (by rfl)]
       refine wp_store_row 37 _ _ rfl (q3.heap.size) (wdV R4) rfl rfl 37 _ (G4.out.bl 0 rfl) (by kernel_rfl) rfl (by kernel_rfl) ?_
       have G5 := hid (G4.out.row hM (wdV R4))
       refine hK.out _ _ (⟨G5.out.mem (by simp), G5.out.mem (by simp), G5.out.mem (by simp)⟩) (fun h5x => ?_)
       clear hK K
       try simp only [Act.put, lay_out]
       have G6 := hid G5.out.swap
       refine wpAnyH_ready (rs := [23]) (by kernel_rfl) (by simp) (AllReadyH.cons rfl (fun K hK => ?_) AllReadyH.nil)
       rw [if_pos (by rfl)]
       refine wp_store_row 37 _ _ rfl (q1.heap.size) (wdV R4) rfl rfl 37 _ (G6.out.bl 0 rfl) (by kernel_rfl) rfl (by kernel_rfl) ?_
       have G7 := hid (G6.out.row hM (wdV R4))
       refine hK.out _ _ (⟨G7.out.mem (by simp), G7.out.mem (by simp), G7.out.mem (by simp)⟩) (fun h6x => ?_)
       clear hK K
       try simp only [Act.put, lay_out]
       refine wpAnyH_done (by kernel_rfl) ?_ _
       refine NoPanic.normal ?_
       clear h0 h1x h2x h3x h4x h5x h6x
       try simp only [Act.put, lay_out]
       go_wp2_with fail
       go_meet
       exact ⟨_, _, rfl, rfl, G7.out⟩
      ·
       rw [if_pos (by rfl)]
       go_simp
       have G3 := hid (G2.out.new hM #[.int .i64 0, .int .i64 0, .int .i64 0] 37)
       refine hK.out _ _ (⟨G3.out.mem (by simp), G3.out.mem (by simp), G3.out.mem (by simp)⟩) (fun h3x => ?_)
       clear hK K
       try simp only [Act.put, lay_out]
       generalize q2.alloc (.cells #[.int .i64 0, .int .i64 0, .int .i64 0] 37) = q3 at *
       refine wpAnyH_ready (rs := [19]) (by kernel_rfl) (by simp) (AllReadyH.cons rfl (fun K hK => ?_) AllReadyH.nil)
       rw [if_pos (by rfl)]
       go_simp
       go_at_call 29
       (with_reducible refine (HYK.out _ _ _ G3.out).mono ?_); rintro e q4 ⟨rfl, hz⟩
       have G4 := hid hz
       clear hz
       refine hK.out _ _ (⟨G4.out.mem (by simp), G4.out.mem (by simp), G4.out.mem (by simp)⟩) (fun h4x => ?_)
       clear hK K
       try simp only [Act.put, lay_out]
       refine wpAnyH_ready (rs := [22]) (by kernel_rfl) (by simp) (AllReadyH.cons rfl (fun K hK => ?_) AllReadyH.nil)
       rw [if_pos (by rfl)]
       refine wp_store_row 37 _ _ rfl (q2.heap.size) (wdV R4) rfl rfl 37 _ (G4.out.bl 0 rfl) (by kernel_rfl) rfl (by kernel_rfl) ?_
       have G5 := hid (G4.out.row hM (wdV R4))
       refine hK.out _ _ (⟨G5.out.mem (by simp), G5.out.mem (by simp), G5.out.mem (by simp)⟩) (fun h5x => ?_)
       clear hK K
       try simp only [Act.put, lay_out]
       have G6 := hid G5.out.swap
       refine wpAnyH_ready (rs := [23]) (by kernel_rfl) (by simp) (AllReadyH.cons rfl (fun K hK => ?_) AllReadyH.nil)
       rw [if_pos (by rfl)]
       refine wp_store_row 37 _ _ rfl (q1.heap.size) (wdV R4) rfl rfl 37 _ (G6.out.bl 0 rfl) (by kernel_rfl) rfl (by kernel_rfl) ?_
       have G7 := hid (G6.out.row hM (wdV R4))
       refine hK.out _ _ (⟨G7.out.mem (by simp), G7.out.mem (by simp), G7.out.mem (by simp)⟩) (fun h6x => ?_)
       clear hK K
       try simp only [Act.put, lay_out]
       refine wpAnyH_done (by kernel_rfl) ?_ _
       refine NoPanic.normal ?_
       clear h0 h1x h2x h3x h4x h5x h6x
       try simp only [Act.put, lay_out]
       go_wp2_with fail
       go_meet
       exact ⟨_, _, rfl, rfl, G7.out⟩
    ·
     rw [if_pos (by rfl)]
     go_simp
     have G1 := hid (G0.out.new hM #[.int .i64 0, .int .i64 0, .int .i64 0] 37)
     refine hK.out _ _ (⟨G1.out.mem (by simp), G1.out.mem (by simp), G1.out.mem (by simp)⟩) (fun h1x => ?_)
     clear hK K
     try simp only [Act.put, lay_out]
     generalize q0.alloc (.cells #[.int .i64 0, .int .i64 0, .int .i64 0] 37) = q1 at *
     refine wpAnyH_ready (rs := [9, 21]) (by kernel_rfl) (by simp) (AllReadyH.cons rfl (fun K hK => ?_) (AllReadyH.cons rfl (fun K hK => ?_) AllReadyH.nil))
     ·
      rw [if_pos (by rfl)]
      go_simp
      go_at_call 28
      (with_reducible refine (HPK.out _ _ _ G1.out).mono ?_); rintro e q2 ⟨rfl, hz⟩
      have G2 := hid hz
      clear hz
      refine hK.out _ _ (⟨G2.out.mem (by simp), G2.out.mem (by simp), G2.out.mem (by simp)⟩) (fun h2x => ?_)
      clear hK K
      try simp only [Act.put, lay_out]
      refine wpAnyH_ready (rs := [19, 21]) (by kernel_rfl) (by simp) (AllReadyH.cons rfl (fun K hK => ?_) (AllReadyH.cons rfl (fun K hK => ?_) AllReadyH.nil))
      ·
       rw [if_pos (by rfl)]
       go_simp
       go_at_call 29
       (with_reducible refine (HYK.out _ _ _ G2.out).mono ?_); rintro e q3 ⟨rfl, hz⟩
       have G3 := hid hz
       clear hz
       refine hK.out _ _ (⟨G3.out.mem (by simp), G3.out.mem (by simp), G3.out.mem (by simp)⟩) (fun h3x => ?_)
       clear hK K
       try simp only [Act.put, lay_out]
       refine wpAnyH_ready (rs := [21]) (by kernel_rfl) (by simp) (AllReadyH.cons rfl (fun K hK => ?_) AllReadyH.nil)
       rw [if_pos (by rfl)]
       go_simp
       have G4 := hid (G3.out.new hM #[.int .i64 0, .int .i64 0, .int .i64 0] 37)
       refine hK.out _ _ (⟨G4.out.mem (by simp), G4.out.mem (by simp), G4.out.mem (by simp)⟩) (fun h4x => ?_)
       clear hK K
       try simp only [Act.put, lay_out]
       generalize q3.alloc (.cells #[.int .i64 0, .int .i64 0, .int .i64 0] 37) = q4 at *
       have G5 := hid G4.out.swap
       refine wpAnyH_ready (rs := [22]) (by kernel_rfl) (by simp) (AllReadyH.cons rfl (fun K hK => ?_) AllReadyH.nil)
       rw [if_pos (by rfl)]
       refine wp_store_row 37 _ _ rfl (q0.heap.size) (wdV R4) rfl rfl 37 _ (G5.out.bl 0 rfl) (by kernel_rfl) rfl (by kernel_rfl) ?_
       have G6 := hid (G5.out.row hM (wdV R4))
       refine hK.out _ _ (⟨G6.out.mem (by simp), G6.out.mem (by simp), G6.out.mem (by simp)⟩) (fun h5x => ?_)
       clear hK K
       try simp only [Act.put, lay_out]
       have G7 := hid G6.out.swap
       refine wpAnyH_ready (rs := [23]) (by kernel_rfl) (by simp) (AllReadyH.cons rfl (fun K hK => ?_) AllReadyH.nil)
       rw [if_pos (by rfl)]
       refine wp_store_row 37 _ _ rfl (q3.heap.size) (wdV R4) rfl rfl 37 _ (G7.out.bl 0 rfl) (by kernel_rfl) rfl (by kernel_rfl) ?_
       have G8 := hid (G7.out.row hM (wdV R4))
       refine hK.out _ _ (⟨G8.out.mem (by simp), G8.out.mem (by simp), G8.out.mem (by simp)⟩) (fun h6x => ?_)
       clear hK K
       try simp only [Act.put, lay_out]
       refine wpAnyH_done (by kernel_rfl) ?_ _
       refine NoPanic.normal ?_
       clear h0 h1x h2x h3x h4x h5x h6x
       try simp only [Act.put, lay_out]
       go_wp2_with fail
       go_meet
       exact ⟨_, _, rfl, rfl, G8.out⟩
      ·
       rw [if_pos (by rfl)]
       go_simp
       have G3 := hid (G2.out.new hM #[.int .i64 0, .int .i64 0, .int .i64 0] 37)
       refine hK.out _ _ (⟨G3.out.mem (by simp), G3.out.mem (by simp), G3.out.mem (by simp)⟩) (fun h3x => ?_)
       clear hK K
       try simp only [Act.put, lay_out]
       generalize q2.alloc (.cells #[.int .i64 0, .int .i64 0, .int .i64 0] 37) = q3 at *
       refine wpAnyH_ready (rs := [19]) (by kernel_rfl) (by simp) (AllReadyH.cons rfl (fun K hK => ?_) AllReadyH.nil)
       rw [if_pos (by rfl)]
       go_simp
       go_at_call 29
       (with_reducible refine (HYK.out _ _ _ G3.out).mono ?_); rintro e q4 ⟨rfl, hz⟩
       have G4 := hid hz
       clear hz
       refine hK.out _ _ (⟨G4.out.mem (by simp), G4.out.mem (by simp), G4.out.mem (by simp)⟩) (fun h4x => ?_)
       clear hK K
       try simp only [Act.put, lay_out]
       have G5 := hid G4.out.swap
       refine wpAnyH_ready (rs := [22]) (by kernel_rfl) (by simp) (AllReadyH.cons rfl (fun K hK => ?_) AllReadyH.nil)
       rw [if_pos (by rfl)]
       refine wp_store_row 37 _ _ rfl (q0.heap.size) (wdV R4) rfl rfl 37 _ (G5.out.bl 0 rfl) (by kernel_rfl) rfl (by kernel_rfl) ?_
       have G6 := hid (G5.out.row hM (wdV R4))
       refine hK.out _ _ (⟨G6.out.mem (by simp), G6.out.mem (by simp), G6.out.mem (by simp)⟩) (fun h5x => ?_)
       clear hK K
       try simp only [Act.put, lay_out]
       have G7 := hid G6.out.swap
       refine wpAnyH_ready (rs := [23]) (by kernel_rfl) (by simp) (AllReadyH.cons rfl (fun K hK => ?_) AllReadyH.nil)
       rw [if_pos (by rfl)]
       refine wp_store_row 37 _ _ rfl (q2.heap.size) (wdV R4) rfl rfl 37 _ (G7.out.bl 0 rfl) (by kernel_rfl) rfl (by kernel_rfl) ?_
       have G8 := hid (G7.out.row hM (wdV R4))
       refine hK.out _ _ (⟨G8.out.mem (by simp), G8.out.mem (by simp), G8.out.mem (by simp)⟩) (fun h6x => ?_)
       clear hK K
       try simp only [Act.put, lay_out]
       refine wpAnyH_done (by kernel_rfl) ?_ _
       refine NoPanic.normal ?_
       clear h0 h1x h2x h3x h4x h5x h6x
       try simp only [Act.put, lay_out]
       go_wp2_with fail
       go_meet
       exact ⟨_, _, rfl, rfl, G8.out⟩
     ·
      rw [if_pos (by rfl)]
      go_simp
      have G2 := hid (G1.out.new hM #[.int .i64 0, .int .i64 0, .int .i64 0] 37)
      refine hK.out _ _ (⟨G2.out.mem (by simp), G2.out.mem (by simp), G2.out.mem (by simp)⟩) (fun h2x => ?_)
      clear hK K
      try simp only [Act.put, lay_out]
      generalize q1.alloc (.cells #[.int .i64 0, .int .i64 0, .int .i64 0] 37) = q2 at *
      refine wpAnyH_ready (rs := [9]) (by kernel_rfl) (by simp) (AllReadyH.cons rfl (fun K hK => ?_) AllReadyH.nil)
      rw [if_pos (by rfl)]
      go_simp
      go_at_call 28
      (with_reducible refine (HPK.out _ _ _ G2.out).mono ?_); rintro e q3 ⟨rfl, hz⟩
      have G3 := hid hz
      clear hz
      refine hK.out _ _ (⟨G3.out.mem (by simp), G3.out.mem (by simp), G3.out.mem (by simp)⟩) (fun h3x => ?_)
      clear hK K
      try simp only [Act.put, lay_out]
      refine wpAnyH_ready (rs := [19]) (by kernel_rfl) (by simp) (AllReadyH.cons rfl (fun K hK => ?_) AllReadyH.nil)
      rw [if_pos (by rfl)]
      go_simp
      go_at_call 29
      (with_reducible refine (HYK.out _ _ _ G3.out).mono ?_); rintro e q4 ⟨rfl, hz⟩
      have G4 := hid hz
      clear hz
      refine hK.out _ _ (⟨G4.out.mem (by simp), G4.out.mem (by simp), G4.out.mem (by simp)⟩) (fun h4x => ?_)
      clear hK K
      try simp only [Act.put, lay_out]
      have G5 := hid G4.out.swap
      refine wpAnyH_ready (rs := [22]) (by kernel_rfl) (by simp) (AllReadyH.cons rfl (fun K hK => ?_) AllReadyH.nil)
      rw [if_pos (by rfl)]
      refine wp_store_row 37 _ _ rfl (q0.heap.size) (wdV R4) rfl rfl 37 _ (G5.out.bl 0 rfl) (by kernel_rfl) rfl (by kernel_rfl) ?_
      have G6 := hid (G5.out.row hM (wdV R4))
      refine hK.out _ _ (⟨G6.out.mem (by simp), G6.out.mem (by simp), G6.out.mem (by simp)⟩) (fun h5x => ?_)
      clear hK K
      try simp only [Act.put, lay_out]
      have G7 := hid G6.out.swap
      refine wpAnyH_ready (rs := [23]) (by kernel_rfl) (by simp) (AllReadyH.cons rfl (fun K hK => ?_) AllReadyH.nil)
      rw [if_pos (by rfl)]
      refine wp_store_row 37 _ _ rfl (q1.heap.size) (wdV R4) rfl rfl 37 _ (G7.out.bl 0 rfl) (by kernel_rfl) rfl (by kernel_rfl) ?_
      have G8 := hid (G7.out.row hM (wdV R4))
      refine hK.out _ _ (⟨G8.out.mem (by simp), G8.out.mem (by simp), G8.out.mem (by simp)⟩) (fun h6x => ?_)
      clear hK K
      try simp only [Act.put, lay_out]
      refine wpAnyH_done (by kernel_rfl) ?_ _
      refine NoPanic.normal ?_
      clear h0 h1x h2x h3x h4x h5x h6x
      try simp only [Act.put, lay_out]
      go_wp2_with fail
      go_meet
      exact ⟨_, _, rfl, rfl, G8.out⟩
    ·
     rw [if_pos (by rfl)]
     go_simp
     have G1 := hid (G0.out.new hM #[.int .i64 0, .int .i64 0, .int .i64 0] 37)
     refine hK.out _ _ (⟨G1.out.mem (by simp), G1.out.mem (by simp), G1.out.mem (by simp)⟩) (fun h1x => ?_)
     clear hK K
     try simp only [Act.put, lay_out]
     generalize q0.alloc (.cells #[.int .i64 0, .int .i64 0, .int .i64 0] 37) = q1 at *
     refine wpAnyH_ready (rs := [9, 20]) (by kernel_rfl) (by simp) (AllReadyH.cons rfl (fun K hK => ?_) (AllReadyH.cons rfl (fun K hK => ?_) AllReadyH.nil))
     ·
      rw [if_pos (by rfl)]
      go_simp
      go_at_call 28
      (with_reducible refine (HPK.out _ _ _ G1.out).mono ?_); rintro e q2 ⟨rfl, hz⟩
      have G2 := hid hz
      clear hz
      refine hK.out _ _ (⟨G2.out.mem (by simp), G2.out.mem (by simp), G2.out.mem (by simp)⟩) (fun h2x => ?_)
      clear hK K
      try simp only [Act.put, lay_out]
      refine wpAnyH_ready (rs := [19, 20]) (by kernel_rfl) (by simp) (AllReadyH.cons rfl (fun K hK => ?_) (AllReadyH.cons rfl (fun K hK => ?_) AllReadyH.nil))
      ·
       rw [if_pos (by rfl)]
       go_simp
       go_at_call 29
       (with_reducible refine (HYK.out _ _ _ G2.out).mono ?_); rintro e q3 ⟨rfl, hz⟩
       have G3 := hid hz
       clear hz
       refine hK.out _ _ (⟨G3.out.mem (by simp), G3.out.mem (by simp), G3.out.mem (by simp)⟩) (fun h3x => ?_)
       clear hK K
       try simp only [Act.put, lay_out]
       refine wpAnyH_ready (rs := [20]) (by kernel_rfl) (by simp) (AllReadyH.cons rfl (fun K hK => ?_) AllReadyH.nil)
       rw [if_pos (by rfl)]
       go_simp
       have G4 := hid (G3.out.new hM #[.int .i64 0, .int .i64 0, .int .i64 0] 37)
       refine hK.out _ _ (⟨G4.out.mem (by simp), G4.out.mem (by simp), G4.out.mem (by simp)⟩) (fun h4x => ?_)
       clear hK K
       try simp only [Act.put, lay_out]
       generalize q3.alloc (.cells #[.int .i64 0, .int .i64 0, .int .i64 0] 37) = q4 at *
       refine wpAnyH_ready (rs := [22]) (by kernel_rfl) (by simp) (AllReadyH.cons rfl (fun K hK => ?_) AllReadyH.nil)
       rw [if_pos (by rfl)]
       refine wp_store_row 37 _ _ rfl (q3.heap.size) (wdV R4) rfl rfl 37 _ (G4.out.bl 0 rfl) (by kernel_rfl) rfl (by kernel_rfl) ?_
       have G5 := hid (G4.out.row hM (wdV R4))
       refine hK.out _ _ (⟨G5.out.mem (by simp), G5.out.mem (by simp), G5.out.mem (by simp)⟩) (fun h5x => ?_)
       clear hK K
       try simp only [Act.put, lay_out]
       have G6 := hid G5.out.swap
       refine wpAnyH_ready (rs := [23]) (by kernel_rfl) (by simp) (AllReadyH.cons rfl (fun K hK => ?_) AllReadyH.nil)
       rw [if_pos (by rfl)]
       refine wp_store_row 37 _ _ rfl (q0.heap.size) (wdV R4) rfl rfl 37 _ (G6.out.bl 0 rfl) (by kernel_rfl) rfl (by kernel_rfl) ?_
       have G7 := hid (G6.out.row hM (wdV R4))
       refine hK.out _ _ (⟨G7.out.mem (by simp), G7.out.mem (by simp), G7.out.mem (by simp)⟩) (fun h6x => ?_)
       clear hK K
       try simp only [Act.put, lay_out]
       refine wpAnyH_done (by kernel_rfl) ?_ _
       refine NoPanic.normal ?_
       clear h0 h1x h2x h3x h4x h5x h6x
       try simp only [Act.put, lay_out]
       go_wp2_with fail
       go_meet
       exact ⟨_, _, rfl, rfl, G7.out⟩
      ·
       rw [if_pos (by rfl)]
       go_simp
       have G3 := hid (G2.out.new hM #[.int .i64 0, .int .i64 0, .int .i64 0] 37)
       refine hK.out _ _ (⟨G3.out.mem (by simp), G3.out.mem (by simp), G3.out.mem (by simp)⟩) (fun h3x => ?_)
       clear hK K
       try simp only [Act.put, lay_out]
       generalize q2.alloc (.cells #[.int .i64 0, .int .i64 0, .int .i64 0] 37) = q3 at *
       refine wpAnyH_ready (rs := [19]) (by kernel_rfl) (by simp) (AllReadyH.cons rfl (fun K hK => ?_) AllReadyH.nil)
       rw [if_pos (by rfl)]
       go_simp
       go_at_call 29
       (with_reducible refine (HYK.out _ _ _ G3.out).mono ?_); rintro e q4 ⟨rfl, hz⟩
       have G4 := hid hz
       clear hz
       refine hK.out _ _ (⟨G4.out.mem (by simp), G4.out.mem (by simp), G4.out.mem (by simp)⟩) (fun h4x => ?_)
       clear hK K
       try simp only [Act.put, lay_out]
       refine wpAnyH_ready (rs := [22]) (by kernel_rfl) (by simp) (AllReadyH.cons rfl (fun K hK => ?_) AllReadyH.nil)
       rw [if_pos (by rfl)]
       refine wp_store_row 37 _ _ rfl (q2.heap.size) (wdV R4) rfl rfl 37 _ (G4.out.bl 0 rfl) (by kernel_rfl) rfl (by kernel_rfl) ?_
       have G5 := hid (G4.out.row hM (wdV R4))
       refine hK.out _ _ (⟨G5.out.mem (by simp), G5.out.mem (by simp), G5.out.mem (by simp)⟩) (fun h5x => ?_)
       clear hK K
       try simp only [Act.put, lay_out]
       have G6 := hid G5.out.swap
       refine wpAnyH_ready (rs := [23]) (by kernel_rfl) (by simp) (AllReadyH.cons rfl (fun K hK => ?_) AllReadyH.nil)
       rw [if_pos (by rfl)]
       refine wp_store_row 37 _ _ rfl (q0.heap.size) (wdV R4) rfl rfl 37 _ (G6.out.bl 0 rfl) (by kernel_rfl) rfl (by kernel_rfl) ?_
       have G7 := hid (G6.out.row hM (wdV R4))
       refine hK.out _ _ (⟨G7.out.mem (by simp), G7.out.mem (by simp), G7.out.mem (by simp)⟩) (fun h6x => ?_)
       clear hK K
       try simp only [Act.put, lay_out]
       refine wpAnyH_done (by kernel_rfl) ?_ _
       refine NoPanic.normal ?_
       clear h0 h1x h2x h3x h4x h5x h6x
       try simp only [Act.put, lay_out]
       go_wp2_with fail
       go_meet
       exact ⟨_, _, rfl, rfl, G7.out⟩
     ·
      rw [if_pos (by rfl)]
      go_simp
      have G2 := hid (G1.out.new hM #[.int .i64 0, .int .i64 0, .int .i64 0] 37)
      refine hK.out _ _ (⟨G2.out.mem (by simp), G2.out.mem (by simp), G2.out.mem (by simp)⟩) (fun h2x => ?_)
      clear hK K
      try simp only [Act.put, lay_out]
      generalize q1.alloc (.cells #[.int .i64 0, .int .i64 0, .int .i64 0] 37) = q2 at *
      refine wpAnyH_ready (rs := [9]) (by kernel_rfl) (by simp) (AllReadyH.cons rfl (fun K hK => ?_) AllReadyH.nil)
      rw [if_pos (by rfl)]
      go_simp
      go_at_call 28
      (with_reducible refine (HPK.out _ _ _ G2.out).mono ?_); rintro e q3 ⟨rfl, hz⟩
      have G3 := hid hz
      clear hz
      refine hK.out _ _ (⟨G3.out.mem (by simp), G3.out.mem (by simp), G3.out.mem (by simp)⟩) (fun h3x => ?_)
      clear hK K
      try simp only [Act.put, lay_out]
      refine wpAnyH_ready (rs := [19]) (by kernel_rfl) (by simp) (AllReadyH.cons rfl (fun K hK => ?_) AllReadyH.nil)
      rw [if_pos (by rfl)]
      go_simp
      go_at_call 29
      (with_reducible refine (HYK.out _ _ _ G3.out).mono ?_); rintro e q4 ⟨rfl, hz⟩
      have G4 := hid hz
      clear hz
      refine hK.out _ _ (⟨G4.out.mem (by simp), G4.out.mem (by simp), G4.out.mem (by simp)⟩) (fun h4x => ?_)
      clear hK K
      try simp only [Act.put, lay_out]
      refine wpAnyH_ready (rs := [22]) (by kernel_rfl) (by simp) (AllReadyH.cons rfl (fun K hK => ?_) AllReadyH.nil)
      rw [if_pos (by rfl)]
      refine wp_store_row 37 _ _ rfl (q1.heap.size) (wdV R4) rfl rfl 37 _ (G4.out.bl 0 rfl) (by kernel_rfl) rfl (by kernel_rfl) ?_
      have G5 := hid (G4.out.row hM (wdV R4))
      refine hK.out _ _ (⟨G5.out.mem (by simp), G5.out.mem (by simp), G5.out.mem (by simp)⟩) (fun h5x => ?_)
      clear hK K
      try simp only [Act.put, lay_out]
      have G6 := hid G5.out.swap
      refine wpAnyH_ready (rs := [23]) (by kernel_rfl) (by simp) (AllReadyH.cons rfl (fun K hK => ?_) AllReadyH.nil)
      rw [if_pos (by rfl)]
      refine wp_store_row 37 _ _ rfl (q0.heap.size) (wdV R4) rfl rfl 37 _ (G6.out.bl 0 rfl) (by kernel_rfl) rfl (by kernel_rfl) ?_
      have G7 := hid (G6.out.row hM (wdV R4))
      refine hK.out _ _ (⟨G7.out.mem (by simp), G7.out.mem (by simp), G7.out.mem (by simp)⟩) (fun h6x => ?_)
      clear hK K
      try simp only [Act.put, lay_out]
      refine wpAnyH_done (by kernel_rfl) ?_ _
      refine NoPanic.normal ?_
      clear h0 h1x h2x h3x h4x h5x h6x
      try simp only [Act.put, lay_out]
      go_wp2_with fail
      go_meet
      exact ⟨_, _, rfl, rfl, G7.out⟩
   case rest =>
    obtain ⟨b15, b16, rfl, rfl, hcut⟩ := hcut
    have HA4 := hid hcut
    clear hcut HI HPK HYK
    generalize wc = w4 at *
    go_upto_region 14 with fail
    go_cut [17, 18] from 71 to 86 (fun q6 q7 wx => ∃ b17 b18, q6 = .pointer (some ⟨b17, 0, none⟩) ∧ q7 = .pointer (some ⟨b18, 0, none⟩) ∧ Gy Pm w1.heap.size (fun _ => False) w1 w2 wx p b S5 S5 ((b18, Obj.cells (wdV R5) 37 (0, 0)) :: (b17, Obj.cells (wdV R5) 37 (0, 0)) :: (b16, Obj.cells (wdV R4) 37 (0, 0)) :: (b15, Obj.cells (wdV R4) 37 (0, 0)) :: [(g13, Obj.cells (iz 9 (AA 3)) 59 (0, 0)), (g12, Obj.cells (iz 9 (AA 3)) 59 (0, 0)), (b1, Obj.cells (paC p b (.slice none 0 0) (.slice none 0 0)) 30 (0, 0))]))
    case first =>
     have G0 := hid (HA4.out.self hM ((Below.refl _ w4).drew))
     refine wp_region_noPanic ?_
     refine wp_region_held_drew (S := fun w' => w'.heap[b1]? = some (.cells (paC p b (.slice none 0 0) (.slice none 0 0)) 30 (0, 0)) ∧ w'.heap[g12]? = some (.cells (iz 9 (AA 3)) 59 (0, 0)) ∧ w'.heap[g13]? = some (.cells (iz 9 (AA 3)) 59 (0, 0))) (by kernel_rfl) (⟨G0.out.mem (by simp), G0.out.mem (by simp), G0.out.mem (by simp)⟩) (fun h0 => ?_)
     generalize w4.drew = q0 at *
     refine tK 0 (.pointer (some ⟨b1, 0, none⟩)) rfl (.inl ⟨by rfl, fun w hw => by clear hw; go_simp⟩) h0 ?_
     try simp only [Act.put, lay_out]
     refine tK 1 (.pointer (some ⟨p, 0, none⟩)) rfl (.inl ⟨by rfl, fun w' hw => by have hc := row_c (i := 0) (u := .pointer (some ⟨p, 0, none⟩)) hw.1 rfl; clear hw; go_simp⟩) h0 ?_
     try simp only [Act.put, lay_out]
     refine tK 2 (.int .i64 K) rfl (.inl ⟨by rfl, fun w hw => by clear hw; go_simp⟩) h0 ?_
     try simp only [Act.put, lay_out]
     refine tK 3 (.pointer (some ⟨g12, 3, none⟩)) rfl (.inl ⟨by rfl, fun w hw => by clear hw; go_simp⟩) h0 ?_
     try simp only [Act.put, lay_out]
     refine tK 4 (.agg (wdV (LR 1))) rfl (yields_load_wdm (by rfl) _ rfl g12 3 (LR 1) rfl (fun w hw => HARC.out w g12 hw.2.1 1 (by decide))) h0 ?_
     try simp only [Act.put, lay_out]
     refine tK 5 (.pointer (some ⟨g12, 6, none⟩)) rfl (.inl ⟨by rfl, fun w hw => by clear hw; go_simp⟩) h0 ?_
     try simp only [Act.put, lay_out]
     refine tK 6 (.agg (wdV (LR 2))) rfl (yields_load_wdm (by rfl) _ rfl g12 6 (LR 2) rfl (fun w hw => HARC.out w g12 hw.2.1 2 (by decide))) h0 ?_
     try simp only [Act.put, lay_out]
     refine tK 8 (.pointer (some ⟨b1, 1, none⟩)) rfl (.inl ⟨by rfl, fun w hw => by clear hw; go_simp⟩) h0 ?_
     try simp only [Act.put, lay_out]
     refine tK 9 (.pointer (some ⟨b, 0, none⟩)) rfl (.inl ⟨by rfl, fun w' hw => by have hc := row_c (i := 1) (u := .pointer (some ⟨b, 0, none⟩)) hw.1 rfl; clear hw; go_simp⟩) h0 ?_
     try simp only [Act.put, lay_out]
     refine tK 10 (.int .i64 K) rfl (.inl ⟨by rfl, fun w hw => by clear hw; go_simp⟩) h0 ?_
     try simp only [Act.put, lay_out]
     refine tK 11 (.pointer (some ⟨g13, 3, none⟩)) rfl (.inl ⟨by rfl, fun w hw => by clear hw; go_simp⟩) h0 ?_
     try simp only [Act.put, lay_out]
     refine tK 12 (.agg (wdV (LR 1))) rfl (yields_load_wdm (by rfl) _ rfl g13 3 (LR 1) rfl (fun w hw => HARC.out w g13 hw.2.2 1 (by decide))) h0 ?_
     try simp only [Act.put, lay_out]
     refine tK 13 (.pointer (some ⟨g13, 6, none⟩)) rfl (.inl ⟨by rfl, fun w hw => by clear hw; go_simp⟩) h0 ?_
     try simp only [Act.put, lay_out]
     refine tK 14 (.agg (wdV (LR 2))) rfl (yields_load_wdm (by rfl) _ rfl g13 6 (LR 2) rfl (fun w hw => HARC.out w g13 hw.2.2 2 (by decide))) h0 ?_
     try simp only [Act.put, lay_out]
     refine wpAnyH_ready (rs := [7, 16, 17]) (by kernel_rfl) (by simp) (AllReadyH.cons rfl (fun K hK => ?_) (AllReadyH.cons rfl (fun K hK => ?_) (AllReadyH.cons rfl (fun K hK => ?_) AllReadyH.nil)))
     ·
      rw [if_pos (by rfl)]
      go_simp
      go_at_call 30
      (with_reducible refine (HPA.out _ _ _ G0.out).mono ?_); rintro e q1 ⟨rfl, hz⟩
      have G1 := hid hz
      clear hz
      refine hK.out _ _ (⟨G1.out.mem (by simp), G1.out.mem (by simp), G1.out.mem (by simp)⟩) (fun h1x => ?_)
      clear hK K
      try simp only [Act.put, lay_out]
      refine wpAnyH_ready (rs := [15, 16, 17]) (by kernel_rfl) (by simp) (AllReadyH.cons rfl (fun K hK => ?_) (AllReadyH.cons rfl (fun K hK => ?_) (AllReadyH.cons rfl (fun K hK => ?_) AllReadyH.nil)))
      ·
       rw [if_pos (by rfl)]
       go_simp
       go_at_call 31
       (with_reducible refine (HYA.out _ _ _ G1.out).mono ?_); rintro e q2 ⟨rfl, hz⟩
       have G2 := hid hz
       clear hz
       refine hK.out _ _ (⟨G2.out.mem (by simp), G2.out.mem (by simp), G2.out.mem (by simp)⟩) (fun h2x => ?_)
       clear hK K
       try simp only [Act.put, lay_out]
       refine wpAnyH_ready (rs := [16, 17]) (by kernel_rfl) (by simp) (AllReadyH.cons rfl (fun K hK => ?_) (AllReadyH.cons rfl (fun K hK => ?_) AllReadyH.nil))
       ·
        rw [if_pos (by rfl)]
        go_simp
        have G3 := hid (G2.out.new hM #[.int .i64 0, .int .i64 0, .int .i64 0] 37)
        refine hK.out _ _ (⟨G3.out.mem (by simp), G3.out.mem (by simp), G3.out.mem (by simp)⟩) (fun h3x => ?_)
        clear hK K
        try simp only [Act.put, lay_out]
        generalize q2.alloc (.cells #[.int .i64 0, .int .i64 0, .int .i64 0] 37) = q3 at *
        refine wpAnyH_ready (rs := [17]) (by kernel_rfl) (by simp) (AllReadyH.cons rfl (fun K hK => ?_) AllReadyH.nil)
        rw [if_pos (by rfl)]
        go_simp
        have G4 := hid (G3.out.new hM #[.int .i64 0, .int .i64 0, .int .i64 0] 37)
        refine hK.out _ _ (⟨G4.out.mem (by simp), G4.out.mem (by simp), G4.out.mem (by simp)⟩) (fun h4x => ?_)
        clear hK K
        try simp only [Act.put, lay_out]
        generalize q3.alloc (.cells #[.int .i64 0, .int .i64 0, .int .i64 0] 37) = q4 at *
        have G5 := hid G4.out.swap
        refine wpAnyH_ready (rs := [18]) (by kernel_rfl) (by simp) (AllReadyH.cons rfl (fun K hK => ?_) AllReadyH.nil)
        rw [if_pos (by rfl)]
        refine wp_store_row 37 _ _ rfl (q2.heap.size) (wdV R5) rfl rfl 37 _ (G5.out.bl 0 rfl) (by kernel_rfl) rfl (by kernel_rfl) ?_
        have G6 := hid (G5.out.row hM (wdV R5))
        refine hK.out _ _ (⟨G6.out.mem (by simp), G6.out.mem (by simp), G6.out.mem (by simp)⟩) (fun h5x => ?_)
        clear hK K
        try simp only [Act.put, lay_out]
        have G7 := hid G6.out.swap
        refine wpAnyH_ready (rs := [19]) (by kernel_rfl) (by simp) (AllReadyH.cons rfl (fun K hK => ?_) AllReadyH.nil)
        rw [if_pos (by rfl)]
        refine wp_store_row 37 _ _ rfl (q3.heap.size) (wdV R5) rfl rfl 37 _ (G7.out.bl 0 rfl) (by kernel_rfl) rfl (by kernel_rfl) ?_
        have G8 := hid (G7.out.row hM (wdV R5))
        refine hK.out _ _ (⟨G8.out.mem (by simp), G8.out.mem (by simp), G8.out.mem (by simp)⟩) (fun h6x => ?_)
        clear hK K
        try simp only [Act.put, lay_out]
        refine wpAnyH_done (by kernel_rfl) ?_ _
        refine NoPanic.normal ?_
        clear h0 h1x h2x h3x h4x h5x h6x
        try simp only [Act.put, lay_out]
        go_wp2_with fail
        go_meet
        exact ⟨_, _, rfl, rfl, G8.out⟩
       ·
        rw [if_pos (by rfl)]
        go_simp
        have G3 := hid (G2.out.new hM #[.int .i64 0, .int .i64 0, .int .i64 0] 37)
        refine hK.out _ _ (⟨G3.out.mem (by simp), G3.out.mem (by simp), G3.out.mem (by simp)⟩) (fun h3x => ?_)
        clear hK K
        try simp only [Act.put, lay_out]
        generalize q2.alloc (.cells #[.int .i64 0, .int .i64 0, .int .i64 0] 37) = q3 at *
        refine wpAnyH_ready (rs := [16]) (by kernel_rfl) (by simp) (AllReadyH.cons rfl (fun K hK => ?_) AllReadyH.nil)
        rw [if_pos (by rfl)]
        go_simp
        have G4 := hid (G3.out.new hM #[.int .i64 0, .int .i64 0, .int .i64 0] 37)
        refine hK.out _ _ (⟨G4.out.mem (by simp), G4.out.mem (by simp), G4.out.mem (by simp)⟩) (fun h4x => ?_)
        clear hK K
        try simp only [Act.put, lay_out]
        generalize q3.alloc (.cells #[.int .i64 0, .int .i64 0, .int .i64 0] 37) = q4 at *
        refine wpAnyH_ready (rs := [18]) (by kernel_rfl) (by simp) (AllReadyH.cons rfl (fun K hK => ?_) AllReadyH.nil)
        rw [if_pos (by rfl)]
        refine wp_store_row 37 _ _ rfl (q3.heap.size) (wdV R5) rfl rfl 37 _ (G4.out.bl 0 rfl) (by kernel_rfl) rfl (by kernel_rfl) ?_
        have G5 := hid (G4.out.row hM (wdV R5))
        refine hK.out _ _ (⟨G5.out.mem (by simp), G5.out.mem (by simp), G5.out.mem (by simp)⟩) (fun h5x => ?_)
        clear hK K
        try simp only [Act.put, lay_out]
        have G6 := hid G5.out.swap
        refine wpAnyH_ready (rs := [19]) (by kernel_rfl) (by simp) (AllReadyH.cons rfl (fun K hK => ?_) AllReadyH.nil)
        rw [if_pos (by rfl)]
        refine wp_store_row 37 _ _ rfl (q2.heap.size) (wdV R5) rfl rfl 37 _ (G6.out.bl 0 rfl) (by kernel_rfl) rfl (by kernel_rfl) ?_
        have G7 := hid (G6.out.row hM (wdV R5))
        refine hK.out _ _ (⟨G7.out.mem (by simp), G7.out.mem (by simp), G7.out.mem (by simp)⟩) (fun h6x => ?_)
        clear hK K
        try simp only [Act.put, lay_out]
        refine wpAnyH_done (by kernel_rfl) ?_ _
        refine NoPanic.normal ?_
        clear h0 h1x h2x h3x h4x h5x h6x
        try simp only [Act.put, lay_out]
        go_wp2_with fail
        go_meet
        exact ⟨_, _, rfl, rfl, G7.out⟩
      ·
       rw [if_pos (by rfl)]
       go_simp
       have G2 := hid (G1.out.new hM #[.int .i64 0, .int .i64 0, .int .i64 0] 37)
       refine hK.out _ _ (⟨G2.out.mem (by simp), G2.out.mem (by simp), G2.out.mem (by simp)⟩) (fun h2x => ?_)
       clear hK K
       try simp only [Act.put, lay_out]
       generalize q1.alloc (.cells #[.int .i64 0, .int .i64 0, .int .i64 0] 37) = q2 at *
       refine wpAnyH_ready (rs := [15, 17]) (by kernel_rfl) (by simp) (AllReadyH.cons rfl (fun K hK => ?_) (AllReadyH.cons rfl (fun K hK => ?_) AllReadyH.nil))
       ·
        rw [if_pos (by rfl)]
        go_simp
        go_at_call 31
        (with_reducible refine (HYA.out _ _ _ G2.out).mono ?_); rintro e q3 ⟨rfl, hz⟩
        have G3 := hid hz
        clear hz
        refine hK.out _ _ (⟨G3.out.mem (by simp), G3.out.mem (by simp), G3.out.mem (by simp)⟩) (fun h3x => ?_)
        clear hK K
        try simp only [Act.put, lay_out]
        refine wpAnyH_ready (rs := [17]) (by kernel_rfl) (by simp) (AllReadyH.cons rfl (fun K hK => ?_) AllReadyH.nil)
        rw [if_pos (by rfl)]
        go_simp
        have G4 := hid (G3.out.new hM #[.int .i64 0, .int .i64 0, .int .i64 0] 37)
        refine hK.out _ _ (⟨G4.out.mem (by simp), G4.out.mem (by simp), G4.out.mem (by simp)⟩) (fun h4x => ?_)
        clear hK K
        try simp only [Act.put, lay_out]
        generalize q3.alloc (.cells #[.int .i64 0, .int .i64 0, .int .i64 0] 37) = q4 at *
        have G5 := hid G4.out.swap
        refine wpAnyH_ready (rs := [18]) (by kernel_rfl) (by simp) (AllReadyH.cons rfl (fun K hK => ?_) AllReadyH.nil)
        rw [if_pos (by rfl)]
        refine wp_store_row 37 _ _ rfl (q1.heap.size) (wdV R5) rfl rfl 37 _ (G5.out.bl 0 rfl) (by kernel_rfl) rfl (by kernel_rfl) ?_
        have G6 := hid (G5.out.row hM (wdV R5))
        refine hK.out _ _ (⟨G6.out.mem (by simp), G6.out.mem (by simp), G6.out.mem (by simp)⟩) (fun h5x => ?_)
        clear hK K
        try simp only [Act.put, lay_out]
        have G7 := hid G6.out.swap
        refine wpAnyH_ready (rs := [19]) (by kernel_rfl) (by simp) (AllReadyH.cons rfl (fun K hK => ?_) AllReadyH.nil)
        rw [if_pos (by rfl)]
        refine wp_store_row 37 _ _ rfl (q3.heap.size) (wdV R5) rfl rfl 37 _ (G7.out.bl 0 rfl) (by kernel_rfl) rfl (by kernel_rfl) ?_
        have G8 := hid (G7.out.row hM (wdV R5))
        refine hK.out _ _ (⟨G8.out.mem (by simp), G8.out.mem (by simp), G8.out.mem (by simp)⟩) (fun h6x => ?_)
        clear hK K
        try simp only [Act.put, lay_out]
        refine wpAnyH_done (by kernel_rfl) ?_ _
        refine NoPanic.normal ?_
        clear h0 h1x h2x h3x h4x h5x h6x
        try simp only [Act.put, lay_out]
        go_wp2_with fail
        go_meet
        exact ⟨_, _, rfl, rfl, G8.out⟩
       ·
        rw [if_pos (by rfl)]
        go_simp
        have G3 := hid (G2.out.new hM #[.int .i64 0, .int .i64 0, .int .i64 0] 37)
        refine hK.out _ _ (⟨G3.out.mem (by simp), G3.out.mem (by simp), G3.out.mem (by simp)⟩) (fun h3x => ?_)
        clear hK K
        try simp only [Act.put, lay_out]
        generalize q2.alloc (.cells #[.int .i64 0, .int .i64 0, .int .i64 0] 37) = q3 at *
        refine wpAnyH_ready (rs := [15]) (by kernel_rfl) (by simp) (AllReadyH.cons rfl (fun K hK => ?_) AllReadyH.nil)
        rw [if_pos (by rfl)]
        go_simp
        go_at_call 31
        (with_reducible refine (HYA.out _ _ _ G3.out).mono ?_); rintro e q4 ⟨rfl, hz⟩
        have G4 := hid hz
        clear hz
        refine hK.out _ _ (⟨G4.out.mem (by simp), G4.out.mem (by simp), G4.out.mem (by simp)⟩) (fun h4x => ?_)
        clear hK K
        try simp only [Act.put, lay_out]
        have G5 := hid G4.out.swap
        refine wpAnyH_ready (rs := [18]) (by kernel_rfl) (by simp) (AllReadyH.cons rfl (fun K hK => ?_) AllReadyH.nil)
        rw [if_pos (by rfl)]
        refine wp_store_row 37 _ _ rfl (q1.heap.size) (wdV R5) rfl rfl 37 _ (G5.out.bl 0 rfl) (by kernel_rfl) rfl (by kernel_rfl) ?_
        have G6 := hid (G5.out.row hM (wdV R5))
        refine hK.out _ _ (⟨G6.out.mem (by simp), G6.out.mem (by simp), G6.out.mem (by simp)⟩) (fun h5x => ?_)
        clear hK K
        try simp only [Act.put, lay_out]
        have G7 := hid G6.out.swap
        refine wpAnyH_ready (rs := [19]) (by kernel_rfl) (by simp) (AllReadyH.cons rfl (fun K hK => ?_) AllReadyH.nil)
        rw [if_pos (by rfl)]
        refine wp_store_row 37 _ _ rfl (q2.heap.size) (wdV R5) rfl rfl 37 _ (G7.out.bl 0 rfl) (by kernel_rfl) rfl (by kernel_rfl) ?_
        have G8 := hid (G7.out.row hM (wdV R5))
        refine hK.out _ _ (⟨G8.out.mem (by simp), G8.out.mem (by simp), G8.out.mem (by simp)⟩) (fun h6x => ?_)
        clear hK K
        try simp only [Act.put, lay_out]
        refine wpAnyH_done (by kernel_rfl) ?_ _
        refine NoPanic.normal ?_
        clear h0 h1x h2x h3x h4x h5x h6x
        try simp only [Act.put, lay_out]
        go_wp2_with fail
        go_meet
        exact ⟨_, _, rfl, rfl, G8.out⟩
      ·
       rw [if_pos (by rfl)]
       go_simp
       have G2 := hid (G1.out.new hM #[.int .i64 0, .int .i64 0, .int .i64 0] 37)
       refine hK.out _ _ (⟨G2.out.mem (by simp), G2.out.mem (by simp), G2.out.mem (by simp)⟩) (fun h2x => ?_)
       clear hK K
       try simp only [Act.put, lay_out]
       generalize q1.alloc (.cells #[.int .i64 0, .int .i64 0, .int .i64 0] 37) = q2 at *
       refine wpAnyH_ready (rs := [15, 16]) (by kernel_rfl) (by simp) (AllReadyH.cons rfl (fun K hK => ?_) (AllReadyH.cons rfl (fun K hK => ?_) AllReadyH.nil))
       ·
        rw [if_pos (by rfl)]
        go_simp
        go_at_call 31
        (with_reducible refine (HYA.out _ _ _ G2.out).mono ?_); rintro e q3 ⟨rfl, hz⟩
        have G3 := hid hz
        clear hz
        refine hK.out _ _ (⟨G3.out.mem (by simp), G3.out.mem (by simp), G3.out.mem (by simp)⟩) (fun h3x => ?_)
        clear hK K
        try simp only [Act.put, lay_out]
        refine wpAnyH_ready (rs := [16]) (by kernel_rfl) (by simp) (AllReadyH.cons rfl (fun K hK => ?_) AllReadyH.nil)
        rw [if_pos (by rfl)]
        go_simp
        have G4 := hid (G3.out.new hM #[.int .i64 0, .int .i64 0, .int .i64 0] 37)
        refine hK.out _ _ (⟨G4.out.mem (by simp), G4.out.mem (by simp), G4.out.mem (by simp)⟩) (fun h4x => ?_)
        clear hK K
        try simp only [Act.put, lay_out]
        generalize q3.alloc (.cells #[.int .i64 0, .int .i64 0, .int .i64 0] 37) = q4 at *
        refine wpAnyH_ready (rs := [18]) (by kernel_rfl) (by simp) (AllReadyH.cons rfl (fun K hK => ?_) AllReadyH.nil)
        rw [if_pos (by rfl)]
        refine wp_store_row 37 _ _ rfl (q3.heap.size) (wdV R5) rfl rfl 37 _ (G4.out.bl 0 rfl) (by kernel_rfl) rfl (by kernel_rfl) ?_
        have G5 := hid (G4.out.row hM (wdV R5))
        refine hK.out _ _ (⟨G5.out.mem (by simp), G5.out.mem (by simp), G5.out.mem (by simp)⟩) (fun h5x => ?_)
        clear hK K
        try simp only [Act.put, lay_out]
        have G6 := hid G5.out.swap
        refine wpAnyH_ready (rs := [19]) (by kernel_rfl) (by simp) (AllReadyH.cons rfl (fun K hK => ?_) AllReadyH.nil)
        rw [if_pos (by rfl)]
        refine wp_store_row 37 _ _ rfl (q1.heap.size) (wdV R5) rfl rfl 37 _ (G6.out.bl 0 rfl) (by kernel_rfl) rfl (by kernel_rfl) ?_
        have G7 := hid (G6.out.row hM (wdV R5))
        refine hK.out _ _ (⟨G7.out.mem (by simp), G7.out.mem (by simp), G7.out.mem (by simp)⟩) (fun h6x => ?_)
        clear hK K
        try simp only [Act.put, lay_out]
        refine wpAnyH_done (by kernel_rfl) ?_ _
        refine NoPanic.normal ?_
        clear h0 h1x h2x h3x h4x h5x h6x
        try simp only [Act.put, lay_out]
        go_wp2_with fail
        go_meet
        exact ⟨_, _, rfl, rfl, G7.out⟩
       ·
        rw [if_pos (by rfl)]
        go_simp
        have G3 := hid (G2.out.new hM #[.int .i64 0, .int .i64 0, .int .i64 0] 37)
        refine hK.out _ _ (⟨G3.out.mem (by simp), G3.out.mem (by simp), G3.out.mem (by simp)⟩) (fun h3x => ?_)
        clear hK K
        try simp only [Act.put, lay_out]
        generalize q2.alloc (.cells #[.int .i64 0, .int .i64 0, .int .i64 0] 37) = q3 at *
        refine wpAnyH_ready (rs := [15]) (by kernel_rfl) (by simp) (AllReadyH.cons rfl (fun K hK => ?_) AllReadyH.nil)
        rw [if_pos (by rfl)]
        go_simp
        go_at_call 31
        (with_reducible refine (HYA.out _ _ _ G3.out).mono ?_); rintro e q4 ⟨rfl, hz⟩
        have G4 := hid hz
        clear hz
        refine hK.out _ _ (⟨G4.out.mem (by simp), G4.out.mem (by simp), G4.out.mem (by simp)⟩) (fun h4x => ?_)
        clear hK K
        try simp only [Act.put, lay_out]
        refine wpAnyH_ready (rs := [18]) (by kernel_rfl) (by simp) (AllReadyH.cons rfl (fun K hK => ?_) AllReadyH.nil)
        rw [if_pos (by rfl)]
        refine wp_store_row 37 _ _ rfl (q2.heap.size) (wdV R5) rfl rfl 37 _ (G4.out.bl 0 rfl) (by kernel_rfl) rfl (by kernel_rfl) ?_
        have G5 := hid (G4.out.row hM (wdV R5))
        refine hK.out _ _ (⟨G5.out.mem (by simp), G5.out.mem (by simp), G5.out.mem (by simp)⟩) (fun h5x => ?_)
        clear hK K
        try simp only [Act.put, lay_out]
        have G6 := hid G5.out.swap
        refine wpAnyH_ready (rs := [19]) (by kernel_rfl) (by simp) (AllReadyH.cons rfl (fun K hK => ?_) AllReadyH.nil)
        rw [if_pos (by rfl)]
        refine wp_store_row 37 _ _ rfl (q1.heap.size) (wdV R5) rfl rfl 37 _ (G6.out.bl 0 rfl) (by kernel_rfl) rfl (by kernel_rfl) ?_
        have G7 := hid (G6.out.row hM (wdV R5))
        refine hK.out _ _ (⟨G7.out.mem (by simp), G7.out.mem (by simp), G7.out.mem (by simp)⟩) (fun h6x => ?_)
        clear hK K
        try simp only [Act.put, lay_out]
        refine wpAnyH_done (by kernel_rfl) ?_ _
        refine NoPanic.normal ?_
        clear h0 h1x h2x h3x h4x h5x h6x
        try simp only [Act.put, lay_out]
        go_wp2_with fail
        go_meet
        exact ⟨_, _, rfl, rfl, G7.out⟩
     ·
      rw [if_pos (by rfl)]
      go_simp
      have G1 := hid (G0.out.new hM #[.int .i64 0, .int .i64 0, .int .i64 0] 37)
      refine hK.out _ _ (⟨G1.out.mem (by simp), G1.out.mem (by simp), G1.out.mem (by simp)⟩) (fun h1x => ?_)
      clear hK K
      try simp only [Act.put, lay_out]
      generalize q0.alloc (.cells #[.int .i64 0, .int .i64 0, .int .i64 0] 37) = q1 at *
      refine wpAnyH_ready (rs := [7, 17]) (by kernel_rfl) (by simp) (AllReadyH.cons rfl (fun K hK => ?_) (AllReadyH.cons rfl (fun K hK => ?_) AllReadyH.nil))
      ·
       rw [if_pos (by rfl)]
       go_simp
       go_at_call 30
       (with_reducible refine (HPA.out _ _ _ G1.out).mono ?_); rintro e q2 ⟨rfl, hz⟩
       have G2 := hid hz
       clear hz
       refine hK.out _ _ (⟨G2.out.mem (by simp), G2.out.mem (by simp), G2.out.mem (by simp)⟩) (fun h2x => ?_)
       clear hK K
       try simp only [Act.put, lay_out]
       refine wpAnyH_ready (rs := [15, 17]) (by kernel_rfl) (by simp) (AllReadyH.cons rfl (fun K hK => ?_) (AllReadyH.cons rfl (fun K hK => ?_) AllReadyH.nil))
       ·
        rw [if_pos (by rfl)]
        go_simp
        go_at_call 31
        (with_reducible refine (HYA.out _ _ _ G2.out).mono ?_); rintro e q3 ⟨rfl, hz⟩
        have G3 := hid hz
        clear hz
        refine hK.out _ _ (⟨G3.out.mem (by simp), G3.out.mem (by simp), G3.out.mem (by simp)⟩) (fun h3x => ?_)
        clear hK K
        try simp only [Act.put, lay_out]
        refine wpAnyH_ready (rs := [17]) (by kernel_rfl) (by simp) (AllReadyH.cons rfl (fun K hK => ?_) AllReadyH.nil)
        rw [if_pos (by rfl)]
        go_simp
        have G4 := hid (G3.out.new hM #[.int .i64 0, .int .i64 0, .int .i64 0] 37)
        refine hK.out _ _ (⟨G4.out.mem (by simp), G4.out.mem (by simp), G4.out.mem (by simp)⟩) (fun h4x => ?_)
        clear hK K
        try simp only [Act.put, lay_out]
        generalize q3.alloc (.cells #[.int .i64 0, .int .i64 0, .int .i64 0] 37) = q4 at *
        have G5 := hid G4.out.swap
        refine wpAnyH_ready (rs := [18]) (by kernel_rfl) (by simp) (AllReadyH.cons rfl (fun K hK => ?_) AllReadyH.nil)
        rw [if_pos (by rfl)]
        refine wp_store_row 37 _ _ rfl (q0.heap.size) (wdV R5) rfl rfl 37 _ (G5.out.bl 0 rfl) (by kernel_rfl) rfl (by kernel_rfl) ?_
        have G6 := hid (G5.out.row hM (wdV R5))
        refine hK.out _ _ (⟨G6.out.mem (by simp), G6.out.mem (by simp), G6.out.mem (by simp)⟩) (fun h5x => ?_)
        clear hK K
        try simp only [Act.put, lay_out]
        have G7 := hid G6.out.swap
        refine wpAnyH_ready (rs := [19]) (by kernel_rfl) (by simp) (AllReadyH.cons rfl (fun K hK => ?_) AllReadyH.nil)
        rw [if_pos (by rfl)]
        refine wp_store_row 37 _ _ rfl (q3.heap.size) (wdV R5) rfl rfl 37 _ (G7.out.bl 0 rfl) (by kernel_rfl) rfl (by kernel_rfl) ?_
        have G8 := hid (G7.out.row hM (wdV R5))
        refine hK.out _ _ (⟨G8.out.mem (by simp), G8.out.mem (by simp), G8.out.mem (by simp)⟩) (fun h6x => ?_)
        clear hK K
        try simp only [Act.put, lay_out]
        refine wpAnyH_done (by kernel_rfl) ?_ _
        refine NoPanic.normal ?_
        clear h0 h1x h2x h3x h4x h5x h6x
        try simp only [Act.put, lay_out]
        go_wp2_with fail
        go_meet
        exact ⟨_, _, rfl, rfl, G8.out⟩
       ·
        rw [if_pos (by rfl)]
        go_simp
        have G3 := hid (G2.out.new hM #[.int .i64 0, .int .i64 0, .int .i64 0] 37)
        refine hK.out _ _ (⟨G3.out.mem (by simp), G3.out.mem (by simp), G3.out.mem (by simp)⟩) (fun h3x => ?_)
        clear hK K
        try simp only [Act.put, lay_out]
        generalize q2.alloc (.cells #[.int .i64 0, .int .i64 0, .int .i64 0] 37) = q3 at *
        refine wpAnyH_ready (rs := [15]) (by kernel_rfl) (by simp) (AllReadyH.cons rfl (fun K hK => ?_) AllReadyH.nil)
        rw [if_pos (by rfl)]
        go_simp
        go_at_call 31
        (with_reducible refine (HYA.out _ _ _ G3.out).mono ?_); rintro e q4 ⟨rfl, hz⟩
        have G4 := hid hz
        clear hz
        refine hK.out _ _ (⟨G4.out.mem (by simp), G4.out.mem (by simp), G4.out.mem (by simp)⟩) (fun h4x => ?_)
        clear hK K
        try simp only [Act.put, lay_out]
        have G5 := hid G4.out.swap
        refine wpAnyH_ready (rs := [18]) (by kernel_rfl) (by simp) (AllReadyH.cons rfl (fun K hK => ?_) AllReadyH.nil)
        rw [if_pos (by rfl)]
        refine wp_store_row 37 _ _ rfl (q0.heap.size) (wdV R5) rfl rfl 37 _ (G5.out.bl 0 rfl) (by kernel_rfl) rfl (by kernel_rfl) ?_
        have G6 := hid (G5.out.row hM (wdV R5))
        refine hK.out _ _ (⟨G6.out.mem (by simp), G6.out.mem (by simp), G6.out.mem (by simp)⟩) (fun h5x => ?_)
        clear hK K
        try simp only [Act.put, lay_out]
        have G7 := hid G6.out.swap
        refine wpAnyH_ready (rs := [19]) (by kernel_rfl) (by simp) (AllReadyH.cons rfl (fun K hK => ?_) AllReadyH.nil)
        rw [if_pos (by rfl)]
        refine wp_store_row 37 _ _ rfl (q2.heap.size) (wdV R5) rfl rfl 37 _ (G7.out.bl 0 rfl) (by kernel_rfl) rfl (by kernel_rfl) ?_
        have G8 := hid (G7.out.row hM (wdV R5))
        refine hK.out _ _ (⟨G8.out.mem (by simp), G8.out.mem (by simp), G8.out.mem (by simp)⟩) (fun h6x => ?_)
        clear hK K
        try simp only [Act.put, lay_out]
        refine wpAnyH_done (by kernel_rfl) ?_ _
        refine NoPanic.normal ?_
        clear h0 h1x h2x h3x h4x h5x h6x
        try simp only [Act.put, lay_out]
        go_wp2_with fail
        go_meet
        exact ⟨_, _, rfl, rfl, G8.out⟩
      ·
       rw [if_pos (by rfl)]
       go_simp
       have G2 := hid (G1.out.new hM #[.int .i64 0, .int .i64 0, .int .i64 0] 37)
       refine hK.out _ _ (⟨G2.out.mem (by simp), G2.out.mem (by simp), G2.out.mem (by simp)⟩) (fun h2x => ?_)
       clear hK K
       try simp only [Act.put, lay_out]
       generalize q1.alloc (.cells #[.int .i64 0, .int .i64 0, .int .i64 0] 37) = q2 at *
       refine wpAnyH_ready (rs := [7]) (by kernel_rfl) (by simp) (AllReadyH.cons rfl (fun K hK => ?_) AllReadyH.nil)
       rw [if_pos (by rfl)]
       go_simp
       go_at_call 30
       (with_reducible refine (HPA.out _ _ _ G2.out).mono ?_); rintro e q3 ⟨rfl, hz⟩
       have G3 := hid hz
       clear hz
       refine hK.out _ _ (⟨G3.out.mem (by simp), G3.out.mem (by simp), G3.out.mem (by simp)⟩) (fun h3x => ?_)
       clear hK K
       try simp only [Act.put, lay_out]
       refine wpAnyH_ready (rs := [15]) (by kernel_rfl) (by simp) (AllReadyH.cons rfl (fun K hK => ?_) AllReadyH.nil)
       rw [if_pos (by rfl)]
       go_simp
       go_at_call 31
       (with_reducible refine (HYA.out _ _ _ G3.out).mono ?_); rintro e q4 ⟨rfl, hz⟩
       have G4 := hid hz
       clear hz
       refine hK.out _ _ (⟨G4.out.mem (by simp), G4.out.mem (by simp), G4.out.mem (by simp)⟩) (fun h4x => ?_)
       clear hK K
       try simp only [Act.put, lay_out]
       have G5 := hid G4.out.swap
       refine wpAnyH_ready (rs := [18]) (by kernel_rfl) (by simp) (AllReadyH.cons rfl (fun K hK => ?_) AllReadyH.nil)
       rw [if_pos (by rfl)]
       refine wp_store_row 37 _ _ rfl (q0.heap.size) (wdV R5) rfl rfl 37 _ (G5.out.bl 0 rfl) (by kernel_rfl) rfl (by kernel_rfl) ?_
       have G6 := hid (G5.out.row hM (wdV R5))
       refine hK.out _ _ (⟨G6.out.mem (by simp), G6.out.mem (by simp), G6.out.mem (by simp)⟩) (fun h5x => ?_)
       clear hK K
       try simp only [Act.put, lay_out]
       have G7 := hid G6.out.swap
       refine wpAnyH_ready (rs := [19]) (by kernel_rfl) (by simp) (AllReadyH.cons rfl (fun K hK => ?_) AllReadyH.nil)
       rw [if_pos (by rfl)]
       refine wp_store_row 37 _ _ rfl (q1.heap.size) (wdV R5) rfl rfl 37 _ (G7.out.bl 0 rfl) (by kernel_rfl) rfl (by kernel_rfl) ?_
       have G8 := hid (G7.out.row hM (wdV R5))
       refine hK.out _ _ (⟨G8.out.mem (by simp), G8.out.mem (by simp), G8.out.mem (by simp)⟩) (fun h6x => ?_)
       clear hK K
       try simp only [Act.put, lay_out]
       refine wpAnyH_done (by kernel_rfl) ?_ _
       refine NoPanic.normal ?_
       clear h0 h1x h2x h3x h4x h5x h6x
       try simp only [Act.put, lay_out]
       go_wp2_with fail
       go_meet
       exact ⟨_, _, rfl, rfl, G8.out⟩
     ·
      rw [if_pos (by rfl)]
      go_simp
      have G1 := hid (G0.out.new hM #[.int .i64 0, .int .i64 0, .int .i64 0] 37)
      refine hK.out _ _ (⟨G1.out.mem (by simp), G1.out.mem (by simp), G1.out.mem (by simp)⟩) (fun h1x => ?_)
      clear hK K
      try simp only [Act.put, lay_out]
      generalize q0.alloc (.cells #[.int .i64 0, .int .i64 0, .int .i64 0] 37) = q1 at *
      refine wpAnyH_ready (rs := [7, 16]) (by kernel_rfl) (by simp) (AllReadyH.cons rfl (fun K hK => ?_) (AllReadyH.cons rfl (fun K hK => ?_) AllReadyH.nil))
      ·
       rw [if_pos (by rfl)]
       go_simp
       go_at_call 30
       (with_reducible refine (HPA.out _ _ _ G1.out).mono ?_); rintro e q2 ⟨rfl, hz⟩
       have G2 := hid hz
       clear hz
       refine hK.out _ _ (⟨G2.out.mem (by simp), G2.out.mem (by simp), G2.out.mem (by simp)⟩) (fun h2x => ?_)
       clear hK K
       try simp only [Act.put, lay_out]
       refine wpAnyH_ready (rs := [15, 16]) (by kernel_rfl) (by simp) (AllReadyH.cons rfl (fun K hK => ?_) (AllReadyH.cons rfl (fun K hK => ?_) AllReadyH.nil))
       ·
        rw [if_pos (by rfl)]
        go_simp
        go_at_call 31
        (with_reducible refine (HYA.out _ _ _ G2.out).mono ?_); rintro e q3 ⟨rfl, hz⟩
        have G3 := hid hz
        clear hz
        refine hK.out _ _ (⟨G3.out.mem (by simp), G3.out.mem (by simp), G3.out.mem (by simp)⟩) (fun h3x => ?_)
        clear hK K
        try simp only [Act.put, lay_out]
        refine wpAnyH_ready (rs := [16]) (by kernel_rfl) (by simp) (AllReadyH.cons rfl (fun K hK => ?_) AllReadyH.nil)
        rw [if_pos (by rfl)]
        go_simp
        have G4 := hid (G3.out.new hM #[.int .i64 0, .int .i64 0, .int .i64 0] 37)
        refine hK.out _ _ (⟨G4.out.mem (by simp), G4.out.mem (by simp), G4.out.mem (by simp)⟩) (fun h4x => ?_)
        clear hK K
        try simp only [Act.put, lay_out]
        generalize q3.alloc (.cells #[.int .i64 0, .int .i64 0, .int .i64 0] 37) = q4 at *
        refine wpAnyH_ready (rs := [18]) (by kernel_rfl) (by simp) (AllReadyH.cons rfl (fun K hK => ?_) AllReadyH.nil)
        rw [if_pos (by rfl)]
        refine wp_store_row 37 _ _ rfl (q3.heap.size) (wdV R5) rfl rfl 37 _ (G4.out.bl 0 rfl) (by kernel_rfl) rfl (by kernel_rfl) ?_
        have G5 := hid (G4.out.row hM (wdV R5))
        refine hK.out _ _ (⟨G5.out.mem (by simp), G5.out.mem (by simp), G5.out.mem (by simp)⟩) (fun h5x => ?_)
        clear hK K
        try simp only [Act.put, lay_out]
        have G6 := hid G5.out.swap
        refine wpAnyH_ready (rs := [19]) (by kernel_rfl) (by simp) (AllReadyH.cons rfl (fun K hK => ?_) AllReadyH.nil)
        rw [if_pos (by rfl)]
        refine wp_store_row 37 _ _ rfl (q0.heap.size) (wdV R5) rfl rfl 37 _ (G6.out.bl 0 rfl) (by kernel_rfl) rfl (by kernel_rfl) ?_
        have G7 := hid (G6.out.row hM (wdV R5))
        refine hK.out _ _ (⟨G7.out.mem (by simp), G7.out.mem (by simp), G7.out.mem (by simp)⟩) (fun h6x => ?_)
        clear hK K
        try simp only [Act.put, lay_out]
        refine wpAnyH_done (by kernel_rfl) ?_ _
        refine NoPanic.normal ?_
        clear h0 h1x h2x h3x h4x h5x h6x
        try simp only [Act.put, lay_out]
        go_wp2_with fail
        go_meet
        exact ⟨_, _, rfl, rfl, G7.out⟩
       ·
        rw [if_pos (by rfl)]
        go_simp
        have G3 := hid (G2.out.new hM #[.int .i64 0, .int .i64 0, .int .i64 0] 37)
        refine hK.out _ _ (⟨G3.out.mem (by simp), G3.out.mem (by simp), G3.out.mem (by simp)⟩) (fun h3x => ?_)
        clear hK K
        try simp only [Act.put, lay_out]
        generalize q2.alloc (.cells #[.int .i64 0, .int .i64 0, .int .i64 0] 37) = q3 at *
        refine wpAnyH_ready (rs := [15]) (by kernel_rfl) (by simp) (AllReadyH.cons rfl (fun K hK => ?_) AllReadyH.nil)
        rw [if_pos (by rfl)]
        go_simp
        go_at_call 31
        (with_reducible refine (HYA.out _ _ _ G3.out).mono ?_); rintro e q4 ⟨rfl, hz⟩
        have G4 := hid hz
        clear hz
        refine hK.out _ _ (⟨G4.out.mem (by simp), G4.out.mem (by simp), G4.out.mem (by simp)⟩) (fun h4x => ?_)
        clear hK K
        try simp only [Act.put, lay_out]
        refine wpAnyH_ready (rs := [18]) (by kernel_rfl) (by simp) (AllReadyH.cons rfl (fun K hK => ?_) AllReadyH.nil)
        rw [if_pos (by rfl)]
        refine wp_store_row 37 _ _ rfl (q2.heap.size) (wdV R5) rfl rfl 37 _ (G4.out.bl 0 rfl) (by kernel_rfl) rfl (by kernel_rfl) ?_
        have G5 := hid (G4.out.row hM (wdV R5))
        refine hK.out _ _ (⟨G5.out.mem (by simp), G5.out.mem (by simp), G5.out.mem (by simp)⟩) (fun h5x => ?_)
        clear hK K
        try simp only [Act.put, lay_out]
        have G6 := hid G5.out.swap
        refine wpAnyH_ready (rs := [19]) (by kernel_rfl) (by simp) (AllReadyH.cons rfl (fun K hK => ?_) AllReadyH.nil)
        rw [if_pos (by rfl)]
        refine wp_store_row 37 _ _ rfl (q0.heap.size) (wdV R5) rfl rfl 37 _ (G6.out.bl 0 rfl) (by kernel_rfl) rfl (by kernel_rfl) ?_
        have G7 := hid (G6.out.row hM (wdV R5))
        refine hK.out _ _ (⟨G7.out.mem (by simp), G7.out.mem (by simp), G7.out.mem (by simp)⟩) (fun h6x => ?_)
        clear hK K
        try simp only [Act.put, lay_out]
        refine wpAnyH_done (by kernel_rfl) ?_ _
        refine NoPanic.normal ?_
        clear h0 h1x h2x h3x h4x h5x h6x
        try simp only [Act.put, lay_out]
        go_wp2_with fail
        go_meet
        exact ⟨_, _, rfl, rfl, G7.out⟩
      ·
       rw [if_pos (by rfl)]
       go_simp
       have G2 := hid (G1.out.new hM #[.int .i64 0, .int .i64 0, .int .i64 0] 37)
       refine hK.out _ _ (⟨G2.out.mem (by simp), G2.out.mem (by simp), G2.out.mem (by simp)⟩) (fun h2x => ?_)
       clear hK K
       try simp only [Act.put, lay_out]
       generalize q1.alloc (.cells #[.int .i64 0, .int .i64 0, .int .i64 0] 37) = q2 at *
       refine wpAnyH_ready (rs := [7]) (by kernel_rfl) (by simp) (AllReadyH.cons rfl (fun K hK => ?_) AllReadyH.nil)
       rw [if_pos (by rfl)]
       go_simp
       go_at_call 30
       (with_reducible refine (HPA.out _ _ _ G2.out).mono ?_); rintro e q3 ⟨rfl, hz⟩
       have G3 := hid hz
       clear hz
       refine hK.out _ _ (⟨G3.out.mem (by simp), G3.out.mem (by simp), G3.out.mem (by simp)⟩) (fun h3x => ?_)
       clear hK K
       try simp only [Act.put, lay_out]
       refine wpAnyH_ready (rs := [15]) (by kernel_rfl) (by simp) (AllReadyH.cons rfl (fun K hK => ?_) AllReadyH.nil)
       rw [if_pos (by rfl)]
       go_simp
       go_at_call 31
       (with_reducible refine (HYA.out _ _ _ G3.out).mono ?_); rintro e q4 ⟨rfl, hz⟩
       have G4 := hid hz
       clear hz
       refine hK.out _ _ (⟨G4.out.mem (by simp), G4.out.mem (by simp), G4.out.mem (by simp)⟩) (fun h4x => ?_)
       clear hK K
       try simp only [Act.put, lay_out]
       refine wpAnyH_ready (rs := [18]) (by kernel_rfl) (by simp) (AllReadyH.cons rfl (fun K hK => ?_) AllReadyH.nil)
       rw [if_pos (by rfl)]
       refine wp_store_row 37 _ _ rfl (q1.heap.size) (wdV R5) rfl rfl 37 _ (G4.out.bl 0 rfl) (by kernel_rfl) rfl (by kernel_rfl) ?_
       have G5 := hid (G4.out.row hM (wdV R5))
       refine hK.out _ _ (⟨G5.out.mem (by simp), G5.out.mem (by simp), G5.out.mem (by simp)⟩) (fun h5x => ?_)
       clear hK K
       try simp only [Act.put, lay_out]
       have G6 := hid G5.out.swap
       refine wpAnyH_ready (rs := [19]) (by kernel_rfl) (by simp) (AllReadyH.cons rfl (fun K hK => ?_) AllReadyH.nil)
       rw [if_pos (by rfl)]
       refine wp_store_row 37 _ _ rfl (q0.heap.size) (wdV R5) rfl rfl 37 _ (G6.out.bl 0 rfl) (by kernel_rfl) rfl (by kernel_rfl) ?_
       have G7 := hid (G6.out.row hM (wdV R5))
       refine hK.out _ _ (⟨G7.out.mem (by simp), G7.out.mem (by simp), G7.out.mem (by simp)⟩) (fun h6x => ?_)
       clear hK K
       try simp only [Act.put, lay_out]
       refine wpAnyH_done (by kernel_rfl) ?_ _
       refine NoPanic.normal ?_
       clear h0 h1x h2x h3x h4x h5x h6x
       try simp only [Act.put, lay_out]
       go_wp2_with fail
       go_meet
       exact ⟨_, _, rfl, rfl, G7.out⟩
    case rest =>
     obtain ⟨b17, b18, rfl, rfl, hcut⟩ := hcut
     have H15 := hid hcut
     clear hcut HA4 HPA HYA
     generalize wc = w15 at *
     have HE3 := hid (fun (w : World) (bs : List (Nat × Obj)) (h : Gy Pm w1.heap.size (fun _ => False) w1 w2 w p b S5 S5 bs) => h.asks hM (E := fun e _ => e = .returned (.bool true)) (f := 23) (args := #[.agg (paC p b (.slice none 0 0) (.slice none 0 0))]) (fun X W hz => (llike_any hM hz HB5.out (by decide) HY5.out none none 0 0 0 0).mono fun _ _ hr => ⟨hr.1, hr.2.2⟩))
     have HVL : Hid (∀ (w : World) (bs : List (Nat × Obj)), Gy Pm w1.heap.size (fun _ => False) w1 w2 w p b S5 S5 bs → Calls Tryz.prog 26 #[.pointer (some ⟨p, 0, none⟩)] w fun e w' => (∃ v, e = .returned v ∧ Rd .u64 w' v (wdL S5.v S5.L)) ∧ Below w.heap.size w w') := hid (fun w bs h => (zvalues hM h.z HB5.out (by decide)).mono fun _ _ ⟨v, e1, e2, e3⟩ => ⟨⟨v, e1, by rw [show S5.keep S5.L = S5.L by unfold Ms.keep; rw [HY5.out]; rfl] at e2; exact e2⟩, e3⟩)
     have HV4a : Hid (∀ (v : Value) (w : World), Rd .u64 w v (wdL S5.v S5.L) → Calls Tryz.prog 25 #[v, .agg (wdV R4)] w fun e w' => e = .returned (.int .u64 (vlN S5.v S5.L R4 : Nat)) ∧ Below w.heap.size w w') := hid (fun v w h => (shI hM).value v _ _ R4 w h (fun i hi => HB5.out.v i hi))
     have HV5a : Hid (∀ (v : Value) (w : World), Rd .u64 w v (wdL S5.v S5.L) → Calls Tryz.prog 25 #[v, .agg (wdV R5)] w fun e w' => e = .returned (.int .u64 (vlN S5.v S5.L R5 : Nat)) ∧ Below w.heap.size w w') := hid (fun v w h => (shI hM).value v _ _ R5 w h (fun i hi => HB5.out.v i hi))
     go_wp2_with (refine step_load_row_want (by rfl) 37 _ rfl b15 37 (wdV R4) _ rfl (H15.out.mem (by simp)) Tryz.underlying37 rfl (by kernel_rfl) ?_; refine Hid.out ?_)
     refine hid ?_
     try simp only [Act.put, lay_out]
     refine step_load_row_want (by rfl) 37 _ rfl b16 37 (wdV R4) _ rfl (H15.out.mem (by simp)) Tryz.underlying37 rfl (by kernel_rfl) ?_
     try simp only [Act.put, lay_out]
     refine wpList_neWd (by rfl) (.tmp 87) (.tmp 88) rfl R4 rfl rfl ?_
     try simp only [Act.put, lay_out]
     go_wp2_with (refine step_load_row_want (by rfl) 37 _ rfl b17 37 (wdV R5) _ rfl (H15.out.mem (by simp)) Tryz.underlying37 rfl (by kernel_rfl) ?_; refine Hid.out ?_)
     refine hid ?_
     try simp only [Act.put, lay_out]
     refine step_load_row_want (by rfl) 37 _ rfl b18 37 (wdV R5) _ rfl (H15.out.mem (by simp)) Tryz.underlying37 rfl (by kernel_rfl) ?_
     try simp only [Act.put, lay_out]
     refine wpList_neWd (by rfl) (.tmp 91) (.tmp 92) rfl R5 rfl rfl ?_
     try simp only [Act.put, lay_out]
     go_wp2_with (refine step_load_row_want (by rfl) 30 _ rfl b1 30 (paC p b (.slice none 0 0) (.slice none 0 0)) _ rfl (H15.out.mem (by simp)) Tryz.underlying30 rfl (by kernel_rfl) ?_; refine Hid.out ?_)
     refine hid ?_
     try simp only [Act.put, lay_out]
     go_upto_region 17 with (go_at_call 23; (with_reducible refine (HE3.out _ _ H15.out).mono ?_); rintro e w16 ⟨rfl, hb⟩; have H16 := hid hb; clear hb)
     have cE : w16.cell? ⟨b, 7, none⟩ = some (.int .i64 (S5.e : Int)) := H16.out.z.c0.2.2.1
     have c1 := row_c (i := 1) (u := .pointer (some ⟨b, 0, none⟩)) (H16.out.bl 6 rfl) rfl
     clear H15 HE3
     by_cases he : S5.e = 0
     ·
      rw [he] at cE
      obtain ⟨hV4, hV5⟩ := HVP.out he
      rw [hV4] at HV4a
      have l0 := HXB.out 0
      have l1 := HXB.out 1
      have l2 := HXB.out 2
      obtain ⟨x0, hx0⟩ : ∃ x0, x 0 = x0 := ⟨_, rfl⟩
      obtain ⟨x1, hx1⟩ : ∃ x1, x 1 = x1 := ⟨_, rfl⟩
      obtain ⟨x2, hx2⟩ : ∃ x2, x 2 = x2 := ⟨_, rfl⟩
      have HX0 := hid hx0
      have HX1 := hid hx1
      have HX2 := hid hx2
      rw [hx0, hx1, hx2] at HV4a
      rw [hx1, hx2] at hV5
      rw [hx0] at l0
      rw [hx1] at l1
      rw [hx2] at l2
      have eA1 := wn64 l1 l0
      have eA3 := wn64 l2 l0
      have lp := pick_lt l1 l2 l0
      have la := Nat.and_le_left (n := x1) (m := x0)
      obtain ⟨n1, hn1⟩ : ∃ n1, x1 &&& x0 = n1 := ⟨_, rfl⟩
      obtain ⟨n3, hn3⟩ : ∃ n3, x2 &&& x0 = n3 := ⟨_, rfl⟩
      rw [hn1] at eA1 lp la HV4a
      rw [hn3] at eA3 lp HV4a
      obtain ⟨n2, hn2⟩ : ∃ n2, x1 - n1 = n2 := ⟨_, rfl⟩
      rw [hn2] at lp HV4a
      have eS2 : IntKind.u64.wrap ((x1 : Int) - (n1 : Int)) = (n2 : Int) := by rw [IntKind.wrap_u64]; omega
      obtain ⟨n4, hn4⟩ : ∃ n4, n2 + n3 = n4 := ⟨_, rfl⟩
      rw [hn4] at lp HV4a
      have eS4 : IntKind.u64.wrap ((n2 : Int) + (n3 : Int)) = (n4 : Int) := by rw [IntKind.wrap_u64]; omega
      obtain ⟨v5, hv5⟩ : ∃ v5, vlN S5.v S5.L R5 = v5 := ⟨_, rfl⟩
      rw [hv5] at hV5
      simp only [hv5] at HV5a
      have e22 : ((v5 : Int)).tmod 2 = ((v5 % 2 : Nat) : Int) := by rw [Int.tmod_eq_emod_of_nonneg (by omega)]; omega
      obtain ⟨m5, hm5⟩ : ∃ m5, v5 % 2 = m5 := ⟨_, rfl⟩
      rw [hm5] at hV5 e22
      obtain ⟨qq, hqq⟩ : ∃ qq, decide (x1 = x2) = qq := ⟨_, rfl⟩
      have e23 : ((m5 : Int) == 1) = qq := by rw [← hqq]; by_cases h : x1 = x2 <;> simp [h] <;> omega
      have e28 : ((x1 : Int) == (x2 : Int)) = qq := by rw [← hqq]; by_cases h : x1 = x2 <;> simp [h] <;> omega
      have HV4 := HV4a
      have HV5 := HV5a
      clear hV4 hV5 HV4a HV5a hv5 hm5 hqq hn1 hn2 hn3 hn4 hx0 hx1 hx2 l0 l1 l2 lp la he HVP
      have c0 := row_c (i := 0) (u := .pointer (some ⟨p, 0, none⟩)) (H16.out.bl 6 rfl) rfl
      go_upto_region 20 with (go_at_call 26; (with_reducible refine (HVL.out _ _ H16.out).mono ?_); rintro e wN ⟨⟨v, rfl, hv⟩, hb⟩; have HN := hid (H16.out.self hM hb); have VN := hid hv; clear hv hb cE c1 c0)
      have V0 := hid (VN.out.self ((Below.refl _ wN).drew))
      have G0 := hid (HN.out.self hM ((Below.refl _ wN).drew))
      refine wp_region_noPanic ?_
      refine wp_region_held_drew (S := fun w' => w'.heap[b15]? = some (.cells (wdV R4) 37 (0, 0)) ∧ w'.heap[b17]? = some (.cells (wdV R5) 37 (0, 0)) ∧ ∀ j, j < 3 → w'.cell? ⟨W.heap.size, j, none⟩ = some (.int .u64 (x j : Int))) (by kernel_rfl) (⟨G0.out.mem (by simp), G0.out.mem (by simp), HLX.out _ G0.out.z.low⟩) (fun h0 => ?_)
      generalize wN.drew = y0 at *
      refine tK 0 (v) rfl (.inl ⟨by rfl, fun w hw => by clear hw; go_simp⟩) h0 ?_
      try simp only [Act.put, lay_out]
      refine tK 1 (.agg (wdV R4)) rfl (yields_load_row (by rfl) 37 _ rfl b15 37 (wdV R4) _ rfl (fun w h => h.1) Tryz.underlying37 rfl (by kernel_rfl)) h0 ?_
      try simp only [Act.put, lay_out]
      refine tK 3 (.pointer (some ⟨W.heap.size, 1, none⟩)) rfl (.inl ⟨by rfl, fun w hw => by clear hw; go_simp⟩) h0 ?_
      try simp only [Act.put, lay_out]
      refine tK 4 (.int .u64 (x1 : Int)) rfl (.inl ⟨by rfl, fun w' hw => by have hc := (hw.2.2 1 (by decide)).trans (by rw [HX1.out]); clear hw; go_simp⟩) h0 ?_
      try simp only [Act.put, lay_out]
      refine tK 5 (.pointer (some ⟨W.heap.size, 1, none⟩)) rfl (.inl ⟨by rfl, fun w hw => by clear hw; go_simp⟩) h0 ?_
      try simp only [Act.put, lay_out]
      refine tK 6 (.int .u64 (x1 : Int)) rfl (.inl ⟨by rfl, fun w' hw => by have hc := (hw.2.2 1 (by decide)).trans (by rw [HX1.out]); clear hw; go_simp⟩) h0 ?_
      try simp only [Act.put, lay_out]
      refine tK 7 (.pointer (some ⟨W.heap.size, 0, none⟩)) rfl (.inl ⟨by rfl, fun w hw => by clear hw; go_simp⟩) h0 ?_
      try simp only [Act.put, lay_out]
      refine tK 8 (.int .u64 (x0 : Int)) rfl (.inl ⟨by rfl, fun w' hw => by have hc := (hw.2.2 0 (by decide)).trans (by rw [HX0.out]); clear hw; go_simp⟩) h0 ?_
      try simp only [Act.put, lay_out]
      refine tK 9 (.int .u64 (n1 : Int)) rfl (.inl ⟨by rfl, fun w hw => by clear hw; go_simp⟩) h0 ?_
      try simp only [Act.put, lay_out]
      refine tK 10 (.int .u64 (n2 : Int)) rfl (.inl ⟨by rfl, fun w hw => by clear hw; go_simp⟩) h0 ?_
      try simp only [Act.put, lay_out]
      refine tK 11 (.pointer (some ⟨W.heap.size, 2, none⟩)) rfl (.inl ⟨by rfl, fun w hw => by clear hw; go_simp⟩) h0 ?_
      try simp only [Act.put, lay_out]
      refine tK 12 (.int .u64 (x2 : Int)) rfl (.inl ⟨by rfl, fun w' hw => by have hc := (hw.2.2 2 (by decide)).trans (by rw [HX2.out]); clear hw; go_simp⟩) h0 ?_
      try simp only [Act.put, lay_out]
      refine tK 13 (.pointer (some ⟨W.heap.size, 0, none⟩)) rfl (.inl ⟨by rfl, fun w hw => by clear hw; go_simp⟩) h0 ?_
      try simp only [Act.put, lay_out]
      refine tK 14 (.int .u64 (x0 : Int)) rfl (.inl ⟨by rfl, fun w' hw => by have hc := (hw.2.2 0 (by decide)).trans (by rw [HX0.out]); clear hw; go_simp⟩) h0 ?_
      try simp only [Act.put, lay_out]
      refine tK 15 (.int .u64 (n3 : Int)) rfl (.inl ⟨by rfl, fun w hw => by clear hw; go_simp⟩) h0 ?_
      try simp only [Act.put, lay_out]
      refine tK 16 (.int .u64 (n4 : Int)) rfl (.inl ⟨by rfl, fun w hw => by clear hw; go_simp⟩) h0 ?_
      try simp only [Act.put, lay_out]
      refine wpAnyH_ready (rs := [2]) (by kernel_rfl) (by simp) (AllReadyH.cons rfl (fun K hK => ?_) AllReadyH.nil)
      rw [if_pos (by rfl)]
      go_simp
      go_at_call 25
      (with_reducible refine (HV4.out _ _ V0.out).mono ?_); rintro e y1 ⟨rfl, hb⟩
      have G1 := hid (G0.out.self hM hb)
      have V1 := hid (V0.out.self hb)
      clear hb
      refine hK.out _ _ (⟨G1.out.mem (by simp), G1.out.mem (by simp), HLX.out _ G1.out.z.low⟩) (fun h1x => ?_)
      clear hK K
      try simp only [Act.put, lay_out]
      refine tK 17 (.bool true) rfl (.inl ⟨by rfl, fun w hw => by clear hw; go_simp⟩) h1x ?_
      try simp only [Act.put, lay_out]
      refine tK 18 (.bool true) rfl (.inl ⟨by rfl, fun w hw => by clear hw; go_simp⟩) h1x ?_
      try simp only [Act.put, lay_out]
      refine tK 19 (v) rfl (.inl ⟨by rfl, fun w hw => by clear hw; go_simp⟩) h1x ?_
      try simp only [Act.put, lay_out]
      refine tK 20 (.agg (wdV R5)) rfl (yields_load_row (by rfl) 37 _ rfl b17 37 (wdV R5) _ rfl (fun w h => h.2.1) Tryz.underlying37 rfl (by kernel_rfl)) h1x ?_
      try simp only [Act.put, lay_out]
      refine tK 24 (.pointer (some ⟨W.heap.size, 1, none⟩)) rfl (.inl ⟨by rfl, fun w hw => by clear hw; go_simp⟩) h1x ?_
      try simp only [Act.put, lay_out]
      refine tK 25 (.int .u64 (x1 : Int)) rfl (.inl ⟨by rfl, fun w' hw => by have hc := (hw.2.2 1 (by decide)).trans (by rw [HX1.out]); clear hw; go_simp⟩) h1x ?_
      try simp only [Act.put, lay_out]
      refine tK 26 (.pointer (some ⟨W.heap.size, 2, none⟩)) rfl (.inl ⟨by rfl, fun w hw => by clear hw; go_simp⟩) h1x ?_
      try simp only [Act.put, lay_out]
      refine tK 27 (.int .u64 (x2 : Int)) rfl (.inl ⟨by rfl, fun w' hw => by have hc := (hw.2.2 2 (by decide)).trans (by rw [HX2.out]); clear hw; go_simp⟩) h1x ?_
      try simp only [Act.put, lay_out]
      refine tK 28 (.bool qq) rfl (.inl ⟨by rfl, fun w hw => by clear hw; go_simp⟩) h1x ?_
      try simp only [Act.put, lay_out]
      refine wpAnyH_ready (rs := [21]) (by kernel_rfl) (by simp) (AllReadyH.cons rfl (fun K hK => ?_) AllReadyH.nil)
      rw [if_pos (by rfl)]
      go_simp
      go_at_call 25
      (with_reducible refine (HV5.out _ _ V1.out).mono ?_); rintro e y2 ⟨rfl, hb⟩
      have G2 := hid (G1.out.self hM hb)
      have V2 := hid (V1.out.self hb)
      clear hb
      refine hK.out _ _ (⟨G2.out.mem (by simp), G2.out.mem (by simp), HLX.out _ G2.out.z.low⟩) (fun h2x => ?_)
      clear hK K
      try simp only [Act.put, lay_out]
      refine tK 22 (.int .u64 (m5 : Int)) rfl (.inl ⟨by rfl, fun w hw => by clear hw; go_simp⟩) h2x ?_
      try simp only [Act.put, lay_out]
      refine tK 23 (.bool qq) rfl (.inl ⟨by rfl, fun w hw => by clear hw; go_simp⟩) h2x ?_
      try simp only [Act.put, lay_out]
      refine tK 29 (.bool true) rfl (.inl ⟨by rfl, fun w hw => by clear hw; go_simp⟩) h2x ?_
      try simp only [Act.put, lay_out]
      refine tK 30 (.bool true) rfl (.inl ⟨by rfl, fun w hw => by clear hw; go_simp⟩) h2x ?_
      try simp only [Act.put, lay_out]
      refine tK 31 (.bool true) rfl (.inl ⟨by rfl, fun w hw => by clear hw; go_simp⟩) h2x ?_
      try simp only [Act.put, lay_out]
      refine wpAnyH_ready (rs := [32]) (by kernel_rfl) (by simp) (AllReadyH.cons rfl (fun K hK => ?_) AllReadyH.nil)
      rw [if_pos (by rfl)]
      go_simp
      go_at_call 24
      (with_reducible refine (HAW.out _ (HWJ.out.trans (G2.out.z.low.mono HWJ.out.size))).mono ?_); rintro e y3 ⟨rfl, hb⟩
      have G3 := hid (G2.out.self hM hb)
      clear hb
      refine hK.out _ _ (⟨G3.out.mem (by simp), G3.out.mem (by simp), HLX.out _ G3.out.z.low⟩) (fun h3x => ?_)
      clear hK K
      try simp only [Act.put, lay_out]
      refine tK 33 (.bool true) rfl (.inl ⟨by rfl, fun w hw => by clear hw; go_simp⟩) h3x ?_
      try simp only [Act.put, lay_out]
      refine tK 34 (.bool true) rfl (.inl ⟨by rfl, fun w hw => by clear hw; go_simp⟩) h3x ?_
      try simp only [Act.put, lay_out]
      refine wpAnyH_done (by kernel_rfl) ?_ _
      refine NoPanic.normal ?_
      clear h0 h1x h2x h3x
      try simp only [Act.put, lay_out]
      go_wp2
      go_ret
      exact ⟨rfl, HWJ.out.trans (G3.out.fin.1.low.mono HWJ.out.size)⟩
     ·
      have q : ((S5.e : Int) != 0) = true := by simp; omega
      generalize S5.e = EE at *
      clear he HVP
      have HAL : Hid (Below W.heap.size W w16) := hid (HWJ.out.trans (H16.out.z.low.mono HWJ.out.size))
      go_wp2_with (go_at_call 24; (with_reducible refine (HAW.out _ HAL.out).mono ?_); rintro e wz ⟨rfl, hb⟩; have HZ := hid (HAL.out.trans (hb.mono HAL.out.size)); clear hb)
      go_ret
      exact ⟨rfl, HZ.out⟩
end Go.Proofs.YthkijncnndoafaaGreatDoor
