import Derived.Test.YtpjgpiieminaoaaDoorGun
import Derived.Deep.CutBlock
import Derived.Test.YtpjgpiieminaoaaDoorGen
import Derived.RangeFuncNested
import Derived.RangeFuncCalls
import Derived.RangeFuncLeaves
import Derived.OrdersIn
import Derived.Deep.RegionHeld3
import Derived.Test.YtpjgpiieminaoaaDoorFrl
import Derived.Test.YtpjgpiieminaoaaDoorOro
/- Guard: GuardShows, over any machine. -/
namespace Go.Proofs.YtpjgpiieminaoaaDoor
open Go.RowKit Go.Deep
set_option maxRecDepth 100000
theorem hinfo8 : (Tryd.prog.info? 5).map (fun i => (i.zero, i.size, i.bytes)) = some (some (.int .u8 0), 1, 1) := by kernel_rfl
theorem nth_wdG (f : Nat → Nat) {n j : Nat} (h : j < n) : nth (wdL f n) j = ((f j : Nat) : Int) := by unfold nth wdL; simp [h]
theorem wdL_wfG {f : Nat → Nat} {n : Nat} (h : ∀ i, i < n → f i < 2 ^ 64) : ∀ z ∈ wdL f n, (Lit.int .u64 z).wf = true := fun z hz => by
  unfold wdL at hz
  obtain ⟨i, hi, rfl⟩ := List.mem_map.1 hz
  have := h i (List.mem_range.1 hi)
  exact WalkArith.wf_u64 (by omega)
theorem gr_there {w : World} {g i : Nat} {f : Nat → Int} (h : w.heap[g]? = some (.cells (iz 24 f) 37 (0, 0))) (hi : i < 8) : w.there g (i * 3) 3 := fun j hj => ⟨by rw [row_c (i := i * 3 + j) h (iz_get f (by omega))]; rfl, frozen_of_row w g (i * 3 + j) _ _ h⟩
theorem gr_set {w : World} {g i : Nat} {f R : Nat → Int} (h : w.heap[g]? = some (.cells (iz 24 f) 37 (0, 0))) (hi : i < 8) : (w.setCells g (i * 3) (wdV R).toList).heap[g]? = some (.cells (iz 24 (updW f i R)) 37 (0, 0)) := by
  rw [setCells_row g 37 (0, 0) (wdV R).toList (i * 3) w _ h (by rw [iz_size]; show i * 3 + 3 ≤ 24; omega)]
  rcases (by omega : i = 0 ∨ i = 1 ∨ i = 2 ∨ i = 3 ∨ i = 4 ∨ i = 5 ∨ i = 6 ∨ i = 7) with rfl | rfl | rfl | rfl | rfl | rfl | rfl | rfl <;> rfl
theorem gr_cell {w : World} {g c : Nat} {S : Ms} {x : Nat → Nat} (h : w.heap[g]? = some (.cells (iz 24 (auF S x 8)) 37 (0, 0))) (hc : c < 8) : ∀ d, d < 3 → w.cell? ⟨g, c * 3 + d, none⟩ = some (.int .i64 (lyR S x c d)) := fun d hd => by
  rw [row_c (i := c * 3 + d) h (iz_get _ (by omega)), auF_at S x hc hd]
theorem built_w24 : Tryd.prog.built 37 [] = some #[.int .i64 0, .int .i64 0, .int .i64 0, .int .i64 0, .int .i64 0, .int .i64 0, .int .i64 0, .int .i64 0, .int .i64 0, .int .i64 0, .int .i64 0, .int .i64 0, .int .i64 0, .int .i64 0, .int .i64 0, .int .i64 0, .int .i64 0, .int .i64 0, .int .i64 0, .int .i64 0, .int .i64 0, .int .i64 0, .int .i64 0, .int .i64 0] := by kernel_rfl
theorem step_build_w24 {w : World} {ops : Array Oper} {rest : List Oper} {o : Oper} {a : Act} {Q : Exit → Act → World → Prop} (hgd : o.guard = none) (ho : o.op = .build 37 #[]) (k : wpList Tryd.prog ops Q rest (a.put o.dst (.agg #[.int .i64 0, .int .i64 0, .int .i64 0, .int .i64 0, .int .i64 0, .int .i64 0, .int .i64 0, .int .i64 0, .int .i64 0, .int .i64 0, .int .i64 0, .int .i64 0, .int .i64 0, .int .i64 0, .int .i64 0, .int .i64 0, .int .i64 0, .int .i64 0, .int .i64 0, .int .i64 0, .int .i64 0, .int .i64 0, .int .i64 0, .int .i64 0])) w) : wpList Tryd.prog ops Q (o :: rest) a w := by
  have e : ((#[] : Array (Nat × Operand)).map fun (i, x) => (i, a.eval x)).toList = [] := by simp
  refine wpList_build hgd 37 #[] ho (by rw [e, built_w24]; rfl) ?_
  rw [e, built_w24]
  exact k
theorem gr_all {w : World} {g : Nat} : (Instr.sliceAt 37 (.pointer (some ⟨g, 0, none⟩)) none none none).run Tryd.prog w = .ok (.slice (some ⟨g, 0, none⟩) 8 8) w := by
  have hl : Tryd.prog.arrayLen 37 = 8 := by kernel_rfl
  have ht : Tryd.prog.underlying 37 = some (.array (Tryd.prog.arrayLen 37) (Tryd.prog.elem 37)) := by kernel_rfl
  have hs : (sizeOf (Tryd.prog.elem 37)).run Tryd.prog w = .ok 3 w := by rfl
  have := run_sliceAt_array_all (P := Tryd.prog) w 37 ⟨g, 0, none⟩ ht
  rw [hs, hl] at this
  rw [this]
  simp only [Result.andThen, slicedAt]
  congr 2
/-- Words that are encoded, in a row, the first i laid. -/
def aeF (S : Ms) (X : Nat → Nat) (i : Nat) : Nat → Int := fun q => if q / 3 < i then encR (enX S X (q / 3)) (q % 3) else 0
theorem aeF_next (S : Ms) (X : Nat → Nat) (i : Nat) : updW (aeF S X i) i (encR (enX S X i)) = aeF S X (i + 1) := by
  funext q
  unfold updW aeF
  by_cases e : q / 3 = i
  · rw [if_pos e, if_pos (by omega), e]
  · rw [if_neg e]
    by_cases e2 : q / 3 < i
    · rw [if_pos e2, if_pos (by omega)]
    · rw [if_neg e2, if_neg (by omega)]
theorem aeF_0 (S : Ms) (X : Nat → Nat) : aeF S X 0 = fun _ => 0 := by funext q; unfold aeF; rw [if_neg (by omega)]
set_option maxHeartbeats 25600000 in
theorem gshows_core {Pm : World → Nat → Ms → (Nat → Prop) → Prop} (hM : Mach Pm) (hN : MachN Pm) (hG : GdI Pm) (T : Bool) (nn : Nat) (hT : T = false ∧ nn = 2 ∨ T = true ∧ nn = 3) (x : Nat → Nat) (hx : ∀ i, x i < 2 ^ 64) (my : Nat) (hmy : my < 256) (tw : Nat → Nat) (htw : ∀ i, i < 24 → tw i < 2 ^ 64) (W : World) (hp : Pv W) :
    Calls Tryd.prog 3 #[.bool T, .agg (wa 8 x), .int .u8 (my : Int), .agg (wa 24 tw)] W fun e w' => e = .returned (.bool true) ∧ Below W.heap.size W w' := by
  have hnn : nn = 2 ∨ nn = 3 := hT.elim (fun e => .inl e.2) (fun e => .inr e.2)
  have HTT := hid hT
  obtain ⟨kk, hkk⟩ : ∃ kk, my % 65 = kk := ⟨_, rfl⟩
  have hk64 : kk ≤ 64 := by omega
  obtain ⟨e1, e2⟩ := gs_enc hnn htw hx
  obtain ⟨l1, l2, l3, l4, s1, s2, s3, s4, s5, s6⟩ := gs_all (K := kk) hnn htw hx hk64
  have hlow1 := (Below.refl W.heap.size W).alloc (Nat.le_refl _) (.cells (wa 8 x) 23)
  have hlow := hlow1.alloc (by rw [sz_al]; omega) (.cells (wa 24 tw) 24)
  obtain ⟨w1, hw1⟩ : ∃ w1, (W.alloc (.cells (wa 8 x) 23)).alloc (.cells (wa 24 tw) 24) = w1 := ⟨_, rfl⟩
  rw [hw1] at hlow
  have HWJ := hid hlow
  have hsz : w1.heap.size = W.heap.size + 2 := by rw [← hw1, sz_al, sz_al]
  have hb5 : w1.heap[W.heap.size]? = some (.cells (wa 8 x) 23 (0, 0)) := by
    rw [← hw1, Below.heap_alloc _ _ _ (by rw [sz_al]; omega)]
    exact heap_alloc_new _ _
  have hb7 : w1.heap[W.heap.size + 1]? = some (.cells (wa 24 tw) 24 (0, 0)) := by
    have := heap_alloc_new (W.alloc (.cells (wa 8 x) 23)) (.cells (wa 24 tw) 24)
    rw [sz_al, hw1] at this
    exact this
  have HLX : Hid (∀ wx, Below w1.heap.size w1 wx → ∀ i, i < 8 → wx.cell? ⟨W.heap.size, i, none⟩ = some (.int .u64 (x i : Int))) := hid (fun wx hb i hi => row_c ((hb.block _ (by omega)).trans hb5) (wa_get x hi))
  have HBG : Hid (∀ wx : World, Below w1.heap.size w1 wx → Calls Tryd.prog 4 #[.int .i64 (nn : Int), .slice (some ⟨W.heap.size + 1, 0, none⟩) 24 24, .int .i64 600] wx fun e w' => ∃ p b, e = .returned (.tuple #[.agg (paC p b (.slice none 0 0) (.slice none 0 0)), .bool true]) ∧ Bz Pm wx.heap.size (fun _ => False) wx w' p b (tg0 nn tw) (tg0 nn tw)) := hid (fun wx hb => by
    have hlen := wdL_len tw 24
    have hblk := (hb.block _ (by omega)).trans hb7
    have hrd : RdS .u64 wx (fun g => g < wx.heap.size) (.slice (some ⟨W.heap.size + 1, 0, none⟩) 24 24) (wdL tw 24) := by
      refine ⟨some ⟨W.heap.size + 1, 0, none⟩, 24, by rw [hlen], by rw [hlen]; exact Nat.le_refl 24, by decide, by rw [hlen]; show 24 * 8 ≤ _; decide, fun z hz => wdL_wfG htw z hz, fun _ => ⟨W.heap.size + 1, 0, rfl, (Array.getElem?_eq_some_iff.1 hblk).1, (Array.getElem?_eq_some_iff.1 hblk).1, fun j hj => ?_⟩⟩
      rw [hlen] at hj
      rw [nth_wdG tw hj, Nat.zero_add]
      exact row_c (i := j) hblk (wa_get tw hj)
    exact lbegins_any hM hN ((nn : Nat) : Int) 600 (by omega) (by decide) (by decide) tw 24 _ _ hrd)
  have hp1 := hp.self hlow
  have HP1 := hid hp1
  have HGL : Hid (gpair < w1.heap.size) := hid hp1.1
  have HAW := hid (fun (w : World) (h : Below W.heap.size W w) => gawake_any hM hN hG w (hp.self h))
  have hb0 := tg0_bq hnn htw
  have hn0 : (tg0 nn tw).n = 2 ∨ (tg0 nn tw).n = 3 := (tg0_fin hnn tw).n
  have HPUa := hid (fun (i : Nat) (hi : i < 8) (X' : Nat → Prop) (W' wx : World) (lo p b : Nat) (S2 : Ms) (hz : Bz Pm lo X' W' wx p b (lyS (tg0 nn tw) x i) S2) => qpub hM (shI hM) (x i) hz (ly_bq hb0 hn0 hx i) (by omega) (by rw [lyS_n]; exact hn0) (hx i))
  have HENa := hid (fun (i : Nat) (hi : i < 8) => (⟨(e1 i (by omega)).1, (e1 i (by omega)).2⟩ : Bq (10 * i) (enX (tg0 nn tw) x i) ∧ ((enX (tg0 nn tw) x i).n = 2 ∨ (enX (tg0 nn tw) x i).n = 3)))
  have HEE : Hid (Bq 80 (enX (tg0 nn tw) x 8) ∧ (enX (tg0 nn tw) x 8).e = 0) := hid ⟨(e1 8 (by decide)).1, e2⟩
  have HXB := hid hx
  have HBYa := hid (fun (X' : Nat → Prop) (W' wx : World) (lo p b : Nat) (S2 : Ms) (v : Value) (hz : Bz Pm lo X' W' wx p b (lyS (tg0 nn tw) x 8) S2) (hpv : Pv wx) (hgl : gpair < lo) (hw : WsR wx v 8 (luV (tg0 nn tw) x) X') => hG.bytes (luV (tg0 nn tw) x) 8 v (kk : Int) hz hpv hgl l1 (by decide) l2 l4 l3 hw (by unfold I64; omega))
  have HS9 : Hid (gyS (lyS (tg0 nn tw) x 8) (luV (tg0 nn tw) x) (kk : Int) (gyC (kk : Int) 8) = gsS nn tw x kk) := hid rfl
  simp only [s6] at HBYa
  have HWS : Hid (∀ (w : World) (g : Nat) (X : Nat → Prop), w.heap[g]? = some (.cells (iz 24 (auF (tg0 nn tw) x 8)) 37 (0, 0)) → X g → WsR w (.slice (some ⟨g, 0, none⟩) 8 8) 8 (luV (tg0 nn tw) x) X) := hid (fun w g X h hX => ⟨some ⟨g, 0, none⟩, 8, rfl, Nat.le_refl _, by decide, fun _ => ⟨g, 0, rfl, hX, (Array.getElem?_eq_some_iff.1 h).1, fun j hj c hc => by
    rw [Nat.zero_add, luV_at (tg0 nn tw) x hj]
    exact gr_cell h (c := j) hj c hc⟩⟩)
  have HSB := hid s1
  have HSD := hid s2
  have HSE := hid s3
  have HSL := hid s4
  have HSO := hid s5
  have HA0 : Hid (auF (tg0 nn tw) x 0 = fun _ => 0) := hid (auF_0 (tg0 nn tw) x)
  have HAN := hid (auF_next (tg0 nn tw) x)
  have HE0 : Hid (aeF (tg0 nn tw) x 0 = fun _ => 0) := hid (aeF_0 (tg0 nn tw) x)
  have HAE := hid (aeF_next (tg0 nn tw) x)
  have HL0 : Hid (lyS (tg0 nn tw) x 0 = (tg0 nn tw)) := hid rfl
  have HX0 : Hid (enX (tg0 nn tw) x 0 = (tg0 nn tw)) := hid rfl
  have HLN : Hid (∀ i, lyS (tg0 nn tw) x (i + 1) = cstS (lyS (tg0 nn tw) x i) 3 (x i) ∧ lyR (tg0 nn tw) x i = cstR (lyS (tg0 nn tw) x i) 3 (x i)) := hid (fun i => ⟨rfl, rfl⟩)
  have HXN : Hid (∀ i, enX (tg0 nn tw) x (i + 1) = encS (enX (tg0 nn tw) x i) (x i)) := hid (fun i => rfl)
  simp only [← (HLN.out _).1, ← (HLN.out _).2] at HPUa
  have HBC : Hid (∀ i q, q < 8 → gsB x (8 * i + q) = byF (x i) q) := hid (fun i q hq => by unfold gsB; rw [show (8 * i + q) / 8 = i by omega, show (8 * i + q) % 8 = q by omega])
  have HB2 : Hid (∀ q, gsB x q < 256) := hid (fun q => byF_lt _ _)
  have HST0 : Hid (∀ i (w : World), Calls Tryd.prog 7 #[.int .u64 (x i : Int), .int .i64 8] w fun e w' => ∃ v', e = .returned v' ∧ Rd .u8 w' v' (ns 8 (byF (x i))) ∧ Below w.heap.size w w') := hid (fun i w => by
    have hy := hx i
    refine (refstore_any (x i : Int) 8 w (by omega)).mono fun e w' ⟨v', e1, e2, e3⟩ => ⟨v', e1, ?_, e3⟩
    rw [show (min (max (8 : Int) 0) 8).toNat = 8 by decide, rsL_ns] at e2
    exact e2.rd (by rw [ns_len, show IntKind.u8.bits / 8 = 1 from rfl]; omega) (ns_wf (fun i _ => byF_lt _ _)))
  have HMM := hid hkk
  have HK64 := hid hk64
  have HMY := hid hmy
  have HW := hid hw1
  clear HLN e1 e2 l1 l2 l3 l4 s1 s2 s3 s4 s5 s6 hlow1 hlow hw1 hsz hb5 hb7 hp1 hp hb0 hn0 hx hkk hk64 hmy htw hnn hT
  obtain ⟨S9, hS9⟩ : ∃ S9, gsS nn tw x kk = S9 := ⟨_, rfl⟩
  simp only [HS9.out, hS9] at HBYa
  rw [hS9] at HSB HSD HSE HSL HSO
  clear HS9 hS9
  obtain ⟨LS, hLS⟩ : ∃ LS, lyS (tg0 nn tw) x = LS := ⟨_, rfl⟩
  obtain ⟨LR, hLR⟩ : ∃ LR, lyR (tg0 nn tw) x = LR := ⟨_, rfl⟩
  obtain ⟨AA, hAA⟩ : ∃ AA, auF (tg0 nn tw) x = AA := ⟨_, rfl⟩
  obtain ⟨AE, hAE⟩ : ∃ AE, aeF (tg0 nn tw) x = AE := ⟨_, rfl⟩
  obtain ⟨VV, hVV⟩ : ∃ VV, luV (tg0 nn tw) x = VV := ⟨_, rfl⟩
  obtain ⟨LX, hLX⟩ : ∃ LX, enX (tg0 nn tw) x = LX := ⟨_, rfl⟩
  obtain ⟨LE, hLE⟩ : ∃ LE : Nat → Nat → Int, ∀ i, encR (LX i) = LE i := ⟨_, fun _ => rfl⟩
  obtain ⟨gF, hgF⟩ : ∃ gF, gsB x = gF := ⟨_, rfl⟩
  simp only [hLS, hLR, hAA, hAE, hVV, hLX, hLE, hgF] at HA0 HAN HE0 HAE HL0 HX0 HXN HPUa HENa HEE HBYa HWS HBC HB2
  clear hLS hLR hAA hAE hVV hLX hgF
  go_enter Tryd.func3, Tryd.ntmps3
  go_upto_region 1 with fail
  rw [HW.out]
  go_upto_if 25 with fail
  go_cut [9] from 25 to 25 (fun nv wx => nv = .int .i64 (nn : Int) ∧ wx = w1)
  case first =>
    rcases HTT.out with ⟨rfl, rfl⟩ | ⟨rfl, rfl⟩
    · go_wp2_with fail
      go_meet
      exact ⟨rfl, rfl⟩
    · go_wp2_with fail
      go_meet
      exact ⟨rfl, rfl⟩
  case rest =>
  obtain ⟨rfl, hcut⟩ := hcut
  obtain rfl : w1 = wc := hcut.symm
  clear HTT HW
  go_upto_region 5 with (go_at_call 4; (with_reducible refine (HBG.out _ (Below.refl _ _)).mono ?_); rintro e w2 ⟨pa, ba, rfl, hz⟩; have Z2 := hid hz; clear hz)
  have H3 := hid ((Gy.start Z2.out).new hM (paC pa ba (.slice none 0 0) (.slice none 0 0)) 30)
  obtain ⟨b10, hb1⟩ : ∃ b10, w2.heap.size = b10 := ⟨_, rfl⟩
  rw [hb1] at H3
  generalize w2.alloc (.cells #[.pointer (some ⟨pa, 0, none⟩), .pointer (some ⟨ba, 0, none⟩), .slice none 0 0, .slice none 0 0] 30) = w3 at *
  try rw [hb1]
  clear hb1
  go_upto_region 6 with (go_at_call 4; (with_reducible refine (HBG.out _ H3.out.z.low).mono ?_); rintro e w4 ⟨p, bb, rfl, hz⟩; have Z4 := hid hz; clear hz)
  have H4 : Hid (Gq Pm w1.heap.size w1 w2 w4 p ba (tg0 nn tw) (tg0 nn tw) pa (tg0 nn tw) [(b10, Obj.cells (paC pa ba (.slice none 0 0) (.slice none 0 0)) 30 (0, 0))]) := hid (by
    obtain ⟨F, G, ov, bv, vv, tv, g1, g2, g3, g4, g5, g6, g7⟩ := Z4.out
    exact Gq.start hM H3.out g6 g1 (fun k hk => (g3 k hk).1))
  have H5 := hid (H4.out.new hM (paC p bb (.slice none 0 0) (.slice none 0 0)) 30)
  obtain ⟨b12, hb1⟩ : ∃ b12, w4.heap.size = b12 := ⟨_, rfl⟩
  rw [hb1] at H5
  generalize w4.alloc (.cells #[.pointer (some ⟨p, 0, none⟩), .pointer (some ⟨bb, 0, none⟩), .slice none 0 0, .slice none 0 0] 30) = w5 at *
  try rw [hb1]
  clear hb1 HBG H3 H4 Z2 Z4
  go_upto_region 8 with fail
  have H6a := hid ((H5.out.new hM #[.int .i64 0, .int .i64 0, .int .i64 0, .int .i64 0, .int .i64 0, .int .i64 0, .int .i64 0, .int .i64 0, .int .i64 0, .int .i64 0, .int .i64 0, .int .i64 0, .int .i64 0, .int .i64 0, .int .i64 0, .int .i64 0, .int .i64 0, .int .i64 0, .int .i64 0, .int .i64 0, .int .i64 0, .int .i64 0, .int .i64 0, .int .i64 0] 37).new hM #[.int .i64 0, .int .i64 0, .int .i64 0, .int .i64 0, .int .i64 0, .int .i64 0, .int .i64 0, .int .i64 0, .int .i64 0, .int .i64 0, .int .i64 0, .int .i64 0, .int .i64 0, .int .i64 0, .int .i64 0, .int .i64 0, .int .i64 0, .int .i64 0, .int .i64 0, .int .i64 0, .int .i64 0, .int .i64 0, .int .i64 0, .int .i64 0] 37)
  simp only [sz_al] at H6a
  have H6b := hid (H6a.out.turnI hM (i := 1) rfl (setRow_heap _ _ _ #[.int .i64 0, .int .i64 0, .int .i64 0, .int .i64 0, .int .i64 0, .int .i64 0, .int .i64 0, .int .i64 0, .int .i64 0, .int .i64 0, .int .i64 0, .int .i64 0, .int .i64 0, .int .i64 0, .int .i64 0, .int .i64 0, .int .i64 0, .int .i64 0, .int .i64 0, .int .i64 0, .int .i64 0, .int .i64 0, .int .i64 0, .int .i64 0] 37 _ (H6a.out.bl 1 rfl)) (fun k hk => setRow_other _ _ k #[.int .i64 0, .int .i64 0, .int .i64 0, .int .i64 0, .int .i64 0, .int .i64 0, .int .i64 0, .int .i64 0, .int .i64 0, .int .i64 0, .int .i64 0, .int .i64 0, .int .i64 0, .int .i64 0, .int .i64 0, .int .i64 0, .int .i64 0, .int .i64 0, .int .i64 0, .int .i64 0, .int .i64 0, .int .i64 0, .int .i64 0, .int .i64 0] hk) (by simp [World.setRow]) ⟨rfl, rfl, rfl⟩)
  have H6c := hid (H6b.out.turnI hM (i := 0) rfl (setRow_heap _ _ _ #[.int .i64 0, .int .i64 0, .int .i64 0, .int .i64 0, .int .i64 0, .int .i64 0, .int .i64 0, .int .i64 0, .int .i64 0, .int .i64 0, .int .i64 0, .int .i64 0, .int .i64 0, .int .i64 0, .int .i64 0, .int .i64 0, .int .i64 0, .int .i64 0, .int .i64 0, .int .i64 0, .int .i64 0, .int .i64 0, .int .i64 0, .int .i64 0] 37 _ (H6b.out.bl 0 rfl)) (fun k hk => setRow_other _ _ k #[.int .i64 0, .int .i64 0, .int .i64 0, .int .i64 0, .int .i64 0, .int .i64 0, .int .i64 0, .int .i64 0, .int .i64 0, .int .i64 0, .int .i64 0, .int .i64 0, .int .i64 0, .int .i64 0, .int .i64 0, .int .i64 0, .int .i64 0, .int .i64 0, .int .i64 0, .int .i64 0, .int .i64 0, .int .i64 0, .int .i64 0, .int .i64 0] hk) (by simp [World.setRow]) ⟨rfl, rfl, rfl⟩)
  go_upto_region 9 with (first
    | (refine step_build_w24 rfl rfl ?_)
    | (refine step_store_row rfl 37 _ _ rfl w5.heap.size 37 _ #[.int .i64 0, .int .i64 0, .int .i64 0, .int .i64 0, .int .i64 0, .int .i64 0, .int .i64 0, .int .i64 0, .int .i64 0, .int .i64 0, .int .i64 0, .int .i64 0, .int .i64 0, .int .i64 0, .int .i64 0, .int .i64 0, .int .i64 0, .int .i64 0, .int .i64 0, .int .i64 0, .int .i64 0, .int .i64 0, .int .i64 0, .int .i64 0] rfl rfl (H6a.out.bl 1 rfl) (by kernel_rfl) rfl (by kernel_rfl) ?_)
    | (refine step_store_row rfl 37 _ _ rfl (w5.heap.size + 1) 37 _ #[.int .i64 0, .int .i64 0, .int .i64 0, .int .i64 0, .int .i64 0, .int .i64 0, .int .i64 0, .int .i64 0, .int .i64 0, .int .i64 0, .int .i64 0, .int .i64 0, .int .i64 0, .int .i64 0, .int .i64 0, .int .i64 0, .int .i64 0, .int .i64 0, .int .i64 0, .int .i64 0, .int .i64 0, .int .i64 0, .int .i64 0, .int .i64 0] rfl rfl (H6b.out.bl 0 rfl) (by kernel_rfl) rfl (by kernel_rfl) ?_))
  obtain ⟨w6, hw6⟩ : ∃ w6, (((w5.alloc (.cells #[.int .i64 0, .int .i64 0, .int .i64 0, .int .i64 0, .int .i64 0, .int .i64 0, .int .i64 0, .int .i64 0, .int .i64 0, .int .i64 0, .int .i64 0, .int .i64 0, .int .i64 0, .int .i64 0, .int .i64 0, .int .i64 0, .int .i64 0, .int .i64 0, .int .i64 0, .int .i64 0, .int .i64 0, .int .i64 0, .int .i64 0, .int .i64 0] 37)).alloc (.cells #[.int .i64 0, .int .i64 0, .int .i64 0, .int .i64 0, .int .i64 0, .int .i64 0, .int .i64 0, .int .i64 0, .int .i64 0, .int .i64 0, .int .i64 0, .int .i64 0, .int .i64 0, .int .i64 0, .int .i64 0, .int .i64 0, .int .i64 0, .int .i64 0, .int .i64 0, .int .i64 0, .int .i64 0, .int .i64 0, .int .i64 0, .int .i64 0] 37)).setRow w5.heap.size #[.int .i64 0, .int .i64 0, .int .i64 0, .int .i64 0, .int .i64 0, .int .i64 0, .int .i64 0, .int .i64 0, .int .i64 0, .int .i64 0, .int .i64 0, .int .i64 0, .int .i64 0, .int .i64 0, .int .i64 0, .int .i64 0, .int .i64 0, .int .i64 0, .int .i64 0, .int .i64 0, .int .i64 0, .int .i64 0, .int .i64 0, .int .i64 0]).setRow (w5.heap.size + 1) #[.int .i64 0, .int .i64 0, .int .i64 0, .int .i64 0, .int .i64 0, .int .i64 0, .int .i64 0, .int .i64 0, .int .i64 0, .int .i64 0, .int .i64 0, .int .i64 0, .int .i64 0, .int .i64 0, .int .i64 0, .int .i64 0, .int .i64 0, .int .i64 0, .int .i64 0, .int .i64 0, .int .i64 0, .int .i64 0, .int .i64 0, .int .i64 0] = w6 := ⟨_, rfl⟩
  rw [hw6] at H6c
  rw [hw6]
  obtain ⟨g14, hg14⟩ : ∃ g14, w5.heap.size = g14 := ⟨_, rfl⟩
  rw [hg14] at H6c
  rw [hg14]
  obtain ⟨g15, hg15⟩ : ∃ g15, g14 + 1 = g15 := ⟨_, rfl⟩
  rw [hg15] at H6c
  rw [hg15]
  have H6 : Hid (Gq Pm w1.heap.size w1 w2 w6 p ba (LS 0) (tg0 nn tw) pa (LX 0) [(g15, Obj.cells (iz 24 (AA 0)) 37 (0, 0)), (g14, Obj.cells (iz 24 (AE 0)) 37 (0, 0)), (b12, Obj.cells (paC p bb (.slice none 0 0) (.slice none 0 0)) 30 (0, 0)), (b10, Obj.cells (paC pa ba (.slice none 0 0) (.slice none 0 0)) 30 (0, 0))]) := hid (by rw [HA0.out, HE0.out, HL0.out, HX0.out]; exact H6c.out)
  clear hw6 hg14 hg15 H5 H6a H6b H6c HA0 HE0
  go_upto_region 10 with fail
  have H7 := hid (H6.out.new hM #[] 5)
  obtain ⟨ga0, hga⟩ : ∃ ga0, w6.heap.size = ga0 := ⟨_, rfl⟩
  rw [hga] at H7
  rw [hga]
  generalize w6.alloc (.cells #[] 5) = w7 at *
  clear hga H6
  go_wp2
  go_loopw [16, 17] (fun av iv wr => ∃ (i ga nb : Nat) (oa : Obj), i ≤ 8 ∧ nb = 8 * i ∧ iv = .int .i64 (i : Int) ∧ BoB 5 av nb gF ga oa ∧ Gq Pm w1.heap.size w1 w2 wr p ba (LS i) (tg0 nn tw) pa (LX i) [(ga, oa), (g15, Obj.cells (iz 24 (AA i)) 37 (0, 0)), (g14, Obj.cells (iz 24 (AE i)) 37 (0, 0)), (b12, Obj.cells (paC p bb (.slice none 0 0) (.slice none 0 0)) 30 (0, 0)), (b10, Obj.cells (paC pa ba (.slice none 0 0) (.slice none 0 0)) 30 (0, 0))]) (fun _ iv _ => 8 - (intOf iv).toNat)
  case atStart => exact ⟨0, ga0, 0, _, by omega, rfl, rfl, BoB.empty _ _ _, H7.out⟩
  case round =>
    clear H7
    obtain ⟨i, ga, nb, oa, hi, hnb, rfl, hbo, hI⟩ := hrel
    have HI := hid hI
    have HBO := hid hbo
    have HNB := hid hnb
    clear hI hbo hnb
    by_cases hlt : i < 8
    · have j1 : (i : Int) < 8 := by omega
      have j0 : (0 : Int) ≤ (i : Int) := by omega
      have HI3 : Hid (i < 8) := hid hlt
      have HPU := hid (fun (sa : Ms) (wx : World) (bs : List (Nat × Obj)) (h : Gq Pm w1.heap.size w1 w2 wx p ba (LS i) (tg0 nn tw) pa sa bs) => h.lift hM (f := 6) (args := #[.pointer (some ⟨p, 0, none⟩), .int .u64 (x i : Int)]) (E := fun e => e = .returned (.agg (wdV (LR i)))) (S1' := LS (i + 1)) (S2' := (tg0 nn tw)) (fun X' W' hz => HPUa.out i hlt X' W' wx _ p ba (tg0 nn tw) hz))
      have HEN : Hid (∀ (sb : Ms) (wx : World) (bs : List (Nat × Obj)), Gq Pm w1.heap.size w1 w2 wx p ba sb (tg0 nn tw) pa (LX i) bs → Calls Tryd.prog 5 #[.pointer (some ⟨pa, 0, none⟩), .int .u64 (x i : Int)] wx fun e w' => e = .returned (.agg (wdV (LE i))) ∧ Gq Pm w1.heap.size w1 w2 w' p ba sb (tg0 nn tw) pa (LX (i + 1)) bs) := hid (fun sb wx bs h => by
        obtain ⟨q1, q2⟩ := HENa.out i hlt
        have := h.enc hM (shI hM) (x i) q1 (by omega) q2 (HXB.out i)
        rw [hLE, ← HXN.out] at this
        exact this)
      have HNX : Hid (8 * (i + 1) = nb + 8) := hid (by rw [HNB.out]; omega)
      have HCF : Hid (∀ q, q < 8 → gF (nb + q) = byF (x i) q) := hid (fun q hq => by rw [HNB.out]; exact HBC.out i q hq)
      have HLM : Hid (nb + 8 ≤ 100000000) := hid (by have := HNB.out; omega)
      have HST := hid (HST0.out i)
      clear hi hlt
      go_upto_region 13 with fail
      have G0 := hid (HI.out.self hM ((Below.refl _ wr).drew))
      refine wp_region_noPanic ?_
      refine wp_region_held_drew (S := fun w' => w'.heap[b10]? = some (.cells (paC pa ba (.slice none 0 0) (.slice none 0 0)) 30 (0, 0)) ∧ w'.cell? ⟨W.heap.size, i, none⟩ = some (.int .u64 (x i : Int))) (by kernel_rfl) (⟨G0.out.bl 4 rfl, HLX.out _ G0.out.low i HI3.out⟩) (fun h0 => ?_)
      generalize wr.drew = y0 at *
      refine wpAnyH_take (i := 0) (v := .int .i64 (i : Int)) rfl (by kernel_rfl) (by kernel_rfl) (by kernel_rfl) (fun _ _ _ h => h) (.inl ⟨by rfl, fun w hw => by clear hw; go_simp⟩) h0 ?_
      try simp only [Act.put, lay_out]
      refine wpAnyH_take (i := 1) (v := .pointer (some ⟨b10, 0, none⟩)) rfl (by kernel_rfl) (by kernel_rfl) (by kernel_rfl) (fun _ _ _ h => h) (.inl ⟨by rfl, fun w hw => by clear hw; go_simp⟩) h0 ?_
      try simp only [Act.put, lay_out]
      refine wpAnyH_take (i := 2) (v := .pointer (some ⟨pa, 0, none⟩)) rfl (by kernel_rfl) (by kernel_rfl) (by kernel_rfl) (fun _ _ _ h => h) (.inl ⟨by rfl, fun w' hw => by have hc := row_c (i := 0) (u := .pointer (some ⟨pa, 0, none⟩)) hw.1 rfl; clear hw; go_simp⟩) h0 ?_
      try simp only [Act.put, lay_out]
      refine wpAnyH_take (i := 3) (v := .int .i64 (i : Int)) rfl (by kernel_rfl) (by kernel_rfl) (by kernel_rfl) (fun _ _ _ h => h) (.inl ⟨by rfl, fun w hw => by clear hw; go_simp⟩) h0 ?_
      try simp only [Act.put, lay_out]
      refine wpAnyH_take (i := 4) (v := .pointer (some ⟨W.heap.size, i, none⟩)) rfl (by kernel_rfl) (by kernel_rfl) (by kernel_rfl) (fun _ _ _ h => h) (.inl ⟨by rfl, fun w hw => by clear hw; go_simp⟩) h0 ?_
      try simp only [Act.put, lay_out]
      refine wpAnyH_take (i := 5) (v := .int .u64 (x i : Int)) rfl (by kernel_rfl) (by kernel_rfl) (by kernel_rfl) (fun _ _ _ h => h) (.inl ⟨by rfl, fun w' hw => by have hc := hw.2; clear hw; go_simp⟩) h0 ?_
      try simp only [Act.put, lay_out]
      refine wpAnyH_ready (rs := [6]) (by kernel_rfl) (by simp) (AllReadyH.cons rfl (fun K hK => ?_) AllReadyH.nil)
      rw [if_pos (by rfl)]
      go_simp
      go_at_call 5
      (with_reducible refine (HEN.out _ _ _ G0.out).mono ?_); rintro e y1 ⟨rfl, hz⟩
      have G1 := hid hz
      clear hz
      refine hK.out _ _ (⟨G1.out.bl 4 rfl, HLX.out _ G1.out.low i HI3.out⟩) (fun h1x => ?_)
      clear hK K
      try simp only [Act.put, lay_out]
      refine wpAnyH_take (i := 7) (v := .pointer (some ⟨g14, i * 3, none⟩)) rfl (by kernel_rfl) (by kernel_rfl) (by kernel_rfl) (fun _ _ _ h => h) (.inl ⟨by rfl, fun w hw => by clear hw; go_simp⟩) h1x ?_
      try simp only [Act.put, lay_out]
      refine wpAnyH_ready (rs := [8]) (by kernel_rfl) (by simp) (AllReadyH.cons rfl (fun K hK => ?_) AllReadyH.nil)
      rw [if_pos (by rfl)]
      refine wp_store_mid 35 _ _ rfl g14 (i * 3) (wdV (LE i)) rfl rfl (gr_there (G1.out.bl 2 rfl) HI3.out) (by kernel_rfl) (by kernel_rfl) ?_
      have G2 := hid (G1.out.turnI hM (i := 2) rfl (gr_set (R := (LE i)) (G1.out.bl 2 rfl) HI3.out) (fun q hq => setCells_apart g14 _ (i * 3) y1 q hq) (Nat.le_of_eq (setCells_size g14 _ (i * 3) y1).symm) (setCells_out g14 _ (i * 3) y1))
      rw [HAE.out i] at G2
      generalize y1.setCells g14 (i * 3) (wdV (LE i)).toList = y2 at *
      refine hK.out _ _ (⟨G2.out.bl 4 rfl, HLX.out _ G2.out.low i HI3.out⟩) (fun h2x => ?_)
      clear hK K
      try simp only [Act.put, lay_out]
      refine wpAnyH_done (by kernel_rfl) ?_ _
      refine NoPanic.normal ?_
      clear h0 h1x h2x
      try simp only [Act.put, lay_out]
      have H8 := G2
      obtain ⟨w8, hw8⟩ : ∃ w8, y2 = w8 := ⟨_, rfl⟩
      rw [hw8] at H8
      rw [hw8]
      clear hw8 HI
      go_wp2_with fail
      have J0 := hid (H8.out.self hM ((Below.refl _ w8).drew))
      refine wp_region_noPanic ?_
      refine wp_region_held_drew (S := fun w' => w'.heap[b12]? = some (.cells (paC p bb (.slice none 0 0) (.slice none 0 0)) 30 (0, 0)) ∧ w'.cell? ⟨W.heap.size, i, none⟩ = some (.int .u64 (x i : Int))) (by kernel_rfl) (⟨J0.out.bl 3 rfl, HLX.out _ J0.out.low i HI3.out⟩) (fun h0 => ?_)
      generalize w8.drew = z0 at *
      refine wpAnyH_take (i := 0) (v := .int .i64 (i : Int)) rfl (by kernel_rfl) (by kernel_rfl) (by kernel_rfl) (fun _ _ _ h => h) (.inl ⟨by rfl, fun w hw => by clear hw; go_simp⟩) h0 ?_
      try simp only [Act.put, lay_out]
      refine wpAnyH_take (i := 1) (v := .pointer (some ⟨b12, 0, none⟩)) rfl (by kernel_rfl) (by kernel_rfl) (by kernel_rfl) (fun _ _ _ h => h) (.inl ⟨by rfl, fun w hw => by clear hw; go_simp⟩) h0 ?_
      try simp only [Act.put, lay_out]
      refine wpAnyH_take (i := 2) (v := .pointer (some ⟨p, 0, none⟩)) rfl (by kernel_rfl) (by kernel_rfl) (by kernel_rfl) (fun _ _ _ h => h) (.inl ⟨by rfl, fun w' hw => by have hc := row_c (i := 0) (u := .pointer (some ⟨p, 0, none⟩)) hw.1 rfl; clear hw; go_simp⟩) h0 ?_
      try simp only [Act.put, lay_out]
      refine wpAnyH_take (i := 3) (v := .int .i64 (i : Int)) rfl (by kernel_rfl) (by kernel_rfl) (by kernel_rfl) (fun _ _ _ h => h) (.inl ⟨by rfl, fun w hw => by clear hw; go_simp⟩) h0 ?_
      try simp only [Act.put, lay_out]
      refine wpAnyH_take (i := 4) (v := .pointer (some ⟨W.heap.size, i, none⟩)) rfl (by kernel_rfl) (by kernel_rfl) (by kernel_rfl) (fun _ _ _ h => h) (.inl ⟨by rfl, fun w hw => by clear hw; go_simp⟩) h0 ?_
      try simp only [Act.put, lay_out]
      refine wpAnyH_take (i := 5) (v := .int .u64 (x i : Int)) rfl (by kernel_rfl) (by kernel_rfl) (by kernel_rfl) (fun _ _ _ h => h) (.inl ⟨by rfl, fun w' hw => by have hc := hw.2; clear hw; go_simp⟩) h0 ?_
      try simp only [Act.put, lay_out]
      refine wpAnyH_ready (rs := [6]) (by kernel_rfl) (by simp) (AllReadyH.cons rfl (fun K hK => ?_) AllReadyH.nil)
      rw [if_pos (by rfl)]
      go_simp
      go_at_call 6
      (with_reducible refine (HPU.out _ _ _ J0.out).mono ?_); rintro e z1 ⟨rfl, hz⟩
      have J1 := hid hz
      clear hz
      refine hK.out _ _ (⟨J1.out.bl 3 rfl, HLX.out _ J1.out.low i HI3.out⟩) (fun h1x => ?_)
      clear hK K
      try simp only [Act.put, lay_out]
      refine wpAnyH_take (i := 7) (v := .pointer (some ⟨g15, i * 3, none⟩)) rfl (by kernel_rfl) (by kernel_rfl) (by kernel_rfl) (fun _ _ _ h => h) (.inl ⟨by rfl, fun w hw => by clear hw; go_simp⟩) h1x ?_
      try simp only [Act.put, lay_out]
      refine wpAnyH_ready (rs := [8]) (by kernel_rfl) (by simp) (AllReadyH.cons rfl (fun K hK => ?_) AllReadyH.nil)
      rw [if_pos (by rfl)]
      refine wp_store_mid 35 _ _ rfl g15 (i * 3) (wdV (LR i)) rfl rfl (gr_there (J1.out.bl 1 rfl) HI3.out) (by kernel_rfl) (by kernel_rfl) ?_
      have J2 := hid (J1.out.turnI hM (i := 1) rfl (gr_set (R := (LR i)) (J1.out.bl 1 rfl) HI3.out) (fun q hq => setCells_apart g15 _ (i * 3) z1 q hq) (Nat.le_of_eq (setCells_size g15 _ (i * 3) z1).symm) (setCells_out g15 _ (i * 3) z1))
      rw [HAN.out i] at J2
      generalize z1.setCells g15 (i * 3) (wdV (LR i)).toList = z2 at *
      refine hK.out _ _ (⟨J2.out.bl 3 rfl, HLX.out _ J2.out.low i HI3.out⟩) (fun h2x => ?_)
      clear hK K
      try simp only [Act.put, lay_out]
      refine wpAnyH_done (by kernel_rfl) ?_ _
      refine NoPanic.normal ?_
      clear h0 h1x h2x
      try simp only [Act.put, lay_out]
      have cx := HLX.out _ J2.out.low i HI3.out
      go_wp2_with (first
        | (go_at_call 7; (with_reducible refine (HST.out _).mono ?_); rintro e z3 ⟨sv, rfl, hrd, hb⟩; have J3 := hid (J2.out.self hM hb); have HR := hid hrd; clear hb hrd cx)
        | (refine wpList_append_bob rfl _ _ 38 rfl 5 Tryd.underlying38 hinfo8 u16 nb gF rfl HBO.out (J3.out.bl 0 rfl) sv 8 _ rfl HR.out (by decide) HCF.out HLM.out (fun g1 cap' z4 o1 a1 a2 a3 a4 => ?_); have J4 := hid (J3.out.grown hM a3 a4 a2); have HB1 := hid a1; clear a1 a2 a3 a4))
      go_roundw
      case rel => exact ⟨i + 1, g1, nb + 8, o1, HI3.out, HNX.out.symm, by go_num, HB1.out, J4.out⟩
      case measure => simp [intOf]; omega
    · obtain rfl : i = 8 := by omega
      clear hlt hi HPUa HENa
      have HER : Hid (∀ (wx : World) (bs : List (Nat × Obj)), Gq Pm w1.heap.size w1 w2 wx p ba (LS 8) (tg0 nn tw) pa (LX 8) bs → Calls Tryd.prog 8 #[.pointer (some ⟨pa, 0, none⟩)] wx fun e w' => e = .returned (.int .i64 0) ∧ Gq Pm w1.heap.size w1 w2 w' p ba (LS 8) (tg0 nn tw) pa (LX 8) bs) := hid (fun wx bs h => by
        have := h.err hM HEE.out.1 (by decide)
        rw [HEE.out.2] at this
        exact this)
      have ew : IntKind.i64.wrap (my : Int) = (my : Int) := by have := HMY.out; rw [IntKind.wrap_i64]; omega
      have em : (my : Int).tmod 65 = (kk : Int) := by rw [Int.tmod_eq_emod_of_nonneg (by omega), ← HMM.out]; omega
      have em' : (my : Int) % 65 = (kk : Int) := by rw [← HMM.out]; omega
      have hk64 := HK64.out
      have hmy := HMY.out
      have c10 := row_c (i := 0) (u := .pointer (some ⟨pa, 0, none⟩)) (HI.out.bl 4 rfl) rfl
      go_upto_region 19 with (go_at_call 8; (with_reducible refine (HER.out _ _ HI.out).mono ?_); rintro e wq ⟨rfl, hz⟩; have HQ := hid hz; clear hz)
      have HK : Hid (Gy Pm w1.heap.size (fun _ => False) w1 w2 wq p ba (LS 8) (tg0 nn tw) [(ga, oa), (g15, Obj.cells (iz 24 (AA 8)) 37 (0, 0)), (g14, Obj.cells (iz 24 (AE 8)) 37 (0, 0)), (b12, Obj.cells (paC p bb (.slice none 0 0) (.slice none 0 0)) 30 (0, 0)), (b10, Obj.cells (paC pa ba (.slice none 0 0) (.slice none 0 0)) 30 (0, 0))]) := hid HQ.out.gy
      clear HI HQ HER ew em em' c10 hmy
      have HBY := hid (fun (wx : World) (h : Gy Pm w1.heap.size (fun _ => False) w1 w2 wx p ba (LS 8) (tg0 nn tw) [(ga, oa), (g15, Obj.cells (iz 24 (AA 8)) 37 (0, 0)), (g14, Obj.cells (iz 24 (AE 8)) 37 (0, 0)), (b12, Obj.cells (paC p bb (.slice none 0 0) (.slice none 0 0)) 30 (0, 0)), (b10, Obj.cells (paC pa ba (.slice none 0 0) (.slice none 0 0)) 30 (0, 0))]) => h.tells (f := 9) (args := #[.pointer (some ⟨p, 0, none⟩), .slice (some ⟨g15, 0, none⟩) 8 8, .int .i64 (kk : Int)]) (S1' := S9) (S2' := (tg0 nn tw)) (zs := ns kk gF) (fun X' _ hX' W' hz => HBYa.out X' W' wx _ p ba _ _ hz (Pv.bz HP1.out HGL.out h.z) HGL.out (HWS.out wx g15 X' (h.mem (by simp)) (hX' (g15, Obj.cells (iz 24 (AA 8)) 37 (0, 0)) (by simp)))))
      have G0 := hid (HK.out.self hM ((Below.refl _ wq).drew))
      refine wp_region_noPanic ?_
      refine wp_region_held_drew (S := fun w' => w'.heap[b12]? = some (.cells (paC p bb (.slice none 0 0) (.slice none 0 0)) 30 (0, 0))) (by kernel_rfl) (G0.out.mem (by simp)) (fun h0 => ?_)
      generalize wq.drew = q0 at *
      refine wpAnyH_take (i := 0) (v := .pointer (some ⟨b12, 0, none⟩)) rfl (by kernel_rfl) (by kernel_rfl) (by kernel_rfl) (fun _ _ _ h => h) (.inl ⟨by rfl, fun w hw => by clear hw; go_simp⟩) h0 ?_
      try simp only [Act.put, lay_out]
      refine wpAnyH_take (i := 1) (v := .pointer (some ⟨p, 0, none⟩)) rfl (by kernel_rfl) (by kernel_rfl) (by kernel_rfl) (fun _ _ _ h => h) (.inl ⟨by rfl, fun w' hw => by have hc := row_c (i := 0) (u := .pointer (some ⟨p, 0, none⟩)) hw rfl; clear hw; go_simp⟩) h0 ?_
      try simp only [Act.put, lay_out]
      refine wpAnyH_take (i := 2) (v := .slice (some ⟨g15, 0, none⟩) 8 8) rfl (by kernel_rfl) (by kernel_rfl) (by kernel_rfl) (fun _ _ _ h => h) (.inl ⟨by rfl, fun w hw => by have hc := gr_all (w := w) (g := g15); clear hw; go_simp⟩) h0 ?_
      try simp only [Act.put, lay_out]
      refine wpAnyH_take (i := 3) (v := .int .i64 (kk : Int)) rfl (by kernel_rfl) (by kernel_rfl) (by kernel_rfl) (fun _ _ _ h => h) (.inl ⟨by rfl, fun w hw => by clear hw; go_simp⟩) h0 ?_
      try simp only [Act.put, lay_out]
      refine wpAnyH_ready (rs := [4]) (by kernel_rfl) (by simp) (AllReadyH.cons rfl (fun K hK => ?_) AllReadyH.nil)
      rw [if_pos (by rfl)]
      go_simp
      go_at_call 9
      (with_reducible refine (HBY.out _ G0.out).mono ?_); rintro e q1 ⟨v1, Y1, rfl, hr, hz⟩
      have G1 := hid hz
      have R1 := hid hr
      clear hz hr
      refine hK.out _ _ (G1.out.mem (by simp)) (fun h1x => ?_)
      clear hK K
      try simp only [Act.put, lay_out]
      refine wpAnyH_take (i := 5) (v := v1) rfl (by kernel_rfl) (by kernel_rfl) (by kernel_rfl) (fun _ _ _ h => h) (.inl ⟨by rfl, fun w hw => by clear hw; go_simp⟩) h1x ?_
      try simp only [Act.put, lay_out]
      refine wpAnyH_done (by kernel_rfl) ?_ _
      refine NoPanic.normal ?_
      clear h0 h1x
      try simp only [Act.put, lay_out]
      have HTR := hid (fun (wx : World) (bs : List (Nat × Obj)) (h : Gy Pm w1.heap.size (fun _ => False) w1 w2 wx p ba S9 (tg0 nn tw) bs) => h.asks hM (E := fun e w' => ∃ ao capo a1 m1 c1, e = .returned (.agg #[.int .i64 S9.n, .slice ao S9.L capo, .slice a1 m1 c1]) ∧ ROp w' (.slice ao S9.L capo) S9.L S9.f) (f := 10) (args := #[.pointer (some ⟨p, 0, none⟩)]) (fun X W hz => (ztrace hM hz HSB.out (by decide)).mono fun _ _ ⟨v0, v1, e1, e2, e3, e4⟩ => by
        rw [show S9.keep S9.L = S9.L by unfold Ms.keep; rw [HSD.out]; rfl] at e2
        obtain ⟨ao, capo, rfl, _⟩ := id e2.at_
        obtain ⟨a1, c1, rfl, _⟩ := e3.at_
        exact ⟨⟨ao, capo, a1, _, c1, e1, e2⟩, e4⟩))
      have HE9 : Hid (∀ (wx : World) (bs : List (Nat × Obj)), Gy Pm w1.heap.size (fun _ => False) w1 w2 wx p ba S9 (tg0 nn tw) bs → Calls Tryd.prog 8 #[.pointer (some ⟨p, 0, none⟩)] wx fun e w' => e = .returned (.int .i64 0) ∧ Below wx.heap.size wx w') := hid (fun wx bs h => (zerr hM h.z HSB.out (by decide)).mono fun _ _ ⟨e1, e3⟩ => ⟨by rw [e1, HSE.out]; rfl, e3⟩)
      have HVL : Hid (∀ (wx : World) (bs : List (Nat × Obj)), Gy Pm w1.heap.size (fun _ => False) w1 w2 wx p ba S9 (tg0 nn tw) bs → Calls Tryd.prog 12 #[.pointer (some ⟨p, 0, none⟩)] wx fun e w' => (∃ v, e = .returned v ∧ Rd .u64 w' v (wdL S9.v S9.L)) ∧ Below wx.heap.size wx w') := hid (fun wx bs h => (zvalues hM h.z HSB.out (by decide)).mono fun _ _ ⟨v, e1, e2, e3⟩ => ⟨⟨v, e1, by rw [show S9.keep S9.L = S9.L by unfold Ms.keep; rw [HSD.out]; rfl] at e2; exact e2⟩, e3⟩)
      obtain ⟨capa, rfl, hcapa, _⟩ := HBO.out.form
      have hnb8 : nb = 64 := by rw [HNB.out]
      subst hnb8
      have c12 := row_c (i := 0) (u := .pointer (some ⟨p, 0, none⟩)) (G1.out.bl 3 rfl) rfl
      go_upto_region 20 with fail
      go_upto_region 21 with (go_at_call 10; (with_reducible refine (HTR.out _ _ G1.out).mono ?_); rintro e w10 ⟨⟨ao, capo, a1, m1, c1, rfl, hro⟩, hz⟩; have HT := hid hz; have RO := hid hro; clear hz hro c12)
      have HT2 := hid (HT.out.new hM #[.int .i64 S9.n, .slice ao S9.L capo, .slice a1 m1 c1] 47)
      have RO2 := hid (RO.out.self ((Below.refl w10.heap.size w10).alloc (Nat.le_refl _) (.cells #[.int .i64 S9.n, .slice ao S9.L capo, .slice a1 m1 c1] 47)))
      obtain ⟨b20, hb1⟩ : ∃ b20, w10.heap.size = b20 := ⟨_, rfl⟩
      rw [hb1] at HT2
      generalize w10.alloc (.cells #[.int .i64 S9.n, .slice ao S9.L capo, .slice a1 m1 c1] 47) = w11 at *
      try rw [hb1]
      clear hb1 HT RO HTR
      have c12 := row_c (i := 0) (u := .pointer (some ⟨p, 0, none⟩)) (HT2.out.bl 4 rfl) rfl
      have HV2 : Hid (∀ (w : World), (∀ q ∈ [(ga, oa)], w.heap[q.1]? = some q.2) → Rd .u8 w (.slice (some ⟨ga, 0, none⟩) kk capa) (ns kk gF)) := hid (fun w hw => by
        have h64 := HK64.out
        have hg := hw (ga, oa) (List.mem_singleton.2 rfl)
        refine ⟨some ⟨ga, 0, none⟩, capa, by rw [ns_len], by rw [ns_len]; show kk * 1 ≤ _; omega, ns_wf (fun i _ => HB2.out i), fun _ => ⟨ga, 0, rfl, (Array.getElem?_eq_some_iff.1 hg).1, fun j hj => ?_⟩⟩
        rw [ns_len] at hj
        rw [Nat.zero_add, ns_nth gF hj]
        exact HBO.out.cell hg (by omega))
      have hk0 : (0 : Int) ≤ (kk : Int) := by omega
      have hkc : (kk : Int) ≤ (capa : Int) := by omega
      go_upto_region 23 with (first
        | (go_at_call 8; (with_reducible refine (HE9.out _ _ HT2.out).mono ?_); rintro e w12 ⟨rfl, hb⟩; have HT3 := hid (HT2.out.self hM hb); have RO3 := hid (RO2.out.self hb); clear hb c12)
        | (go_at_call 11; (with_reducible refine (same_ns _ _ _ _ _ (R1.out.rd (fun q hq => HT3.out.mem (List.mem_cons_of_mem _ (List.mem_append_right _ hq)))) (HV2.out _ (fun q hq => HT3.out.mem (by simp at hq; subst hq; simp))) rfl).mono ?_); rintro e w13 ⟨rfl, e9⟩; obtain rfl : w12 = w13 := e9.symm))
      have c12 := row_c (i := 0) (u := .pointer (some ⟨p, 0, none⟩)) (HT3.out.bl 4 rfl) rfl
      go_upto_region 25 with (go_at_call 12; (with_reducible refine (HVL.out _ _ HT3.out).mono ?_); rintro e w14 ⟨⟨v2, rfl, hv⟩, hb⟩; have HT4 := hid (HT3.out.self hM hb); have RO4 := hid (RO3.out.self hb); have VL4 := hid hv; clear hb hv c12)
      clear HT2 HT3 RO2 RO3 HE9 HVL HV2 G1 R1 HK HBY
      obtain ⟨ao', capo', eo, _, _, hro⟩ := RO4.out.at_
      obtain ⟨rfl, rfl⟩ : ao = ao' ∧ capo = capo' := by injection eo with q1 q2 q3; exact ⟨q1, q3⟩
      clear eo
      obtain ⟨av, capv, rfl, _, _, hva⟩ := VL4.out
      rw [wdL_len] at hva
      have hSL : S9.L ≤ 600 := HSL.out
      have ct := fun (w : World) (h : Below w14.heap.size w14 w) => row_c (i := 1) (u := .slice ao S9.L capo) ((HT4.out.self hM h).bl 0 rfl) rfl
      have HCT := hid ct
      have HFIN : Hid (∀ w, Below w14.heap.size w14 w → Below W.heap.size W w) := hid (fun w h => HWJ.out.trans ((HT4.out.self hM h).z.low.mono HWJ.out.size))
      have HOP : Hid (0 < S9.L → ∃ go offo gv offv, ao = some ⟨go, offo, none⟩ ∧ av = some ⟨gv, offv, none⟩ ∧ ∀ w, Below w14.heap.size w14 w → ∀ i, i < S9.L → w.cell? ⟨go, offo + i * 6, none⟩ = some (.int .i64 (S9.f i).K) ∧ w.cell? ⟨gv, offv + i, none⟩ = some (.int .u64 (S9.v i : Int))) := hid (fun h0 => by
        obtain ⟨go, offo, e1, _, e3⟩ := hro h0
        obtain ⟨gv, offv, d1, _, d3⟩ := hva h0
        refine ⟨go, offo, gv, offv, e1, d1, fun w hb i hi => ⟨tcell_self (e3 i hi).k hb, tcell_self ?_ hb⟩⟩
        rw [d3 i hi, nth_wdG S9.v hi])
      have HGN : Hid (∀ i, i ≤ S9.L → gsN S9 i ≤ (kk + 7) / 8) := hid (fun i hi => by rw [← HSO.out.n]; exact gsN_le S9 hi)
      have HGE : Hid (gsN S9 S9.L = (kk + 7) / 8) := hid HSO.out.n
      have HGS := hid (gsN_next S9)
      have HGO : Hid (∀ i, i < S9.L → (S9.f i).K = 12 → S9.v i < 2 ^ (8 * (kk - 8 * gsN S9 i))) := hid HSO.out.ok
      have HVB : Hid (∀ i, i < S9.L → S9.v i < 2 ^ 64) := hid HSB.out.v
      clear ct hro hva RO4 VL4 HSO HSB HSD HSE
      rw [wdL_len]
      obtain ⟨SL, hSLe⟩ : ∃ SL, S9.L = SL := ⟨_, rfl⟩
      rw [hSLe] at hSL HCT HOP HGN HGE HGO HVB
      rw [hSLe]
      clear hSLe HSL
      go_wp2
      go_loopw [21, 23, 24] (fun ov iv _ wr => ∃ i : Nat, i ≤ SL ∧ ov = .int .i64 (gsN S9 i : Int) ∧ iv = .int .i64 (i : Int) ∧ Below w14.heap.size w14 wr) (fun _ iv _ _ => SL - (intOf iv).toNat)
      case atStart => exact ⟨0, Nat.zero_le _, rfl, rfl, Below.refl _ _⟩
      case round =>
        obtain ⟨i, hi, rfl, rfl, hB⟩ := hrel
        have HB := hid hB
        have ct := HCT.out _ hB
        clear hB
        by_cases hlt : i < SL
        · have HIL : Hid (i < SL) := hid hlt
          obtain ⟨go, offo, gv, offv, rfl, rfl, hcc⟩ := HOP.out (by omega)
          obtain ⟨co, cv⟩ := hcc _ HB.out i hlt
          have i1 : (i : Int) < (SL : Int) := by omega
          have i0 : (0 : Int) ≤ (i : Int) := by omega
          have i2 : decide ((i : Int) < (SL : Int)) = true := decide_eq_true i1
          have hn := HGS.out i
          have hle := HGN.out i (by omega)
          have hle2 := HGN.out (i + 1) (by omega)
          have hop := HGO.out i hlt
          have hvb := HVB.out i hlt
          obtain ⟨kd, hkd⟩ : ∃ kd, (S9.f i).K = kd := ⟨_, rfl⟩
          rw [hkd] at hn hop co
          obtain ⟨vi, hvi⟩ : ∃ vi, S9.v i = vi := ⟨_, rfl⟩
          rw [hvi] at hop cv hvb
          obtain ⟨on, hon⟩ : ∃ on, gsN S9 i = on := ⟨_, rfl⟩
          rw [hon] at hn hle hop
          rw [hon]
          have h64 := HK64.out
          by_cases hk : kd = 12
          · subst hk
            rw [if_pos rfl] at hn
            have HN1 := hid hn
            have HON : Hid (on ≤ 8) := hid (by omega)
            have on8 : (on : Int) ≤ 8 := by omega
            have em8 : IntKind.i64.wrap (8 * (on : Int)) = 8 * (on : Int) := by rw [IntKind.wrap_i64]; omega
            have hop2 := hop rfl
            obtain ⟨lf, hlf⟩ : ∃ lf, kk - 8 * on = lf := ⟨_, rfl⟩
            rw [hlf] at hop2
            have eleft : (kk : Int) - 8 * (on : Int) = (lf : Int) := by omega
            have es : IntKind.i64.wrap ((kk : Int) - 8 * (on : Int)) = (lf : Int) := by rw [eleft, IntKind.wrap_i64]; omega
            by_cases h8 : lf < 8
            · have q8 : decide ((lf : Int) < 8) = true := decide_eq_true (by omega)
              have q9 : (lf : Int) < 8 := by omega
              obtain ⟨m8, hm8⟩ : ∃ m8, 8 * lf = m8 := ⟨_, rfl⟩
              rw [hm8] at hop2
              have em : IntKind.i64.wrap (8 * (lf : Int)) = (m8 : Int) := by rw [IntKind.wrap_i64]; omega
              have hm64 : m8 ≤ 64 := by omega
              have hlw := low_same hop2
              have hlw2 := lwN_lt hm64
              have HLW : Hid (∀ w, Calls Tryd.prog 13 #[.int .i64 (m8 : Int)] w fun e w' => e = .returned (.int .u64 (lwN m8 : Int)) ∧ w' = w) := hid (fun w => by
                have := reflow_any (m8 : Int) w
                rw [show (min (max (m8 : Int) 0) 64).toNat = m8 by omega, low_nat _ hm64] at this
                exact this)
              have eand : bits .and .u64 (vi : Int) (lwN m8 : Int) = (vi : Int) := by rw [wn64 hvb hlw2, hlw]
              clear hop hop2 hlw hlw2 hn hle hle2 hvb hvi hkd hon hlf eleft h8 hm8 hm64 hlt hi
              generalize lwN m8 = lw at *
              obtain ⟨left, hleft⟩ : ∃ left : Int, (lf : Int) = left := ⟨_, rfl⟩
              rw [hleft] at es q8 q9 em
              clear hleft
              go_upto_region 30 with fail
              have HBD : Hid (Below w14.heap.size w14 wr.drew) := hid HB.out.drew
              have hcv : wr.drew.cell? ⟨gv, offv + i, none⟩ = some (.int .u64 (vi : Int)) := cv
              refine wp_region_noPanic ?_
              refine wp_region_held_drew (S := fun w' => w'.cell? ⟨gv, offv + i, none⟩ = some (.int .u64 (vi : Int))) (by kernel_rfl) (hcv) (fun h0 => ?_)
              generalize wr.drew = q0 at *
              refine wpAnyH_take (i := 0) (v := .int .i64 left) rfl (by kernel_rfl) (by kernel_rfl) (by kernel_rfl) (fun _ _ _ h => h) (.inl ⟨by rfl, fun w hw => by clear hw; go_simp⟩) h0 ?_
              try simp only [Act.put, lay_out]
              refine wpAnyH_take (i := 1) (v := .bool true) rfl (by kernel_rfl) (by kernel_rfl) (by kernel_rfl) (fun _ _ _ h => h) (.inl ⟨by rfl, fun w hw => by clear hw; go_simp⟩) h0 ?_
              try simp only [Act.put, lay_out]
              refine wpAnyH_take (i := 2) (v := .bool true) rfl (by kernel_rfl) (by kernel_rfl) (by kernel_rfl) (fun _ _ _ h => h) (.inl ⟨by rfl, fun w hw => by clear hw; go_simp⟩) h0 ?_
              try simp only [Act.put, lay_out]
              refine wpAnyH_take (i := 3) (v := .slice (some ⟨gv, offv, none⟩) (SL : Nat) capv) rfl (by kernel_rfl) (by kernel_rfl) (by kernel_rfl) (fun _ _ _ h => h) (.inl ⟨by rfl, fun w hw => by clear hw; go_simp⟩) h0 ?_
              try simp only [Act.put, lay_out]
              refine wpAnyH_take (i := 4) (v := .int .i64 (i : Int)) rfl (by kernel_rfl) (by kernel_rfl) (by kernel_rfl) (fun _ _ _ h => h) (.inl ⟨by rfl, fun w hw => by clear hw; go_simp⟩) h0 ?_
              try simp only [Act.put, lay_out]
              refine wpAnyH_take (i := 5) (v := .pointer (some ⟨gv, offv + i, none⟩)) rfl (by kernel_rfl) (by kernel_rfl) (by kernel_rfl) (fun _ _ _ h => h) (.inl ⟨by rfl, fun w hw => by clear hw; go_simp⟩) h0 ?_
              try simp only [Act.put, lay_out]
              refine wpAnyH_take (i := 6) (v := .int .u64 (vi : Int)) rfl (by kernel_rfl) (by kernel_rfl) (by kernel_rfl) (fun _ _ _ h => h) (.inl ⟨by rfl, fun w' hw => by have hc := hw; clear hw; go_simp⟩) h0 ?_
              try simp only [Act.put, lay_out]
              refine wpAnyH_take (i := 7) (v := .slice (some ⟨gv, offv, none⟩) (SL : Nat) capv) rfl (by kernel_rfl) (by kernel_rfl) (by kernel_rfl) (fun _ _ _ h => h) (.inl ⟨by rfl, fun w hw => by clear hw; go_simp⟩) h0 ?_
              try simp only [Act.put, lay_out]
              refine wpAnyH_take (i := 8) (v := .int .i64 (i : Int)) rfl (by kernel_rfl) (by kernel_rfl) (by kernel_rfl) (fun _ _ _ h => h) (.inl ⟨by rfl, fun w hw => by clear hw; go_simp⟩) h0 ?_
              try simp only [Act.put, lay_out]
              refine wpAnyH_take (i := 9) (v := .pointer (some ⟨gv, offv + i, none⟩)) rfl (by kernel_rfl) (by kernel_rfl) (by kernel_rfl) (fun _ _ _ h => h) (.inl ⟨by rfl, fun w hw => by clear hw; go_simp⟩) h0 ?_
              try simp only [Act.put, lay_out]
              refine wpAnyH_take (i := 10) (v := .int .u64 (vi : Int)) rfl (by kernel_rfl) (by kernel_rfl) (by kernel_rfl) (fun _ _ _ h => h) (.inl ⟨by rfl, fun w' hw => by have hc := hw; clear hw; go_simp⟩) h0 ?_
              try simp only [Act.put, lay_out]
              refine wpAnyH_take (i := 11) (v := .int .i64 left) rfl (by kernel_rfl) (by kernel_rfl) (by kernel_rfl) (fun _ _ _ h => h) (.inl ⟨by rfl, fun w hw => by clear hw; go_simp⟩) h0 ?_
              try simp only [Act.put, lay_out]
              refine wpAnyH_take (i := 12) (v := .int .i64 (m8 : Int)) rfl (by kernel_rfl) (by kernel_rfl) (by kernel_rfl) (fun _ _ _ h => h) (.inl ⟨by rfl, fun w hw => by clear hw; go_simp⟩) h0 ?_
              try simp only [Act.put, lay_out]
              refine wpAnyH_ready (rs := [13]) (by kernel_rfl) (by simp) (AllReadyH.cons rfl (fun K hK => ?_) AllReadyH.nil)
              rw [if_pos (by rfl)]
              go_simp
              go_at_call 13
              (with_reducible refine (HLW.out _).mono ?_); rintro e q1 ⟨rfl, ey⟩
              obtain rfl : q0 = q1 := ey.symm
              refine hK.out _ _ (hcv) (fun h1x => ?_)
              clear hK K
              try simp only [Act.put, lay_out]
              refine wpAnyH_take (i := 14) (v := .int .u64 (vi : Int)) rfl (by kernel_rfl) (by kernel_rfl) (by kernel_rfl) (fun _ _ _ h => h) (.inl ⟨by rfl, fun w hw => by clear hw; go_simp⟩) h1x ?_
              try simp only [Act.put, lay_out]
              refine wpAnyH_take (i := 15) (v := .bool false) rfl (by kernel_rfl) (by kernel_rfl) (by kernel_rfl) (fun _ _ _ h => h) (.inl ⟨by rfl, fun w hw => by clear hw; go_simp⟩) h1x ?_
              try simp only [Act.put, lay_out]
              refine wpAnyH_take (i := 16) (v := .bool false) rfl (by kernel_rfl) (by kernel_rfl) (by kernel_rfl) (fun _ _ _ h => h) (.inl ⟨by rfl, fun w hw => by clear hw; go_simp⟩) h1x ?_
              try simp only [Act.put, lay_out]
              refine wpAnyH_done (by kernel_rfl) ?_ _
              refine NoPanic.normal ?_
              clear h0 h1x
              try simp only [Act.put, lay_out]
              go_wp2
              go_roundw
              case rel => exact ⟨i + 1, HIL.out, by rw [HN1.out]; have := HON.out; go_num, by go_num, HBD.out⟩
              case measure => have := HIL.out; simp [intOf]; omega
            · have q8 : decide ((lf : Int) < 8) = false := decide_eq_false (by omega)
              have q9 : ¬ ((lf : Int) < 8) := by omega
              clear hop hop2 hn hle hle2 hvb hvi hkd hon hlf eleft h8 hlt hi
              obtain ⟨left, hleft⟩ : ∃ left : Int, (lf : Int) = left := ⟨_, rfl⟩
              rw [hleft] at es q8 q9
              clear hleft
              go_upto_region 30 with fail
              have HBD : Hid (Below w14.heap.size w14 wr.drew) := hid HB.out.drew
              have hcv : wr.drew.cell? ⟨gv, offv + i, none⟩ = some (.int .u64 (vi : Int)) := cv
              refine wp_region_noPanic ?_
              refine wp_region_held_drew (S := fun w' => w'.cell? ⟨gv, offv + i, none⟩ = some (.int .u64 (vi : Int))) (by kernel_rfl) (hcv) (fun h0 => ?_)
              generalize wr.drew = q0 at *
              refine wpAnyH_take (i := 0) (v := .int .i64 left) rfl (by kernel_rfl) (by kernel_rfl) (by kernel_rfl) (fun _ _ _ h => h) (.inl ⟨by rfl, fun w hw => by clear hw; go_simp⟩) h0 ?_
              try simp only [Act.put, lay_out]
              refine wpAnyH_take (i := 1) (v := .bool false) rfl (by kernel_rfl) (by kernel_rfl) (by kernel_rfl) (fun _ _ _ h => h) (.inl ⟨by rfl, fun w hw => by clear hw; go_simp⟩) h0 ?_
              try simp only [Act.put, lay_out]
              refine wpAnyH_take (i := 2) (v := .bool false) rfl (by kernel_rfl) (by kernel_rfl) (by kernel_rfl) (fun _ _ _ h => h) (.inl ⟨by rfl, fun w hw => by clear hw; go_simp⟩) h0 ?_
              try simp only [Act.put, lay_out]
              refine wpAnyH_take (i := 3) (v := undef) rfl (by kernel_rfl) (by kernel_rfl) (by kernel_rfl) (fun _ _ _ h => h) (.inr ⟨by rfl, by rfl⟩) h0 ?_
              try simp only [Act.put, lay_out]
              refine wpAnyH_take (i := 4) (v := undef) rfl (by kernel_rfl) (by kernel_rfl) (by kernel_rfl) (fun _ _ _ h => h) (.inr ⟨by rfl, by rfl⟩) h0 ?_
              try simp only [Act.put, lay_out]
              refine wpAnyH_take (i := 5) (v := undef) rfl (by kernel_rfl) (by kernel_rfl) (by kernel_rfl) (fun _ _ _ h => h) (.inr ⟨by rfl, by rfl⟩) h0 ?_
              try simp only [Act.put, lay_out]
              refine wpAnyH_take (i := 6) (v := undef) rfl (by kernel_rfl) (by kernel_rfl) (by kernel_rfl) (fun _ _ _ h => h) (.inr ⟨by rfl, by rfl⟩) h0 ?_
              try simp only [Act.put, lay_out]
              refine wpAnyH_take (i := 7) (v := undef) rfl (by kernel_rfl) (by kernel_rfl) (by kernel_rfl) (fun _ _ _ h => h) (.inr ⟨by rfl, by rfl⟩) h0 ?_
              try simp only [Act.put, lay_out]
              refine wpAnyH_take (i := 8) (v := undef) rfl (by kernel_rfl) (by kernel_rfl) (by kernel_rfl) (fun _ _ _ h => h) (.inr ⟨by rfl, by rfl⟩) h0 ?_
              try simp only [Act.put, lay_out]
              refine wpAnyH_take (i := 9) (v := undef) rfl (by kernel_rfl) (by kernel_rfl) (by kernel_rfl) (fun _ _ _ h => h) (.inr ⟨by rfl, by rfl⟩) h0 ?_
              try simp only [Act.put, lay_out]
              refine wpAnyH_take (i := 10) (v := undef) rfl (by kernel_rfl) (by kernel_rfl) (by kernel_rfl) (fun _ _ _ h => h) (.inr ⟨by rfl, by rfl⟩) h0 ?_
              try simp only [Act.put, lay_out]
              refine wpAnyH_take (i := 11) (v := undef) rfl (by kernel_rfl) (by kernel_rfl) (by kernel_rfl) (fun _ _ _ h => h) (.inr ⟨by rfl, by rfl⟩) h0 ?_
              try simp only [Act.put, lay_out]
              refine wpAnyH_take (i := 12) (v := undef) rfl (by kernel_rfl) (by kernel_rfl) (by kernel_rfl) (fun _ _ _ h => h) (.inr ⟨by rfl, by rfl⟩) h0 ?_
              try simp only [Act.put, lay_out]
              refine wpAnyH_take (i := 13) (v := undef) rfl (by kernel_rfl) (by kernel_rfl) (by kernel_rfl) (fun _ _ _ h => h) (.inr ⟨by rfl, by rfl⟩) h0 ?_
              try simp only [Act.put, lay_out]
              refine wpAnyH_take (i := 14) (v := undef) rfl (by kernel_rfl) (by kernel_rfl) (by kernel_rfl) (fun _ _ _ h => h) (.inr ⟨by rfl, by rfl⟩) h0 ?_
              try simp only [Act.put, lay_out]
              refine wpAnyH_take (i := 15) (v := undef) rfl (by kernel_rfl) (by kernel_rfl) (by kernel_rfl) (fun _ _ _ h => h) (.inr ⟨by rfl, by rfl⟩) h0 ?_
              try simp only [Act.put, lay_out]
              refine wpAnyH_take (i := 16) (v := .bool false) rfl (by kernel_rfl) (by kernel_rfl) (by kernel_rfl) (fun _ _ _ h => h) (.inl ⟨by rfl, fun w hw => by clear hw; go_simp⟩) h0 ?_
              try simp only [Act.put, lay_out]
              refine wpAnyH_done (by kernel_rfl) ?_ _
              refine NoPanic.normal ?_
              clear h0
              try simp only [Act.put, lay_out]
              go_wp2
              go_roundw
              case rel => exact ⟨i + 1, HIL.out, by rw [HN1.out]; have := HON.out; go_num, by go_num, HBD.out⟩
              case measure => have := HIL.out; simp [intOf]; omega
          · rw [if_neg hk] at hn
            have HN1 := hid hn
            have q7 : ((kd : Int) != 12) = true := by simpa using hk
            clear hop hn hle hle2 hvb hvi hkd hon hk hlt hi
            go_wp2
            go_roundw
            case rel => exact ⟨i + 1, HIL.out, by rw [HN1.out]; rfl, by go_num, HB.out⟩
            case measure => have := HIL.out; simp [intOf]; omega
        · obtain rfl : SL = i := by omega
          rw [HGE.out]
          have h64 := HK64.out
          have e7 : IntKind.i64.wrap ((kk : Int) + 7) = (kk : Int) + 7 := by rw [IntKind.wrap_i64]; omega
          have e8 : ((kk : Int) + 7).tdiv 8 = (((kk + 7) / 8 : Nat) : Int) := by rw [Int.tdiv_eq_ediv_of_nonneg (by omega)]; omega
          clear hlt hi HCT HOP HGN HGS HGO HVB
          go_wp2_with (go_at_call 14; (with_reducible refine (HAW.out _ (HFIN.out _ HB.out)).mono ?_); rintro e wz ⟨rfl, hb⟩; have HZ := hid ((HFIN.out _ HB.out).trans (hb.mono (HFIN.out _ HB.out).size)); clear hb)
          go_ret
          exact ⟨rfl, HZ.out⟩
end Go.Proofs.YtpjgpiieminaoaaDoor

/- A range over a function inside the widest fence: regions that draw are walked there by the plain words; a round is one lemma; the statement is another. -/
namespace Go.Proofs.YtpjgpiieminaoaaDoor
open Go.RowKit

/-- The widest fence, in a round or in none. -/
abbrev wideR (r : Option Nat) : Fence := { Fence.wide with round := r }
theorem callsR {r : Option Nat} {n : Nat} {P : Program} {f : FuncId} {args : Array Value} {w : World} {R : Ending → World → Prop} (h : Calls P f args w R) : CallsIn (wideR r) n P f args w R :=
  (callsIn_wide (n := n)).2 h
theorem rowsR {r : Option Nat} {n : Nat} {P : Program} {f : String} {args : Array Value} {w : World} {R : Value → World → Prop} (h : Rows P f args w R) : RowsIn (wideR r) n P f args w R :=
  fun c cs _ => let ⟨v, w', q, s⟩ := h c cs; ⟨v, w', q, (stepsIn_wide (P := P)).2 s⟩
theorem deepR {r : Option Nat} {n : Nat} : (wideR r).depth.isSome = true → 1 ≤ n := fun h => absurd h (by simp [Fence.wide])
section
variable {P : Program} {r : Option Nat} {n : Nat} {ops : Array Oper} {Q : Exit → Act → World → Prop}
theorem upon_R {o : Oper} {a : Act} {K : Act → World → Prop} {x : Result Next} (h : o.upon P a K Q x) : o.uponIn (wideR r) n P a K Q x := by
  cases x with
  | ok x w' =>
    cases x with
    | enter f args => exact ⟨deepR, callsR h⟩
    | row f args => exact ⟨deepR, rowsR h⟩
    | round l f t s b => exact h.elim
    | _ => exact h
  | halt x w' => cases x <;> exact h
theorem opIn_R {i : Nat} {K K' : Act → World → Prop} {a : Act} {w : World} (hd : ∀ (j : Nat) (o : Oper), ops[j]? = some o → ∀ c, o.op ≠ .defer c) (hQ : ∀ a w, ¬ Q .outgrown a w) (hK : ∀ a w, K a w → K' a w)
    (h : wpOp P ops Q i K a w) : wpOpIn (wideR r) n P ops Q i K' a w := by
  have h := wpOp_mono hK h
  unfold wpOp at h
  unfold wpOpIn
  cases ho : ops[i]? with
  | none => rw [ho] at h; exact h
  | some o =>
    rw [ho] at h
    simp only at h ⊢
    by_cases hw : Region.wanted o (yielded ops a.tmps) = true
    · rw [if_pos hw] at h ⊢
      refine ⟨fun _ _ => trivial, ?_⟩
      rw [Oper.semAt_eq _ _ _ (hd i o ho)]
      rcases h with h | ⟨_, a', w', h⟩
      · exact upon_R h
      · exact absurd h (hQ _ _)
    · rw [if_neg hw] at h ⊢
      exact ⟨fun _ _ => trivial, h⟩
theorem anyIn_R (hd : ∀ (j : Nat) (o : Oper), ops[j]? = some o → ∀ c, o.op ≠ .defer c) (hQ : ∀ a w, ¬ Q .outgrown a w) {md : Region.Mode} : ∀ (fuel : Nat) (listed : Array Bool) (a : Act) (w : World), wpAny P md ops Q fuel listed a w → wpAnyIn (wideR r) n P md ops Q fuel listed a w
  | 0, _, _, _, h => h
  | fuel + 1, _, _, _, h => ⟨h.1, fun i hi => opIn_R hd hQ (fun a w q => anyIn_R hd hQ fuel _ a w q) (h.2 i hi)⟩
/-- What is wanted of a region: that it comes to its end. -/
def nrm (Q : Exit → Act → World → Prop) : Exit → Act → World → Prop := Exit.then (fun a w => Q .normal a w) (fun _ _ _ => False)
theorem nrm_in {c : Code} {a : Act} {w : World} (h : c.wpIn (wideR r) n P (nrm Q) a w) : c.wpIn (wideR r) n P Q a w :=
  wpIn_mono h fun e _ _ q => by cases e <;> first | exact q | exact q.elim
theorem noDefer (hd : ops.all (fun o => match o.op with | .defer _ => false | _ => true) = true) (j : Nat) (o : Oper) (ho : ops[j]? = some o) (c : Call) : o.op ≠ .defer c := fun hc => by
  obtain ⟨hj, ho'⟩ := Array.getElem?_eq_some_iff.1 ho
  have h1 := (Array.all_eq_true.1 hd) j hj
  rw [ho', hc] at h1
  cases h1
end

/-- How a round may be left, and what is wanted then. -/
def endPost (l : Nat) (rec : Loop) (R : Ending → World → Prop) : Exit → Act → World → Prop
  | .normal, _, w => w.heap[l]? = some (.loop { rec with state := .busy }) ∧ R (.returned (.bool true)) (w.putObj l (.loop { rec with state := .ready, pending := none }))
  | .exit id, _, w => w.heap[l]? = some (.loop { rec with state := .busy }) ∧ R (.returned (.bool false)) (w.putObj l (.loop { rec with state := .done, pending := some (.exit id) }))
  | .ret, _, w => w.heap[l]? = some (.loop { rec with state := .busy }) ∧ R (.returned (.bool false)) (w.putObj l (.loop { rec with state := .done, pending := some .ret }))
  | .goto _, _, _ => False
  | .panic _, _, _ => False
  | .outgrown, _, _ => False
/-- A call of yield: the loop's left side, then its body, in a round. -/
theorem round_wide {P : Program} {m l : Nat} {rec : Loop} {args : Array Value} {W : World} {R : Ending → World → Prop} {tmps : Array Value} {ps : Array Tmp} {assign body : Code} (hl : W.heap[l]? = some (.loop rec)) (hr : rec.state = .ready)
    (h2 : rec.tmps = tmps) (h3 : rec.params = ps) (h4 : rec.assign = assign) (h5 : rec.body = body) (hs : args.size = ps.size)
    (h : assign.wpIn (wideR (some l)) m P (Exit.then (fun a₁ w₁ => w₁.heap[l]? = some (.loop rec) ∧ body.wpIn (wideR (some l)) m P (endPost l rec R) a₁ (w₁.putObj l (.loop { rec with state := .busy }))) (fun _ _ _ => False))
      { tmps := (ps.zip args).foldl (fun t (p, v) => t.setIfInBounds p v) tmps, defers := [] } W) :
    YieldAt Fence.wide m P l args W R := by
  subst h2 h3 h4 h5
  refine ⟨_, _, _, _, run_yield hl hs, roundIn_of_wpIn trivial (wpIn_mono h ?_)⟩
  intro e a w hq
  cases e with
  | normal =>
    refine ⟨_, run_beginRound hq.1 hr, wpIn_mono hq.2 ?_⟩
    intro e a w hq
    cases e with
    | normal => exact ⟨_, _, run_endRound none hq.1, hq.2⟩
    | exit id => exact ⟨_, _, run_endRound (some (.exit id)) hq.1, hq.2⟩
    | ret => exact ⟨_, _, run_endRound (some .ret) hq.1, hq.2⟩
    | _ => exact hq.elim
  | _ => exact hq.elim
/-- The statement: the function that is ranged over is called, with the loop's record laid ahead of it. -/
theorem range_wide {P : Program} {n : Nat} {g : Operand} {ps : Array Tmp} {assign body : Code} {Q : Exit → Act → World → Prop} {a : Act} {w : World} {gf : Nat} {lb : Array Value} (l : Nat) (hl : w.heap.size + 1 = l)
    (hg : a.eval g = .func (.func gf) #[] lb) (eg : ∀ args w, (callFunc gf args).run P w = .ok (.enter gf args) w)
    (h : ∀ rec : Loop, rec.state = .ready → rec.pending = none → rec.tmps = a.tmps → rec.params = ps → rec.assign = assign → rec.body = body →
      Calls P gf (#[.func (.yield l) #[] #[]] ++ lb) ((w.alloc (.deferred (some []))).alloc (.loop rec)) fun e w' =>
      ∃ v rec, e = .returned v ∧ w'.heap[l]? = some (.loop rec) ∧ rec.state ≠ .busy ∧
        (match rec.pending with
        | none => Q .normal { a with defers := { target := .collected w.heap.size, args := #[] } :: a.defers } (w'.putObj l (.loop { rec with state := .exhausted }))
        | some c => c.wpIn Fence.wide n P Q { a with defers := { target := .collected w.heap.size, args := #[] } :: a.defers } (w'.putObj l (.loop { rec with state := .exhausted })))) :
    (Code.rangeFunc g ps assign body).wpIn Fence.wide n P Q a w := by
  subst hl
  refine wpIn_rangeFunc fun fn _ => ?_
  obtain ⟨rec, hrec⟩ : ∃ rec : Loop, { state := .ready, pending := none, fn, tmps := a.tmps, params := ps, assign, body, defers := w.heap.size } = rec := ⟨_, rfl⟩
  have h := h rec (by rw [← hrec]) (by rw [← hrec]) (by rw [← hrec]) (by rw [← hrec]) (by rw [← hrec]) (by rw [← hrec])
  have he := run_enterLoop_outer (P := P) (w := w) fn a.tmps ps assign body
  rw [hrec] at he
  obtain ⟨W1, hW1⟩ : ∃ W1, (w.alloc (.deferred (some []))).alloc (.loop rec) = W1 := ⟨_, rfl⟩
  rw [hW1] at h he
  refine ⟨w.heap.size + 1, [{ target := .collected w.heap.size, args := #[] }], W1, { target := .fn (.func gf) lb, args := #[.func (.yield (w.heap.size + 1)) #[] #[]] }, W1, gf, #[.func (.yield (w.heap.size + 1)) #[] #[]] ++ lb, W1, he, ?_, fun _ _ => trivial, ?_, deepR (r := none), ?_⟩
  · simp only [resolve, hg]
    simp [go_sem]
  · simp [invoke, go_sem, eg]
  · refine (callsIn_wide.2 h).mono ?_
    rintro e w' ⟨v, rec, rfl, hl, hb, hq⟩
    exact ⟨rec.pending, _, run_endLoop hl hb, hq⟩
end Go.Proofs.YtpjgpiieminaoaaDoor

/- Boxes of any kind beside two machines, turned wherever they stand; a row of bytes that may be nil; a region that draws and ends in a store, in a round. -/
namespace Go.Proofs.YtpjgpiieminaoaaDoor
open Go.RowKit Go.Deep
set_option maxRecDepth 100000
section
variable {Pm : World → Nat → Ms → (Nat → Prop) → Prop} {lo : Nat} {X0 : Nat → Prop} {W w0 wx wy : World} {p b : Nat} {S1 S2 : Ms} {bs l r : List (Nat × Obj)}
theorem Gy.newO (hM : Mach Pm) (h : Gy Pm lo X0 W w0 wx p b S1 S2 bs) (o : Obj) : Gy Pm lo X0 W w0 (wx.alloc o) p b S1 S2 ((wx.heap.size, o) :: bs) := by
  have hb := (Below.refl wx.heap.size wx).alloc (Nat.le_refl _) o
  have h' := h.self hM hb
  refine ⟨(h.z.more hM hb).less (fun k hk => ?_), fun q hq => ?_, h'.st, h.lo, h'.le, ?_⟩
  · rcases hk with e | ⟨q, hq, rfl⟩
    · exact .inl (.inl e)
    · rcases List.mem_cons.1 hq with rfl | hq
      · exact .inr ⟨Nat.le_refl _, by simp⟩
      · exact .inl (.inr ⟨q, hq, rfl⟩)
  · rcases List.mem_cons.1 hq with rfl | hq
    · exact ⟨h.le, heap_alloc_new _ _⟩
    · exact h'.bx q hq
  · rw [List.map_cons, List.nodup_cons]
    refine ⟨fun e => ?_, h.nd⟩
    obtain ⟨q, hq, e⟩ := List.mem_map.1 e
    have := h.lt hq
    have e' : q.1 = wx.heap.size := e
    omega
theorem Gy.perm {bs' : List (Nat × Obj)} (h : Gy Pm lo X0 W w0 wx p b S1 S2 bs) (hp : bs'.Perm bs) : Gy Pm lo X0 W w0 wx p b S1 S2 bs' :=
  h.sub (fun _ hz => hp.mem_iff.1 hz) ((hp.map _).nodup_iff.2 h.nd)
/-- A box is turned, wherever it stands. -/
theorem Gy.turnMid (hM : Mach Pm) {n : Nat} {o o' : Obj} (h : Gy Pm lo X0 W w0 wx p b S1 S2 (l ++ (n, o) :: r)) (hn : wy.heap[n]? = some o') (ho : ∀ k, k ≠ n → wy.heap[k]? = wx.heap[k]?) (hs : wx.heap.size ≤ wy.heap.size) (hos : wy.os = wx.os ∧ wy.tape = wx.tape ∧ wy.output = wx.output) : Gy Pm lo X0 W w0 wy p b S1 S2 (l ++ (n, o') :: r) :=
  (Gy.turn hM (h.perm List.perm_middle.symm) hn ho hs hos).perm List.perm_middle
theorem Gy.putMid (hM : Mach Pm) {n : Nat} {o : Obj} (h : Gy Pm lo X0 W w0 wx p b S1 S2 (l ++ (n, o) :: r)) (o' : Obj) : Gy Pm lo X0 W w0 (wx.putObj n o') p b S1 S2 (l ++ (n, o') :: r) :=
  h.turnMid hM (World.putObj_heap_same (h.lt (List.mem_append_right _ (List.mem_cons_self ..)))) (fun k hk => World.putObj_heap_other hk) (Nat.le_of_eq World.putObj_size.symm) ⟨rfl, rfl, rfl⟩
theorem Gy.cellMid (hM : Mach Pm) {n : Nat} {cs : Array Value} {T : TypeId} (h : Gy Pm lo X0 W w0 wx p b S1 S2 (l ++ (n, .cells cs T (0, 0)) :: r)) (i : Nat) (v : Value) : Gy Pm lo X0 W w0 (wx.setCell ⟨n, i, none⟩ v) p b S1 S2 (l ++ (n, .cells (cs.setIfInBounds i v) T (0, 0)) :: r) :=
  h.turnMid hM (heap_setCell_same wx n i cs T v (h.bx _ (List.mem_append_right _ (List.mem_cons_self ..))).2) (fun k hk => heap_setCell_other wx ⟨n, i, none⟩ k v hk) (by simp [World.setCell]) ⟨rfl, rfl, rfl⟩
/-- A row that may be nil: its box, if it has one. -/
def Orb (E : TypeId) (v : Value) (n : Nat) (f : Nat → Nat) (l : List (Nat × Obj)) : Prop :=
  v = .slice none 0 0 ∧ n = 0 ∧ l = [] ∨ ∃ g o, BoB E v n f g o ∧ l = [(g, o)]
theorem Orb.row {E : TypeId} {v : Value} {n : Nat} {f : Nat → Nat} {l : List (Nat × Obj)} {w : World} (h : Orb E v n f l) (hb : ∀ q ∈ l, w.heap[q.1]? = some q.2) : w.ownsRow 0 E 1 v n ((ns n f).map (Value.int .u8)) := by
  rcases h with ⟨rfl, rfl, rfl⟩ | ⟨g, o, h, rfl⟩
  · exact ⟨rfl, .inl ⟨rfl, rfl⟩⟩
  · exact h.row (hb (g, o) (List.mem_singleton.2 rfl))
end
/-- A region that draws, with a store K: what T tells holds ahead of it. In a round or in none. -/
theorem region_Rt {r : Option Nat} {n : Nat} {P : Program} {ops : Array Oper} {Q : Exit → Act → World → Prop} {id : Nat} {a : Act} {w : World} (S T : World → Prop) (K : Nat) (hm : P.follows .mixedOrders = true) (hd : ops.all (fun o => match o.op with | .defer _ => false | _ => true) = true) (hS : S w.drew ∧ T w.drew)
    (h : S w.drew ∧ T w.drew → wpAnyT P .any ops (nrm Q) S T K ops.size (Array.replicate ops.size false) a w.drew) : (Code.region id ops true).wpIn (wideR r) n P Q a w :=
  nrm_in (wpIn_region_any hm (anyIn_R (noDefer hd) (fun _ _ h => h) _ _ _ _ (wpAny_of_t _ _ _ _ (h hS))))
end Go.Proofs.YtpjgpiieminaoaaDoor
