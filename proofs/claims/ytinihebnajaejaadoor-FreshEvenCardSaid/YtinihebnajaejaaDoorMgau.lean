import Derived.Test.YtinihebnajaejaaDoorProg
import Derived.Test.YtinihebnajaejaaDoorMgat
import Derived.Test.YtinihebnajaejaaDoorMgah
/- Fresh: FreshEven over any machine. -/
namespace Go.Proofs.YtinihebnajaejaaDoor
open Go.RowKit
set_option maxRecDepth 100000
/-- Boxes that are a walk's own. -/
structure Bx (lo : Nat) (W w : World) (bs : List (Nat × Obj)) : Prop where
  low : Below lo W w
  los : lo ≤ w.heap.size
  bx : ∀ q ∈ bs, lo ≤ q.1 ∧ w.heap[q.1]? = some q.2
  nd : (bs.map (·.1)).Nodup
section
variable {lo : Nat} {W w w' : World} {bs : List (Nat × Obj)}
theorem Bx.start (W : World) : Bx W.heap.size W W [] := ⟨Below.refl _ _, Nat.le_refl _, fun q hq => (List.not_mem_nil hq).elim, by simp⟩
theorem Bx.lt (h : Bx lo W w bs) {q : Nat × Obj} (hq : q ∈ bs) : q.1 < w.heap.size := (Array.getElem?_eq_some_iff.1 (h.bx q hq).2).1
theorem Bx.self (h : Bx lo W w bs) (hb : Below w.heap.size w w') : Bx lo W w' bs :=
  ⟨h.low.trans (hb.mono h.los), Nat.le_trans h.los hb.size, fun q hq => ⟨(h.bx q hq).1, (hb.block _ (h.lt hq)).trans (h.bx q hq).2⟩, h.nd⟩
theorem Bx.new (h : Bx lo W w bs) (cs : Array Value) (T : TypeId) : Bx lo W (w.alloc (.cells cs T)) ((w.heap.size, .cells cs T (0, 0)) :: bs) := by
  have h' := h.self ((Below.refl w.heap.size w).alloc (Nat.le_refl _) (.cells cs T))
  refine ⟨h'.low, h'.los, fun q hq => ?_, ?_⟩
  · rcases List.mem_cons.1 hq with rfl | hq
    · exact ⟨h.los, heap_alloc_new _ _⟩
    · exact h'.bx q hq
  · rw [List.map_cons, List.nodup_cons]
    refine ⟨fun e => ?_, h.nd⟩
    obtain ⟨q, hq, e⟩ := List.mem_map.1 e
    have := h.lt hq
    have e' : q.1 = w.heap.size := e
    omega
theorem Bx.sub {bs' : List (Nat × Obj)} (h : Bx lo W w bs) (hs : ∀ q ∈ bs', q ∈ bs) (hn : (bs'.map (·.1)).Nodup) : Bx lo W w bs' := ⟨h.low, h.los, fun q hq => h.bx q (hs q hq), hn⟩
theorem Bx.drop {q : Nat × Obj} (h : Bx lo W w (q :: bs)) : Bx lo W w bs := h.sub (fun _ hz => List.mem_cons_of_mem _ hz) (by have := h.nd; rw [List.map_cons, List.nodup_cons] at this; exact this.2)
theorem Bx.swap {q r : Nat × Obj} (h : Bx lo W w (q :: r :: bs)) : Bx lo W w (r :: q :: bs) := h.sub (fun z hz => by simp at hz ⊢; rcases hz with e | e | e <;> simp [e]) (by
  have := h.nd
  simp only [List.map_cons, List.nodup_cons, List.mem_cons, not_or] at this ⊢
  exact ⟨⟨fun e => this.1.1 e.symm, this.2.1⟩, this.1.2, this.2.2⟩)
theorem Bx.cell {n : Nat} {cs : Array Value} {T : TypeId} (h : Bx lo W w ((n, .cells cs T (0, 0)) :: bs)) (i : Nat) (v : Value) : Bx lo W (w.setCell ⟨n, i, none⟩ v) ((n, .cells (cs.setIfInBounds i v) T (0, 0)) :: bs) := by
  have hb := h.bx _ (List.mem_cons_self ..)
  have hnd := h.nd
  rw [List.map_cons, List.nodup_cons] at hnd
  have hT : Tch (fun k => k = n) w (w.setCell ⟨n, i, none⟩ v) := Tch.set w v rfl
  refine ⟨h.low.trans (hT.below (fun k hk => by have e : k = n := hk; rw [e]; exact hb.1) h.los), by simpa [World.setCell] using h.los, fun q hq => ?_, ?_⟩
  · rcases List.mem_cons.1 hq with rfl | hq
    · exact ⟨hb.1, heap_setCell_same w n i cs T v hb.2⟩
    · exact ⟨(h.bx q (List.mem_cons_of_mem _ hq)).1, (heap_setCell_other w ⟨n, i, none⟩ q.1 v (fun e => hnd.1 (List.mem_map.2 ⟨q, hq, e⟩))).trans (h.bx q (List.mem_cons_of_mem _ hq)).2⟩
  · rw [List.map_cons, List.nodup_cons]; exact hnd
theorem Bx.bl (h : Bx lo W w bs) (i : Nat) {n : Nat} {u : Obj} (hi : bs[i]? = some (n, u)) : w.heap[n]? = some u := (h.bx (n, u) (List.mem_of_getElem? hi)).2
end
/-- A row of words stays where a box of ints is stored into. -/
theorem rd_cell {w : World} {v : Value} {zs : List Int} {b n i : Nat} {f : Nat → Nat} {t : TypeId} {x : Value} (h : Rd .u64 w v zs) (hb : w.heap[b]? = some (.cells (ia n f) t (0, 0))) : Rd .u64 (w.setCell ⟨b, i, none⟩ x) v zs := by
  obtain ⟨a, cap, h1, h2, h3, h4⟩ := h
  refine ⟨a, cap, h1, h2, h3, fun hp => ?_⟩
  obtain ⟨g, off, e, hg, hc⟩ := h4 hp
  have hne : g ≠ b := fun e => by
    subst e
    have c0 := hc 0 hp
    rw [cell_of_row w g (off + 0) _ _ _ hb] at c0
    by_cases ho : off + 0 < n
    · rw [ia_get f ho] at c0; simp at c0
    · rw [Array.getElem?_eq_none (by rw [ia_size]; omega)] at c0; exact absurd c0 (by simp)
  refine ⟨g, off, e, by simpa [World.setCell] using hg, fun j hj => ?_⟩
  have := hc j hj
  unfold World.cell? at this ⊢
  rw [heap_setCell_other w ⟨b, i, none⟩ g x hne]
  exact this
set_option maxHeartbeats 25600000 in
theorem feven2_core {Pm : World → Nat → Ms → (Nat → Prop) → Prop} (hM : Mach Pm) (hN : MachN Pm) (B O : Nat) (hB : B < 256) (hO : O < 256) (W : World) (hp : Pv W) :
    Calls Tryd.prog 4 #[.bool false, .int .u8 (B : Int), .int .u8 (O : Int)] W fun e w' => e = .returned (.bool true) ∧ Below W.heap.size W w' := by
  have HBI : Hid (∀ (k : Nat) (w : World), k < 8 → Calls Tryd.prog 19 #[.int .i64 (k : Int), .int .i64 1] w fun e w' => ∃ v, e = .returned v ∧ RdS .u64 w' (fun g => g < w'.heap.size) v (wdL (twK k) 1) ∧ Below w.heap.size w w') := hid (fun k w hk => fbits_any k 1 hk (by decide) w)
  have HRN : Hid (∀ (k : Nat) (sm : Bool) (w : World) (mv : Value), k < 8 → Pv w → RdS .u64 w (fun g => g < w.heap.size) mv (wdL (twK k) 1) → Calls Tryd.prog 18 #[.int .i64 2, .int .u8 (B : Int), mv, .bool sm] w fun e w' => ∃ v, e = .returned (.tuple #[v, .agg (wdV (evR 2 k B sm)), .bool true]) ∧ Rd .u64 w' v (wdL (evS 2 k B sm).v (evS 2 k B sm).L) ∧ Below w.heap.size w w') := hid (fun k sm w mv hk hp hR => frun_any hM hN 2 k B sm (by decide) hk hB mv w hp hR)
  have HOK := hid (fun (k : Nat) (sm : Bool) (hk : k < 8) => (ev_ok (n := 2) (k := k) (B := B) (by decide) hk sm).2)
  have HAW := hid (fun w (h : Pv w) => fawake_any hM hN w h)
  have HPV := hid hp
  have HPW : Hid (∀ w' bs, Bx W.heap.size W w' bs → Pv w') := hid (fun w' bs h => hp.stays h.low.size (h.low.block _ hp.1))
  obtain ⟨B8, hB8⟩ : ∃ B8, B % 8 = B8 := ⟨_, rfl⟩
  obtain ⟨o, ho⟩ : ∃ o, O % 2 = o := ⟨_, rfl⟩
  have HO : Hid (o < 2) := hid (by rw [← ho]; exact Nat.mod_lt _ (by decide))
  have HEV := hid (even2 B8 (by rw [← hB8]; exact Nat.mod_lt _ (by decide)) o HO.out)
  rw [hB8] at HOK
  have eo : ((O : Int)).tmod 2 = (o : Int) := by rw [Int.tmod_eq_emod_of_nonneg (by omega)]; omega
  have eO : IntKind.i64.wrap (O : Int) = (O : Int) := by rw [IntKind.wrap_i64]; omega
  have H1 := hid (((Bx.start W).new (ia 8 (cntB 2 B8 o 0)) 50).new (ia 6 (alnB 2 B8 0)) 51)
  have HS1 : Hid ((W.alloc (.cells (ia 8 (cntB 2 B8 o 0)) 50)).heap.size = W.heap.size + 1) := hid (sz_al _ _)
  rw [HS1.out] at H1
  have HZ8 : Hid (ia 8 (cntB 2 B8 o 0) = #[.int .i64 0, .int .i64 0, .int .i64 0, .int .i64 0, .int .i64 0, .int .i64 0, .int .i64 0, .int .i64 0]) := hid rfl
  have HZ6 : Hid (ia 6 (alnB 2 B8 0) = #[.int .i64 0, .int .i64 0, .int .i64 0, .int .i64 0, .int .i64 0, .int .i64 0]) := hid rfl
  obtain ⟨w1, hw1⟩ : ∃ w1, (W.alloc (.cells (ia 8 (cntB 2 B8 o 0)) 50)).alloc (.cells (ia 6 (alnB 2 B8 0)) 51) = w1 := ⟨_, rfl⟩
  rw [hw1] at H1
  rw [HZ8.out, HZ6.out] at hw1
  have HW := hid hw1
  clear hw1 HS1 ho hB8 hp hB hO HZ8 HZ6
  go_enter Tryd.func4, Tryd.ntmps4
  go_upto_region 6 with fail
  rw [HW.out]
  go_wp2
  go_loopw [11] (fun iv wr => ∃ k : Nat, k ≤ 2 ∧ iv = .int .i64 k ∧ Bx W.heap.size W wr [(W.heap.size + 1, .cells (ia 6 (alnB 2 B8 k)) 51 (0, 0)), (W.heap.size, .cells (ia 8 (cntB 2 B8 o k)) 50 (0, 0))]) (fun iv _ => 2 - (intOf iv).toNat)
  case atStart => exact ⟨0, by omega, rfl, H1.out⟩
  case round =>
    clear H1
    obtain ⟨k, hk, rfl, hI⟩ := hrel
    have HI := hid hI
    clear hI
    by_cases hlt : k < 2
    · have q0 : decide ((k : Int) < 8) = true := decide_eq_true (by omega)
      have q1 : decide ((k : Int) < 2) = true := decide_eq_true (by omega)
      have HK8 : Hid (k < 8) := hid (by omega)
      have HBK := hid (fun w => HBI.out k w HK8.out)
      have HRF := hid (fun w mv hp hR => HRN.out k false w mv HK8.out hp hR)
      have HRT := hid (fun w mv hp hR => HRN.out k true w mv HK8.out hp hR)
      have HOF := hid (HOK.out k false HK8.out)
      have HOT := hid (HOK.out k true HK8.out)
      obtain ⟨RF, hRF⟩ : ∃ RF, evR 2 k B false = RF := ⟨_, rfl⟩
      obtain ⟨RT, hRT⟩ : ∃ RT, evR 2 k B true = RT := ⟨_, rfl⟩
      rw [hRF] at HRF HOF
      rw [hRT] at HRT HOT
      clear hRF hRT
      generalize evS 2 k B false = SF at *
      generalize evS 2 k B true = ST at *
      go_upto_region 10 with (first
        | (go_at_call 19; (with_reducible refine (HBK.out _).mono ?_); rintro e w2 ⟨mv, rfl, hR, hb⟩; have HM2 := hid hR; have H2 := hid (HI.out.self hb); clear hR hb)
        | (go_at_call 18; (with_reducible refine (HRF.out _ _ (HPW.out _ _ H2.out) HM2.out).mono ?_); rintro e w3 ⟨vF, rfl, hv, hb⟩; have VF := hid hv; have H3 := hid (H2.out.self hb); clear hv hb))
      have H4 := hid (H3.out.new (wdV RF) 34).swap
      have VF4 := hid (VF.out.self ((Below.refl w3.heap.size w3).alloc (Nat.le_refl _) (.cells (wdV RF) 34)))
      obtain ⟨b13, hb13⟩ : ∃ b13, w3.heap.size = b13 := ⟨_, rfl⟩
      rw [hb13] at H4
      generalize w3.alloc (.cells (wdV RF) 34) = w4 at *
      rw [hb13]
      clear hb13 H2 HM2 H3 VF
      go_upto_region 11 with (first
        | (go_at_call 19; (with_reducible refine (HBK.out _).mono ?_); rintro e w5 ⟨mv2, rfl, hR, hb⟩; have HM5 := hid hR; have H5 := hid (H4.out.self hb); have VF5 := hid (VF4.out.self hb); clear hR hb)
        | (go_at_call 18; (with_reducible refine (HRT.out _ _ (HPW.out _ _ H5.out) HM5.out).mono ?_); rintro e w6 ⟨vT, rfl, hv, hb⟩; have VT := hid hv; have H6 := hid (H5.out.self hb); have VF6 := hid (VF5.out.self hb); clear hv hb))
      have H7 := hid (H6.out.new (wdV RT) 34).swap
      have VF7 := hid (VF6.out.self ((Below.refl w6.heap.size w6).alloc (Nat.le_refl _) (.cells (wdV RT) 34)))
      have VT7 := hid (VT.out.self ((Below.refl w6.heap.size w6).alloc (Nat.le_refl _) (.cells (wdV RT) 34)))
      obtain ⟨b16, hb16⟩ : ∃ b16, w6.heap.size = b16 := ⟨_, rfl⟩
      rw [hb16] at H7
      generalize w6.alloc (.cells (wdV RT) 34) = w7 at *
      rw [hb16]
      clear hb16 H4 H5 HM5 H6 VF4 VF5 VF6 VT
      go_wp2
      obtain ⟨wo, hwo⟩ : ∃ wo, wr = wo := ⟨_, rfl⟩
      subst hwo
      go_loopw [18, 19] (fun rv iv wr => ∃ i : Nat, i ≤ 2 ∧ iv = .int .i64 i ∧ rv = .int .i64 (rowB 2 B8 o k i : Nat) ∧ Bx W.heap.size W wr [(W.heap.size + 1, .cells (ia 6 (alnI 2 B8 k (alnB 2 B8 k) i)) 51 (0, 0)), (b16, .cells (wdV RT) 34 (0, 0)), (b13, .cells (wdV RF) 34 (0, 0)), (W.heap.size, .cells (ia 8 (cntB 2 B8 o k)) 50 (0, 0))] ∧ Rd .u64 wr vF (wdL SF.v SF.L) ∧ Rd .u64 wr vT (wdL ST.v ST.L)) (fun _ iv _ => 2 - (intOf iv).toNat)
      case atStart => exact ⟨0, by omega, rfl, rfl, (show Bx W.heap.size W w7 [(W.heap.size + 1, .cells (ia 6 (alnI 2 B8 k (alnB 2 B8 k) 0)) 51 (0, 0)), _, _, _] from H7.out), VF7.out, VT7.out⟩
      case round =>
        obtain ⟨i, hi, rfl, rfl, hJ, hVF, hVT⟩ := hrel
        have HJ := hid hJ
        have VF := hid hVF
        have VT := hid hVT
        clear hJ hVF hVT VF7 VT7 H7
        by_cases hin : i < 2
        · obtain ⟨qF, eF, lF, vFq⟩ := HOF.out i hin
          obtain ⟨qT, eT, lT, vTq⟩ := HOT.out i hin
          have i0 : (0 : Int) ≤ (i : Int) := by omega
          have i3 : (i : Int) < 3 := by omega
          have in_ : (i : Int) < 2 := by omega
          have HBF : Hid (∀ w, Rd .u64 w vF (wdL SF.v SF.L) → Calls Tryd.prog 20 #[vF, .int .i64 (qF : Int)] w fun e w' => e = .returned (.int .u64 ((fb 2 B8 k false i : Nat) : Int)) ∧ w' = w) := hid (fun w h => by have := fbit_any vF _ _ qF w h lF; rw [vFq] at this; exact this)
          have HBT : Hid (∀ w, Rd .u64 w vT (wdL ST.v ST.L) → Calls Tryd.prog 20 #[vT, .int .i64 (qT : Int)] w fun e w' => e = .returned (.int .u64 ((fb 2 B8 k true i : Nat) : Int)) ∧ w' = w) := hid (fun w h => by have := fbit_any vT _ _ qT w h lT; rw [vTq] at this; exact this)
          have cF := row_c (i := i) (HJ.out.bl 2 rfl) (wdV_at RF i (by omega))
          have cT := row_c (i := i) (HJ.out.bl 1 rfl) (wdV_at RT i (by omega))
          rw [eF] at cF
          rw [eT] at cT
          have hrow := row_lt (n := 2) (B := B8) (o := o) (k := k) (i := i) (by omega)
          have hp8 : 2 ^ i ≤ 8 := by rcases (by omega : i = 0 ∨ i = 1 ∨ i = 2) with rfl | rfl | rfl <;> decide
          have hfF := fb_lt 2 B8 k false i
          have hfT := fb_lt 2 B8 k true i
          have hal := alnI_le (n := 2) (B := B8) (k := k) (f := alnB 2 B8 k) (m := 2 * k) (fun j => aln_le j) (i := i) (2 * i + fb 2 B8 k true i)
          have hix : 2 * i + fb 2 B8 k true i < 6 := by omega
          have cA := row_c (i := 2 * i + fb 2 B8 k true i) (HJ.out.bl 0 rfl) (ia_get _ hix)
          have fA := frozen_of_row wr (W.heap.size + 1) (2 * i + fb 2 B8 k true i) _ _ (HJ.out.bl 0 rfl)
          have HRS : Hid (rowB 2 B8 o k (i + 1) = if i = o then rowB 2 B8 o k i else rowB 2 B8 o k i * 2 + fb 2 B8 k false i) := hid rfl
          have HAS : Hid (ia 6 (alnI 2 B8 k (alnB 2 B8 k) (i + 1)) = (ia 6 (alnI 2 B8 k (alnB 2 B8 k) i)).setIfInBounds (2 * i + fb 2 B8 k true i) (.int .i64 ((alnI 2 B8 k (alnB 2 B8 k) i (2 * i + fb 2 B8 k true i) + 1 : Nat) : Int))) := hid (by rw [ia_set]; rfl)
          have e1 : IntKind.i64.wrap (2 * (i : Int)) = ((2 * i : Nat) : Int) := by rw [IntKind.wrap_i64]; omega
          have e2 : IntKind.i64.wrap ((fb 2 B8 k true i : Nat) : Int) = ((fb 2 B8 k true i : Nat) : Int) := by rw [IntKind.wrap_i64]; omega
          have e3 : IntKind.i64.wrap (((2 * i : Nat) : Int) + ((fb 2 B8 k true i : Nat) : Int)) = ((2 * i + fb 2 B8 k true i : Nat) : Int) := by rw [IntKind.wrap_i64]; omega
          have e4 : IntKind.i64.wrap (((alnI 2 B8 k (alnB 2 B8 k) i (2 * i + fb 2 B8 k true i) : Nat) : Int) + 1) = ((alnI 2 B8 k (alnB 2 B8 k) i (2 * i + fb 2 B8 k true i) + 1 : Nat) : Int) := by rw [IntKind.wrap_i64]; omega
          have e5 : IntKind.i64.wrap ((rowB 2 B8 o k i : Nat) * 2 : Int) = ((rowB 2 B8 o k i * 2 : Nat) : Int) := by rw [IntKind.wrap_i64]; omega
          have e6 : IntKind.i64.wrap ((fb 2 B8 k false i : Nat) : Int) = ((fb 2 B8 k false i : Nat) : Int) := by rw [IntKind.wrap_i64]; omega
          have e7 : IntKind.i64.wrap (((rowB 2 B8 o k i * 2 : Nat) : Int) + ((fb 2 B8 k false i : Nat) : Int)) = ((rowB 2 B8 o k i * 2 + fb 2 B8 k false i : Nat) : Int) := by rw [IntKind.wrap_i64]; omega
          have g0 : (0 : Int) ≤ ((2 * i + fb 2 B8 k true i : Nat) : Int) := by omega
          have g6 : ((2 * i + fb 2 B8 k true i : Nat) : Int) < 6 := by omega
          obtain ⟨a1, ha1⟩ : ∃ a1, alnI 2 B8 k (alnB 2 B8 k) i (2 * i + fb 2 B8 k true i) + 1 = a1 := ⟨_, rfl⟩
          rw [ha1] at HAS e4
          generalize alnI 2 B8 k (alnB 2 B8 k) i (2 * i + fb 2 B8 k true i) = a0 at *
          obtain ⟨ix, hix2⟩ : ∃ ix, 2 * i + fb 2 B8 k true i = ix := ⟨_, rfl⟩
          rw [hix2] at cA fA HAS e3 g0 g6
          obtain ⟨i2, hi2⟩ : ∃ i2, 2 * i = i2 := ⟨_, rfl⟩
          rw [hi2] at e1 e3
          obtain ⟨r3, hr3⟩ : ∃ r3, rowB 2 B8 o k i * 2 + fb 2 B8 k false i = r3 := ⟨_, rfl⟩
          rw [hr3] at e7 HRS
          obtain ⟨r2, hr2⟩ : ∃ r2, rowB 2 B8 o k i * 2 = r2 := ⟨_, rfl⟩
          rw [hr2] at e5 e7
          obtain ⟨r1, hr1⟩ : ∃ r1, rowB 2 B8 o k i = r1 := ⟨_, rfl⟩
          rw [hr1] at e5 HRS ⊢
          generalize fb 2 B8 k false i = fF at *
          generalize fb 2 B8 k true i = fT at *
          clear hrow hp8 hfF hfT hal hix ha1 hix2 hi2 hr3 hr2 hr1 eF eT lF lT vFq vTq
          by_cases hio : i = o
          · have q2 : ((i : Int) != (o : Int)) = false := by simp; omega
            rw [if_pos hio] at HRS
            clear hio
            go_wp2_with (first
              | (go_at_call 20; (with_reducible refine (HBT.out _ VT.out).mono ?_); rintro e wz ⟨rfl, rfl⟩)
              | (go_at_call 20; (with_reducible refine (HBF.out _ VF.out).mono ?_); rintro e wz ⟨rfl, rfl⟩))
            go_roundw
            case rel => exact ⟨i + 1, by omega, by go_num, by rw [HRS.out], by rw [HAS.out]; exact HJ.out.cell ix (.int .i64 (a1 : Int)), rd_cell VF.out (HJ.out.bl 0 rfl), rd_cell VT.out (HJ.out.bl 0 rfl)⟩
            case measure => simp [intOf]; omega
          · have q2 : ((i : Int) != (o : Int)) = true := by simp; omega
            rw [if_neg hio] at HRS
            clear hio
            go_wp2_with (first
              | (go_at_call 20; (with_reducible refine (HBT.out _ VT.out).mono ?_); rintro e wz ⟨rfl, rfl⟩)
              | (go_at_call 20; (with_reducible refine (HBF.out _ VF.out).mono ?_); rintro e wz ⟨rfl, rfl⟩))
            go_roundw
            case rel => exact ⟨i + 1, by omega, by go_num, by rw [HRS.out], by rw [HAS.out]; exact HJ.out.cell ix (.int .i64 (a1 : Int)), rd_cell VF.out (HJ.out.bl 0 rfl), rd_cell VT.out (HJ.out.bl 0 rfl)⟩
            case measure => simp [intOf]; omega
        · obtain rfl : i = 2 := by omega
          rw [show ((2 : Nat) : Int) = 2 from rfl]
          have hrow := row_lt (n := 2) (B := B8) (o := o) (k := k) (i := 2) (by omega)
          have hcl := cntB_le (n := 2) (B := B8) (o := o) (k := k) (rowB 2 B8 o k 2)
          have HCS : Hid (ia 8 (cntB 2 B8 o (k + 1)) = (ia 8 (cntB 2 B8 o k)).setIfInBounds (rowB 2 B8 o k 2) (.int .i64 ((cntB 2 B8 o k (rowB 2 B8 o k 2) + 1 : Nat) : Int))) := hid (by rw [ia_set]; rfl)
          have HJ2 := hid HJ.out.swap.drop.swap.drop.swap
          have cC := row_c (i := rowB 2 B8 o k 2) (HJ2.out.bl 0 rfl) (ia_get _ (by omega))
          have fC := frozen_of_row wr W.heap.size (rowB 2 B8 o k 2) _ _ (HJ2.out.bl 0 rfl)
          have g0 : (0 : Int) ≤ (rowB 2 B8 o k 2 : Int) := by omega
          have g8 : (rowB 2 B8 o k 2 : Int) < 8 := by omega
          have e1 : IntKind.i64.wrap ((cntB 2 B8 o k (rowB 2 B8 o k 2) : Nat) + 1 : Int) = ((cntB 2 B8 o k (rowB 2 B8 o k 2) + 1 : Nat) : Int) := by rw [IntKind.wrap_i64]; omega
          obtain ⟨c1, hc1⟩ : ∃ c1, cntB 2 B8 o k (rowB 2 B8 o k 2) + 1 = c1 := ⟨_, rfl⟩
          rw [hc1] at HCS e1
          generalize cntB 2 B8 o k (rowB 2 B8 o k 2) = c0 at *
          obtain ⟨r, hr⟩ : ∃ r, rowB 2 B8 o k 2 = r := ⟨_, rfl⟩
          rw [hr] at HCS cC fC g0 g8 ⊢
          clear hrow hcl hc1 hr
          go_wp2
          go_roundw
          case rel => exact ⟨k + 1, by omega, by go_num, by rw [HCS.out]; exact (HJ2.out.cell r (.int .i64 (c1 : Int))).swap⟩
          case measure => simp [intOf]; omega
    · obtain rfl : k = 2 := by omega
      rw [show ((2 : Nat) : Int) = 2 from rfl]
      clear hlt
      have HE1 := hid HEV.out.1
      have HE2 := hid HEV.out.2
      obtain ⟨CF, hCF⟩ : ∃ CF, cntB 2 B8 o 2 = CF := ⟨_, rfl⟩
      obtain ⟨AF, hAF⟩ : ∃ AF, alnB 2 B8 2 = AF := ⟨_, rfl⟩
      rw [hCF] at HI HE1
      rw [hAF] at HI HE2
      clear hCF hAF HEV HBI HRN HOK
      go_wp2
      obtain ⟨wo, hwo⟩ : ∃ wo, wr = wo := ⟨_, rfl⟩
      subst hwo
      go_loopw [21] (fun iv wr => ∃ i : Nat, i ≤ 2 ∧ iv = .int .i64 i ∧ Bx W.heap.size W wr [(W.heap.size + 1, .cells (ia 6 AF) 51 (0, 0)), (W.heap.size, .cells (ia 8 CF) 50 (0, 0))]) (fun iv _ => 2 - (intOf iv).toNat)
      case atStart => exact ⟨0, by omega, rfl, HI.out⟩
      case round =>
        clear HI
        obtain ⟨i, hi, rfl, hJ⟩ := hrel
        have HJ := hid hJ
        clear hJ
        by_cases hin : i < 2
        · have j1 : (i : Int) < 2 := by omega
          have j0 : (0 : Int) ≤ (i : Int) := by omega
          have j8 : (i : Int) < 8 := by omega
          have cC := row_c (i := i) (HJ.out.bl 1 rfl) (ia_get CF (by omega))
          have h1 := HE1.out i hin
          have e1 : IntKind.i64.wrap ((CF i : Int) * 2) = 2 := by rw [IntKind.wrap_i64]; omega
          generalize CF i = c at *
          clear h1
          go_wp2
          go_roundw
          case rel => exact ⟨i + 1, by omega, by go_num, HJ.out⟩
          case measure => simp [intOf]; omega
        · obtain rfl : i = 2 := by omega
          rw [show ((2 : Nat) : Int) = 2 from rfl]
          clear hin
          go_wp2
          obtain ⟨wo, hwo⟩ : ∃ wo, wr = wo := ⟨_, rfl⟩
          subst hwo
          go_loopw [22] (fun iv wr => ∃ i : Nat, i ≤ 2 ∧ iv = .int .i64 i ∧ Bx W.heap.size W wr [(W.heap.size + 1, .cells (ia 6 AF) 51 (0, 0)), (W.heap.size, .cells (ia 8 CF) 50 (0, 0))]) (fun iv _ => 2 - (intOf iv).toNat)
          case atStart => exact ⟨0, by omega, rfl, HJ.out⟩
          case round =>
            clear HJ
            obtain ⟨i, hi, rfl, hJ⟩ := hrel
            have HJ := hid hJ
            clear hJ
            by_cases hin : i < 2
            · have j1 : (i : Int) < 2 := by omega
              have j0 : (0 : Int) ≤ (i : Int) := by omega
              have cA := row_c (i := 2 * i) (HJ.out.bl 0 rfl) (ia_get AF (by omega))
              have cB := row_c (i := 2 * i + 1) (HJ.out.bl 0 rfl) (ia_get AF (by omega))
              have h2 := HE2.out i hin
              rw [← h2] at cB
              have e1 : IntKind.i64.wrap (2 * (i : Int)) = ((2 * i : Nat) : Int) := by rw [IntKind.wrap_i64]; omega
              have e2 : IntKind.i64.wrap (((2 * i : Nat) : Int) + 1) = ((2 * i + 1 : Nat) : Int) := by rw [IntKind.wrap_i64]; omega
              have g0 : (0 : Int) ≤ ((2 * i : Nat) : Int) := by omega
              have g1 : ((2 * i : Nat) : Int) < 6 := by omega
              have g2 : (0 : Int) ≤ ((2 * i + 1 : Nat) : Int) := by omega
              have g3 : ((2 * i + 1 : Nat) : Int) < 6 := by omega
              generalize AF (2 * i) = a at *
              obtain ⟨i3, hi3⟩ : ∃ i3, 2 * i + 1 = i3 := ⟨_, rfl⟩
              rw [hi3] at cB e2 g2 g3
              obtain ⟨i2, hi2⟩ : ∃ i2, 2 * i = i2 := ⟨_, rfl⟩
              rw [hi2] at cA e1 e2 g0 g1
              clear hi3 hi2 h2
              go_upto_region 30 with fail
              have HD := hid (HJ.out.self ((Below.refl _ wr).drew))
              have dA := tcell_self cA ((Below.refl _ wr).drew)
              have dB := tcell_self cB ((Below.refl _ wr).drew)
              refine wp_region_noPanic ?_
              refine wp_region_held_drew (S := fun w' => w'.cell? ⟨W.heap.size + 1, i2, none⟩ = some (.int .i64 (a : Int)) ∧ w'.cell? ⟨W.heap.size + 1, i3, none⟩ = some (.int .i64 (a : Int))) (by kernel_rfl) (⟨dA, dB⟩) (fun h0 => ?_)
              generalize wr.drew = y0 at *
              refine wpAnyH_take (i := 0) (v := .int .i64 (i : Int)) rfl (by kernel_rfl) (by kernel_rfl) (by kernel_rfl) (fun _ _ _ h => h) (.inl ⟨by rfl, fun w hw => by clear hw; go_simp⟩) h0 ?_
              try simp only [Act.put, lay_out]
              refine wpAnyH_take (i := 1) (v := .int .i64 (i2 : Int)) rfl (by kernel_rfl) (by kernel_rfl) (by kernel_rfl) (fun _ _ _ h => h) (.inl ⟨by rfl, fun w hw => by clear hw; go_simp⟩) h0 ?_
              try simp only [Act.put, lay_out]
              refine wpAnyH_take (i := 2) (v := .pointer (some ⟨W.heap.size + 1, i2, none⟩)) rfl (by kernel_rfl) (by kernel_rfl) (by kernel_rfl) (fun _ _ _ h => h) (.inl ⟨by rfl, fun w hw => by clear hw; go_simp⟩) h0 ?_
              try simp only [Act.put, lay_out]
              refine wpAnyH_take (i := 3) (v := .int .i64 (a : Int)) rfl (by kernel_rfl) (by kernel_rfl) (by kernel_rfl) (fun _ _ _ h => h) (.inl ⟨by rfl, fun w' hw => by have hc := hw.1; clear hw; go_simp⟩) h0 ?_
              try simp only [Act.put, lay_out]
              refine wpAnyH_take (i := 4) (v := .int .i64 (i : Int)) rfl (by kernel_rfl) (by kernel_rfl) (by kernel_rfl) (fun _ _ _ h => h) (.inl ⟨by rfl, fun w hw => by clear hw; go_simp⟩) h0 ?_
              try simp only [Act.put, lay_out]
              refine wpAnyH_take (i := 5) (v := .int .i64 (i2 : Int)) rfl (by kernel_rfl) (by kernel_rfl) (by kernel_rfl) (fun _ _ _ h => h) (.inl ⟨by rfl, fun w hw => by clear hw; go_simp⟩) h0 ?_
              try simp only [Act.put, lay_out]
              refine wpAnyH_take (i := 6) (v := .int .i64 (i3 : Int)) rfl (by kernel_rfl) (by kernel_rfl) (by kernel_rfl) (fun _ _ _ h => h) (.inl ⟨by rfl, fun w hw => by clear hw; go_simp⟩) h0 ?_
              try simp only [Act.put, lay_out]
              refine wpAnyH_take (i := 7) (v := .pointer (some ⟨W.heap.size + 1, i3, none⟩)) rfl (by kernel_rfl) (by kernel_rfl) (by kernel_rfl) (fun _ _ _ h => h) (.inl ⟨by rfl, fun w hw => by clear hw; go_simp⟩) h0 ?_
              try simp only [Act.put, lay_out]
              refine wpAnyH_take (i := 8) (v := .int .i64 (a : Int)) rfl (by kernel_rfl) (by kernel_rfl) (by kernel_rfl) (fun _ _ _ h => h) (.inl ⟨by rfl, fun w' hw => by have hc := hw.2; clear hw; go_simp⟩) h0 ?_
              try simp only [Act.put, lay_out]
              refine wpAnyH_take (i := 9) (v := .bool false) rfl (by kernel_rfl) (by kernel_rfl) (by kernel_rfl) (fun _ _ _ h => h) (.inl ⟨by rfl, fun w hw => by clear hw; go_simp⟩) h0 ?_
              try simp only [Act.put, lay_out]
              refine wpAnyH_done (by kernel_rfl) ?_ _
              refine NoPanic.normal ?_
              clear h0
              try simp only [Act.put, lay_out]
              go_wp2
              go_roundw
              case rel => exact ⟨i + 1, by omega, by go_num, HD.out⟩
              case measure => simp [intOf]; omega
            · obtain rfl : i = 2 := by omega
              rw [show ((2 : Nat) : Int) = 2 from rfl]
              clear hin
              go_wp2_with (go_at_call 17; (with_reducible refine (HAW.out _ (HPW.out _ _ HJ.out)).mono ?_); rintro e wz ⟨rfl, hb⟩; have H9 := hid (HJ.out.self hb); clear hb)
              go_ret
              exact ⟨rfl, H9.out.low⟩
set_option maxHeartbeats 25600000 in
theorem feven3_core {Pm : World → Nat → Ms → (Nat → Prop) → Prop} (hM : Mach Pm) (hN : MachN Pm) (B O : Nat) (hB : B < 256) (hO : O < 256) (W : World) (hp : Pv W) :
    Calls Tryd.prog 4 #[.bool true, .int .u8 (B : Int), .int .u8 (O : Int)] W fun e w' => e = .returned (.bool true) ∧ Below W.heap.size W w' := by
  have HBI : Hid (∀ (k : Nat) (w : World), k < 8 → Calls Tryd.prog 19 #[.int .i64 (k : Int), .int .i64 3] w fun e w' => ∃ v, e = .returned v ∧ RdS .u64 w' (fun g => g < w'.heap.size) v (wdL (twK k) 3) ∧ Below w.heap.size w w') := hid (fun k w hk => fbits_any k 3 hk (by decide) w)
  have HRN : Hid (∀ (k : Nat) (sm : Bool) (w : World) (mv : Value), k < 8 → Pv w → RdS .u64 w (fun g => g < w.heap.size) mv (wdL (twK k) 3) → Calls Tryd.prog 18 #[.int .i64 3, .int .u8 (B : Int), mv, .bool sm] w fun e w' => ∃ v, e = .returned (.tuple #[v, .agg (wdV (evR 3 k B sm)), .bool true]) ∧ Rd .u64 w' v (wdL (evS 3 k B sm).v (evS 3 k B sm).L) ∧ Below w.heap.size w w') := hid (fun k sm w mv hk hp hR => frun_any hM hN 3 k B sm (by decide) hk hB mv w hp hR)
  have HOK := hid (fun (k : Nat) (sm : Bool) (hk : k < 8) => (ev_ok (n := 3) (k := k) (B := B) (by decide) hk sm).2)
  have HAW := hid (fun w (h : Pv w) => fawake_any hM hN w h)
  have HPV := hid hp
  have HPW : Hid (∀ w' bs, Bx W.heap.size W w' bs → Pv w') := hid (fun w' bs h => hp.stays h.low.size (h.low.block _ hp.1))
  obtain ⟨B8, hB8⟩ : ∃ B8, B % 8 = B8 := ⟨_, rfl⟩
  obtain ⟨o, ho⟩ : ∃ o, O % 3 = o := ⟨_, rfl⟩
  have HO : Hid (o < 3) := hid (by rw [← ho]; exact Nat.mod_lt _ (by decide))
  have HEV := hid (even3 B8 (by rw [← hB8]; exact Nat.mod_lt _ (by decide)) o HO.out)
  rw [hB8] at HOK
  have eo : ((O : Int)).tmod 3 = (o : Int) := by rw [Int.tmod_eq_emod_of_nonneg (by omega)]; omega
  have eO : IntKind.i64.wrap (O : Int) = (O : Int) := by rw [IntKind.wrap_i64]; omega
  have H1 := hid (((Bx.start W).new (ia 8 (cntB 3 B8 o 0)) 50).new (ia 6 (alnB 3 B8 0)) 51)
  have HS1 : Hid ((W.alloc (.cells (ia 8 (cntB 3 B8 o 0)) 50)).heap.size = W.heap.size + 1) := hid (sz_al _ _)
  rw [HS1.out] at H1
  have HZ8 : Hid (ia 8 (cntB 3 B8 o 0) = #[.int .i64 0, .int .i64 0, .int .i64 0, .int .i64 0, .int .i64 0, .int .i64 0, .int .i64 0, .int .i64 0]) := hid rfl
  have HZ6 : Hid (ia 6 (alnB 3 B8 0) = #[.int .i64 0, .int .i64 0, .int .i64 0, .int .i64 0, .int .i64 0, .int .i64 0]) := hid rfl
  obtain ⟨w1, hw1⟩ : ∃ w1, (W.alloc (.cells (ia 8 (cntB 3 B8 o 0)) 50)).alloc (.cells (ia 6 (alnB 3 B8 0)) 51) = w1 := ⟨_, rfl⟩
  rw [hw1] at H1
  rw [HZ8.out, HZ6.out] at hw1
  have HW := hid hw1
  clear hw1 HS1 ho hB8 hp hB hO HZ8 HZ6
  go_enter Tryd.func4, Tryd.ntmps4
  go_upto_region 6 with fail
  rw [HW.out]
  go_wp2
  go_loopw [11] (fun iv wr => ∃ k : Nat, k ≤ 8 ∧ iv = .int .i64 k ∧ Bx W.heap.size W wr [(W.heap.size + 1, .cells (ia 6 (alnB 3 B8 k)) 51 (0, 0)), (W.heap.size, .cells (ia 8 (cntB 3 B8 o k)) 50 (0, 0))]) (fun iv _ => 8 - (intOf iv).toNat)
  case atStart => exact ⟨0, by omega, rfl, H1.out⟩
  case round =>
    clear H1
    obtain ⟨k, hk, rfl, hI⟩ := hrel
    have HI := hid hI
    clear hI
    by_cases hlt : k < 8
    · have q0 : decide ((k : Int) < 8) = true := decide_eq_true (by omega)
      have q1 : decide ((k : Int) < 8) = true := decide_eq_true (by omega)
      have HK8 : Hid (k < 8) := hid (by omega)
      have HBK := hid (fun w => HBI.out k w HK8.out)
      have HRF := hid (fun w mv hp hR => HRN.out k false w mv HK8.out hp hR)
      have HRT := hid (fun w mv hp hR => HRN.out k true w mv HK8.out hp hR)
      have HOF := hid (HOK.out k false HK8.out)
      have HOT := hid (HOK.out k true HK8.out)
      obtain ⟨RF, hRF⟩ : ∃ RF, evR 3 k B false = RF := ⟨_, rfl⟩
      obtain ⟨RT, hRT⟩ : ∃ RT, evR 3 k B true = RT := ⟨_, rfl⟩
      rw [hRF] at HRF HOF
      rw [hRT] at HRT HOT
      clear hRF hRT
      generalize evS 3 k B false = SF at *
      generalize evS 3 k B true = ST at *
      go_upto_region 10 with (first
        | (go_at_call 19; (with_reducible refine (HBK.out _).mono ?_); rintro e w2 ⟨mv, rfl, hR, hb⟩; have HM2 := hid hR; have H2 := hid (HI.out.self hb); clear hR hb)
        | (go_at_call 18; (with_reducible refine (HRF.out _ _ (HPW.out _ _ H2.out) HM2.out).mono ?_); rintro e w3 ⟨vF, rfl, hv, hb⟩; have VF := hid hv; have H3 := hid (H2.out.self hb); clear hv hb))
      have H4 := hid (H3.out.new (wdV RF) 34).swap
      have VF4 := hid (VF.out.self ((Below.refl w3.heap.size w3).alloc (Nat.le_refl _) (.cells (wdV RF) 34)))
      obtain ⟨b13, hb13⟩ : ∃ b13, w3.heap.size = b13 := ⟨_, rfl⟩
      rw [hb13] at H4
      generalize w3.alloc (.cells (wdV RF) 34) = w4 at *
      rw [hb13]
      clear hb13 H2 HM2 H3 VF
      go_upto_region 11 with (first
        | (go_at_call 19; (with_reducible refine (HBK.out _).mono ?_); rintro e w5 ⟨mv2, rfl, hR, hb⟩; have HM5 := hid hR; have H5 := hid (H4.out.self hb); have VF5 := hid (VF4.out.self hb); clear hR hb)
        | (go_at_call 18; (with_reducible refine (HRT.out _ _ (HPW.out _ _ H5.out) HM5.out).mono ?_); rintro e w6 ⟨vT, rfl, hv, hb⟩; have VT := hid hv; have H6 := hid (H5.out.self hb); have VF6 := hid (VF5.out.self hb); clear hv hb))
      have H7 := hid (H6.out.new (wdV RT) 34).swap
      have VF7 := hid (VF6.out.self ((Below.refl w6.heap.size w6).alloc (Nat.le_refl _) (.cells (wdV RT) 34)))
      have VT7 := hid (VT.out.self ((Below.refl w6.heap.size w6).alloc (Nat.le_refl _) (.cells (wdV RT) 34)))
      obtain ⟨b16, hb16⟩ : ∃ b16, w6.heap.size = b16 := ⟨_, rfl⟩
      rw [hb16] at H7
      generalize w6.alloc (.cells (wdV RT) 34) = w7 at *
      rw [hb16]
      clear hb16 H4 H5 HM5 H6 VF4 VF5 VF6 VT
      go_wp2
      obtain ⟨wo, hwo⟩ : ∃ wo, wr = wo := ⟨_, rfl⟩
      subst hwo
      go_loopw [18, 19] (fun rv iv wr => ∃ i : Nat, i ≤ 3 ∧ iv = .int .i64 i ∧ rv = .int .i64 (rowB 3 B8 o k i : Nat) ∧ Bx W.heap.size W wr [(W.heap.size + 1, .cells (ia 6 (alnI 3 B8 k (alnB 3 B8 k) i)) 51 (0, 0)), (b16, .cells (wdV RT) 34 (0, 0)), (b13, .cells (wdV RF) 34 (0, 0)), (W.heap.size, .cells (ia 8 (cntB 3 B8 o k)) 50 (0, 0))] ∧ Rd .u64 wr vF (wdL SF.v SF.L) ∧ Rd .u64 wr vT (wdL ST.v ST.L)) (fun _ iv _ => 3 - (intOf iv).toNat)
      case atStart => exact ⟨0, by omega, rfl, rfl, (show Bx W.heap.size W w7 [(W.heap.size + 1, .cells (ia 6 (alnI 3 B8 k (alnB 3 B8 k) 0)) 51 (0, 0)), _, _, _] from H7.out), VF7.out, VT7.out⟩
      case round =>
        obtain ⟨i, hi, rfl, rfl, hJ, hVF, hVT⟩ := hrel
        have HJ := hid hJ
        have VF := hid hVF
        have VT := hid hVT
        clear hJ hVF hVT VF7 VT7 H7
        by_cases hin : i < 3
        · obtain ⟨qF, eF, lF, vFq⟩ := HOF.out i hin
          obtain ⟨qT, eT, lT, vTq⟩ := HOT.out i hin
          have i0 : (0 : Int) ≤ (i : Int) := by omega
          have i3 : (i : Int) < 3 := by omega
          have in_ : (i : Int) < 3 := by omega
          have HBF : Hid (∀ w, Rd .u64 w vF (wdL SF.v SF.L) → Calls Tryd.prog 20 #[vF, .int .i64 (qF : Int)] w fun e w' => e = .returned (.int .u64 ((fb 3 B8 k false i : Nat) : Int)) ∧ w' = w) := hid (fun w h => by have := fbit_any vF _ _ qF w h lF; rw [vFq] at this; exact this)
          have HBT : Hid (∀ w, Rd .u64 w vT (wdL ST.v ST.L) → Calls Tryd.prog 20 #[vT, .int .i64 (qT : Int)] w fun e w' => e = .returned (.int .u64 ((fb 3 B8 k true i : Nat) : Int)) ∧ w' = w) := hid (fun w h => by have := fbit_any vT _ _ qT w h lT; rw [vTq] at this; exact this)
          have cF := row_c (i := i) (HJ.out.bl 2 rfl) (wdV_at RF i (by omega))
          have cT := row_c (i := i) (HJ.out.bl 1 rfl) (wdV_at RT i (by omega))
          rw [eF] at cF
          rw [eT] at cT
          have hrow := row_lt (n := 3) (B := B8) (o := o) (k := k) (i := i) (by omega)
          have hp8 : 2 ^ i ≤ 8 := by rcases (by omega : i = 0 ∨ i = 1 ∨ i = 2) with rfl | rfl | rfl <;> decide
          have hfF := fb_lt 3 B8 k false i
          have hfT := fb_lt 3 B8 k true i
          have hal := alnI_le (n := 3) (B := B8) (k := k) (f := alnB 3 B8 k) (m := 3 * k) (fun j => aln_le j) (i := i) (2 * i + fb 3 B8 k true i)
          have hix : 2 * i + fb 3 B8 k true i < 6 := by omega
          have cA := row_c (i := 2 * i + fb 3 B8 k true i) (HJ.out.bl 0 rfl) (ia_get _ hix)
          have fA := frozen_of_row wr (W.heap.size + 1) (2 * i + fb 3 B8 k true i) _ _ (HJ.out.bl 0 rfl)
          have HRS : Hid (rowB 3 B8 o k (i + 1) = if i = o then rowB 3 B8 o k i else rowB 3 B8 o k i * 2 + fb 3 B8 k false i) := hid rfl
          have HAS : Hid (ia 6 (alnI 3 B8 k (alnB 3 B8 k) (i + 1)) = (ia 6 (alnI 3 B8 k (alnB 3 B8 k) i)).setIfInBounds (2 * i + fb 3 B8 k true i) (.int .i64 ((alnI 3 B8 k (alnB 3 B8 k) i (2 * i + fb 3 B8 k true i) + 1 : Nat) : Int))) := hid (by rw [ia_set]; rfl)
          have e1 : IntKind.i64.wrap (2 * (i : Int)) = ((2 * i : Nat) : Int) := by rw [IntKind.wrap_i64]; omega
          have e2 : IntKind.i64.wrap ((fb 3 B8 k true i : Nat) : Int) = ((fb 3 B8 k true i : Nat) : Int) := by rw [IntKind.wrap_i64]; omega
          have e3 : IntKind.i64.wrap (((2 * i : Nat) : Int) + ((fb 3 B8 k true i : Nat) : Int)) = ((2 * i + fb 3 B8 k true i : Nat) : Int) := by rw [IntKind.wrap_i64]; omega
          have e4 : IntKind.i64.wrap (((alnI 3 B8 k (alnB 3 B8 k) i (2 * i + fb 3 B8 k true i) : Nat) : Int) + 1) = ((alnI 3 B8 k (alnB 3 B8 k) i (2 * i + fb 3 B8 k true i) + 1 : Nat) : Int) := by rw [IntKind.wrap_i64]; omega
          have e5 : IntKind.i64.wrap ((rowB 3 B8 o k i : Nat) * 2 : Int) = ((rowB 3 B8 o k i * 2 : Nat) : Int) := by rw [IntKind.wrap_i64]; omega
          have e6 : IntKind.i64.wrap ((fb 3 B8 k false i : Nat) : Int) = ((fb 3 B8 k false i : Nat) : Int) := by rw [IntKind.wrap_i64]; omega
          have e7 : IntKind.i64.wrap (((rowB 3 B8 o k i * 2 : Nat) : Int) + ((fb 3 B8 k false i : Nat) : Int)) = ((rowB 3 B8 o k i * 2 + fb 3 B8 k false i : Nat) : Int) := by rw [IntKind.wrap_i64]; omega
          have g0 : (0 : Int) ≤ ((2 * i + fb 3 B8 k true i : Nat) : Int) := by omega
          have g6 : ((2 * i + fb 3 B8 k true i : Nat) : Int) < 6 := by omega
          obtain ⟨a1, ha1⟩ : ∃ a1, alnI 3 B8 k (alnB 3 B8 k) i (2 * i + fb 3 B8 k true i) + 1 = a1 := ⟨_, rfl⟩
          rw [ha1] at HAS e4
          generalize alnI 3 B8 k (alnB 3 B8 k) i (2 * i + fb 3 B8 k true i) = a0 at *
          obtain ⟨ix, hix2⟩ : ∃ ix, 2 * i + fb 3 B8 k true i = ix := ⟨_, rfl⟩
          rw [hix2] at cA fA HAS e3 g0 g6
          obtain ⟨i2, hi2⟩ : ∃ i2, 2 * i = i2 := ⟨_, rfl⟩
          rw [hi2] at e1 e3
          obtain ⟨r3, hr3⟩ : ∃ r3, rowB 3 B8 o k i * 2 + fb 3 B8 k false i = r3 := ⟨_, rfl⟩
          rw [hr3] at e7 HRS
          obtain ⟨r2, hr2⟩ : ∃ r2, rowB 3 B8 o k i * 2 = r2 := ⟨_, rfl⟩
          rw [hr2] at e5 e7
          obtain ⟨r1, hr1⟩ : ∃ r1, rowB 3 B8 o k i = r1 := ⟨_, rfl⟩
          rw [hr1] at e5 HRS ⊢
          generalize fb 3 B8 k false i = fF at *
          generalize fb 3 B8 k true i = fT at *
          clear hrow hp8 hfF hfT hal hix ha1 hix2 hi2 hr3 hr2 hr1 eF eT lF lT vFq vTq
          by_cases hio : i = o
          · have q2 : ((i : Int) != (o : Int)) = false := by simp; omega
            rw [if_pos hio] at HRS
            clear hio
            go_wp2_with (first
              | (go_at_call 20; (with_reducible refine (HBT.out _ VT.out).mono ?_); rintro e wz ⟨rfl, rfl⟩)
              | (go_at_call 20; (with_reducible refine (HBF.out _ VF.out).mono ?_); rintro e wz ⟨rfl, rfl⟩))
            go_roundw
            case rel => exact ⟨i + 1, by omega, by go_num, by rw [HRS.out], by rw [HAS.out]; exact HJ.out.cell ix (.int .i64 (a1 : Int)), rd_cell VF.out (HJ.out.bl 0 rfl), rd_cell VT.out (HJ.out.bl 0 rfl)⟩
            case measure => simp [intOf]; omega
          · have q2 : ((i : Int) != (o : Int)) = true := by simp; omega
            rw [if_neg hio] at HRS
            clear hio
            go_wp2_with (first
              | (go_at_call 20; (with_reducible refine (HBT.out _ VT.out).mono ?_); rintro e wz ⟨rfl, rfl⟩)
              | (go_at_call 20; (with_reducible refine (HBF.out _ VF.out).mono ?_); rintro e wz ⟨rfl, rfl⟩))
            go_roundw
            case rel => exact ⟨i + 1, by omega, by go_num, by rw [HRS.out], by rw [HAS.out]; exact HJ.out.cell ix (.int .i64 (a1 : Int)), rd_cell VF.out (HJ.out.bl 0 rfl), rd_cell VT.out (HJ.out.bl 0 rfl)⟩
            case measure => simp [intOf]; omega
        · obtain rfl : i = 3 := by omega
          rw [show ((3 : Nat) : Int) = 3 from rfl]
          have hrow := row_lt (n := 3) (B := B8) (o := o) (k := k) (i := 3) (by omega)
          have hcl := cntB_le (n := 3) (B := B8) (o := o) (k := k) (rowB 3 B8 o k 3)
          have HCS : Hid (ia 8 (cntB 3 B8 o (k + 1)) = (ia 8 (cntB 3 B8 o k)).setIfInBounds (rowB 3 B8 o k 3) (.int .i64 ((cntB 3 B8 o k (rowB 3 B8 o k 3) + 1 : Nat) : Int))) := hid (by rw [ia_set]; rfl)
          have HJ2 := hid HJ.out.swap.drop.swap.drop.swap
          have cC := row_c (i := rowB 3 B8 o k 3) (HJ2.out.bl 0 rfl) (ia_get _ (by omega))
          have fC := frozen_of_row wr W.heap.size (rowB 3 B8 o k 3) _ _ (HJ2.out.bl 0 rfl)
          have g0 : (0 : Int) ≤ (rowB 3 B8 o k 3 : Int) := by omega
          have g8 : (rowB 3 B8 o k 3 : Int) < 8 := by omega
          have e1 : IntKind.i64.wrap ((cntB 3 B8 o k (rowB 3 B8 o k 3) : Nat) + 1 : Int) = ((cntB 3 B8 o k (rowB 3 B8 o k 3) + 1 : Nat) : Int) := by rw [IntKind.wrap_i64]; omega
          obtain ⟨c1, hc1⟩ : ∃ c1, cntB 3 B8 o k (rowB 3 B8 o k 3) + 1 = c1 := ⟨_, rfl⟩
          rw [hc1] at HCS e1
          generalize cntB 3 B8 o k (rowB 3 B8 o k 3) = c0 at *
          obtain ⟨r, hr⟩ : ∃ r, rowB 3 B8 o k 3 = r := ⟨_, rfl⟩
          rw [hr] at HCS cC fC g0 g8 ⊢
          clear hrow hcl hc1 hr
          go_wp2
          go_roundw
          case rel => exact ⟨k + 1, by omega, by go_num, by rw [HCS.out]; exact (HJ2.out.cell r (.int .i64 (c1 : Int))).swap⟩
          case measure => simp [intOf]; omega
    · obtain rfl : k = 8 := by omega
      rw [show ((8 : Nat) : Int) = 8 from rfl]
      clear hlt
      have HE1 := hid HEV.out.1
      have HE2 := hid HEV.out.2
      obtain ⟨CF, hCF⟩ : ∃ CF, cntB 3 B8 o 8 = CF := ⟨_, rfl⟩
      obtain ⟨AF, hAF⟩ : ∃ AF, alnB 3 B8 8 = AF := ⟨_, rfl⟩
      rw [hCF] at HI HE1
      rw [hAF] at HI HE2
      clear hCF hAF HEV HBI HRN HOK
      go_wp2
      obtain ⟨wo, hwo⟩ : ∃ wo, wr = wo := ⟨_, rfl⟩
      subst hwo
      go_loopw [21] (fun iv wr => ∃ i : Nat, i ≤ 4 ∧ iv = .int .i64 i ∧ Bx W.heap.size W wr [(W.heap.size + 1, .cells (ia 6 AF) 51 (0, 0)), (W.heap.size, .cells (ia 8 CF) 50 (0, 0))]) (fun iv _ => 4 - (intOf iv).toNat)
      case atStart => exact ⟨0, by omega, rfl, HI.out⟩
      case round =>
        clear HI
        obtain ⟨i, hi, rfl, hJ⟩ := hrel
        have HJ := hid hJ
        clear hJ
        by_cases hin : i < 4
        · have j1 : (i : Int) < 4 := by omega
          have j0 : (0 : Int) ≤ (i : Int) := by omega
          have j8 : (i : Int) < 8 := by omega
          have cC := row_c (i := i) (HJ.out.bl 1 rfl) (ia_get CF (by omega))
          have h1 := HE1.out i hin
          have e1 : IntKind.i64.wrap ((CF i : Int) * 4) = 8 := by rw [IntKind.wrap_i64]; omega
          generalize CF i = c at *
          clear h1
          go_wp2
          go_roundw
          case rel => exact ⟨i + 1, by omega, by go_num, HJ.out⟩
          case measure => simp [intOf]; omega
        · obtain rfl : i = 4 := by omega
          rw [show ((4 : Nat) : Int) = 4 from rfl]
          clear hin
          go_wp2
          obtain ⟨wo, hwo⟩ : ∃ wo, wr = wo := ⟨_, rfl⟩
          subst hwo
          go_loopw [22] (fun iv wr => ∃ i : Nat, i ≤ 3 ∧ iv = .int .i64 i ∧ Bx W.heap.size W wr [(W.heap.size + 1, .cells (ia 6 AF) 51 (0, 0)), (W.heap.size, .cells (ia 8 CF) 50 (0, 0))]) (fun iv _ => 3 - (intOf iv).toNat)
          case atStart => exact ⟨0, by omega, rfl, HJ.out⟩
          case round =>
            clear HJ
            obtain ⟨i, hi, rfl, hJ⟩ := hrel
            have HJ := hid hJ
            clear hJ
            by_cases hin : i < 3
            · have j1 : (i : Int) < 3 := by omega
              have j0 : (0 : Int) ≤ (i : Int) := by omega
              have cA := row_c (i := 2 * i) (HJ.out.bl 0 rfl) (ia_get AF (by omega))
              have cB := row_c (i := 2 * i + 1) (HJ.out.bl 0 rfl) (ia_get AF (by omega))
              have h2 := HE2.out i hin
              rw [← h2] at cB
              have e1 : IntKind.i64.wrap (2 * (i : Int)) = ((2 * i : Nat) : Int) := by rw [IntKind.wrap_i64]; omega
              have e2 : IntKind.i64.wrap (((2 * i : Nat) : Int) + 1) = ((2 * i + 1 : Nat) : Int) := by rw [IntKind.wrap_i64]; omega
              have g0 : (0 : Int) ≤ ((2 * i : Nat) : Int) := by omega
              have g1 : ((2 * i : Nat) : Int) < 6 := by omega
              have g2 : (0 : Int) ≤ ((2 * i + 1 : Nat) : Int) := by omega
              have g3 : ((2 * i + 1 : Nat) : Int) < 6 := by omega
              generalize AF (2 * i) = a at *
              obtain ⟨i3, hi3⟩ : ∃ i3, 2 * i + 1 = i3 := ⟨_, rfl⟩
              rw [hi3] at cB e2 g2 g3
              obtain ⟨i2, hi2⟩ : ∃ i2, 2 * i = i2 := ⟨_, rfl⟩
              rw [hi2] at cA e1 e2 g0 g1
              clear hi3 hi2 h2
              go_upto_region 30 with fail
              have HD := hid (HJ.out.self ((Below.refl _ wr).drew))
              have dA := tcell_self cA ((Below.refl _ wr).drew)
              have dB := tcell_self cB ((Below.refl _ wr).drew)
              refine wp_region_noPanic ?_
              refine wp_region_held_drew (S := fun w' => w'.cell? ⟨W.heap.size + 1, i2, none⟩ = some (.int .i64 (a : Int)) ∧ w'.cell? ⟨W.heap.size + 1, i3, none⟩ = some (.int .i64 (a : Int))) (by kernel_rfl) (⟨dA, dB⟩) (fun h0 => ?_)
              generalize wr.drew = y0 at *
              refine wpAnyH_take (i := 0) (v := .int .i64 (i : Int)) rfl (by kernel_rfl) (by kernel_rfl) (by kernel_rfl) (fun _ _ _ h => h) (.inl ⟨by rfl, fun w hw => by clear hw; go_simp⟩) h0 ?_
              try simp only [Act.put, lay_out]
              refine wpAnyH_take (i := 1) (v := .int .i64 (i2 : Int)) rfl (by kernel_rfl) (by kernel_rfl) (by kernel_rfl) (fun _ _ _ h => h) (.inl ⟨by rfl, fun w hw => by clear hw; go_simp⟩) h0 ?_
              try simp only [Act.put, lay_out]
              refine wpAnyH_take (i := 2) (v := .pointer (some ⟨W.heap.size + 1, i2, none⟩)) rfl (by kernel_rfl) (by kernel_rfl) (by kernel_rfl) (fun _ _ _ h => h) (.inl ⟨by rfl, fun w hw => by clear hw; go_simp⟩) h0 ?_
              try simp only [Act.put, lay_out]
              refine wpAnyH_take (i := 3) (v := .int .i64 (a : Int)) rfl (by kernel_rfl) (by kernel_rfl) (by kernel_rfl) (fun _ _ _ h => h) (.inl ⟨by rfl, fun w' hw => by have hc := hw.1; clear hw; go_simp⟩) h0 ?_
              try simp only [Act.put, lay_out]
              refine wpAnyH_take (i := 4) (v := .int .i64 (i : Int)) rfl (by kernel_rfl) (by kernel_rfl) (by kernel_rfl) (fun _ _ _ h => h) (.inl ⟨by rfl, fun w hw => by clear hw; go_simp⟩) h0 ?_
              try simp only [Act.put, lay_out]
              refine wpAnyH_take (i := 5) (v := .int .i64 (i2 : Int)) rfl (by kernel_rfl) (by kernel_rfl) (by kernel_rfl) (fun _ _ _ h => h) (.inl ⟨by rfl, fun w hw => by clear hw; go_simp⟩) h0 ?_
              try simp only [Act.put, lay_out]
              refine wpAnyH_take (i := 6) (v := .int .i64 (i3 : Int)) rfl (by kernel_rfl) (by kernel_rfl) (by kernel_rfl) (fun _ _ _ h => h) (.inl ⟨by rfl, fun w hw => by clear hw; go_simp⟩) h0 ?_
              try simp only [Act.put, lay_out]
              refine wpAnyH_take (i := 7) (v := .pointer (some ⟨W.heap.size + 1, i3, none⟩)) rfl (by kernel_rfl) (by kernel_rfl) (by kernel_rfl) (fun _ _ _ h => h) (.inl ⟨by rfl, fun w hw => by clear hw; go_simp⟩) h0 ?_
              try simp only [Act.put, lay_out]
              refine wpAnyH_take (i := 8) (v := .int .i64 (a : Int)) rfl (by kernel_rfl) (by kernel_rfl) (by kernel_rfl) (fun _ _ _ h => h) (.inl ⟨by rfl, fun w' hw => by have hc := hw.2; clear hw; go_simp⟩) h0 ?_
              try simp only [Act.put, lay_out]
              refine wpAnyH_take (i := 9) (v := .bool false) rfl (by kernel_rfl) (by kernel_rfl) (by kernel_rfl) (fun _ _ _ h => h) (.inl ⟨by rfl, fun w hw => by clear hw; go_simp⟩) h0 ?_
              try simp only [Act.put, lay_out]
              refine wpAnyH_done (by kernel_rfl) ?_ _
              refine NoPanic.normal ?_
              clear h0
              try simp only [Act.put, lay_out]
              go_wp2
              go_roundw
              case rel => exact ⟨i + 1, by omega, by go_num, HD.out⟩
              case measure => simp [intOf]; omega
            · obtain rfl : i = 3 := by omega
              rw [show ((3 : Nat) : Int) = 3 from rfl]
              clear hin
              go_wp2_with (go_at_call 17; (with_reducible refine (HAW.out _ (HPW.out _ _ HJ.out)).mono ?_); rintro e wz ⟨rfl, hb⟩; have H9 := hid (HJ.out.self hb); clear hb)
              go_ret
              exact ⟨rfl, H9.out.low⟩
end Go.Proofs.YtinihebnajaejaaDoor
