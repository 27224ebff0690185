import Derived.Test.YtpjgpiieminaoaaGreatDoorProg
import Derived.Test.YtpjgpiieminaoaaGreatDoorWls
import Derived.Test.YtpjgpiieminaoaaGreatDoorWda
import Derived.Deep.CutRange
import Derived.Deep.CutBlock
import Derived.Test.YtpjgpiieminaoaaGreatDoorAcw
import Derived.Deep.DeepMust
import Derived.Laws.StructEq
/- Wire: are a trace's words what its ops make? -/
namespace Go.Proofs.YtpjgpiieminaoaaGreatDoor
open Go.RowKit
set_option maxRecDepth 100000
/-- A row of words that is read, whatever is new. -/
structure Wr (w : World) (v : Value) (L : Nat) (f : Nat → Nat) : Prop where
  at_ : ∃ a cap, v = .slice a L cap ∧ (0 < L → ∃ g off, a = some ⟨g, off, none⟩ ∧ g < w.heap.size ∧ ∀ i, i < L → w.cell? ⟨g, off + i, none⟩ = some (.int .u64 (f i : Int)))
theorem rd_wr {w : World} {v : Value} {L : Nat} {f : Nat → Nat} (h : Rd .u64 w v (wdL f L)) : Wr w v L f := by
  obtain ⟨a, cap, e, _, _, hc⟩ := h
  rw [wdL_len] at e hc
  refine ⟨a, cap, e, fun h0 => ?_⟩
  obtain ⟨g, off, e1, e2, e3⟩ := hc h0
  exact ⟨g, off, e1, e2, fun i hi => by rw [e3 i hi, wdL_nth f hi]⟩
/-- What the law's loop holds: the trace's box, the machine's box. -/
structure Hb (W wr : World) (n bm : Nat) (A B : Array Value) : Prop where
  one : wr.heap[n]? = some (.cells A 90 (0, 0))
  two : wr.heap[bm]? = some (.cells B 73 (0, 0))
  low : Below W.heap.size W wr
theorem Hb.self {W wr wy : World} {n bm : Nat} {A B : Array Value} (h : Hb W wr n bm A B) (hb : Below wr.heap.size wr wy) : Hb W wy n bm A B :=
  ⟨(hb.block _ (Array.getElem?_eq_some_iff.1 h.one).1).trans h.one, (hb.block _ (Array.getElem?_eq_some_iff.1 h.two).1).trans h.two, h.low.trans (hb.mono h.low.size)⟩
abbrev hmC (v : Value) : Array Value := #[.int .i64 0, .int .i64 0, .int .i64 0, .int .i64 0, .int .i64 0, .int .i64 0, .int .i64 0, .int .i64 0, .slice none 0 0, .slice none 0 0, v, .slice none 0 0, .int .i64 0, .int .i64 0, .bool false]
/-- What a round holds. -/
structure Hr (W wr : World) (n bm : Nat) (A : Array Value) (v : Value) (bo : Nat) (o : Op6) (gv ov L : Nat) (vv : Nat → Nat) : Prop where
  b : Hb W wr n bm A (hmC v)
  op : wr.heap[bo]? = some (.cells (opCs o) 66 (0, 0))
  word : ∀ i, i < L → wr.cell? ⟨gv, ov + i, none⟩ = some (.int .u64 (vv i : Int))
theorem Hr.self {W wr wy : World} {n bm : Nat} {A : Array Value} {v : Value} {bo : Nat} {o : Op6} {gv ov L : Nat} {vv : Nat → Nat} (h : Hr W wr n bm A v bo o gv ov L vv) (hb : Below wr.heap.size wr wy) : Hr W wy n bm A v bo o gv ov L vv :=
  ⟨h.b.self hb, (hb.block _ (Array.getElem?_eq_some_iff.1 h.op).1).trans h.op, fun i hi => tcell_self (h.word i hi) hb⟩
theorem Hr.drew {W wr : World} {n bm : Nat} {A : Array Value} {v : Value} {bo : Nat} {o : Op6} {gv ov L : Nat} {vv : Nat → Nat} (h : Hr W wr n bm A v bo o gv ov L vv) : Hr W wr.drew n bm A v bo o gv ov L vv := h.self ((Below.refl _ _).drew)
end Go.Proofs.YtpjgpiieminaoaaGreatDoor

/- Share: are both machines alike? -/
namespace Go.Proofs.YtpjgpiieminaoaaGreatDoor
open Go.RowKit
set_option maxRecDepth 100000
/-- A pair's cells. -/
abbrev paC (p b : Nat) (lv vv : Value) : Array Value := #[.pointer (some ⟨p, 0, none⟩), .pointer (some ⟨b, 0, none⟩), lv, vv]
set_option maxHeartbeats 12800000 in
theorem llike_any {Pm : World → Nat → Ms → (Nat → Prop) → Prop} (hM : Mach Pm) {lo : Nat} {X : Nat → Prop} {W w : World} {p b k : Nat} {S : Ms} (h : Bz Pm lo X W w p b S S) (hq : Bq k S) (hk : k ≤ 100000) (hw : S.dry = false) (la ba : Option Addr) (ln bn lc bc : Nat) :
    Calls Tryz.prog 18 #[.agg (paC p b (.slice la ln lc) (.slice ba bn bc))] w fun e w' => e = .returned (.bool true) ∧ Bz Pm lo X W w' p b S S ∧ Below w.heap.size w w' := by
  have HQ := hid hq
  have HK2 := hid hk
  have HK : Hid (k ≤ 1000000) := hid (by omega)
  have HKP : Hid (∀ n, S.keep n = n) := hid (fun n => by unfold Ms.keep; rw [hw]; rfl)
  obtain ⟨w1, hw1⟩ : ∃ w1, w.alloc (.cells (paC p b (.slice la ln lc) (.slice ba bn bc)) 31) = w1 := ⟨_, rfl⟩
  have HB1 : Hid (Below w.heap.size w w1) := hid (by rw [← hw1]; exact (Below.refl _ _).alloc (Nat.le_refl _) _)
  have hbx : w1.heap[w.heap.size]? = some (.cells (paC p b (.slice la ln lc) (.slice ba bn bc)) 31 (0, 0)) := by rw [← hw1]; exact heap_alloc_new _ _
  have HBX : Hid (∀ w', Below w1.heap.size w1 w' → w'.heap[w.heap.size]? = some (.cells (paC p b (.slice la ln lc) (.slice ba bn bc)) 31 (0, 0))) := hid (fun w' hb => (hb.block _ (Array.getElem?_eq_some_iff.1 hbx).1).trans hbx)
  have ZA := hid (h.self hM HB1.out)
  have HC : Hid (∀ w', Below w1.heap.size w1 w' → w'.cell? ⟨b, 0, none⟩ = some (.int .i64 S.n) ∧ w'.cell? ⟨b, 3, none⟩ = some (.int .i64 (S.draws : Int)) ∧ w'.cell? ⟨b, 7, none⟩ = some (.int .i64 (S.e : Int)) ∧ w'.cell? ⟨b, 14, none⟩ = some (.bool S.dry)) := hid (fun w' hb => (ZA.out.self hM hb).c0)
  obtain ⟨xv, xc, hcv, hrv⟩ := ZA.out.vv hq hk
  have HCV : Hid (∀ w', Below w1.heap.size w1 w' → w'.cell? ⟨b, 10, none⟩ = some (.slice xv S.L xc)) := hid (fun w' hw => tcell_self hcv hw)
  have HRV : Hid (∀ w', Below w1.heap.size w1 w' → Wr w' (.slice xv S.L xc) S.L S.v) := hid (fun w' hw => rd_wr (hrv.self hw))
  have HLL : Hid (S.L ≤ 1000000) := hid (by have := hq.len; unfold Ms.len at this; omega)
  have c0 := row_c (i := 0) (u := .pointer (some ⟨p, 0, none⟩)) hbx rfl
  have HW1 := hid hw1
  clear h hq hk hw hw1 hbx hcv hrv
  go_enter Tryz.func18, Tryz.ntmps18
  go_upto_region 1 with fail
  rw [HW1.out]
  go_wp2_with (go_at_call 42; (with_reducible refine (zvalues hM ZA.out HQ.out HK.out).mono ?_); rintro e w2 ⟨v, rfl, hv, hb⟩; rw [HKP.out] at hv; have HVW := hid (rd_wr hv); have Z0 := hid (ZA.out.self hM hb); have HB12 := hid hb; clear hv hb)
  obtain ⟨av, cv, rfl, hav⟩ := HVW.out.at_
  have HAV := hid hav
  have BZ0 : Hid (Below w2.heap.size w2 w2) := hid (Below.refl _ _)
  have HBX := hid (fun w' (hb : Below w2.heap.size w2 w') => HBX.out w' (HB12.out.trans (hb.mono HB12.out.size)))
  have HC := hid (fun w' (hb : Below w2.heap.size w2 w') => HC.out w' (HB12.out.trans (hb.mono HB12.out.size)))
  have HCV := hid (fun w' (hb : Below w2.heap.size w2 w') => HCV.out w' (HB12.out.trans (hb.mono HB12.out.size)))
  have HRV := hid (fun w' (hb : Below w2.heap.size w2 w') => HRV.out w' (HB12.out.trans (hb.mono HB12.out.size)))
  clear hav c0
  go_wp2_with fail
  have Z1 := hid (Z0.out.self hM ((Below.refl _ w2).drew))
  have BZ1 := hid (BZ0.out.drew)
  refine wp_region_noPanic ?_
  refine wp_region_held_drew (S := fun w' => Below w2.heap.size w2 w') (by kernel_rfl) (BZ1.out) (fun h0 => ?_)
  generalize w2.drew = y1 at *
  refine wpAnyH_take (i := 0) (v := .slice av S.L cv) rfl (by kernel_rfl) (by kernel_rfl) (by kernel_rfl) (fun _ _ _ h => h) (.inl ⟨by rfl, fun w hw => by clear hw; go_simp⟩) h0 ?_
  try simp only [Act.put, lay_out]
  refine wpAnyH_take (i := 1) (v := .int .i64 (S.L : Int)) rfl (by kernel_rfl) (by kernel_rfl) (by kernel_rfl) (fun _ _ _ h => h) (.inl ⟨by rfl, fun w hw => by clear hw; go_simp⟩) h0 ?_
  try simp only [Act.put, lay_out]
  refine wpAnyH_take (i := 2) (v := .pointer (some ⟨w.heap.size, 1, none⟩)) rfl (by kernel_rfl) (by kernel_rfl) (by kernel_rfl) (fun _ _ _ h => h) (.inl ⟨by rfl, fun w hw => by clear hw; go_simp⟩) h0 ?_
  try simp only [Act.put, lay_out]
  refine wpAnyH_take (i := 3) (v := .pointer (some ⟨b, 0, none⟩)) rfl (by kernel_rfl) (by kernel_rfl) (by kernel_rfl) (fun _ _ _ h => h) (.inl ⟨by rfl, fun w' hw => by have hc := row_c (i := 1) (u := .pointer (some ⟨b, 0, none⟩)) (HBX.out w' hw) rfl; clear hw; go_simp⟩) h0 ?_
  try simp only [Act.put, lay_out]
  refine wpAnyH_take (i := 4) (v := .pointer (some ⟨b, 0, none⟩)) rfl (by kernel_rfl) (by kernel_rfl) (by kernel_rfl) (fun _ _ _ h => h) (.inl ⟨by rfl, fun w hw => by clear hw; go_simp⟩) h0 ?_
  try simp only [Act.put, lay_out]
  refine wpAnyH_take (i := 5) (v := .pointer (some ⟨b, 10, none⟩)) rfl (by kernel_rfl) (by kernel_rfl) (by kernel_rfl) (fun _ _ _ h => h) (.inl ⟨by rfl, fun w hw => by clear hw; go_simp⟩) h0 ?_
  try simp only [Act.put, lay_out]
  refine wpAnyH_take (i := 6) (v := .slice xv S.L xc) rfl (by kernel_rfl) (by kernel_rfl) (by kernel_rfl) (fun _ _ _ h => h) (.inl ⟨by rfl, fun w' hw => by have hc := HCV.out w' hw; clear hw; go_simp⟩) h0 ?_
  try simp only [Act.put, lay_out]
  refine wpAnyH_take (i := 7) (v := .int .i64 (S.L : Int)) rfl (by kernel_rfl) (by kernel_rfl) (by kernel_rfl) (fun _ _ _ h => h) (.inl ⟨by rfl, fun w hw => by clear hw; go_simp⟩) h0 ?_
  try simp only [Act.put, lay_out]
  refine wpAnyH_take (i := 8) (v := .bool false) rfl (by kernel_rfl) (by kernel_rfl) (by kernel_rfl) (fun _ _ _ h => h) (.inl ⟨by rfl, fun w hw => by clear hw; go_simp⟩) h0 ?_
  try simp only [Act.put, lay_out]
  refine wpAnyH_take (i := 9) (v := .bool false) rfl (by kernel_rfl) (by kernel_rfl) (by kernel_rfl) (fun _ _ _ h => h) (.inl ⟨by rfl, fun w hw => by clear hw; go_simp⟩) h0 ?_
  try simp only [Act.put, lay_out]
  refine wpAnyH_take (i := 10) (v := .pointer (some ⟨w.heap.size, 0, none⟩)) rfl (by kernel_rfl) (by kernel_rfl) (by kernel_rfl) (fun _ _ _ h => h) (.inl ⟨by rfl, fun w hw => by clear hw; go_simp⟩) h0 ?_
  try simp only [Act.put, lay_out]
  refine wpAnyH_take (i := 11) (v := .pointer (some ⟨p, 0, none⟩)) rfl (by kernel_rfl) (by kernel_rfl) (by kernel_rfl) (fun _ _ _ h => h) (.inl ⟨by rfl, fun w' hw => by have hc := row_c (i := 0) (u := .pointer (some ⟨p, 0, none⟩)) (HBX.out w' hw) rfl; clear hw; go_simp⟩) h0 ?_
  try simp only [Act.put, lay_out]
  refine wpAnyH_take (i := 13) (v := .pointer (some ⟨w.heap.size, 1, none⟩)) rfl (by kernel_rfl) (by kernel_rfl) (by kernel_rfl) (fun _ _ _ h => h) (.inl ⟨by rfl, fun w hw => by clear hw; go_simp⟩) h0 ?_
  try simp only [Act.put, lay_out]
  refine wpAnyH_take (i := 14) (v := .pointer (some ⟨b, 0, none⟩)) rfl (by kernel_rfl) (by kernel_rfl) (by kernel_rfl) (fun _ _ _ h => h) (.inl ⟨by rfl, fun w' hw => by have hc := row_c (i := 1) (u := .pointer (some ⟨b, 0, none⟩)) (HBX.out w' hw) rfl; clear hw; go_simp⟩) h0 ?_
  try simp only [Act.put, lay_out]
  refine wpAnyH_take (i := 15) (v := .pointer (some ⟨b, 0, none⟩)) rfl (by kernel_rfl) (by kernel_rfl) (by kernel_rfl) (fun _ _ _ h => h) (.inl ⟨by rfl, fun w hw => by clear hw; go_simp⟩) h0 ?_
  try simp only [Act.put, lay_out]
  refine wpAnyH_take (i := 16) (v := .pointer (some ⟨b, 7, none⟩)) rfl (by kernel_rfl) (by kernel_rfl) (by kernel_rfl) (fun _ _ _ h => h) (.inl ⟨by rfl, fun w hw => by clear hw; go_simp⟩) h0 ?_
  try simp only [Act.put, lay_out]
  refine wpAnyH_take (i := 17) (v := .int .i64 (S.e : Int)) rfl (by kernel_rfl) (by kernel_rfl) (by kernel_rfl) (fun _ _ _ h => h) (.inl ⟨by rfl, fun w' hw => by have hc := (HC.out w' hw).2.2.1; clear hw; go_simp⟩) h0 ?_
  try simp only [Act.put, lay_out]
  refine wpAnyH_ready (rs := [12]) (by kernel_rfl) (by simp) (AllReadyH.cons rfl (fun K hK => ?_) AllReadyH.nil)
  rw [if_pos (by rfl)]
  go_simp
  go_at_call 43
  (with_reducible refine (zerr hM Z1.out HQ.out HK.out).mono ?_); rintro e w3 ⟨rfl, hb⟩
  have Z3 := hid (Z1.out.self hM hb)
  have BZ3 := hid (BZ1.out.trans (hb.mono BZ1.out.size))
  clear hb
  refine hK.out _ _ (BZ3.out) (fun h1x => ?_)
  clear hK K
  try simp only [Act.put, lay_out]
  refine wpAnyH_take (i := 18) (v := .bool false) rfl (by kernel_rfl) (by kernel_rfl) (by kernel_rfl) (fun _ _ _ h => h) (.inl ⟨by rfl, fun w hw => by clear hw; go_simp⟩) h1x ?_
  try simp only [Act.put, lay_out]
  refine wpAnyH_take (i := 19) (v := .bool false) rfl (by kernel_rfl) (by kernel_rfl) (by kernel_rfl) (fun _ _ _ h => h) (.inl ⟨by rfl, fun w hw => by clear hw; go_simp⟩) h1x ?_
  try simp only [Act.put, lay_out]
  refine wpAnyH_take (i := 20) (v := .bool false) rfl (by kernel_rfl) (by kernel_rfl) (by kernel_rfl) (fun _ _ _ h => h) (.inl ⟨by rfl, fun w hw => by clear hw; go_simp⟩) h1x ?_
  try simp only [Act.put, lay_out]
  refine wpAnyH_take (i := 21) (v := .pointer (some ⟨w.heap.size, 0, none⟩)) rfl (by kernel_rfl) (by kernel_rfl) (by kernel_rfl) (fun _ _ _ h => h) (.inl ⟨by rfl, fun w hw => by clear hw; go_simp⟩) h1x ?_
  try simp only [Act.put, lay_out]
  refine wpAnyH_take (i := 22) (v := .pointer (some ⟨p, 0, none⟩)) rfl (by kernel_rfl) (by kernel_rfl) (by kernel_rfl) (fun _ _ _ h => h) (.inl ⟨by rfl, fun w' hw => by have hc := row_c (i := 0) (u := .pointer (some ⟨p, 0, none⟩)) (HBX.out w' hw) rfl; clear hw; go_simp⟩) h1x ?_
  try simp only [Act.put, lay_out]
  refine wpAnyH_take (i := 24) (v := .pointer (some ⟨w.heap.size, 1, none⟩)) rfl (by kernel_rfl) (by kernel_rfl) (by kernel_rfl) (fun _ _ _ h => h) (.inl ⟨by rfl, fun w hw => by clear hw; go_simp⟩) h1x ?_
  try simp only [Act.put, lay_out]
  refine wpAnyH_take (i := 25) (v := .pointer (some ⟨b, 0, none⟩)) rfl (by kernel_rfl) (by kernel_rfl) (by kernel_rfl) (fun _ _ _ h => h) (.inl ⟨by rfl, fun w' hw => by have hc := row_c (i := 1) (u := .pointer (some ⟨b, 0, none⟩)) (HBX.out w' hw) rfl; clear hw; go_simp⟩) h1x ?_
  try simp only [Act.put, lay_out]
  refine wpAnyH_ready (rs := [23]) (by kernel_rfl) (by simp) (AllReadyH.cons rfl (fun K hK => ?_) AllReadyH.nil)
  rw [if_pos (by rfl)]
  go_simp
  go_at_call 45
  (with_reducible refine (ztrace hM Z3.out HQ.out HK.out).mono ?_); rintro e w4 ⟨v0, v1, rfl, hv0, hv1, hb⟩
  have Z4 := hid (Z3.out.self hM hb)
  have BZ4 := hid (BZ3.out.trans (hb.mono BZ3.out.size))
  rw [HKP.out] at hv0
  rw [HKP.out] at hv1
  have HV0 := hid hv0
  have HV1 := hid hv1
  clear hv0 hv1
  clear hb
  refine hK.out _ _ (BZ4.out) (fun h2x => ?_)
  clear hK K
  try simp only [Act.put, lay_out]
  refine wpAnyH_ready (rs := [26]) (by kernel_rfl) (by simp) (AllReadyH.cons rfl (fun K hK => ?_) AllReadyH.nil)
  rw [if_pos (by rfl)]
  go_simp
  go_at_call 46
  (with_reducible refine (ytrace Z4.out HQ.out HK2.out).mono ?_); rintro e w5 ⟨v0', v1', rfl, hv0, hv1, hb⟩
  have Z5 := hid (Z4.out.self hM hb)
  have BZ5 := hid (BZ4.out.trans (hb.mono BZ4.out.size))
  have HV2 := hid hv0
  have HV3 := hid hv1
  have HV0' := hid (HV0.out.self hb)
  have HV1' := hid (HV1.out.self hb)
  clear hv0 hv1
  clear hb
  refine hK.out _ _ (BZ5.out) (fun h3x => ?_)
  clear hK K
  try simp only [Act.put, lay_out]
  refine wpAnyH_ready (rs := [27]) (by kernel_rfl) (by simp) (AllReadyH.cons rfl (fun K hK => ?_) AllReadyH.nil)
  rw [if_pos (by rfl)]
  go_simp
  go_at_call 44
  (with_reducible refine (refsame_eq S.n v0 v1 v0' v1' S.L S.M S.f S.g _ HV0'.out HV1'.out HV2.out HV3.out).mono ?_); rintro e w6 ⟨rfl, hb⟩
  have Z6 := hid (Z5.out.self hM hb)
  have BZ6 := hid (BZ5.out.trans (hb.mono BZ5.out.size))
  clear hb
  refine hK.out _ _ (BZ6.out) (fun h4x => ?_)
  clear hK K
  try simp only [Act.put, lay_out]
  refine wpAnyH_take (i := 28) (v := .bool false) rfl (by kernel_rfl) (by kernel_rfl) (by kernel_rfl) (fun _ _ _ h => h) (.inl ⟨by rfl, fun w hw => by clear hw; go_simp⟩) h4x ?_
  try simp only [Act.put, lay_out]
  refine wpAnyH_take (i := 29) (v := .bool false) rfl (by kernel_rfl) (by kernel_rfl) (by kernel_rfl) (fun _ _ _ h => h) (.inl ⟨by rfl, fun w hw => by clear hw; go_simp⟩) h4x ?_
  try simp only [Act.put, lay_out]
  refine wpAnyH_done (by kernel_rfl) ?_ _
  refine NoPanic.normal ?_
  clear h0 h1x h2x h3x h4x
  try simp only [Act.put, lay_out]
  go_wp2
  have HZL := hid Z6.out
  go_loopw [4] (fun i wr => ∃ j : Nat, j ≤ S.L ∧ i = .int .i64 j ∧ Below w2.heap.size w2 wr) (fun i _ => S.L - (intOf i).toNat)
  case atStart => exact ⟨0, by omega, rfl, BZ6.out⟩
  case round =>
    obtain ⟨j, hj, rfl, hI⟩ := hrel
    have HI := hid hI
    clear hI
    by_cases hlt : j < S.L
    · obtain ⟨g, off, rfl, hg, hc⟩ := HAV.out (by omega)
      obtain ⟨xa, xcap, hxe, hxc⟩ := (HRV.out _ HI.out.drew).at_
      injection hxe with e1 e2 e3
      subst e1 e3
      obtain ⟨gx, ox, rfl, _, hcx⟩ := hxc (by omega)
      have c1 : wr.drew.cell? ⟨g, off + j, none⟩ = some (.int .u64 (S.v j : Int)) := tcell_self (hc j hlt) HI.out.drew
      have c2 := hcx j hlt
      have c3 := row_c (i := 1) (u := .pointer (some ⟨b, 0, none⟩)) (HBX.out _ HI.out.drew) rfl
      have c4 := HCV.out _ HI.out.drew
      have HI2 := hid HI.out.drew
      have j1 : (0 : Int) ≤ (j : Int) := by omega
      have j2 : (j : Int) < (S.L : Int) := by omega
      have hll := HLL.out
      clear hc hcx hxc hg
      generalize S.v j = z at *
      go_wp2_with fail
      go_region
      go_wp2
      go_roundw
      case rel => exact ⟨j + 1, by omega, by go_num, HI2.out⟩
      case measure => simp [intOf]; omega
    · have hjL : j = S.L := by omega
      subst hjL
      go_wp2
      go_ret
      have hb := HB1.out.trans (HB12.out.mono HB1.out.size)
      exact ⟨rfl, Bz.self hM Z0.out HI.out, hb.trans (HI.out.mono hb.size)⟩
end Go.Proofs.YtpjgpiieminaoaaGreatDoor

/- Share: words, by the document. -/
namespace Go.Proofs.YtpjgpiieminaoaaGreatDoor
open Go.RowKit
set_option maxRecDepth 100000
theorem step_load_row {P : Program} {w : World} {ops : Array Oper} {rest : List Oper} {o : Oper} {a : Act} {Q : Exit → Act → World → Prop} (hgd : o.guard = none) (ty : TypeId) (x : Operand) (ho : o.op = .load ty x)
    (b : Nat) (t : TypeId) (cs : Array Value) (d : TypeDesc) (hx : a.eval x = .pointer (some ⟨b, 0, none⟩)) (hA : w.heap[b]? = some (.cells cs t (0, 0))) (hu : P.underlying ty = some d) (hag : (match d with | .struct _ | .array _ _ => true | _ => false) = true) (hi : (P.info? ty).map (·.size) = some cs.size)
    (k : wpList P ops Q rest (a.put o.dst (.agg cs)) w) : wpList P ops Q (o :: rest) a w :=
  wpList_plain hgd fun _ hK => by
    unfold Oper.wp execOp
    simp only [ho, hx, Instr.loadAt, Instr.sureAddr, Sem.run_bind, Sem.run_pure, Result.andThen_ok, run_loadVar_row w b t ty cs (0, 0) d hA hu hag hi]
    exact hK _ _ k
theorem eaS_0 (S : Ms) (op : Nat → Op6) (m : Nat) : eaS S op 0 (m + 1) = (eaS S op 0 m).doS (op m) 0 := by rw [eaS, Nat.zero_add]
theorem eaR_0 (S : Ms) (op : Nat → Op6) (W : Nat → Int) (m : Nat) : eaR S op 0 W (m + 1) = updI (eaR S op 0 W m) m ((eaS S op 0 m).doR (op m)) := by rw [eaR, Nat.zero_add]
theorem sh_of {S : Ms} (h : S.n = 2 ∨ S.n = 3) : S.n = (S.sh : Int) ∧ 2 ≤ S.sh ∧ S.sh ≤ 3 := by unfold Ms.sh; omega
set_option maxHeartbeats 6400000 in
theorem ycst {Pm : World → Nat → Ms → (Nat → Prop) → Prop} (hM : Mach Pm) {lo : Nat} {X : Nat → Prop} {W w : World} {p b k : Nat} {S1 S : Ms} (h : Bz Pm lo X W w p b S1 S) (hq : Bq k S) (hk : k + 3 ≤ 100000) (hn : S.n = 2 ∨ S.n = 3) (K : Int) (hK : I64 K) (c : Nat) (hc : c < 2 ^ 64) :
    Calls Tryz.prog 8 #[.pointer (some ⟨b, 0, none⟩), .int .i64 K, .int .u64 (c : Int)] w fun e w' => e = .returned (.agg (wdV (cstR S K c))) ∧ Bz Pm lo X W w' p b S1 (cstS S K c) ∧ ∀ k, X k → w'.heap[k]? = w.heap[k]? := by
  obtain ⟨hsh, hs2, hs3⟩ := sh_of hn
  have HOP : Hid (∀ i, i < 3 → opwf (opCst K c i)) := hid (fun i hi => opCst_wf hK hc (by omega))
  have HQ : Hid (∀ m, m ≤ 3 → Bq (k + m) (eaS S (opCst K c) 0 m)) := hid (fun m hm => eaS_bq hq 0 m (fun j hj => by rw [Nat.zero_add]; exact HOP.out j (by omega)))
  have HN : Hid (∀ m, (eaS S (opCst K c) 0 m).n = (S.sh : Int)) := hid (fun m => (eaS_n S _ 0 m).trans hsh)
  have HK0 : Hid (k + 0 ≤ 100000) := hid (by omega)
  have HK := hid hk
  have HO0 : Hid (opwf ⟨K, 0, -1, -1, -1, c⟩) := hid (opAd1_wf hK hc)
  have Z1 := hid ((Gz.start h).box hM (Nat.le_refl _) #[.int .i64 0, .int .i64 0, .int .i64 0])
  unfold cstR cstS
  generalize S.sh = n at *
  clear h hq hn hK hc hk hsh
  go_enter Tryz.func8, Tryz.ntmps8
  go_wp2_with (first
    | (go_at_call 27; (with_reducible refine (none_any _).mono ?_); rintro e w1 ⟨rfl, hb⟩; have Z2 := hid ((Z1.out.self hM hb).box hM (by have := hb.size; simp at this; omega) (wdV none3)); have HNL : Hid (w.heap.size ≠ w1.heap.size) := hid (by have := hb.size; simp at this; omega); clear hb)
    | (go_at_call 29; (with_reducible refine (dopc_any K 0 (-1) (-1) c _).mono ?_); rintro e w2 ⟨rfl, hb⟩; have Z3 := hid (Z2.out.self hM hb); clear hb)
    | (go_at_call 28; (with_reducible refine (ydo0 hM ⟨K, 0, -1, -1, -1, c⟩ Z3.out.z (HQ.out 0 (by omega)) HK0.out HO0.out).mono ?_); rintro e w3 ⟨rfl, hz, hs⟩; have Z4 := hid (Z3.out.on hz hs); clear hz hs; have cl := row_c (i := 0) (u := .int .i64 (-1)) (Z4.out.bx _ (List.mem_cons_self ..)).2 rfl; have fl := frozen_of_row w3 _ 0 _ _ (Z4.out.bx _ (List.mem_cons_self ..)).2))
  have Z5 : Hid (Gz Pm lo X W w (w3.setCell ⟨w1.heap.size, 0, none⟩ (.int .i64 (S.doR ⟨K, 0, -1, -1, -1, c⟩))) p b S1 (eaS S (opCst K c) 0 1) [(w1.heap.size, wdV (eaR S (opCst K c) 0 none3 1)), (w.heap.size, #[.int .i64 0, .int .i64 0, .int .i64 0])]) := hid (by
    have := Z4.out.cell hM (by intro q hq; simp at hq; subst hq; exact HNL.out) 0 (.int .i64 (S.doR ⟨K, 0, -1, -1, -1, c⟩))
    rw [wdV_upd _ _ _ (by decide)] at this
    exact this)
  generalize w1.heap.size = lb at *
  clear cl fl
  go_loopw [8] (fun i wr => ∃ m : Nat, 1 ≤ m ∧ m ≤ n ∧ i = .int .i64 m ∧ Gz Pm lo X W w wr p b S1 (eaS S (opCst K c) 0 m) [(lb, wdV (eaR S (opCst K c) 0 none3 m)), (w.heap.size, #[.int .i64 0, .int .i64 0, .int .i64 0])]) (fun i _ => n - (intOf i).toNat)
  case atStart => exact ⟨1, by omega, by omega, rfl, Z5.out⟩
  case round =>
    obtain ⟨m, hm1, hm, rfl, hI⟩ := hrel
    have HI := hid hI
    clear hI
    have c0 := HI.out.sh
    rw [HN.out] at c0
    by_cases hlt : m < n
    · have j2 : (m : Int) < (n : Int) := by omega
      have j1 : (0 : Int) ≤ (m : Int) := by omega
      have j3 : (m : Int) < 3 := by omega
      have HE := hid (eaS_0 S (opCst K c) m)
      have HF := hid (eaR_0 S (opCst K c) none3 m)
      have hop : opCst K c m = ⟨3, (m : Int), -1, -1, -1, 0⟩ := if_neg (by omega)
      have HOM : Hid (opwf ⟨3, (m : Int), -1, -1, -1, 0⟩) := hid (hop ▸ HOP.out m (by omega))
      rw [hop] at HE HF
      have HQM := hid (HQ.out m (by omega))
      have HKM : Hid (k + m ≤ 100000) := hid (by have := HK.out; omega)
      have HM3 : Hid (m < 3) := hid (by omega)
      go_wp2_with (first
        | (go_at_call 29; (with_reducible refine (dop0_any 3 (m : Int) (-1) (-1) _).mono ?_); rintro e w5 ⟨rfl, hb⟩; have Y1 := hid (HI.out.self hM hb); clear hb)
        | (go_at_call 28; (with_reducible refine (ydo0 hM ⟨3, (m : Int), -1, -1, -1, 0⟩ Y1.out.z HQM.out HKM.out HOM.out).mono ?_); rintro e w6 ⟨rfl, hz, hs⟩; have Y2 := hid (Y1.out.on hz hs); clear hz hs; have cl : w6.cell? ⟨lb, m, none⟩ = some (.int .i64 (eaR S (opCst K c) 0 none3 m m)) := row_c (Y2.out.bx _ (List.mem_cons_self ..)).2 (wdV_at _ _ HM3.out); have fl := frozen_of_row w6 _ m _ _ (Y2.out.bx _ (List.mem_cons_self ..)).2))
      go_roundw
      case rel =>
        refine ⟨m + 1, by omega, by omega, by go_num, ?_⟩
        have := Y2.out.cell hM (by intro q hq; simp at hq; subst hq; exact HNL.out) m (.int .i64 ((eaS S (opCst K c) 0 m).doR ⟨3, (m : Int), -1, -1, -1, 0⟩))
        rw [wdV_upd _ _ _ HM3.out] at this
        rw [HE.out, HF.out]
        exact this
      case measure => simp [intOf]; omega
    · obtain rfl : m = n := by omega
      clear hlt
      go_wp2_with (first
        | (refine step_load_row rfl 37 _ rfl lb 37 (wdV (eaR S (opCst K c) 0 none3 m)) _ rfl (HI.out.bx (lb, wdV (eaR S (opCst K c) 0 none3 m)) (by simp)).2 Tryz.underlying37 rfl (by kernel_rfl) ?_)
        | (refine step_store_row rfl 37 _ _ rfl w.heap.size 37 _ (wdV (eaR S (opCst K c) 0 none3 m)) rfl rfl (HI.out.bx (w.heap.size, #[.int .i64 0, .int .i64 0, .int .i64 0]) (by simp)).2 (by kernel_rfl) rfl (by kernel_rfl) ?_))
      have ZF := hid (((HI.out.swap (bs' := [(w.heap.size, #[.int .i64 0, .int .i64 0, .int .i64 0]), (lb, wdV (eaR S (opCst K c) 0 none3 m))]) (by intro q hq; simp at hq ⊢; exact hq.symm)).row hM (by intro q hq; simp at hq; subst hq; exact HNL.out.symm) (wdV (eaR S (opCst K c) 0 none3 m))))
      exact bodyPost_ret (results_cell_row (by rfl) _ _ w.heap.size 37 (wdV (eaR S (opCst K c) 0 none3 m)) (0, 0) _ rfl (ZF.out.bx _ (List.mem_cons_self ..)).2 Tryz.underlying37 rfl (by kernel_rfl)) rfl ⟨rfl, ZF.out.fin⟩
end Go.Proofs.YtpjgpiieminaoaaGreatDoor

namespace Go.Proofs.YtpjgpiieminaoaaGreatDoor
open Go.RowKit

/-- At block m lies the document's tape: its words that are left, how many were drawn, how many may be. -/
def ModelAt (w : World) (lo hi m : Nat) (zs : List Int) (u f : Nat) : Prop :=
  ∃ wv, w.heap[m]? = some (.cells #[wv, .int .i64 u, .int .i64 f] 71 (0, 0)) ∧ RdS .u64 w (fun g => lo ≤ g ∧ g < hi ∧ g ≠ m) wv zs ∧ lo ≤ m ∧ m < hi ∧ hi ≤ w.heap.size

theorem ModelAt.lt {w : World} {lo hi b : Nat} {zs : List Int} {d e : Nat} (h : ModelAt w lo hi b zs d e) : lo ≤ b ∧ b < hi ∧ hi ≤ w.heap.size := by
  obtain ⟨_, _, _, h⟩ := h; exact h
theorem ModelAt.only {w w' : World} {lo hi b c : Nat} {zs : List Int} {d e : Nat} (h : ModelAt w lo hi b zs d e) (o : Only c w w') (hn : c < lo ∨ hi ≤ c) : ModelAt w' lo hi b zs d e := by
  obtain ⟨wv, hb, hr, h5, h6, h7⟩ := h
  exact ⟨wv, (o.block b (by omega) (by omega)).trans hb, hr.only o (fun g hg => by omega), h5, h6, Nat.le_trans h7 o.size⟩
theorem ModelAt.below {w w' : World} {lo hi b : Nat} {zs : List Int} {d e : Nat} (h : ModelAt w lo hi b zs d e) (o : Below w.heap.size w w') : ModelAt w' lo hi b zs d e := by
  obtain ⟨wv, hb, hr, h5, h6, h7⟩ := h
  exact ⟨wv, (o.block b (by omega)).trans hb, hr.below o, h5, h6, Nat.le_trans h7 o.size⟩
theorem ModelAt.drew {w : World} {lo hi b : Nat} {zs : List Int} {d e : Nat} (h : ModelAt w lo hi b zs d e) : ModelAt w.drew lo hi b zs d e := h.below ((Below.refl _ _).drew)
theorem ModelAt.drewN {w : World} {lo hi b : Nat} {zs : List Int} {d e : Nat} (h : ModelAt w lo hi b zs d e) (n : Nat) : ModelAt (w.drewN n) lo hi b zs d e := h.below ⟨rfl, rfl, rfl, Nat.le_refl _, fun _ _ => rfl⟩
theorem ModelAt.len {w : World} {lo hi b : Nat} {zs : List Int} {d e : Nat} (h : ModelAt w lo hi b zs d e) : zs.length ≤ 17592186043904 := by
  obtain ⟨_, _, ⟨_, _, _, _, _, h, _⟩, _⟩ := h
  simp [IntKind.bits] at h; omega
/-- What is left of a slice without its first. -/
theorem RdS.tail {k : IntKind} {w : World} {S : Nat → Prop} {g off cap : Nat} {z : Int} {zs : List Int} (h : RdS k w S (.slice (some ⟨g, off, none⟩) (zs.length + 1) cap) (z :: zs)) (b : Option Addr) (hb : 0 < zs.length → b = some ⟨g, off + 1, none⟩) :
    RdS k w S (.slice b zs.length (cap - 1)) zs := by
  obtain ⟨a, c, h1, h2, h3, h4, h5, h7⟩ := h
  injection h1 with e1 e2 e3
  subst e3
  simp only [List.length_cons] at h2 h4
  refine ⟨b, cap - 1, rfl, by omega, by omega, by rw [Nat.add_mul] at h4; omega, fun x hx => h5 x (List.mem_cons_of_mem _ hx), fun hp => ?_⟩
  obtain ⟨g', off', e, hS, hlt, hc⟩ := h7 (by simp)
  rw [← e1] at e
  injection e with e
  injection e with e4 e5 e6
  subst e4; subst e5
  refine ⟨g, off + 1, hb hp, hS, hlt, fun j hj => ?_⟩
  have := hc (j + 1) (by simp; omega)
  rw [show off + 1 + j = off + (j + 1) by omega, this]
  rfl

theorem ModelAt.step {w : World} {lo hi m : Nat} {wv v' x y : Value} {zs : List Int} {u f : Nat} {u' f' : Int} (hb : w.heap[m]? = some (.cells #[wv, x, y] 71 (0, 0)))
    (hr : RdS .u64 w (fun g => lo ≤ g ∧ g < hi ∧ g ≠ m) v' zs) (h5 : lo ≤ m) (h6 : m < hi) (h7 : hi ≤ w.heap.size) (hu : u' = u) (hf : f' = f) :
    ModelAt (((w.setCell ⟨m, 0, none⟩ v').setCell ⟨m, 2, none⟩ (.int .i64 f')).setCell ⟨m, 1, none⟩ (.int .i64 u')) lo hi m zs u f ∧ Only m w (((w.setCell ⟨m, 0, none⟩ v').setCell ⟨m, 2, none⟩ (.int .i64 f')).setCell ⟨m, 1, none⟩ (.int .i64 u')) := by
  subst hu; subst hf
  have o : Only m w (((w.setCell ⟨m, 0, none⟩ v').setCell ⟨m, 2, none⟩ (.int .i64 f)).setCell ⟨m, 1, none⟩ (.int .i64 u)) :=
    ((Only.set (g := m) w (p := ⟨m, 0, none⟩) rfl _).trans (Only.set (g := m) _ (p := ⟨m, 2, none⟩) rfl _)).trans (Only.set (g := m) _ (p := ⟨m, 1, none⟩) rfl _)
  exact ⟨⟨v', set3_1 (set3_2 (set3_0 hb)), hr.only o (fun g hg => hg.2.2), h5, h6, by simpa [World.setCell] using h7⟩, o⟩

end Go.Proofs.YtpjgpiieminaoaaGreatDoor

/- Wire: WirePlays, over what the program's machine tells. -/
namespace Go.Proofs.YtpjgpiieminaoaaGreatDoor
open Go.RowKit
set_option maxRecDepth 100000
/-- Both machines begin. -/
theorem Bz.begun {Pm : World → Nat → Ms → (Nat → Prop) → Prop} {lo : Nat} {G F : Nat → Prop} {W wx : World} {p b : Nat} {S1 S2 : Ms} {tv : Value} (h1 : Pm wx p S1 F) (h2 : Dm ⟨lo, G⟩ wx b S2 (.slice none 0 0) (.slice none 0 0) (.slice none 0 0) tv) (hF : ∀ k, F k → lo ≤ k ∧ k ≠ b ∧ ¬ G k) (hG : ∀ k, G k → k < wx.heap.size) (h6 : Below lo W wx) (h7 : lo ≤ wx.heap.size) : Bz Pm lo (fun _ => False) W wx p b S1 S2 := by
  refine ⟨F, G, _, _, _, _, h1, h2, fun k hk => ⟨(hF k hk).1, fun e => ?_, (hF k hk).2.2, fun e => e⟩, fun k hk => hk.elim, hG, h6, h7⟩
  rcases e with e | e | e | e
  · exact (hF k hk).2.1 e
  · simp [Value.ownBlock] at e
  · simp [Value.ownBlock] at e
  · simp [Value.ownBlock] at e
/-- What the law's loop holds. -/
structure Wp (Pm : World → Nat → Ms → (Nat → Prop) → Prop) (W wr : World) (p b k : Nat) (S1 S : Ms) : Prop where
  z : Bz Pm W.heap.size (fun _ => False) W wr p b S1 S
  q : Bq k S
theorem Wp.self {Pm : World → Nat → Ms → (Nat → Prop) → Prop} (hM : Mach Pm) {W wr wy : World} {p b k : Nat} {S1 S : Ms} (h : Wp Pm W wr p b k S1 S) (hb : Below wr.heap.size wr wy) : Wp Pm W wy p b k S1 S := ⟨h.z.self hM hb, h.q⟩
end Go.Proofs.YtpjgpiieminaoaaGreatDoor

/- Share: a pair of machines begins. -/
namespace Go.Proofs.YtpjgpiieminaoaaGreatDoor
open Go.RowKit
set_option maxRecDepth 100000
set_option maxHeartbeats 6400000 in
theorem lbegins_any {Pm : World → Nat → Ms → (Nat → Prop) → Prop} (hM : Mach Pm) (hN : MachN Pm) (n most : Int) (hn : n = 2 ∨ n = 3) (hm : 0 ≤ most) (hm2 : most ≤ 1048576) (tw : Nat → Nat) (TN : Nat) (mv : Value) (w : World) (h : RdS .u64 w (fun g => g < w.heap.size) mv (wdL tw TN)) :
    Calls Tryz.prog 4 #[.int .i64 n, mv, .int .i64 most] w fun e w' => ∃ p b, e = .returned (.tuple #[.agg (paC p b (.slice none 0 0) (.slice none 0 0)), .bool true]) ∧ Bz Pm w.heap.size (fun _ => False) w w' p b (startD n most tw TN 0 TN) (startD n most tw TN 0 TN) := by
  obtain ⟨ma, mc, rfl, hm0⟩ := id h
  rw [wdL_len] at h
  have HT := hid (fun (w : World) (h : Rd .u64 w (.slice ma TN mc) (wdL tw TN)) => new_any _ _ w h)
  have HR : Hid (∀ lo hi b w, TapeAt w lo hi b (wdL tw TN) 0 0 → Calls Tryz.prog 21 #[.pointer (some ⟨b, 0, none⟩), .int .i64 (TN : Int)] w fun r w' => r = .returned (.int .i64 0) ∧ TapeAt w' lo hi b (wdL tw TN) 0 TN ∧ Only b w w') := hid (fun lo hi b w h => by have := reserve_ok lo hi b _ 0 0 TN w h (by rw [wdL_len]; omega); rw [Nat.zero_add] at this; exact this)
  have HN := hid hN
  have HN23 := hid hn
  have HM0 := hid (And.intro hm hm2)
  obtain ⟨w0, hw0⟩ : ∃ w0, w.alloc (.cells #[.pointer none, .pointer none, .slice none 0 0, .slice none 0 0] 31) = w0 := ⟨_, rfl⟩
  have B0 : Hid (Below w.heap.size w w0) := hid (by rw [← hw0]; exact (Below.refl _ _).alloc (Nat.le_refl _) _)
  have HX0 : Hid (w0.heap[w.heap.size]? = some (.cells #[.pointer none, .pointer none, .slice none 0 0, .slice none 0 0] 31 (0, 0))) := hid (by rw [← hw0]; exact heap_alloc_new _ _)
  have HS0 : Hid (w0.heap.size = w.heap.size + 1) := hid (by rw [← hw0]; simp)
  have HRD : Hid (∀ w', Below w.heap.size w w' → RdS .u64 w' (fun g => g < w.heap.size) (.slice ma TN mc) (wdL tw TN)) := hid (fun w' hb => rds_self h hb)
  have HW0 := hid hw0
  rw [wdL_len]
  clear h hm0 hN hn hm hm2 hw0
  go_enter Tryz.func4, Tryz.ntmps4
  go_upto_region 1 with fail
  rw [HW0.out]
  go_upto_region 4 with (first
    | (go_at_call 20; (with_reducible refine (HT.out _ (HRD.out _ B0.out).rd).mono ?_); rintro e w2 ⟨q, rfl, ht, hb⟩; have B2 := hid (B0.out.trans (hb.mono B0.out.size)); have T2 := hid ht; have HX2 := hid ((hb.block _ (Array.getElem?_eq_some_iff.1 HX0.out).1).trans HX0.out); clear ht hb)
    | (go_at_call 21; (with_reducible refine (HR.out _ _ _ _ T2.out).mono ?_); rintro e w3 ⟨rfl, ht, ho⟩; have B3 := hid (B2.out.trans (ho.below (by have := T2.out.lt; have := B0.out.size; omega) B2.out.size)); have T3 := hid ht; have HX3 := hid ((ho.block _ (Array.getElem?_eq_some_iff.1 HX2.out).1 (by have := T2.out.lt; have := HS0.out; omega)).trans HX2.out); clear ht ho)
    | (go_at_call 22; (with_reducible refine (HN.out.new _ _ _ 0 TN n most tw TN _ T3.out HN23.out HM0.out.1 HM0.out.2).mono ?_); rintro e w4 ⟨p, rfl, hb, F, hp, hF⟩; have B4 := hid (B3.out.trans (hb.mono B3.out.size)); have P4 := hid hp; have HX4 := hid ((hb.block _ (Array.getElem?_eq_some_iff.1 HX3.out).1).trans HX3.out); have F4 : Hid (∀ k, F k → w.heap.size < k) := hid (fun k hk => by have := hF k hk; have := HS0.out; have := B3.out.size; have := (Array.getElem?_eq_some_iff.1 HX3.out).1; omega); clear hp hF hb))
  go_wp2_with (first
    | (go_at_call 23; (with_reducible refine (dnew_any ⟨w.heap.size, fun g => g < w.heap.size⟩ n most tw TN (.slice ma TN mc) _ (HRD.out _ B4.out) B4.out.size).mono ?_); rintro e w5 ⟨rfl, hd, hb⟩; have B5 := hid (B4.out.trans (hb.mono B4.out.size)); have D5 := hid hd; have P5 := hid (hM.stays P4.out hb.size (fun k hk => hb.block k (hM.lt P4.out k hk))); have HX5 := hid ((hb.block _ (Array.getElem?_eq_some_iff.1 HX4.out).1).trans HX4.out); have HL5 := hid hb.size; clear hd hb)
    | (refine step_store_row rfl 31 _ _ rfl w.heap.size 31 _ (paC p w4.heap.size (.slice none 0 0) (.slice none 0 0)) rfl rfl HX5.out (by kernel_rfl) rfl (by kernel_rfl) ?_))
  refine ret_row_tmp rfl rfl (setRow_heap _ _ _ _ _ _ HX5.out) Tryz.underlying31 rfl (by kernel_rfl) rfl ?_
  refine ⟨p, w4.heap.size, rfl, ?_⟩
  have hne : w4.heap.size ≠ w.heap.size := by have := (Array.getElem?_eq_some_iff.1 HX4.out).1; omega
  have hz : ∀ k, k ≠ w.heap.size → (w5.setRow w.heap.size (paC p w4.heap.size (.slice none 0 0) (.slice none 0 0))).heap[k]? = w5.heap[k]? := fun k hk => setRow_other w5 w.heap.size k _ hk
  have hsz : (w5.setRow w.heap.size (paC p w4.heap.size (.slice none 0 0) (.slice none 0 0))).heap.size = w5.heap.size := by simp [World.setRow]
  refine Bz.begun (G := fun g => g < w.heap.size) (F := F) (tv := .slice ma TN mc) (hM.stays P5.out (by rw [hsz]; exact Nat.le_refl _) (fun k hk => hz k (by have := F4.out k hk; omega))) (Dm.stays D5.out (by rw [hsz]; exact Nat.le_refl _) (fun k hk => hz k ?_) (fun k hk _ => hz k (by have hk' : k < w.heap.size := hk; omega))) (fun k hk => ⟨by have := F4.out k hk; omega, by have := hM.lt P4.out k hk; omega, by have := F4.out k hk; show ¬ k < w.heap.size; omega⟩) (fun k hk => by have hk' : k < w.heap.size := hk; have := B5.out.size; rw [hsz]; omega) (below_setRow B5.out (Nat.le_refl _) _) (by rw [hsz]; exact B5.out.size)
  rcases hk with e | e | e | e
  · omega
  · simp [Value.ownBlock] at e
  · simp [Value.ownBlock] at e
  · simp [Value.ownBlock] at e
end Go.Proofs.YtpjgpiieminaoaaGreatDoor

/- Share: words, by the document: xor, one op, not, add. -/
namespace Go.Proofs.YtpjgpiieminaoaaGreatDoor
open Go.RowKit
set_option maxRecDepth 100000
set_option maxHeartbeats 6400000 in
theorem yone {Pm : World → Nat → Ms → (Nat → Prop) → Prop} (hM : Mach Pm) {lo : Nat} {X : Nat → Prop} {W w : World} {p b k : Nat} {S1 S : Ms} (h : Bz Pm lo X W w p b S1 S) (hq : Bq k S) (hk : k + 3 ≤ 100000) (hn : S.n = 2 ∨ S.n = 3) (K : Int) (A : Nat → Int) (c : Nat) (hK : I64 K) (hA : Wb A) (hc : c < 2 ^ 64) :
    Calls Tryz.prog 34 #[.pointer (some ⟨b, 0, none⟩), .int .i64 K, .agg (wdV A), .int .u64 (c : Int)] w fun e w' => e = .returned (.agg (wdV (oneR S K A c))) ∧ Bz Pm lo X W w' p b S1 (oneS S K A c) ∧ ∀ k, X k → w'.heap[k]? = w.heap[k]? := by
  obtain ⟨hsh, hs2, hs3⟩ := sh_of hn
  have HOP : Hid (∀ i, i < 3 → opwf ((opOne K A c) i)) := hid (fun i hi => opOne_wf hK hA hc (by omega))
  have HQ : Hid (∀ m, m ≤ 3 → Bq (k + m) (eaS S (opOne K A c) 0 m)) := hid (fun m hm => eaS_bq hq 0 m (fun j hj => by rw [Nat.zero_add]; exact HOP.out j (by omega)))
  have HN : Hid (∀ m, (eaS S (opOne K A c) 0 m).n = (S.sh : Int)) := hid (fun m => (eaS_n S _ 0 m).trans hsh)
  have HK := hid hk
  have HB : Hid (Below w.heap.size w ((w.alloc (.cells (wdV A) 37)).alloc (.cells #[.int .i64 0, .int .i64 0, .int .i64 0] 37))) := hid ((((Below.refl _ _).alloc (Nat.le_refl _) _).alloc (by simp; try omega) _))
  have Z0 := hid (Gz.start h)
  have Z1 := hid (Z0.out.box hM (Nat.le_refl _) (wdV A))
  have Z2 := hid (Z1.out.box hM (by simp; try omega) #[.int .i64 0, .int .i64 0, .int .i64 0])
  have ZZ : Hid (Gz Pm lo X W w ((w.alloc (.cells (wdV A) 37)).alloc (.cells #[.int .i64 0, .int .i64 0, .int .i64 0] 37)) p b S1 S [((w.heap.size + 1), #[.int .i64 0, .int .i64 0, .int .i64 0]), (w.heap.size, (wdV A))]) := hid (by have := Z2.out; simpa using this)
  clear Z0 Z1 Z2
  unfold oneR oneS
  generalize S.sh = n at *
  clear h hq hn hk hsh hK hA hc
  go_enter Tryz.func34, Tryz.ntmps34
  go_wp2_with (go_at_call 27; (with_reducible refine (none_any _).mono ?_); rintro e w1 ⟨rfl, hb⟩; have HNL : Hid (w.heap.size + 2 ≤ w1.heap.size) := hid (by have := hb.size; simp at this; omega); have Z5 := hid ((ZZ.out.self hM hb).box hM (by have := HNL.out; omega) (wdV none3)); clear hb)
  generalize w1.heap.size = lb at *
  go_loopw [10] (fun i wr => ∃ m : Nat, m ≤ n ∧ i = .int .i64 m ∧ Gz Pm lo X W w wr p b S1 (eaS S (opOne K A c) 0 m) [(lb, wdV (eaR S (opOne K A c) 0 none3 m)), ((w.heap.size + 1), #[.int .i64 0, .int .i64 0, .int .i64 0]), (w.heap.size, (wdV A))]) (fun i _ => n - (intOf i).toNat)
  case atStart => exact ⟨0, by omega, rfl, Z5.out⟩
  case round =>
    obtain ⟨m, hm, rfl, hI⟩ := hrel
    have HI := hid hI
    clear hI
    have c0 := HI.out.sh
    rw [HN.out] at c0
    by_cases hlt : m < n
    · have j2 : (m : Int) < (n : Int) := by omega
      have j1 : (0 : Int) ≤ (m : Int) := by omega
      have j3 : (m : Int) < 3 := by omega
      have HE := hid (eaS_0 S (opOne K A c) m)
      have HF := hid (eaR_0 S (opOne K A c) none3 m)
      have HOM : Hid (opwf ⟨K, (m : Int), A m, -1, -1, c⟩) := hid (HOP.out m (by omega))
      have HQM := hid (HQ.out m (by omega))
      have HKM : Hid (k + m ≤ 100000) := hid (by have := HK.out; omega)
      have HM3 : Hid (m < 3) := hid (by omega)
      have r0 : wr.cell? ⟨w.heap.size, m, none⟩ = some (.int .i64 (A m)) := row_c (HI.out.bx (w.heap.size, wdV A) (by simp)).2 (wdV_at _ _ HM3.out)
      go_wp2_with (first
        | (go_at_call 29; (with_reducible refine (dopc_any K (m : Int) (A m) (-1) c _).mono ?_); rintro e w5 ⟨rfl, hb⟩; have Y1 := hid (HI.out.self hM hb); clear hb)
        | (go_at_call 28; (with_reducible refine (ydo0 hM ⟨K, (m : Int), A m, -1, -1, c⟩ Y1.out.z HQM.out HKM.out HOM.out).mono ?_); rintro e w6 ⟨rfl, hz, hs⟩; have Y2 := hid (Y1.out.on hz hs); clear hz hs; have cl : w6.cell? ⟨lb, m, none⟩ = some (.int .i64 (eaR S (opOne K A c) 0 none3 m m)) := row_c (Y2.out.bx _ (List.mem_cons_self ..)).2 (wdV_at _ _ HM3.out); have fl := frozen_of_row w6 _ m _ _ (Y2.out.bx _ (List.mem_cons_self ..)).2))
      go_roundw
      case rel =>
        refine ⟨m + 1, by omega, by go_num, ?_⟩
        have := Y2.out.cell hM (by intro q hq; have := HNL.out; simp at hq; rcases hq with rfl | rfl <;> (simp; omega)) m (.int .i64 ((eaS S (opOne K A c) 0 m).doR ⟨K, (m : Int), A m, -1, -1, c⟩))
        rw [wdV_upd _ _ _ HM3.out] at this
        rw [HE.out, HF.out]
        exact this
      case measure => simp [intOf]; omega
    · obtain rfl : m = n := by omega
      clear hlt
      go_wp2_with (first
        | (refine step_load_row rfl 37 _ rfl lb 37 (wdV (eaR S (opOne K A c) 0 none3 m)) _ rfl (HI.out.bx (lb, wdV (eaR S (opOne K A c) 0 none3 m)) (by simp)).2 Tryz.underlying37 rfl (by kernel_rfl) ?_)
        | (refine step_store_row rfl 37 _ _ rfl (w.heap.size + 1) 37 _ (wdV (eaR S (opOne K A c) 0 none3 m)) rfl rfl (HI.out.bx ((w.heap.size + 1), #[.int .i64 0, .int .i64 0, .int .i64 0]) (by simp)).2 (by kernel_rfl) rfl (by kernel_rfl) ?_))
      have ZF := hid (((HI.out.swap (bs' := [((w.heap.size + 1), #[.int .i64 0, .int .i64 0, .int .i64 0]), (lb, wdV (eaR S (opOne K A c) 0 none3 m))]) (by intro q hq; simp at hq ⊢; rcases hq with rfl | rfl <;> simp)).row hM (by intro q hq; have := HNL.out; simp at hq; subst hq; simp; omega) (wdV (eaR S (opOne K A c) 0 none3 m))))
      exact bodyPost_ret (results_cell_row (by rfl) _ _ (w.heap.size + 1) 37 (wdV (eaR S (opOne K A c) 0 none3 m)) (0, 0) _ rfl (ZF.out.bx _ (List.mem_cons_self ..)).2 Tryz.underlying37 rfl (by kernel_rfl)) rfl ⟨rfl, ZF.out.fin⟩
end Go.Proofs.YtpjgpiieminaoaaGreatDoor

/- General: bounds of the gadgets of words. No program is named. -/
namespace Go.Proofs.YtpjgpiieminaoaaGreatDoor

theorem sh_bd {S : Ms} (hn : S.n = 2 ∨ S.n = 3) : 2 ≤ S.sh ∧ S.sh ≤ 3 := by unfold Ms.sh; omega
theorem i64k (z : Int) (h : 0 ≤ z) (h2 : z ≤ 1000) : I64 z := i64c z h h2
theorem cstS_bq {k : Nat} {S : Ms} (h : Bq k S) (hn : S.n = 2 ∨ S.n = 3) {K : Int} (hK : I64 K) {c : Nat} (hc : c < 2 ^ 64) : Bq (k + 6) (cstS S K c) :=
  (eaS_bq h 0 S.sh (fun j hj => opCst_wf hK hc (by have := sh_bd hn; omega))).mono (by have := sh_bd hn; omega)
end Go.Proofs.YtpjgpiieminaoaaGreatDoor

/- Share: what the program's functions of words must tell, over any machine. -/
namespace Go.Proofs.YtpjgpiieminaoaaGreatDoor
open Go.RowKit
set_option maxRecDepth 100000
/-- The program's gadgets of words, whatever its machine is made of. -/
structure ShI (Pm : World → Nat → Ms → (Nat → Prop) → Prop) : Prop where
  pub : ∀ (b k : Nat) (S : Ms) (F : Nat → Prop) (c : Nat) (w : World), Pm w b S F → Bq k S → k + 10 ≤ 100000 → (S.n = 2 ∨ S.n = 3) → c < 2 ^ 64 → Calls Tryz.prog 7 #[.pointer (some ⟨b, 0, none⟩), .int .u64 (c : Int)] w fun e w' => e = .returned (.agg (wdV (cstR S 3 c))) ∧ PmR Pm b (cstS S 3 c) F w w'
  one : ∀ (b k : Nat) (S : Ms) (F : Nat → Prop) (K : Int) (A : Nat → Int) (c : Nat) (w : World), Pm w b S F → Bq k S → k + 10 ≤ 100000 → (S.n = 2 ∨ S.n = 3) → I64 K → Wb A → c < 2 ^ 64 → Calls Tryz.prog 64 #[.pointer (some ⟨b, 0, none⟩), .int .i64 K, .agg (wdV A), .int .u64 (c : Int)] w fun e w' => e = .returned (.agg (wdV (oneR S K A c))) ∧ PmR Pm b (oneS S K A c) F w w'
section
variable {Pm : World → Nat → Ms → (Nat → Prop) → Prop} (hM : Mach Pm) (hS : ShI Pm) {lo : Nat} {X : Nat → Prop} {W w : World} {b bd k : Nat} {S S2 : Ms}
include hM hS
theorem qpub (c : Nat) (h : Bz Pm lo X W w b bd S S2) (hq : Bq k S) (hk : k + 10 ≤ 100000) (hn : S.n = 2 ∨ S.n = 3) (g0 : c < 2 ^ 64) :
    Calls Tryz.prog 7 #[.pointer (some ⟨b, 0, none⟩), .int .u64 (c : Int)] w fun e w' => e = .returned (.agg (wdV (cstR S 3 c))) ∧ Bz Pm lo X W w' b bd (cstS S 3 c) S2 ∧ ∀ k, X k → w'.heap[k]? = w.heap[k]? := by
  obtain ⟨F, G, ov, bv, vv, tv, h1, h2, h3, h4, h5, h6, h7⟩ := h
  exact (hS.pub b k S F c w h1 hq hk hn g0).mono fun e w' hr => ⟨hr.1, Bz.prog hM h1 h2 h3 h4 h5 h6 h7 hr.2⟩
theorem qone (K : Int) (A : Nat → Int) (c : Nat) (h : Bz Pm lo X W w b bd S S2) (hq : Bq k S) (hk : k + 10 ≤ 100000) (hn : S.n = 2 ∨ S.n = 3) (g0 : I64 K) (g1 : Wb A) (g2 : c < 2 ^ 64) :
    Calls Tryz.prog 64 #[.pointer (some ⟨b, 0, none⟩), .int .i64 K, .agg (wdV A), .int .u64 (c : Int)] w fun e w' => e = .returned (.agg (wdV (oneR S K A c))) ∧ Bz Pm lo X W w' b bd (oneS S K A c) S2 ∧ ∀ k, X k → w'.heap[k]? = w.heap[k]? := by
  obtain ⟨F, G, ov, bv, vv, tv, h1, h2, h3, h4, h5, h6, h7⟩ := h
  exact (hS.one b k S F K A c w h1 hq hk hn g0 g1 g2).mono fun e w' hr => ⟨hr.1, Bz.prog hM h1 h2 h3 h4 h5 h6 h7 hr.2⟩
end
end Go.Proofs.YtpjgpiieminaoaaGreatDoor

/- Share: the program's functions of words, over any machine: one machine, and boxes beside it. -/
namespace Go.Proofs.YtpjgpiieminaoaaGreatDoor
open Go.RowKit
set_option maxRecDepth 100000
/-- From w0, with the blocks F0, a machine has come to S at w; bs: boxes that were made since. -/
structure Ow (Pm : World → Nat → Ms → (Nat → Prop) → Prop) (F0 : Nat → Prop) (w0 w : World) (b : Nat) (S : Ms) (bs : List (Nat × Obj)) : Prop where
  ex : ∃ F, Pm w b S F ∧ (∀ k, F k → F0 k ∨ w0.heap.size ≤ k) ∧ ∀ q ∈ bs, ¬ F q.1
  tch : Tch F0 w0 w
  bx : ∀ q ∈ bs, w0.heap.size ≤ q.1 ∧ w.heap[q.1]? = some q.2
  nd : (bs.map (·.1)).Nodup
section
variable {Pm : World → Nat → Ms → (Nat → Prop) → Prop} {F0 : Nat → Prop} {w0 w w' : World} {b : Nat} {S S' : Ms} {bs : List (Nat × Obj)}
theorem Ow.start {F : Nat → Prop} (h : Pm w b S F) : Ow Pm F w w b S [] := ⟨⟨F, h, fun _ q => .inl q, fun q hq => (List.not_mem_nil hq).elim⟩, Tch.refl _ _, fun q hq => (List.not_mem_nil hq).elim, by simp⟩
theorem Ow.lt (h : Ow Pm F0 w0 w b S bs) {q : Nat × Obj} (hq : q ∈ bs) : q.1 < w.heap.size := (Array.getElem?_eq_some_iff.1 (h.bx q hq).2).1
theorem Ow.self (hM : Mach Pm) (h : Ow Pm F0 w0 w b S bs) (hb : Below w.heap.size w w') : Ow Pm F0 w0 w' b S bs := by
  obtain ⟨F, h1, h2, h3⟩ := h.ex
  exact ⟨⟨F, hM.stays h1 hb.size (fun k hk => hb.block k (hM.lt h1 k hk)), h2, h3⟩, h.tch.trans (Tch.of_below (F := F0) hb) (fun _ _ f => f), fun q hq => ⟨(h.bx q hq).1, (hb.block _ (h.lt hq)).trans (h.bx q hq).2⟩, h.nd⟩
theorem Ow.new (hM : Mach Pm) (h : Ow Pm F0 w0 w b S bs) (cs : Array Value) (T : TypeId) : Ow Pm F0 w0 (w.alloc (.cells cs T)) b S ((w.heap.size, .cells cs T (0, 0)) :: bs) := by
  have h' := h.self hM ((Below.refl w.heap.size w).alloc (Nat.le_refl _) (.cells cs T))
  obtain ⟨F, h1, h2, h3⟩ := h.ex
  refine ⟨⟨F, hM.stays h1 (by rw [sz_al]; omega) (fun k hk => Below.heap_alloc w _ k (hM.lt h1 k hk)), h2, fun q hq => ?_⟩, h'.tch, fun q hq => ?_, ?_⟩
  · rcases List.mem_cons.1 hq with rfl | hq
    · exact fun e => by have := hM.lt h1 _ e; omega
    · exact h3 q hq
  · rcases List.mem_cons.1 hq with rfl | hq
    · exact ⟨h.tch.size, heap_alloc_new _ _⟩
    · exact h'.bx q hq
  · rw [List.map_cons, List.nodup_cons]
    refine ⟨fun e => ?_, h.nd⟩
    obtain ⟨q, hq, e⟩ := List.mem_map.1 e
    have := h.lt hq
    have e' : q.1 = w.heap.size := e
    omega
/-- Boxes are forgotten, or stand in another order. -/
theorem Ow.sub {bs' : List (Nat × Obj)} (h : Ow Pm F0 w0 w b S bs) (hs : ∀ q ∈ bs', q ∈ bs) (hn : (bs'.map (·.1)).Nodup) : Ow Pm F0 w0 w b S bs' := by
  obtain ⟨F, h1, h2, h3⟩ := h.ex
  exact ⟨⟨F, h1, h2, fun q hq => h3 q (hs q hq)⟩, h.tch, fun q hq => h.bx q (hs q hq), hn⟩
theorem Ow.drop {q : Nat × Obj} (h : Ow Pm F0 w0 w b S (q :: bs)) : Ow Pm F0 w0 w b S bs := h.sub (fun _ hz => List.mem_cons_of_mem _ hz) (by have := h.nd; rw [List.map_cons, List.nodup_cons] at this; exact this.2)
theorem Ow.swap {q r : Nat × Obj} (h : Ow Pm F0 w0 w b S (q :: r :: bs)) : Ow Pm F0 w0 w b S (r :: q :: bs) := h.sub (fun z hz => by simp at hz ⊢; rcases hz with e | e | e <;> simp [e]) (by
  have := h.nd
  simp only [List.map_cons, List.nodup_cons, List.mem_cons, not_or] at this ⊢
  exact ⟨⟨fun e => this.1.1 e.symm, this.2.1⟩, this.1.2, this.2.2⟩)
/-- The first box is turned. -/
theorem Ow.turn (hM : Mach Pm) {n : Nat} {o o' : Obj} (h : Ow Pm F0 w0 w b S ((n, o) :: bs)) (hn : w'.heap[n]? = some o') (ho : ∀ k, k ≠ n → w'.heap[k]? = w.heap[k]?) (hs : w.heap.size ≤ w'.heap.size) (hos : w'.os = w.os ∧ w'.tape = w.tape ∧ w'.output = w.output) : Ow Pm F0 w0 w' b S ((n, o') :: bs) := by
  have hb := h.bx _ (List.mem_cons_self ..)
  have hnd := h.nd
  rw [List.map_cons, List.nodup_cons] at hnd
  obtain ⟨F, h1, h2, h3⟩ := h.ex
  have hne : ∀ k, F k → k ≠ n := fun k hk e => h3 _ (List.mem_cons_self ..) (by show F n; rw [← e]; exact hk)
  refine ⟨⟨F, hM.stays h1 hs (fun k hk => ho k (hne k hk)), h2, fun q hq => ?_⟩, ?_, fun q hq => ?_, ?_⟩
  · rcases List.mem_cons.1 hq with rfl | hq
    · exact h3 (n, o) (List.mem_cons_self ..)
    · exact h3 q (List.mem_cons_of_mem _ hq)
  · have hn0 : w0.heap.size ≤ n := hb.1
    exact h.tch.trans ⟨hos.1, hos.2.1, hos.2.2, hs, fun k hk hF => ho k (fun e => hF (by show n = k; exact e.symm))⟩ (G := fun k => n = k) (fun j hj e => by have e' : n = j := e; omega)
  · rcases List.mem_cons.1 hq with rfl | hq
    · exact ⟨hb.1, hn⟩
    · exact ⟨(h.bx q (List.mem_cons_of_mem _ hq)).1, (ho q.1 (fun e => hnd.1 (List.mem_map.2 ⟨q, hq, e⟩))).trans (h.bx q (List.mem_cons_of_mem _ hq)).2⟩
  · rw [List.map_cons, List.nodup_cons]; exact hnd
theorem Ow.row (hM : Mach Pm) {n : Nat} {cs : Array Value} {T : TypeId} (h : Ow Pm F0 w0 w b S ((n, .cells cs T (0, 0)) :: bs)) (cs' : Array Value) : Ow Pm F0 w0 (w.setRow n cs') b S ((n, .cells cs' T (0, 0)) :: bs) :=
  h.turn hM (setRow_heap w n cs cs' T _ (h.bx _ (List.mem_cons_self ..)).2) (fun k hk => setRow_other w n k cs' hk) (by simp [World.setRow]) ⟨rfl, rfl, rfl⟩
theorem Ow.cell (hM : Mach Pm) {n : Nat} {cs : Array Value} {T : TypeId} (h : Ow Pm F0 w0 w b S ((n, .cells cs T (0, 0)) :: bs)) (i : Nat) (v : Value) : Ow Pm F0 w0 (w.setCell ⟨n, i, none⟩ v) b S ((n, .cells (cs.setIfInBounds i v) T (0, 0)) :: bs) :=
  h.turn hM (heap_setCell_same w n i cs T v (h.bx _ (List.mem_cons_self ..)).2) (fun k hk => heap_setCell_other w ⟨n, i, none⟩ k v hk) (by simp [World.setCell]) ⟨rfl, rfl, rfl⟩
theorem Ow.bl (h : Ow Pm F0 w0 w b S bs) (i : Nat) {n : Nat} {u : Obj} (hi : bs[i]? = some (n, u)) : w.heap[n]? = some u := (h.bx (n, u) (List.mem_of_getElem? hi)).2
/-- A method's contract. -/
theorem Ow.lift (_ : Mach Pm) (h : Ow Pm F0 w0 w b S bs) {f : FuncId} {args : Array Value} {E : Ending → Prop} (hc : ∀ F, Pm w b S F → Calls Tryz.prog f args w fun e w' => E e ∧ PmR Pm b S' F w w') : Calls Tryz.prog f args w fun e w' => E e ∧ Ow Pm F0 w0 w' b S' bs := by
  obtain ⟨F, h1, h2, h3⟩ := h.ex
  refine (hc F h1).mono fun e w' hr => ⟨hr.1, ?_⟩
  obtain ⟨F', g1, g2, g3⟩ := hr.2
  refine ⟨⟨F', g1, fun k hk => ?_, fun q hq e => ?_⟩, h.tch.trans g2 (fun j hj f => (h2 j f).resolve_right (by omega)), fun q hq => ⟨(h.bx q hq).1, (g2.block q.1 (h.lt hq) (h3 q hq)).trans (h.bx q hq).2⟩, h.nd⟩
  · rcases g3 k hk with f | f
    · exact h2 k f
    · exact .inr (Nat.le_trans h.tch.size f)
  · rcases g3 _ e with f | f
    · exact h3 q hq f
    · have := h.lt hq; omega
theorem Ow.fin (h : Ow Pm F0 w0 w b S bs) : PmR Pm b S F0 w0 w := by
  obtain ⟨F, h1, h2, _⟩ := h.ex
  exact ⟨F, h1, h.tch, h2⟩
/-- A contract that makes memory alone. -/
theorem Ow.asks (h : Ow Pm F0 w0 w b S bs) {f : FuncId} {args : Array Value} {E : Ending → World → Prop} (hc : ∀ F, Pm w b S F → Calls Tryz.prog f args w E) : Calls Tryz.prog f args w E := by
  obtain ⟨F, h1, _, _⟩ := h.ex
  exact hc F h1
end
end Go.Proofs.YtpjgpiieminaoaaGreatDoor

/- Share: the program's functions of words, over any machine: share by share. -/
namespace Go.Proofs.YtpjgpiieminaoaaGreatDoor
open Go.RowKit
set_option maxRecDepth 100000
theorem built_wd (A : Nat → Int) : Tryz.prog.built 37 [(0, .agg (wdV A))] = some (wdV A) := by kernel_rfl
theorem step_build_wd (A : Nat → Int) {w : World} {ops : Array Oper} {rest : List Oper} {o : Oper} {a : Act} {Q : Exit → Act → World → Prop} (hgd : o.guard = none) (x : Operand) (ho : o.op = .build 37 #[(0, x)])
    (hx : a.eval x = .agg (wdV A)) (k : wpList Tryz.prog ops Q rest (a.put o.dst (.agg (wdV A))) w) : wpList Tryz.prog ops Q (o :: rest) a w := by
  have e : ((#[(0, x)] : Array (Nat × Operand)).map fun (i, x) => (i, a.eval x)).toList = [(0, .agg (wdV A))] := by simp [hx]
  refine wpList_build hgd 37 #[(0, x)] ho (by rw [e, built_wd]; rfl) ?_
  rw [e, built_wd]; exact k
set_option maxHeartbeats 3200000 in
theorem each_alone {Pm : World → Nat → Ms → (Nat → Prop) → Prop} (hM : Mach Pm) {F0 : Nat → Prop} {w0 w : World} {b : Nat} {bs : List (Nat × Obj)} (p1 p2 p3 n N : Nat) (St : Nat → Ms) (U : Nat → Nat → Int) (rg : Nat → Int) (h : Ow Pm F0 w0 w b (St 0) bs) (hn3 : n ≤ 3) (hq : Bq N (St 0)) (hk : N ≤ 1000000) (hn : (St 0).n = (n : Int))
    (hU0 : U 0 = none3) (hU : ∀ j, j < n → U (j + 1) = updI (U j) j (rg j))
    (HC : ∀ (j : Nat) (bs' : List (Nat × Obj)) (w' : World), j < n → (∀ q ∈ bs, q ∈ bs') → Ow Pm F0 w0 w' b (St j) bs' → Calls Tryz.prog 51 #[.int .i64 (j : Int), .pointer (some ⟨p1, 0, none⟩), .pointer (some ⟨p2, 0, none⟩), .pointer (some ⟨p3, 0, none⟩)] w' fun e w2 => e = .returned (.int .i64 (rg j)) ∧ Ow Pm F0 w0 w2 b (St (j + 1)) bs') :
    Calls Tryz.prog 50 #[.pointer (some ⟨b, 0, none⟩), .func (.func 51) #[] #[.pointer (some ⟨p1, 0, none⟩), .pointer (some ⟨p2, 0, none⟩), .pointer (some ⟨p3, 0, none⟩)]] w fun e w' => e = .returned (.agg (wdV (U n))) ∧ Ow Pm F0 w0 w' b (St n) bs := by
  have HNB : Hid (∀ (bs' : List (Nat × Obj)) (w' : World), Ow Pm F0 w0 w' b (St 0) bs' → Calls Tryz.prog 60 #[.pointer (some ⟨b, 0, none⟩)] w' fun e w2 => e = .returned (.int .i64 (n : Int)) ∧ Below w'.heap.size w' w2) := hid (fun bs' w' h' => h'.asks (fun F hF => by have := hM.n b N (St 0) F w' hF hq hk; rw [hn] at this; exact this))
  have HC' := hid HC
  have HN3 : Hid (n ≤ 3) := hid hn3
  have HU := hid hU
  have HU0 := hid hU0
  have H0 := hid (h.new hM #[.int .i64 0, .int .i64 0, .int .i64 0] 37)
  obtain ⟨w1, hw1⟩ : ∃ w1, w.alloc (.cells #[.int .i64 0, .int .i64 0, .int .i64 0] 37) = w1 := ⟨_, rfl⟩
  rw [hw1] at H0
  have HW := hid hw1
  clear h hq hk hn HC hw1 hU hU0 hn3
  obtain ⟨g4, hg4⟩ : ∃ g4, w.heap.size = g4 := ⟨_, rfl⟩
  rw [hg4] at H0
  have HG4 := hid hg4
  clear hg4
  go_enter Tryz.func50, Tryz.ntmps50
  go_upto_region 1 with fail
  rw [HW.out, HG4.out]
  go_upto_region 2 with fail
  have H2 := hid (H0.out.new hM (wdV none3) 35)
  obtain ⟨g5, hg5⟩ : ∃ g5, w1.heap.size = g5 := ⟨_, rfl⟩
  rw [hg5] at H2
  have H3 : Hid (Ow Pm F0 w0 (w1.alloc (.cells #[.int .i64 (-1), .int .i64 (-1), .int .i64 (-1)] 35)) b (St 0) ((g5, .cells (wdV none3) 35 (0, 0)) :: (g4, .cells #[.int .i64 0, .int .i64 0, .int .i64 0] 37 (0, 0)) :: bs)) := H2
  generalize w1.alloc (.cells #[.int .i64 (-1), .int .i64 (-1), .int .i64 (-1)] 35) = w3 at *
  rw [hg5]
  clear hg5 H2 H0
  rw [← HU0.out] at H3
  go_wp2_with (go_at_call 60; (with_reducible refine (HNB.out _ _ H3.out).mono ?_); rintro e w4 ⟨rfl, hb⟩; have H4 := hid (H3.out.self hM hb); clear hb)
  go_loopw [10] (fun iv wr => ∃ j : Nat, j ≤ n ∧ iv = .int .i64 j ∧ Ow Pm F0 w0 wr b (St j) ((g5, .cells (wdV (U j)) 35 (0, 0)) :: (g4, .cells #[.int .i64 0, .int .i64 0, .int .i64 0] 37 (0, 0)) :: bs)) (fun iv _ => n - (intOf iv).toNat)
  case atStart => exact ⟨0, by omega, rfl, H4.out⟩
  case round =>
    clear H3 H4
    obtain ⟨j, hj, rfl, hI⟩ := hrel
    have HI := hid hI
    clear hI
    have hn3 := HN3.out
    by_cases hlt : j < n
    · have j1 : (j : Int) < (n : Int) := by omega
      have j0 : (0 : Int) ≤ (j : Int) := by omega
      have j3 : (j : Int) < 3 := by omega
      have HJ3 : Hid (j < 3) := hid (by omega)
      have HCJ : Hid (∀ w', Ow Pm F0 w0 w' b (St j) ((g5, .cells (wdV (U j)) 35 (0, 0)) :: (g4, .cells #[.int .i64 0, .int .i64 0, .int .i64 0] 37 (0, 0)) :: bs) → Calls Tryz.prog 51 #[.int .i64 (j : Int), .pointer (some ⟨p1, 0, none⟩), .pointer (some ⟨p2, 0, none⟩), .pointer (some ⟨p3, 0, none⟩)] w' fun e w2 => e = .returned (.int .i64 (rg j)) ∧ Ow Pm F0 w0 w2 b (St (j + 1)) ((g5, .cells (wdV (U j)) 35 (0, 0)) :: (g4, .cells #[.int .i64 0, .int .i64 0, .int .i64 0] 37 (0, 0)) :: bs)) := hid (fun w' h' => HC'.out j _ w' hlt (fun q hq => by simp [hq]) h')
      have HER : Hid ((wdV (U j)).setIfInBounds j (.int .i64 (rg j)) = wdV (U (j + 1))) := hid (by rw [wdV_upd _ j _ (by omega), HU.out j hlt])
      go_wp2_with (go_at_call 51; (with_reducible refine (HCJ.out _ HI.out).mono ?_); rintro e w6 ⟨rfl, h6⟩; have H6 := hid h6; have cj := row_c (i := j) (H6.out.bl 0 rfl) (wdV_at (U j) j HJ3.out); have fj := frozen_of_row w6 g5 j _ _ (H6.out.bl 0 rfl); clear h6)
      have H7 := hid (H6.out.cell hM j (.int .i64 (rg j)))
      rw [HER.out] at H7
      go_roundw
      case rel => exact ⟨j + 1, by omega, by go_num, H7.out⟩
      case measure => simp [intOf]; omega
    · obtain rfl : j = n := by omega
      clear hlt
      go_wp2_with (first
        | (refine step_load_row rfl 35 _ rfl g5 35 (wdV (U j)) _ rfl (HI.out.bl 0 rfl) Tryz.underlying35 rfl (by kernel_rfl) ?_)
        | (refine step_build_wd (U j) rfl _ rfl rfl ?_)
        | (refine step_store_row rfl 37 _ _ rfl g4 37 _ (wdV (U j)) rfl rfl (HI.out.bl 1 rfl) (by kernel_rfl) rfl (by kernel_rfl) ?_))
      have H8 := hid (HI.out.swap.row hM (wdV (U j)))
      exact bodyPost_ret (results_cell_row (by rfl) _ _ g4 37 (wdV (U j)) (0, 0) _ rfl (H8.out.bl 0 rfl) Tryz.underlying37 rfl (by kernel_rfl)) rfl ⟨rfl, H8.out.drop.drop⟩
set_option maxHeartbeats 3200000 in
theorem each_one {Pm : World → Nat → Ms → (Nat → Prop) → Prop} (hM : Mach Pm) {F0 : Nat → Prop} {w0 w : World} {b : Nat} {bs : List (Nat × Obj)} (p1 p2 p3 p4 n N : Nat) (St : Nat → Ms) (U : Nat → Nat → Int) (rg : Nat → Int) (h : Ow Pm F0 w0 w b (St 0) bs) (hn3 : n ≤ 3) (hq : Bq N (St 0)) (hk : N ≤ 1000000) (hn : (St 0).n = (n : Int))
    (hU0 : U 0 = none3) (hU : ∀ j, j < n → U (j + 1) = updI (U j) j (rg j))
    (HC : ∀ (j : Nat) (bs' : List (Nat × Obj)) (w' : World), j < n → (∀ q ∈ bs, q ∈ bs') → Ow Pm F0 w0 w' b (St j) bs' → Calls Tryz.prog 82 #[.int .i64 (j : Int), .pointer (some ⟨p1, 0, none⟩), .pointer (some ⟨p2, 0, none⟩), .pointer (some ⟨p3, 0, none⟩), .pointer (some ⟨p4, 0, none⟩)] w' fun e w2 => e = .returned (.int .i64 (rg j)) ∧ Ow Pm F0 w0 w2 b (St (j + 1)) bs') :
    Calls Tryz.prog 50 #[.pointer (some ⟨b, 0, none⟩), .func (.func 82) #[] #[.pointer (some ⟨p1, 0, none⟩), .pointer (some ⟨p2, 0, none⟩), .pointer (some ⟨p3, 0, none⟩), .pointer (some ⟨p4, 0, none⟩)]] w fun e w' => e = .returned (.agg (wdV (U n))) ∧ Ow Pm F0 w0 w' b (St n) bs := by
  have HNB : Hid (∀ (bs' : List (Nat × Obj)) (w' : World), Ow Pm F0 w0 w' b (St 0) bs' → Calls Tryz.prog 60 #[.pointer (some ⟨b, 0, none⟩)] w' fun e w2 => e = .returned (.int .i64 (n : Int)) ∧ Below w'.heap.size w' w2) := hid (fun bs' w' h' => h'.asks (fun F hF => by have := hM.n b N (St 0) F w' hF hq hk; rw [hn] at this; exact this))
  have HC' := hid HC
  have HN3 : Hid (n ≤ 3) := hid hn3
  have HU := hid hU
  have HU0 := hid hU0
  have H0 := hid (h.new hM #[.int .i64 0, .int .i64 0, .int .i64 0] 37)
  obtain ⟨w1, hw1⟩ : ∃ w1, w.alloc (.cells #[.int .i64 0, .int .i64 0, .int .i64 0] 37) = w1 := ⟨_, rfl⟩
  rw [hw1] at H0
  have HW := hid hw1
  clear h hq hk hn HC hw1 hU hU0 hn3
  obtain ⟨g4, hg4⟩ : ∃ g4, w.heap.size = g4 := ⟨_, rfl⟩
  rw [hg4] at H0
  have HG4 := hid hg4
  clear hg4
  go_enter Tryz.func50, Tryz.ntmps50
  go_upto_region 1 with fail
  rw [HW.out, HG4.out]
  go_upto_region 2 with fail
  have H2 := hid (H0.out.new hM (wdV none3) 35)
  obtain ⟨g5, hg5⟩ : ∃ g5, w1.heap.size = g5 := ⟨_, rfl⟩
  rw [hg5] at H2
  have H3 : Hid (Ow Pm F0 w0 (w1.alloc (.cells #[.int .i64 (-1), .int .i64 (-1), .int .i64 (-1)] 35)) b (St 0) ((g5, .cells (wdV none3) 35 (0, 0)) :: (g4, .cells #[.int .i64 0, .int .i64 0, .int .i64 0] 37 (0, 0)) :: bs)) := H2
  generalize w1.alloc (.cells #[.int .i64 (-1), .int .i64 (-1), .int .i64 (-1)] 35) = w3 at *
  rw [hg5]
  clear hg5 H2 H0
  rw [← HU0.out] at H3
  go_wp2_with (go_at_call 60; (with_reducible refine (HNB.out _ _ H3.out).mono ?_); rintro e w4 ⟨rfl, hb⟩; have H4 := hid (H3.out.self hM hb); clear hb)
  go_loopw [10] (fun iv wr => ∃ j : Nat, j ≤ n ∧ iv = .int .i64 j ∧ Ow Pm F0 w0 wr b (St j) ((g5, .cells (wdV (U j)) 35 (0, 0)) :: (g4, .cells #[.int .i64 0, .int .i64 0, .int .i64 0] 37 (0, 0)) :: bs)) (fun iv _ => n - (intOf iv).toNat)
  case atStart => exact ⟨0, by omega, rfl, H4.out⟩
  case round =>
    clear H3 H4
    obtain ⟨j, hj, rfl, hI⟩ := hrel
    have HI := hid hI
    clear hI
    have hn3 := HN3.out
    by_cases hlt : j < n
    · have j1 : (j : Int) < (n : Int) := by omega
      have j0 : (0 : Int) ≤ (j : Int) := by omega
      have j3 : (j : Int) < 3 := by omega
      have HJ3 : Hid (j < 3) := hid (by omega)
      have HCJ : Hid (∀ w', Ow Pm F0 w0 w' b (St j) ((g5, .cells (wdV (U j)) 35 (0, 0)) :: (g4, .cells #[.int .i64 0, .int .i64 0, .int .i64 0] 37 (0, 0)) :: bs) → Calls Tryz.prog 82 #[.int .i64 (j : Int), .pointer (some ⟨p1, 0, none⟩), .pointer (some ⟨p2, 0, none⟩), .pointer (some ⟨p3, 0, none⟩), .pointer (some ⟨p4, 0, none⟩)] w' fun e w2 => e = .returned (.int .i64 (rg j)) ∧ Ow Pm F0 w0 w2 b (St (j + 1)) ((g5, .cells (wdV (U j)) 35 (0, 0)) :: (g4, .cells #[.int .i64 0, .int .i64 0, .int .i64 0] 37 (0, 0)) :: bs)) := hid (fun w' h' => HC'.out j _ w' hlt (fun q hq => by simp [hq]) h')
      have HER : Hid ((wdV (U j)).setIfInBounds j (.int .i64 (rg j)) = wdV (U (j + 1))) := hid (by rw [wdV_upd _ j _ (by omega), HU.out j hlt])
      go_wp2_with (go_at_call 82; (with_reducible refine (HCJ.out _ HI.out).mono ?_); rintro e w6 ⟨rfl, h6⟩; have H6 := hid h6; have cj := row_c (i := j) (H6.out.bl 0 rfl) (wdV_at (U j) j HJ3.out); have fj := frozen_of_row w6 g5 j _ _ (H6.out.bl 0 rfl); clear h6)
      have H7 := hid (H6.out.cell hM j (.int .i64 (rg j)))
      rw [HER.out] at H7
      go_roundw
      case rel => exact ⟨j + 1, by omega, by go_num, H7.out⟩
      case measure => simp [intOf]; omega
    · obtain rfl : j = n := by omega
      clear hlt
      go_wp2_with (first
        | (refine step_load_row rfl 35 _ rfl g5 35 (wdV (U j)) _ rfl (HI.out.bl 0 rfl) Tryz.underlying35 rfl (by kernel_rfl) ?_)
        | (refine step_build_wd (U j) rfl _ rfl rfl ?_)
        | (refine step_store_row rfl 37 _ _ rfl g4 37 _ (wdV (U j)) rfl rfl (HI.out.bl 1 rfl) (by kernel_rfl) rfl (by kernel_rfl) ?_))
      have H8 := hid (HI.out.swap.row hM (wdV (U j)))
      exact bodyPost_ret (results_cell_row (by rfl) _ _ g4 37 (wdV (U j)) (0, 0) _ rfl (H8.out.bl 0 rfl) Tryz.underlying37 rfl (by kernel_rfl)) rfl ⟨rfl, H8.out.drop.drop⟩
end Go.Proofs.YtpjgpiieminaoaaGreatDoor
