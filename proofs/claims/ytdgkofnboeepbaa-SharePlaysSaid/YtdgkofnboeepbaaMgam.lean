import Derived.Test.YtdgkofnboeepbaaProg
import Derived.Test.YtdgkofnboeepbaaMgal
import Derived.Deep.CutRange
import Derived.Deep.CutBlock
import Derived.Test.YtdgkofnboeepbaaMgai
import Derived.Test.YtdgkofnboeepbaaMgaj
import Derived.Test.YtdgkofnboeepbaaMgad
/- Share: are both machines alike? -/
namespace Go.Proofs.Ytdgkofnboeepbaa
open Go.RowKit
set_option maxRecDepth 100000
/-- A pair's cells. -/
abbrev paC (p b : Nat) (lv vv : Value) : Array Value := #[.pointer (some ⟨p, 0, none⟩), .pointer (some ⟨b, 0, none⟩), lv, vv]
set_option maxHeartbeats 12800000 in
theorem llike_any {Pm : World → Nat → Ms → (Nat → Prop) → Prop} (hM : Mach Pm) {lo : Nat} {X : Nat → Prop} {W w : World} {p b k : Nat} {S : Ms} (h : Bz Pm lo X W w p b S S) (hq : Bq k S) (hk : k ≤ 100000) (hw : S.dry = false) (la ba : Option Addr) (ln bn lc bc : Nat) :
    Calls Try.prog 8 #[.agg (paC p b (.slice la ln lc) (.slice ba bn bc))] w fun e w' => e = .returned (.bool true) ∧ Bz Pm lo X W w' p b S S ∧ Below w.heap.size w w' := by
  have HQ := hid hq
  have HK2 := hid hk
  have HK : Hid (k ≤ 1000000) := hid (by omega)
  have HKP : Hid (∀ n, S.keep n = n) := hid (fun n => by unfold Ms.keep; rw [hw]; rfl)
  obtain ⟨w1, hw1⟩ : ∃ w1, w.alloc (.cells (paC p b (.slice la ln lc) (.slice ba bn bc)) 28) = w1 := ⟨_, rfl⟩
  have HB1 : Hid (Below w.heap.size w w1) := hid (by rw [← hw1]; exact (Below.refl _ _).alloc (Nat.le_refl _) _)
  have hbx : w1.heap[w.heap.size]? = some (.cells (paC p b (.slice la ln lc) (.slice ba bn bc)) 28 (0, 0)) := by rw [← hw1]; exact heap_alloc_new _ _
  have HBX : Hid (∀ w', Below w1.heap.size w1 w' → w'.heap[w.heap.size]? = some (.cells (paC p b (.slice la ln lc) (.slice ba bn bc)) 28 (0, 0))) := hid (fun w' hb => (hb.block _ (Array.getElem?_eq_some_iff.1 hbx).1).trans hbx)
  have ZA := hid (h.self hM HB1.out)
  have HC : Hid (∀ w', Below w1.heap.size w1 w' → w'.cell? ⟨b, 0, none⟩ = some (.int .i64 S.n) ∧ w'.cell? ⟨b, 3, none⟩ = some (.int .i64 (S.draws : Int)) ∧ w'.cell? ⟨b, 7, none⟩ = some (.int .i64 (S.e : Int)) ∧ w'.cell? ⟨b, 14, none⟩ = some (.bool S.dry)) := hid (fun w' hb => (ZA.out.self hM hb).c0)
  obtain ⟨xv, xc, hcv, hrv⟩ := ZA.out.vv hq hk
  have HCV : Hid (∀ w', Below w1.heap.size w1 w' → w'.cell? ⟨b, 10, none⟩ = some (.slice xv S.L xc)) := hid (fun w' hw => tcell_self hcv hw)
  have HRV : Hid (∀ w', Below w1.heap.size w1 w' → Wr w' (.slice xv S.L xc) S.L S.v) := hid (fun w' hw => rd_wr (hrv.self hw))
  have HLL : Hid (S.L ≤ 1000000) := hid (by have := hq.len; unfold Ms.len at this; omega)
  have c0 := row_c (i := 0) (u := .pointer (some ⟨p, 0, none⟩)) hbx rfl
  have HW1 := hid hw1
  clear h hq hk hw hw1 hbx hcv hrv
  go_enter Try.func8, Try.ntmps8
  go_upto_region 1 with fail
  rw [HW1.out]
  go_wp2_with (go_at_call 11; (with_reducible refine (zvalues hM ZA.out HQ.out HK.out).mono ?_); rintro e w2 ⟨v, rfl, hv, hb⟩; rw [HKP.out] at hv; have HVW := hid (rd_wr hv); have Z0 := hid (ZA.out.self hM hb); have HB12 := hid hb; clear hv hb)
  obtain ⟨av, cv, rfl, hav⟩ := HVW.out.at_
  have HAV := hid hav
  have BZ0 : Hid (Below w2.heap.size w2 w2) := hid (Below.refl _ _)
  have HBX := hid (fun w' (hb : Below w2.heap.size w2 w') => HBX.out w' (HB12.out.trans (hb.mono HB12.out.size)))
  have HC := hid (fun w' (hb : Below w2.heap.size w2 w') => HC.out w' (HB12.out.trans (hb.mono HB12.out.size)))
  have HCV := hid (fun w' (hb : Below w2.heap.size w2 w') => HCV.out w' (HB12.out.trans (hb.mono HB12.out.size)))
  have HRV := hid (fun w' (hb : Below w2.heap.size w2 w') => HRV.out w' (HB12.out.trans (hb.mono HB12.out.size)))
  clear hav c0
  go_wp2_with fail
  have Z1 := hid (Z0.out.self hM ((Below.refl _ w2).drew))
  have BZ1 := hid (BZ0.out.drew)
  refine wp_region_noPanic ?_
  refine wp_region_held_drew (S := fun w' => Below w2.heap.size w2 w') (by kernel_rfl) (BZ1.out) (fun h0 => ?_)
  generalize w2.drew = y1 at *
  refine wpAnyH_take (i := 0) (v := .slice av S.L cv) rfl (by kernel_rfl) (by kernel_rfl) (by kernel_rfl) (fun _ _ _ h => h) (.inl ⟨by rfl, fun w hw => by clear hw; go_simp⟩) h0 ?_
  try simp only [Act.put, lay_out]
  refine wpAnyH_take (i := 1) (v := .int .i64 (S.L : Int)) rfl (by kernel_rfl) (by kernel_rfl) (by kernel_rfl) (fun _ _ _ h => h) (.inl ⟨by rfl, fun w hw => by clear hw; go_simp⟩) h0 ?_
  try simp only [Act.put, lay_out]
  refine wpAnyH_take (i := 2) (v := .pointer (some ⟨w.heap.size, 1, none⟩)) rfl (by kernel_rfl) (by kernel_rfl) (by kernel_rfl) (fun _ _ _ h => h) (.inl ⟨by rfl, fun w hw => by clear hw; go_simp⟩) h0 ?_
  try simp only [Act.put, lay_out]
  refine wpAnyH_take (i := 3) (v := .pointer (some ⟨b, 0, none⟩)) rfl (by kernel_rfl) (by kernel_rfl) (by kernel_rfl) (fun _ _ _ h => h) (.inl ⟨by rfl, fun w' hw => by have hc := row_c (i := 1) (u := .pointer (some ⟨b, 0, none⟩)) (HBX.out w' hw) rfl; clear hw; go_simp⟩) h0 ?_
  try simp only [Act.put, lay_out]
  refine wpAnyH_take (i := 4) (v := .pointer (some ⟨b, 0, none⟩)) rfl (by kernel_rfl) (by kernel_rfl) (by kernel_rfl) (fun _ _ _ h => h) (.inl ⟨by rfl, fun w hw => by clear hw; go_simp⟩) h0 ?_
  try simp only [Act.put, lay_out]
  refine wpAnyH_take (i := 5) (v := .pointer (some ⟨b, 10, none⟩)) rfl (by kernel_rfl) (by kernel_rfl) (by kernel_rfl) (fun _ _ _ h => h) (.inl ⟨by rfl, fun w hw => by clear hw; go_simp⟩) h0 ?_
  try simp only [Act.put, lay_out]
  refine wpAnyH_take (i := 6) (v := .slice xv S.L xc) rfl (by kernel_rfl) (by kernel_rfl) (by kernel_rfl) (fun _ _ _ h => h) (.inl ⟨by rfl, fun w' hw => by have hc := HCV.out w' hw; clear hw; go_simp⟩) h0 ?_
  try simp only [Act.put, lay_out]
  refine wpAnyH_take (i := 7) (v := .int .i64 (S.L : Int)) rfl (by kernel_rfl) (by kernel_rfl) (by kernel_rfl) (fun _ _ _ h => h) (.inl ⟨by rfl, fun w hw => by clear hw; go_simp⟩) h0 ?_
  try simp only [Act.put, lay_out]
  refine wpAnyH_take (i := 8) (v := .bool false) rfl (by kernel_rfl) (by kernel_rfl) (by kernel_rfl) (fun _ _ _ h => h) (.inl ⟨by rfl, fun w hw => by clear hw; go_simp⟩) h0 ?_
  try simp only [Act.put, lay_out]
  refine wpAnyH_take (i := 9) (v := .bool false) rfl (by kernel_rfl) (by kernel_rfl) (by kernel_rfl) (fun _ _ _ h => h) (.inl ⟨by rfl, fun w hw => by clear hw; go_simp⟩) h0 ?_
  try simp only [Act.put, lay_out]
  refine wpAnyH_take (i := 10) (v := .pointer (some ⟨w.heap.size, 0, none⟩)) rfl (by kernel_rfl) (by kernel_rfl) (by kernel_rfl) (fun _ _ _ h => h) (.inl ⟨by rfl, fun w hw => by clear hw; go_simp⟩) h0 ?_
  try simp only [Act.put, lay_out]
  refine wpAnyH_take (i := 11) (v := .pointer (some ⟨p, 0, none⟩)) rfl (by kernel_rfl) (by kernel_rfl) (by kernel_rfl) (fun _ _ _ h => h) (.inl ⟨by rfl, fun w' hw => by have hc := row_c (i := 0) (u := .pointer (some ⟨p, 0, none⟩)) (HBX.out w' hw) rfl; clear hw; go_simp⟩) h0 ?_
  try simp only [Act.put, lay_out]
  refine wpAnyH_take (i := 13) (v := .pointer (some ⟨w.heap.size, 1, none⟩)) rfl (by kernel_rfl) (by kernel_rfl) (by kernel_rfl) (fun _ _ _ h => h) (.inl ⟨by rfl, fun w hw => by clear hw; go_simp⟩) h0 ?_
  try simp only [Act.put, lay_out]
  refine wpAnyH_take (i := 14) (v := .pointer (some ⟨b, 0, none⟩)) rfl (by kernel_rfl) (by kernel_rfl) (by kernel_rfl) (fun _ _ _ h => h) (.inl ⟨by rfl, fun w' hw => by have hc := row_c (i := 1) (u := .pointer (some ⟨b, 0, none⟩)) (HBX.out w' hw) rfl; clear hw; go_simp⟩) h0 ?_
  try simp only [Act.put, lay_out]
  refine wpAnyH_take (i := 15) (v := .pointer (some ⟨b, 0, none⟩)) rfl (by kernel_rfl) (by kernel_rfl) (by kernel_rfl) (fun _ _ _ h => h) (.inl ⟨by rfl, fun w hw => by clear hw; go_simp⟩) h0 ?_
  try simp only [Act.put, lay_out]
  refine wpAnyH_take (i := 16) (v := .pointer (some ⟨b, 7, none⟩)) rfl (by kernel_rfl) (by kernel_rfl) (by kernel_rfl) (fun _ _ _ h => h) (.inl ⟨by rfl, fun w hw => by clear hw; go_simp⟩) h0 ?_
  try simp only [Act.put, lay_out]
  refine wpAnyH_take (i := 17) (v := .int .i64 (S.e : Int)) rfl (by kernel_rfl) (by kernel_rfl) (by kernel_rfl) (fun _ _ _ h => h) (.inl ⟨by rfl, fun w' hw => by have hc := (HC.out w' hw).2.2.1; clear hw; go_simp⟩) h0 ?_
  try simp only [Act.put, lay_out]
  refine wpAnyH_ready (rs := [12]) (by kernel_rfl) (by simp) (AllReadyH.cons rfl (fun K hK => ?_) AllReadyH.nil)
  rw [if_pos (by rfl)]
  go_simp
  go_at_call 33
  (with_reducible refine (zerr hM Z1.out HQ.out HK.out).mono ?_); rintro e w3 ⟨rfl, hb⟩
  have Z3 := hid (Z1.out.self hM hb)
  have BZ3 := hid (BZ1.out.trans (hb.mono BZ1.out.size))
  clear hb
  refine hK.out _ _ (BZ3.out) (fun h1x => ?_)
  clear hK K
  try simp only [Act.put, lay_out]
  refine wpAnyH_take (i := 18) (v := .bool false) rfl (by kernel_rfl) (by kernel_rfl) (by kernel_rfl) (fun _ _ _ h => h) (.inl ⟨by rfl, fun w hw => by clear hw; go_simp⟩) h1x ?_
  try simp only [Act.put, lay_out]
  refine wpAnyH_take (i := 19) (v := .bool false) rfl (by kernel_rfl) (by kernel_rfl) (by kernel_rfl) (fun _ _ _ h => h) (.inl ⟨by rfl, fun w hw => by clear hw; go_simp⟩) h1x ?_
  try simp only [Act.put, lay_out]
  refine wpAnyH_take (i := 20) (v := .bool false) rfl (by kernel_rfl) (by kernel_rfl) (by kernel_rfl) (fun _ _ _ h => h) (.inl ⟨by rfl, fun w hw => by clear hw; go_simp⟩) h1x ?_
  try simp only [Act.put, lay_out]
  refine wpAnyH_take (i := 21) (v := .pointer (some ⟨w.heap.size, 0, none⟩)) rfl (by kernel_rfl) (by kernel_rfl) (by kernel_rfl) (fun _ _ _ h => h) (.inl ⟨by rfl, fun w hw => by clear hw; go_simp⟩) h1x ?_
  try simp only [Act.put, lay_out]
  refine wpAnyH_take (i := 22) (v := .pointer (some ⟨p, 0, none⟩)) rfl (by kernel_rfl) (by kernel_rfl) (by kernel_rfl) (fun _ _ _ h => h) (.inl ⟨by rfl, fun w' hw => by have hc := row_c (i := 0) (u := .pointer (some ⟨p, 0, none⟩)) (HBX.out w' hw) rfl; clear hw; go_simp⟩) h1x ?_
  try simp only [Act.put, lay_out]
  refine wpAnyH_take (i := 24) (v := .pointer (some ⟨w.heap.size, 1, none⟩)) rfl (by kernel_rfl) (by kernel_rfl) (by kernel_rfl) (fun _ _ _ h => h) (.inl ⟨by rfl, fun w hw => by clear hw; go_simp⟩) h1x ?_
  try simp only [Act.put, lay_out]
  refine wpAnyH_take (i := 25) (v := .pointer (some ⟨b, 0, none⟩)) rfl (by kernel_rfl) (by kernel_rfl) (by kernel_rfl) (fun _ _ _ h => h) (.inl ⟨by rfl, fun w' hw => by have hc := row_c (i := 1) (u := .pointer (some ⟨b, 0, none⟩)) (HBX.out w' hw) rfl; clear hw; go_simp⟩) h1x ?_
  try simp only [Act.put, lay_out]
  refine wpAnyH_ready (rs := [23]) (by kernel_rfl) (by simp) (AllReadyH.cons rfl (fun K hK => ?_) AllReadyH.nil)
  rw [if_pos (by rfl)]
  go_simp
  go_at_call 35
  (with_reducible refine (ztrace hM Z3.out HQ.out HK.out).mono ?_); rintro e w4 ⟨v0, v1, rfl, hv0, hv1, hb⟩
  have Z4 := hid (Z3.out.self hM hb)
  have BZ4 := hid (BZ3.out.trans (hb.mono BZ3.out.size))
  rw [HKP.out] at hv0
  rw [HKP.out] at hv1
  have HV0 := hid hv0
  have HV1 := hid hv1
  clear hv0 hv1
  clear hb
  refine hK.out _ _ (BZ4.out) (fun h2x => ?_)
  clear hK K
  try simp only [Act.put, lay_out]
  refine wpAnyH_ready (rs := [26]) (by kernel_rfl) (by simp) (AllReadyH.cons rfl (fun K hK => ?_) AllReadyH.nil)
  rw [if_pos (by rfl)]
  go_simp
  go_at_call 36
  (with_reducible refine (ytrace Z4.out HQ.out HK2.out).mono ?_); rintro e w5 ⟨v0', v1', rfl, hv0, hv1, hb⟩
  have Z5 := hid (Z4.out.self hM hb)
  have BZ5 := hid (BZ4.out.trans (hb.mono BZ4.out.size))
  have HV2 := hid hv0
  have HV3 := hid hv1
  have HV0' := hid (HV0.out.self hb)
  have HV1' := hid (HV1.out.self hb)
  clear hv0 hv1
  clear hb
  refine hK.out _ _ (BZ5.out) (fun h3x => ?_)
  clear hK K
  try simp only [Act.put, lay_out]
  refine wpAnyH_ready (rs := [27]) (by kernel_rfl) (by simp) (AllReadyH.cons rfl (fun K hK => ?_) AllReadyH.nil)
  rw [if_pos (by rfl)]
  go_simp
  go_at_call 34
  (with_reducible refine (refsame_eq S.n v0 v1 v0' v1' S.L S.M S.f S.g _ HV0'.out HV1'.out HV2.out HV3.out).mono ?_); rintro e w6 ⟨rfl, hb⟩
  have Z6 := hid (Z5.out.self hM hb)
  have BZ6 := hid (BZ5.out.trans (hb.mono BZ5.out.size))
  clear hb
  refine hK.out _ _ (BZ6.out) (fun h4x => ?_)
  clear hK K
  try simp only [Act.put, lay_out]
  refine wpAnyH_take (i := 28) (v := .bool false) rfl (by kernel_rfl) (by kernel_rfl) (by kernel_rfl) (fun _ _ _ h => h) (.inl ⟨by rfl, fun w hw => by clear hw; go_simp⟩) h4x ?_
  try simp only [Act.put, lay_out]
  refine wpAnyH_take (i := 29) (v := .bool false) rfl (by kernel_rfl) (by kernel_rfl) (by kernel_rfl) (fun _ _ _ h => h) (.inl ⟨by rfl, fun w hw => by clear hw; go_simp⟩) h4x ?_
  try simp only [Act.put, lay_out]
  refine wpAnyH_done (by kernel_rfl) ?_ _
  refine NoPanic.normal ?_
  clear h0 h1x h2x h3x h4x
  try simp only [Act.put, lay_out]
  go_wp2
  have HZL := hid Z6.out
  go_loopw [4] (fun i wr => ∃ j : Nat, j ≤ S.L ∧ i = .int .i64 j ∧ Below w2.heap.size w2 wr) (fun i _ => S.L - (intOf i).toNat)
  case atStart => exact ⟨0, by omega, rfl, BZ6.out⟩
  case round =>
    obtain ⟨j, hj, rfl, hI⟩ := hrel
    have HI := hid hI
    clear hI
    by_cases hlt : j < S.L
    · obtain ⟨g, off, rfl, hg, hc⟩ := HAV.out (by omega)
      obtain ⟨xa, xcap, hxe, hxc⟩ := (HRV.out _ HI.out.drew).at_
      injection hxe with e1 e2 e3
      subst e1 e3
      obtain ⟨gx, ox, rfl, _, hcx⟩ := hxc (by omega)
      have c1 : wr.drew.cell? ⟨g, off + j, none⟩ = some (.int .u64 (S.v j : Int)) := tcell_self (hc j hlt) HI.out.drew
      have c2 := hcx j hlt
      have c3 := row_c (i := 1) (u := .pointer (some ⟨b, 0, none⟩)) (HBX.out _ HI.out.drew) rfl
      have c4 := HCV.out _ HI.out.drew
      have HI2 := hid HI.out.drew
      have j1 : (0 : Int) ≤ (j : Int) := by omega
      have j2 : (j : Int) < (S.L : Int) := by omega
      have hll := HLL.out
      clear hc hcx hxc hg
      generalize S.v j = z at *
      go_wp2_with fail
      go_region
      go_wp2
      go_roundw
      case rel => exact ⟨j + 1, by omega, by go_num, HI2.out⟩
      case measure => simp [intOf]; omega
    · have hjL : j = S.L := by omega
      subst hjL
      go_wp2
      go_ret
      have hb := HB1.out.trans (HB12.out.mono HB1.out.size)
      exact ⟨rfl, Bz.self hM Z0.out HI.out, hb.trans (HI.out.mono hb.size)⟩
end Go.Proofs.Ytdgkofnboeepbaa

/- Share: words, by the document. -/
namespace Go.Proofs.Ytdgkofnboeepbaa
open Go.RowKit
set_option maxRecDepth 100000
theorem step_load_row {P : Program} {w : World} {ops : Array Oper} {rest : List Oper} {o : Oper} {a : Act} {Q : Exit → Act → World → Prop} (hgd : o.guard = none) (ty : TypeId) (x : Operand) (ho : o.op = .load ty x)
    (b : Nat) (t : TypeId) (cs : Array Value) (d : TypeDesc) (hx : a.eval x = .pointer (some ⟨b, 0, none⟩)) (hA : w.heap[b]? = some (.cells cs t (0, 0))) (hu : P.underlying ty = some d) (hag : (match d with | .struct _ | .array _ _ => true | _ => false) = true) (hi : (P.info? ty).map (·.size) = some cs.size)
    (k : wpList P ops Q rest (a.put o.dst (.agg cs)) w) : wpList P ops Q (o :: rest) a w :=
  wpList_plain hgd fun _ hK => by
    unfold Oper.wp execOp
    simp only [ho, hx, Instr.loadAt, Instr.sureAddr, Sem.run_bind, Sem.run_pure, Result.andThen_ok, run_loadVar_row w b t ty cs (0, 0) d hA hu hag hi]
    exact hK _ _ k
theorem eaS_0 (S : Ms) (op : Nat → Op6) (m : Nat) : eaS S op 0 (m + 1) = (eaS S op 0 m).doS (op m) 0 := by rw [eaS, Nat.zero_add]
theorem eaR_0 (S : Ms) (op : Nat → Op6) (W : Nat → Int) (m : Nat) : eaR S op 0 W (m + 1) = updI (eaR S op 0 W m) m ((eaS S op 0 m).doR (op m)) := by rw [eaR, Nat.zero_add]
theorem sh_of {S : Ms} (h : S.n = 2 ∨ S.n = 3) : S.n = (S.sh : Int) ∧ 2 ≤ S.sh ∧ S.sh ≤ 3 := by unfold Ms.sh; omega
set_option maxHeartbeats 6400000 in
theorem ycst {Pm : World → Nat → Ms → (Nat → Prop) → Prop} (hM : Mach Pm) {lo : Nat} {X : Nat → Prop} {W w : World} {p b k : Nat} {S1 S : Ms} (h : Bz Pm lo X W w p b S1 S) (hq : Bq k S) (hk : k + 3 ≤ 100000) (hn : S.n = 2 ∨ S.n = 3) (K : Int) (hK : I64 K) (c : Nat) (hc : c < 2 ^ 64) :
    Calls Try.prog 20 #[.pointer (some ⟨b, 0, none⟩), .int .i64 K, .int .u64 (c : Int)] w fun e w' => e = .returned (.agg (wdV (cstR S K c))) ∧ Bz Pm lo X W w' p b S1 (cstS S K c) ∧ ∀ k, X k → w'.heap[k]? = w.heap[k]? := by
  obtain ⟨hsh, hs2, hs3⟩ := sh_of hn
  have HOP : Hid (∀ i, i < 3 → opwf (opCst K c i)) := hid (fun i hi => opCst_wf hK hc (by omega))
  have HQ : Hid (∀ m, m ≤ 3 → Bq (k + m) (eaS S (opCst K c) 0 m)) := hid (fun m hm => eaS_bq hq 0 m (fun j hj => by rw [Nat.zero_add]; exact HOP.out j (by omega)))
  have HN : Hid (∀ m, (eaS S (opCst K c) 0 m).n = (S.sh : Int)) := hid (fun m => (eaS_n S _ 0 m).trans hsh)
  have HK0 : Hid (k + 0 ≤ 100000) := hid (by omega)
  have HK := hid hk
  have HO0 : Hid (opwf ⟨K, 0, -1, -1, -1, c⟩) := hid (opAd1_wf hK hc)
  have Z1 := hid ((Gz.start h).box hM (Nat.le_refl _) #[.int .i64 0, .int .i64 0, .int .i64 0])
  unfold cstR cstS
  generalize S.sh = n at *
  clear h hq hn hK hc hk hsh
  go_enter Try.func20, Try.ntmps20
  go_wp2_with (first
    | (go_at_call 47; (with_reducible refine (none_any _).mono ?_); rintro e w1 ⟨rfl, hb⟩; have Z2 := hid ((Z1.out.self hM hb).box hM (by have := hb.size; simp at this; omega) (wdV none3)); have HNL : Hid (w.heap.size ≠ w1.heap.size) := hid (by have := hb.size; simp at this; omega); clear hb)
    | (go_at_call 50; (with_reducible refine (dopc_any K 0 (-1) (-1) c _).mono ?_); rintro e w2 ⟨rfl, hb⟩; have Z3 := hid (Z2.out.self hM hb); clear hb)
    | (go_at_call 49; (with_reducible refine (ydo0 hM ⟨K, 0, -1, -1, -1, c⟩ Z3.out.z (HQ.out 0 (by omega)) HK0.out HO0.out).mono ?_); rintro e w3 ⟨rfl, hz, hs⟩; have Z4 := hid (Z3.out.on hz hs); clear hz hs; have cl := row_c (i := 0) (u := .int .i64 (-1)) (Z4.out.bx _ (List.mem_cons_self ..)).2 rfl; have fl := frozen_of_row w3 _ 0 _ _ (Z4.out.bx _ (List.mem_cons_self ..)).2))
  have Z5 : Hid (Gz Pm lo X W w (w3.setCell ⟨w1.heap.size, 0, none⟩ (.int .i64 (S.doR ⟨K, 0, -1, -1, -1, c⟩))) p b S1 (eaS S (opCst K c) 0 1) [(w1.heap.size, wdV (eaR S (opCst K c) 0 none3 1)), (w.heap.size, #[.int .i64 0, .int .i64 0, .int .i64 0])]) := hid (by
    have := Z4.out.cell hM (by intro q hq; simp at hq; subst hq; exact HNL.out) 0 (.int .i64 (S.doR ⟨K, 0, -1, -1, -1, c⟩))
    rw [wdV_upd _ _ _ (by decide)] at this
    exact this)
  generalize w1.heap.size = lb at *
  clear cl fl
  go_loopw [8] (fun i wr => ∃ m : Nat, 1 ≤ m ∧ m ≤ n ∧ i = .int .i64 m ∧ Gz Pm lo X W w wr p b S1 (eaS S (opCst K c) 0 m) [(lb, wdV (eaR S (opCst K c) 0 none3 m)), (w.heap.size, #[.int .i64 0, .int .i64 0, .int .i64 0])]) (fun i _ => n - (intOf i).toNat)
  case atStart => exact ⟨1, by omega, by omega, rfl, Z5.out⟩
  case round =>
    obtain ⟨m, hm1, hm, rfl, hI⟩ := hrel
    have HI := hid hI
    clear hI
    have c0 := HI.out.sh
    rw [HN.out] at c0
    by_cases hlt : m < n
    · have j2 : (m : Int) < (n : Int) := by omega
      have j1 : (0 : Int) ≤ (m : Int) := by omega
      have j3 : (m : Int) < 3 := by omega
      have HE := hid (eaS_0 S (opCst K c) m)
      have HF := hid (eaR_0 S (opCst K c) none3 m)
      have hop : opCst K c m = ⟨3, (m : Int), -1, -1, -1, 0⟩ := if_neg (by omega)
      have HOM : Hid (opwf ⟨3, (m : Int), -1, -1, -1, 0⟩) := hid (hop ▸ HOP.out m (by omega))
      rw [hop] at HE HF
      have HQM := hid (HQ.out m (by omega))
      have HKM : Hid (k + m ≤ 100000) := hid (by have := HK.out; omega)
      have HM3 : Hid (m < 3) := hid (by omega)
      go_wp2_with (first
        | (go_at_call 50; (with_reducible refine (dop0_any 3 (m : Int) (-1) (-1) _).mono ?_); rintro e w5 ⟨rfl, hb⟩; have Y1 := hid (HI.out.self hM hb); clear hb)
        | (go_at_call 49; (with_reducible refine (ydo0 hM ⟨3, (m : Int), -1, -1, -1, 0⟩ Y1.out.z HQM.out HKM.out HOM.out).mono ?_); rintro e w6 ⟨rfl, hz, hs⟩; have Y2 := hid (Y1.out.on hz hs); clear hz hs; have cl : w6.cell? ⟨lb, m, none⟩ = some (.int .i64 (eaR S (opCst K c) 0 none3 m m)) := row_c (Y2.out.bx _ (List.mem_cons_self ..)).2 (wdV_at _ _ HM3.out); have fl := frozen_of_row w6 _ m _ _ (Y2.out.bx _ (List.mem_cons_self ..)).2))
      go_roundw
      case rel =>
        refine ⟨m + 1, by omega, by omega, by go_num, ?_⟩
        have := Y2.out.cell hM (by intro q hq; simp at hq; subst hq; exact HNL.out) m (.int .i64 ((eaS S (opCst K c) 0 m).doR ⟨3, (m : Int), -1, -1, -1, 0⟩))
        rw [wdV_upd _ _ _ HM3.out] at this
        rw [HE.out, HF.out]
        exact this
      case measure => simp [intOf]; omega
    · obtain rfl : m = n := by omega
      clear hlt
      go_wp2_with (first
        | (refine step_load_row rfl 33 _ rfl lb 33 (wdV (eaR S (opCst K c) 0 none3 m)) _ rfl (HI.out.bx (lb, wdV (eaR S (opCst K c) 0 none3 m)) (by simp)).2 Try.underlying33 rfl (by kernel_rfl) ?_)
        | (refine step_store_row rfl 33 _ _ rfl w.heap.size 33 _ (wdV (eaR S (opCst K c) 0 none3 m)) rfl rfl (HI.out.bx (w.heap.size, #[.int .i64 0, .int .i64 0, .int .i64 0]) (by simp)).2 (by kernel_rfl) rfl (by kernel_rfl) ?_))
      have ZF := hid (((HI.out.swap (bs' := [(w.heap.size, #[.int .i64 0, .int .i64 0, .int .i64 0]), (lb, wdV (eaR S (opCst K c) 0 none3 m))]) (by intro q hq; simp at hq ⊢; exact hq.symm)).row hM (by intro q hq; simp at hq; subst hq; exact HNL.out.symm) (wdV (eaR S (opCst K c) 0 none3 m))))
      exact bodyPost_ret (results_cell_row (by rfl) _ _ w.heap.size 33 (wdV (eaR S (opCst K c) 0 none3 m)) (0, 0) _ rfl (ZF.out.bx _ (List.mem_cons_self ..)).2 Try.underlying33 rfl (by kernel_rfl)) rfl ⟨rfl, ZF.out.fin⟩
end Go.Proofs.Ytdgkofnboeepbaa

/- Wire: an act of both machines. -/
namespace Go.Proofs.Ytdgkofnboeepbaa
open Go.RowKit
set_option maxRecDepth 100000
section
variable {Pm : World → Nat → Ms → (Nat → Prop) → Prop} {lo n : Nat} {X : Nat → Prop} {W wx wy : World} {a : Act8} {p b : Nat} {S1 S2 S1' S2' : Ms}
end
end Go.Proofs.Ytdgkofnboeepbaa

/- Wire: an act of both machines: a word is opened; any act. -/
namespace Go.Proofs.Ytdgkofnboeepbaa
open Go.RowKit
set_option maxRecDepth 100000
end Go.Proofs.Ytdgkofnboeepbaa

/- Wire: WirePlays, over what the program's machine tells. -/
namespace Go.Proofs.Ytdgkofnboeepbaa
open Go.RowKit
set_option maxRecDepth 100000
/-- Both machines begin. -/
theorem Bz.begun {Pm : World → Nat → Ms → (Nat → Prop) → Prop} {lo : Nat} {G F : Nat → Prop} {W wx : World} {p b : Nat} {S1 S2 : Ms} {tv : Value} (h1 : Pm wx p S1 F) (h2 : Dm ⟨lo, G⟩ wx b S2 (.slice none 0 0) (.slice none 0 0) (.slice none 0 0) tv) (hF : ∀ k, F k → lo ≤ k ∧ k ≠ b ∧ ¬ G k) (hG : ∀ k, G k → k < wx.heap.size) (h6 : Below lo W wx) (h7 : lo ≤ wx.heap.size) : Bz Pm lo (fun _ => False) W wx p b S1 S2 := by
  refine ⟨F, G, _, _, _, _, h1, h2, fun k hk => ⟨(hF k hk).1, fun e => ?_, (hF k hk).2.2, fun e => e⟩, fun k hk => hk.elim, hG, h6, h7⟩
  rcases e with e | e | e | e
  · exact (hF k hk).2.1 e
  · simp [Value.ownBlock] at e
  · simp [Value.ownBlock] at e
  · simp [Value.ownBlock] at e
/-- What the law's loop holds. -/
structure Wp (Pm : World → Nat → Ms → (Nat → Prop) → Prop) (W wr : World) (p b k : Nat) (S1 S : Ms) : Prop where
  z : Bz Pm W.heap.size (fun _ => False) W wr p b S1 S
  q : Bq k S
theorem Wp.self {Pm : World → Nat → Ms → (Nat → Prop) → Prop} (hM : Mach Pm) {W wr wy : World} {p b k : Nat} {S1 S : Ms} (h : Wp Pm W wr p b k S1 S) (hb : Below wr.heap.size wr wy) : Wp Pm W wy p b k S1 S := ⟨h.z.self hM hb, h.q⟩
end Go.Proofs.Ytdgkofnboeepbaa

/- Share: a pair of machines begins. -/
namespace Go.Proofs.Ytdgkofnboeepbaa
open Go.RowKit
set_option maxRecDepth 100000
set_option maxHeartbeats 6400000 in
theorem lbegins_any {Pm : World → Nat → Ms → (Nat → Prop) → Prop} (hM : Mach Pm) (hN : MachN Pm) (n most : Int) (hn : n = 2 ∨ n = 3) (hm : 0 ≤ most) (hm2 : most ≤ 1048576) (tw : Nat → Nat) (TN : Nat) (mv : Value) (w : World) (h : RdS .u64 w (fun g => g < w.heap.size) mv (wdL tw TN)) :
    Calls Try.prog 6 #[.int .i64 n, mv, .int .i64 most] w fun e w' => ∃ p b, e = .returned (.tuple #[.agg (paC p b (.slice none 0 0) (.slice none 0 0)), .bool true]) ∧ Bz Pm w.heap.size (fun _ => False) w w' p b (startD n most tw TN 0 TN) (startD n most tw TN 0 TN) := by
  obtain ⟨ma, mc, rfl, hm0⟩ := id h
  rw [wdL_len] at h
  have HT := hid (fun (w : World) (h : Rd .u64 w (.slice ma TN mc) (wdL tw TN)) => new_any _ _ w h)
  have HR : Hid (∀ lo hi b w, TapeAt w lo hi b (wdL tw TN) 0 0 → Calls Try.prog 15 #[.pointer (some ⟨b, 0, none⟩), .int .i64 (TN : Int)] w fun r w' => r = .returned (.int .i64 0) ∧ TapeAt w' lo hi b (wdL tw TN) 0 TN ∧ Only b w w') := hid (fun lo hi b w h => by have := reserve_ok lo hi b _ 0 0 TN w h (by rw [wdL_len]; omega); rw [Nat.zero_add] at this; exact this)
  have HN := hid hN
  have HN23 := hid hn
  have HM0 := hid (And.intro hm hm2)
  obtain ⟨w0, hw0⟩ : ∃ w0, w.alloc (.cells #[.pointer none, .pointer none, .slice none 0 0, .slice none 0 0] 28) = w0 := ⟨_, rfl⟩
  have B0 : Hid (Below w.heap.size w w0) := hid (by rw [← hw0]; exact (Below.refl _ _).alloc (Nat.le_refl _) _)
  have HX0 : Hid (w0.heap[w.heap.size]? = some (.cells #[.pointer none, .pointer none, .slice none 0 0, .slice none 0 0] 28 (0, 0))) := hid (by rw [← hw0]; exact heap_alloc_new _ _)
  have HS0 : Hid (w0.heap.size = w.heap.size + 1) := hid (by rw [← hw0]; simp)
  have HRD : Hid (∀ w', Below w.heap.size w w' → RdS .u64 w' (fun g => g < w.heap.size) (.slice ma TN mc) (wdL tw TN)) := hid (fun w' hb => rds_self h hb)
  have HW0 := hid hw0
  rw [wdL_len]
  clear h hm0 hN hn hm hm2 hw0
  go_enter Try.func6, Try.ntmps6
  go_upto_region 1 with fail
  rw [HW0.out]
  go_upto_region 4 with (first
    | (go_at_call 14; (with_reducible refine (HT.out _ (HRD.out _ B0.out).rd).mono ?_); rintro e w2 ⟨q, rfl, ht, hb⟩; have B2 := hid (B0.out.trans (hb.mono B0.out.size)); have T2 := hid ht; have HX2 := hid ((hb.block _ (Array.getElem?_eq_some_iff.1 HX0.out).1).trans HX0.out); clear ht hb)
    | (go_at_call 15; (with_reducible refine (HR.out _ _ _ _ T2.out).mono ?_); rintro e w3 ⟨rfl, ht, ho⟩; have B3 := hid (B2.out.trans (ho.below (by have := T2.out.lt; have := B0.out.size; omega) B2.out.size)); have T3 := hid ht; have HX3 := hid ((ho.block _ (Array.getElem?_eq_some_iff.1 HX2.out).1 (by have := T2.out.lt; have := HS0.out; omega)).trans HX2.out); clear ht ho)
    | (go_at_call 16; (with_reducible refine (HN.out.new _ _ _ 0 TN n most tw TN _ T3.out HN23.out HM0.out.1 HM0.out.2).mono ?_); rintro e w4 ⟨p, rfl, hb, F, hp, hF⟩; have B4 := hid (B3.out.trans (hb.mono B3.out.size)); have P4 := hid hp; have HX4 := hid ((hb.block _ (Array.getElem?_eq_some_iff.1 HX3.out).1).trans HX3.out); have F4 : Hid (∀ k, F k → w.heap.size < k) := hid (fun k hk => by have := hF k hk; have := HS0.out; have := B3.out.size; have := (Array.getElem?_eq_some_iff.1 HX3.out).1; omega); clear hp hF hb))
  go_wp2_with (first
    | (go_at_call 17; (with_reducible refine (dnew_any ⟨w.heap.size, fun g => g < w.heap.size⟩ n most tw TN (.slice ma TN mc) _ (HRD.out _ B4.out) B4.out.size).mono ?_); rintro e w5 ⟨rfl, hd, hb⟩; have B5 := hid (B4.out.trans (hb.mono B4.out.size)); have D5 := hid hd; have P5 := hid (hM.stays P4.out hb.size (fun k hk => hb.block k (hM.lt P4.out k hk))); have HX5 := hid ((hb.block _ (Array.getElem?_eq_some_iff.1 HX4.out).1).trans HX4.out); have HL5 := hid hb.size; clear hd hb)
    | (refine step_store_row rfl 28 _ _ rfl w.heap.size 28 _ (paC p w4.heap.size (.slice none 0 0) (.slice none 0 0)) rfl rfl HX5.out (by kernel_rfl) rfl (by kernel_rfl) ?_))
  refine ret_row_tmp rfl rfl (setRow_heap _ _ _ _ _ _ HX5.out) Try.underlying28 rfl (by kernel_rfl) rfl ?_
  refine ⟨p, w4.heap.size, rfl, ?_⟩
  have hne : w4.heap.size ≠ w.heap.size := by have := (Array.getElem?_eq_some_iff.1 HX4.out).1; omega
  have hz : ∀ k, k ≠ w.heap.size → (w5.setRow w.heap.size (paC p w4.heap.size (.slice none 0 0) (.slice none 0 0))).heap[k]? = w5.heap[k]? := fun k hk => setRow_other w5 w.heap.size k _ hk
  have hsz : (w5.setRow w.heap.size (paC p w4.heap.size (.slice none 0 0) (.slice none 0 0))).heap.size = w5.heap.size := by simp [World.setRow]
  refine Bz.begun (G := fun g => g < w.heap.size) (F := F) (tv := .slice ma TN mc) (hM.stays P5.out (by rw [hsz]; exact Nat.le_refl _) (fun k hk => hz k (by have := F4.out k hk; omega))) (Dm.stays D5.out (by rw [hsz]; exact Nat.le_refl _) (fun k hk => hz k ?_) (fun k hk _ => hz k (by have hk' : k < w.heap.size := hk; omega))) (fun k hk => ⟨by have := F4.out k hk; omega, by have := hM.lt P4.out k hk; omega, by have := F4.out k hk; show ¬ k < w.heap.size; omega⟩) (fun k hk => by have hk' : k < w.heap.size := hk; have := B5.out.size; rw [hsz]; omega) (below_setRow B5.out (Nat.le_refl _) _) (by rw [hsz]; exact B5.out.size)
  rcases hk with e | e | e | e
  · omega
  · simp [Value.ownBlock] at e
  · simp [Value.ownBlock] at e
  · simp [Value.ownBlock] at e
end Go.Proofs.Ytdgkofnboeepbaa

/- Share: words, by the document: xor, one op, not, add. -/
namespace Go.Proofs.Ytdgkofnboeepbaa
open Go.RowKit
set_option maxRecDepth 100000
set_option maxHeartbeats 6400000 in
theorem yxor {Pm : World → Nat → Ms → (Nat → Prop) → Prop} (hM : Mach Pm) {lo : Nat} {X : Nat → Prop} {W w : World} {p b k : Nat} {S1 S : Ms} (h : Bz Pm lo X W w p b S1 S) (hq : Bq k S) (hk : k + 3 ≤ 100000) (hn : S.n = 2 ∨ S.n = 3) (A B : Nat → Int) (hA : Wb A) (hB : Wb B) :
    Calls Try.prog 24 #[.pointer (some ⟨b, 0, none⟩), .agg (wdV A), .agg (wdV B)] w fun e w' => e = .returned (.agg (wdV (xorR S A B))) ∧ Bz Pm lo X W w' p b S1 (xorS S A B) ∧ ∀ k, X k → w'.heap[k]? = w.heap[k]? := by
  obtain ⟨hsh, hs2, hs3⟩ := sh_of hn
  have HOP : Hid (∀ i, i < 3 → opwf ((opXor A B) i)) := hid (fun i hi => opXor_wf hA hB (by omega))
  have HQ : Hid (∀ m, m ≤ 3 → Bq (k + m) (eaS S (opXor A B) 0 m)) := hid (fun m hm => eaS_bq hq 0 m (fun j hj => by rw [Nat.zero_add]; exact HOP.out j (by omega)))
  have HN : Hid (∀ m, (eaS S (opXor A B) 0 m).n = (S.sh : Int)) := hid (fun m => (eaS_n S _ 0 m).trans hsh)
  have HK := hid hk
  have HB : Hid (Below w.heap.size w (((w.alloc (.cells (wdV A) 33)).alloc (.cells (wdV B) 33)).alloc (.cells #[.int .i64 0, .int .i64 0, .int .i64 0] 33))) := hid (((((Below.refl _ _).alloc (Nat.le_refl _) _).alloc (by simp; try omega) _).alloc (by simp; try omega) _))
  have Z0 := hid (Gz.start h)
  have Z1 := hid (Z0.out.box hM (Nat.le_refl _) (wdV A))
  have Z2 := hid (Z1.out.box hM (by simp; try omega) (wdV B))
  have Z3 := hid (Z2.out.box hM (by simp; try omega) #[.int .i64 0, .int .i64 0, .int .i64 0])
  have ZZ : Hid (Gz Pm lo X W w (((w.alloc (.cells (wdV A) 33)).alloc (.cells (wdV B) 33)).alloc (.cells #[.int .i64 0, .int .i64 0, .int .i64 0] 33)) p b S1 S [((w.heap.size + 2), #[.int .i64 0, .int .i64 0, .int .i64 0]), ((w.heap.size + 1), (wdV B)), (w.heap.size, (wdV A))]) := hid (by have := Z3.out; simpa using this)
  clear Z0 Z1 Z2 Z3
  unfold xorR xorS
  generalize S.sh = n at *
  clear h hq hn hk hsh hA hB
  go_enter Try.func24, Try.ntmps24
  go_wp2_with (go_at_call 47; (with_reducible refine (none_any _).mono ?_); rintro e w1 ⟨rfl, hb⟩; have HNL : Hid (w.heap.size + 3 ≤ w1.heap.size) := hid (by have := hb.size; simp at this; omega); have Z5 := hid ((ZZ.out.self hM hb).box hM (by have := HNL.out; omega) (wdV none3)); clear hb)
  generalize w1.heap.size = lb at *
  go_loopw [8] (fun i wr => ∃ m : Nat, m ≤ n ∧ i = .int .i64 m ∧ Gz Pm lo X W w wr p b S1 (eaS S (opXor A B) 0 m) [(lb, wdV (eaR S (opXor A B) 0 none3 m)), ((w.heap.size + 2), #[.int .i64 0, .int .i64 0, .int .i64 0]), ((w.heap.size + 1), (wdV B)), (w.heap.size, (wdV A))]) (fun i _ => n - (intOf i).toNat)
  case atStart => exact ⟨0, by omega, rfl, Z5.out⟩
  case round =>
    obtain ⟨m, hm, rfl, hI⟩ := hrel
    have HI := hid hI
    clear hI
    have c0 := HI.out.sh
    rw [HN.out] at c0
    by_cases hlt : m < n
    · have j2 : (m : Int) < (n : Int) := by omega
      have j1 : (0 : Int) ≤ (m : Int) := by omega
      have j3 : (m : Int) < 3 := by omega
      have HE := hid (eaS_0 S (opXor A B) m)
      have HF := hid (eaR_0 S (opXor A B) none3 m)
      have HOM : Hid (opwf ⟨5, (m : Int), A m, B m, -1, 0⟩) := hid (HOP.out m (by omega))
      have HQM := hid (HQ.out m (by omega))
      have HKM : Hid (k + m ≤ 100000) := hid (by have := HK.out; omega)
      have HM3 : Hid (m < 3) := hid (by omega)
      go_wp2_with fail
      have Y0 := hid (HI.out.self hM ((Below.refl _ wr).drew))
      refine wp_region_noPanic ?_
      refine wp_region_held_drew (S := fun w' => w'.cell? ⟨w.heap.size, m, none⟩ = some (.int .i64 (A m)) ∧ w'.cell? ⟨w.heap.size + 1, m, none⟩ = some (.int .i64 (B m))) (by kernel_rfl) (⟨row_c (Y0.out.bx (w.heap.size, wdV A) (by simp)).2 (wdV_at _ _ HM3.out), row_c (Y0.out.bx ((w.heap.size + 1), wdV B) (by simp)).2 (wdV_at _ _ HM3.out)⟩) (fun h0 => ?_)
      generalize wr.drew = y1 at *
      refine wpAnyH_take (i := 0) (v := .int .i64 (m : Int)) rfl (by kernel_rfl) (by kernel_rfl) (by kernel_rfl) (fun _ _ _ h => h) (.inl ⟨by rfl, fun w hw => by clear hw; go_simp⟩) h0 ?_
      try simp only [Act.put, lay_out]
      refine wpAnyH_take (i := 1) (v := .pointer (some ⟨b, 0, none⟩)) rfl (by kernel_rfl) (by kernel_rfl) (by kernel_rfl) (fun _ _ _ h => h) (.inl ⟨by rfl, fun w hw => by clear hw; go_simp⟩) h0 ?_
      try simp only [Act.put, lay_out]
      refine wpAnyH_take (i := 2) (v := .int .i64 (m : Int)) rfl (by kernel_rfl) (by kernel_rfl) (by kernel_rfl) (fun _ _ _ h => h) (.inl ⟨by rfl, fun w hw => by clear hw; go_simp⟩) h0 ?_
      try simp only [Act.put, lay_out]
      refine wpAnyH_take (i := 3) (v := .int .i64 (m : Int)) rfl (by kernel_rfl) (by kernel_rfl) (by kernel_rfl) (fun _ _ _ h => h) (.inl ⟨by rfl, fun w hw => by clear hw; go_simp⟩) h0 ?_
      try simp only [Act.put, lay_out]
      refine wpAnyH_take (i := 4) (v := .pointer (some ⟨w.heap.size, 0, none⟩)) rfl (by kernel_rfl) (by kernel_rfl) (by kernel_rfl) (fun _ _ _ h => h) (.inl ⟨by rfl, fun w hw => by clear hw; go_simp⟩) h0 ?_
      try simp only [Act.put, lay_out]
      refine wpAnyH_take (i := 5) (v := .pointer (some ⟨w.heap.size, m, none⟩)) rfl (by kernel_rfl) (by kernel_rfl) (by kernel_rfl) (fun _ _ _ h => h) (.inl ⟨by rfl, fun w hw => by clear hw; go_simp⟩) h0 ?_
      try simp only [Act.put, lay_out]
      refine wpAnyH_take (i := 6) (v := .int .i64 (A m)) rfl (by kernel_rfl) (by kernel_rfl) (by kernel_rfl) (fun _ _ _ h => h) (.inl ⟨by rfl, fun w' hw => by have hc := hw.1; clear hw; go_simp⟩) h0 ?_
      try simp only [Act.put, lay_out]
      refine wpAnyH_take (i := 7) (v := .int .i64 (m : Int)) rfl (by kernel_rfl) (by kernel_rfl) (by kernel_rfl) (fun _ _ _ h => h) (.inl ⟨by rfl, fun w hw => by clear hw; go_simp⟩) h0 ?_
      try simp only [Act.put, lay_out]
      refine wpAnyH_take (i := 8) (v := .pointer (some ⟨w.heap.size + 1, 0, none⟩)) rfl (by kernel_rfl) (by kernel_rfl) (by kernel_rfl) (fun _ _ _ h => h) (.inl ⟨by rfl, fun w hw => by clear hw; go_simp⟩) h0 ?_
      try simp only [Act.put, lay_out]
      refine wpAnyH_take (i := 9) (v := .pointer (some ⟨w.heap.size + 1, m, none⟩)) rfl (by kernel_rfl) (by kernel_rfl) (by kernel_rfl) (fun _ _ _ h => h) (.inl ⟨by rfl, fun w hw => by clear hw; go_simp⟩) h0 ?_
      try simp only [Act.put, lay_out]
      refine wpAnyH_take (i := 10) (v := .int .i64 (B m)) rfl (by kernel_rfl) (by kernel_rfl) (by kernel_rfl) (fun _ _ _ h => h) (.inl ⟨by rfl, fun w' hw => by have hc := hw.2; clear hw; go_simp⟩) h0 ?_
      try simp only [Act.put, lay_out]
      refine wpAnyH_take (i := 13) (v := .pointer (some ⟨lb, 0, none⟩)) rfl (by kernel_rfl) (by kernel_rfl) (by kernel_rfl) (fun _ _ _ h => h) (.inl ⟨by rfl, fun w hw => by clear hw; go_simp⟩) h0 ?_
      try simp only [Act.put, lay_out]
      refine wpAnyH_ready (rs := [11]) (by kernel_rfl) (by simp) (AllReadyH.cons rfl (fun K hK => ?_) AllReadyH.nil)
      rw [if_pos (by rfl)]
      go_simp
      go_at_call 50
      (with_reducible refine (dop0_any 5 (m : Int) (A m) (B m) _).mono ?_); rintro e w5 ⟨rfl, hb⟩
      have Y1 := hid (Y0.out.self hM hb)
      clear hb
      refine hK.out _ _ (⟨row_c (Y1.out.bx (w.heap.size, wdV A) (by simp)).2 (wdV_at _ _ HM3.out), row_c (Y1.out.bx ((w.heap.size + 1), wdV B) (by simp)).2 (wdV_at _ _ HM3.out)⟩) (fun h1x => ?_)
      clear hK K
      try simp only [Act.put, lay_out]
      refine wpAnyH_ready (rs := [12]) (by kernel_rfl) (by simp) (AllReadyH.cons rfl (fun K hK => ?_) AllReadyH.nil)
      rw [if_pos (by rfl)]
      go_simp
      go_at_call 49
      (with_reducible refine (ydo0 hM ⟨5, (m : Int), A m, B m, -1, 0⟩ Y1.out.z HQM.out HKM.out HOM.out).mono ?_); rintro e w6 ⟨rfl, hz, hs⟩
      have Y2 := hid (Y1.out.on hz hs)
      clear hz hs
      refine hK.out _ _ (⟨row_c (Y2.out.bx (w.heap.size, wdV A) (by simp)).2 (wdV_at _ _ HM3.out), row_c (Y2.out.bx ((w.heap.size + 1), wdV B) (by simp)).2 (wdV_at _ _ HM3.out)⟩) (fun h2x => ?_)
      clear hK K
      try simp only [Act.put, lay_out]
      refine wpAnyH_take (i := 14) (v := .pointer (some ⟨lb, m, none⟩)) rfl (by kernel_rfl) (by kernel_rfl) (by kernel_rfl) (fun _ _ _ h => h) (.inl ⟨by rfl, fun w hw => by clear hw; go_simp⟩) h2x ?_
      try simp only [Act.put, lay_out]
      refine wpAnyH_ready (rs := [15]) (by kernel_rfl) (by simp) (AllReadyH.cons rfl (fun K hK => ?_) AllReadyH.nil)
      rw [if_pos (by rfl)]
      have cl : w6.cell? ⟨lb, m, none⟩ = some (.int .i64 (eaR S (opXor A B) 0 none3 m m)) := row_c (Y2.out.bx _ (List.mem_cons_self ..)).2 (wdV_at _ _ HM3.out)
      have fl := frozen_of_row w6 _ m _ _ (Y2.out.bx _ (List.mem_cons_self ..)).2
      go_simp
      have Y3 := hid (Y2.out.cell hM (by intro q hq; have := HNL.out; simp at hq; rcases hq with rfl | rfl | rfl <;> (simp; omega)) m (.int .i64 ((eaS S (opXor A B) 0 m).doR ⟨5, (m : Int), A m, B m, -1, 0⟩)))
      refine hK.out _ _ (⟨row_c (Y3.out.bx (w.heap.size, wdV A) (by simp)).2 (wdV_at _ _ HM3.out), row_c (Y3.out.bx ((w.heap.size + 1), wdV B) (by simp)).2 (wdV_at _ _ HM3.out)⟩) (fun h3x => ?_)
      clear hK K
      try simp only [Act.put, lay_out]
      refine wpAnyH_done (by kernel_rfl) ?_ _
      refine NoPanic.normal ?_
      clear h0 h1x h2x h3x
      try simp only [Act.put, lay_out]
      go_wp2
      go_roundw
      case rel =>
        refine ⟨m + 1, by omega, by go_num, ?_⟩
        have := Y2.out.cell hM (by intro q hq; have := HNL.out; simp at hq; rcases hq with rfl | rfl | rfl <;> (simp; omega)) m (.int .i64 ((eaS S (opXor A B) 0 m).doR ⟨5, (m : Int), A m, B m, -1, 0⟩))
        rw [wdV_upd _ _ _ HM3.out] at this
        rw [HE.out, HF.out]
        exact this
      case measure => simp [intOf]; omega
    · obtain rfl : m = n := by omega
      clear hlt
      go_wp2_with (first
        | (refine step_load_row rfl 33 _ rfl lb 33 (wdV (eaR S (opXor A B) 0 none3 m)) _ rfl (HI.out.bx (lb, wdV (eaR S (opXor A B) 0 none3 m)) (by simp)).2 Try.underlying33 rfl (by kernel_rfl) ?_)
        | (refine step_store_row rfl 33 _ _ rfl (w.heap.size + 2) 33 _ (wdV (eaR S (opXor A B) 0 none3 m)) rfl rfl (HI.out.bx ((w.heap.size + 2), #[.int .i64 0, .int .i64 0, .int .i64 0]) (by simp)).2 (by kernel_rfl) rfl (by kernel_rfl) ?_))
      have ZF := hid (((HI.out.swap (bs' := [((w.heap.size + 2), #[.int .i64 0, .int .i64 0, .int .i64 0]), (lb, wdV (eaR S (opXor A B) 0 none3 m))]) (by intro q hq; simp at hq ⊢; rcases hq with rfl | rfl <;> simp)).row hM (by intro q hq; have := HNL.out; simp at hq; subst hq; simp; omega) (wdV (eaR S (opXor A B) 0 none3 m))))
      exact bodyPost_ret (results_cell_row (by rfl) _ _ (w.heap.size + 2) 33 (wdV (eaR S (opXor A B) 0 none3 m)) (0, 0) _ rfl (ZF.out.bx _ (List.mem_cons_self ..)).2 Try.underlying33 rfl (by kernel_rfl)) rfl ⟨rfl, ZF.out.fin⟩
set_option maxHeartbeats 6400000 in
theorem yone {Pm : World → Nat → Ms → (Nat → Prop) → Prop} (hM : Mach Pm) {lo : Nat} {X : Nat → Prop} {W w : World} {p b k : Nat} {S1 S : Ms} (h : Bz Pm lo X W w p b S1 S) (hq : Bq k S) (hk : k + 3 ≤ 100000) (hn : S.n = 2 ∨ S.n = 3) (K : Int) (A : Nat → Int) (c : Nat) (hK : I64 K) (hA : Wb A) (hc : c < 2 ^ 64) :
    Calls Try.prog 28 #[.pointer (some ⟨b, 0, none⟩), .int .i64 K, .agg (wdV A), .int .u64 (c : Int)] w fun e w' => e = .returned (.agg (wdV (oneR S K A c))) ∧ Bz Pm lo X W w' p b S1 (oneS S K A c) ∧ ∀ k, X k → w'.heap[k]? = w.heap[k]? := by
  obtain ⟨hsh, hs2, hs3⟩ := sh_of hn
  have HOP : Hid (∀ i, i < 3 → opwf ((opOne K A c) i)) := hid (fun i hi => opOne_wf hK hA hc (by omega))
  have HQ : Hid (∀ m, m ≤ 3 → Bq (k + m) (eaS S (opOne K A c) 0 m)) := hid (fun m hm => eaS_bq hq 0 m (fun j hj => by rw [Nat.zero_add]; exact HOP.out j (by omega)))
  have HN : Hid (∀ m, (eaS S (opOne K A c) 0 m).n = (S.sh : Int)) := hid (fun m => (eaS_n S _ 0 m).trans hsh)
  have HK := hid hk
  have HB : Hid (Below w.heap.size w ((w.alloc (.cells (wdV A) 33)).alloc (.cells #[.int .i64 0, .int .i64 0, .int .i64 0] 33))) := hid ((((Below.refl _ _).alloc (Nat.le_refl _) _).alloc (by simp; try omega) _))
  have Z0 := hid (Gz.start h)
  have Z1 := hid (Z0.out.box hM (Nat.le_refl _) (wdV A))
  have Z2 := hid (Z1.out.box hM (by simp; try omega) #[.int .i64 0, .int .i64 0, .int .i64 0])
  have ZZ : Hid (Gz Pm lo X W w ((w.alloc (.cells (wdV A) 33)).alloc (.cells #[.int .i64 0, .int .i64 0, .int .i64 0] 33)) p b S1 S [((w.heap.size + 1), #[.int .i64 0, .int .i64 0, .int .i64 0]), (w.heap.size, (wdV A))]) := hid (by have := Z2.out; simpa using this)
  clear Z0 Z1 Z2
  unfold oneR oneS
  generalize S.sh = n at *
  clear h hq hn hk hsh hK hA hc
  go_enter Try.func28, Try.ntmps28
  go_wp2_with (go_at_call 47; (with_reducible refine (none_any _).mono ?_); rintro e w1 ⟨rfl, hb⟩; have HNL : Hid (w.heap.size + 2 ≤ w1.heap.size) := hid (by have := hb.size; simp at this; omega); have Z5 := hid ((ZZ.out.self hM hb).box hM (by have := HNL.out; omega) (wdV none3)); clear hb)
  generalize w1.heap.size = lb at *
  go_loopw [10] (fun i wr => ∃ m : Nat, m ≤ n ∧ i = .int .i64 m ∧ Gz Pm lo X W w wr p b S1 (eaS S (opOne K A c) 0 m) [(lb, wdV (eaR S (opOne K A c) 0 none3 m)), ((w.heap.size + 1), #[.int .i64 0, .int .i64 0, .int .i64 0]), (w.heap.size, (wdV A))]) (fun i _ => n - (intOf i).toNat)
  case atStart => exact ⟨0, by omega, rfl, Z5.out⟩
  case round =>
    obtain ⟨m, hm, rfl, hI⟩ := hrel
    have HI := hid hI
    clear hI
    have c0 := HI.out.sh
    rw [HN.out] at c0
    by_cases hlt : m < n
    · have j2 : (m : Int) < (n : Int) := by omega
      have j1 : (0 : Int) ≤ (m : Int) := by omega
      have j3 : (m : Int) < 3 := by omega
      have HE := hid (eaS_0 S (opOne K A c) m)
      have HF := hid (eaR_0 S (opOne K A c) none3 m)
      have HOM : Hid (opwf ⟨K, (m : Int), A m, -1, -1, c⟩) := hid (HOP.out m (by omega))
      have HQM := hid (HQ.out m (by omega))
      have HKM : Hid (k + m ≤ 100000) := hid (by have := HK.out; omega)
      have HM3 : Hid (m < 3) := hid (by omega)
      have r0 : wr.cell? ⟨w.heap.size, m, none⟩ = some (.int .i64 (A m)) := row_c (HI.out.bx (w.heap.size, wdV A) (by simp)).2 (wdV_at _ _ HM3.out)
      go_wp2_with (first
        | (go_at_call 50; (with_reducible refine (dopc_any K (m : Int) (A m) (-1) c _).mono ?_); rintro e w5 ⟨rfl, hb⟩; have Y1 := hid (HI.out.self hM hb); clear hb)
        | (go_at_call 49; (with_reducible refine (ydo0 hM ⟨K, (m : Int), A m, -1, -1, c⟩ Y1.out.z HQM.out HKM.out HOM.out).mono ?_); rintro e w6 ⟨rfl, hz, hs⟩; have Y2 := hid (Y1.out.on hz hs); clear hz hs; have cl : w6.cell? ⟨lb, m, none⟩ = some (.int .i64 (eaR S (opOne K A c) 0 none3 m m)) := row_c (Y2.out.bx _ (List.mem_cons_self ..)).2 (wdV_at _ _ HM3.out); have fl := frozen_of_row w6 _ m _ _ (Y2.out.bx _ (List.mem_cons_self ..)).2))
      go_roundw
      case rel =>
        refine ⟨m + 1, by omega, by go_num, ?_⟩
        have := Y2.out.cell hM (by intro q hq; have := HNL.out; simp at hq; rcases hq with rfl | rfl <;> (simp; omega)) m (.int .i64 ((eaS S (opOne K A c) 0 m).doR ⟨K, (m : Int), A m, -1, -1, c⟩))
        rw [wdV_upd _ _ _ HM3.out] at this
        rw [HE.out, HF.out]
        exact this
      case measure => simp [intOf]; omega
    · obtain rfl : m = n := by omega
      clear hlt
      go_wp2_with (first
        | (refine step_load_row rfl 33 _ rfl lb 33 (wdV (eaR S (opOne K A c) 0 none3 m)) _ rfl (HI.out.bx (lb, wdV (eaR S (opOne K A c) 0 none3 m)) (by simp)).2 Try.underlying33 rfl (by kernel_rfl) ?_)
        | (refine step_store_row rfl 33 _ _ rfl (w.heap.size + 1) 33 _ (wdV (eaR S (opOne K A c) 0 none3 m)) rfl rfl (HI.out.bx ((w.heap.size + 1), #[.int .i64 0, .int .i64 0, .int .i64 0]) (by simp)).2 (by kernel_rfl) rfl (by kernel_rfl) ?_))
      have ZF := hid (((HI.out.swap (bs' := [((w.heap.size + 1), #[.int .i64 0, .int .i64 0, .int .i64 0]), (lb, wdV (eaR S (opOne K A c) 0 none3 m))]) (by intro q hq; simp at hq ⊢; rcases hq with rfl | rfl <;> simp)).row hM (by intro q hq; have := HNL.out; simp at hq; subst hq; simp; omega) (wdV (eaR S (opOne K A c) 0 none3 m))))
      exact bodyPost_ret (results_cell_row (by rfl) _ _ (w.heap.size + 1) 33 (wdV (eaR S (opOne K A c) 0 none3 m)) (0, 0) _ rfl (ZF.out.bx _ (List.mem_cons_self ..)).2 Try.underlying33 rfl (by kernel_rfl)) rfl ⟨rfl, ZF.out.fin⟩
end Go.Proofs.Ytdgkofnboeepbaa
