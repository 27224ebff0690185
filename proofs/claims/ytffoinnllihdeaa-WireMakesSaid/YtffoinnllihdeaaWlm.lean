import Derived.Test.YtffoinnllihdeaaProg
import Derived.Test.YtffoinnllihdeaaWif
import Derived.Test.YtffoinnllihdeaaWla
import Derived.Test.YtffoinnllihdeaaWlb
import Derived.Test.YtffoinnllihdeaaWls
import Derived.Deep.CutRange
import Derived.Deep.CutBlock
/- Wire: is a machine as the document's is? -/
namespace Go.Proofs.Ytffoinnllihdeaa
open Go.RowKit
set_option maxRecDepth 100000
theorem orw_rd {w : World} {B : Nat} {v : Value} {f : Nat → Nat} {L : Nat} (h : Orw w B 41 1 v L (fun i => [.int .u64 (f i : Int)])) (hL : L ≤ 1000000) (hf : ∀ i, i < L → f i < 2 ^ 64) : Rd .u64 w v (wdL f L) := by
  obtain ⟨a, cap, rfl, h1, h2, h3, h4⟩ := h.slice
  refine ⟨a, cap, by rw [wdL_len], by rw [wdL_len]; show L * 8 ≤ _; omega, fun z hz => ?_, fun h0 => ?_⟩
  · unfold wdL at hz
    obtain ⟨i, hi, rfl⟩ := List.mem_map.1 hz
    exact WalkArith.wf_u64 (by have := hf i (List.mem_range.1 hi); omega)
  · rw [wdL_len] at h0 ⊢
    obtain ⟨g, rfl⟩ := h4 h0
    refine ⟨g, 0, rfl, (Orw.lt h g rfl).2, fun j hj => ?_⟩
    have := Orw.cell h (fun _ => rfl) hj (by decide : 0 < 1) (u := .int .u64 (f j : Int)) rfl
    rw [wdL_nth f hj]
    simpa using this
theorem orw_rop {w : World} {B : Nat} {v : Value} {f : Nat → Op6} {L : Nat} (h : Orw w B 43 6 v L (fun i => (opCs (f i)).toList)) (hL : L ≤ 1000000) (hf : ∀ i, i < L → opwf (f i)) : ROp w v L f := by
  obtain ⟨a, cap, rfl, h1, h2, h3, h4⟩ := h.slice
  refine ⟨by omega, hf, a, cap, rfl, h1, h2, fun h0 => ?_⟩
  obtain ⟨g, rfl⟩ := h4 h0
  refine ⟨g, 0, rfl, (Orw.lt h g rfl).2, fun i hi => ?_⟩
  have hc : ∀ j u, j < 6 → (opCs (f i)).toList[j]? = some u → w.cell? ⟨g, 0 + i * 6 + j, none⟩ = some u := fun j u hj hu => by
    rw [Nat.zero_add]; exact Orw.cell h (fun _ => rfl) hi hj hu
  exact ⟨hc 0 _ (by decide) rfl, hc 1 _ (by decide) rfl, hc 2 _ (by decide) rfl, hc 3 _ (by decide) rfl, hc 4 _ (by decide) rfl, hc 5 _ (by decide) rfl⟩
theorem orw_rsp {w : World} {B : Nat} {v : Value} {f : Nat → Sp3} {L : Nat} (h : Orw w B 70 3 v L (fun i => (spCs (f i)).toList)) (hL : L ≤ 1000000) (hf : ∀ i, i < L → spwf (f i)) : RSp w v L f := by
  obtain ⟨a, cap, rfl, h1, h2, h3, h4⟩ := h.slice
  refine ⟨by omega, hf, a, cap, rfl, h1, h2, fun h0 => ?_⟩
  obtain ⟨g, rfl⟩ := h4 h0
  refine ⟨g, 0, rfl, (Orw.lt h g rfl).2, fun i hi => ?_⟩
  have hc : ∀ j u, j < 3 → (spCs (f i)).toList[j]? = some u → w.cell? ⟨g, 0 + i * 3 + j, none⟩ = some u := fun j u hj hu => by
    rw [Nat.zero_add]; exact Orw.cell h (fun _ => rfl) hi hj hu
  exact ⟨hc 0 _ (by decide) rfl, hc 1 _ (by decide) rfl, hc 2 _ (by decide) rfl⟩
theorem wrop_nil (w : World) (f : Nat → Op6) : ROp w (.slice none 0 0) 0 f := ⟨by omega, fun i hi => by omega, none, 0, rfl, by omega, by unfold maxLen; omega, fun h => by omega⟩
theorem wrsp_nil (w : World) (g : Nat → Sp3) : RSp w (.slice none 0 0) 0 g := ⟨by omega, fun i hi => by omega, none, 0, rfl, by omega, by unfold maxLen; omega, fun h => by omega⟩
section
variable {Pm : World → Nat → Ms → (Nat → Prop) → Prop} (hM : Mach Pm) {lo : Nat} {X : Nat → Prop} {W w : World} {p b k : Nat} {S S2 : Ms}
include hM
theorem zn (h : Bz Pm lo X W w p b S S2) (hq : Bq k S) (hk : k ≤ 1000000) : Calls Try.prog 29 #[.pointer (some ⟨p, 0, none⟩)] w fun e w' => e = .returned (.int .i64 S.n) ∧ Below w.heap.size w w' := by
  obtain ⟨F, G, ov, bv, vv, tv, h1, h2, h3, h4, h5, h6, h7⟩ := h
  exact hM.n p k S F w h1 hq hk
theorem zlen (h : Bz Pm lo X W w p b S S2) (hq : Bq k S) (hk : k ≤ 1000000) : Calls Try.prog 15 #[.pointer (some ⟨p, 0, none⟩)] w fun e w' => e = .returned (.int .i64 (S.len : Nat)) ∧ Below w.heap.size w w' := by
  obtain ⟨F, G, ov, bv, vv, tv, h1, h2, h3, h4, h5, h6, h7⟩ := h
  exact hM.len p k S F w h1 hq hk
theorem zdraws (h : Bz Pm lo X W w p b S S2) (hq : Bq k S) (hk : k ≤ 1000000) : Calls Try.prog 30 #[.pointer (some ⟨p, 0, none⟩)] w fun e w' => e = .returned (.int .i64 (S.draws : Nat)) ∧ Below w.heap.size w w' := by
  obtain ⟨F, G, ov, bv, vv, tv, h1, h2, h3, h4, h5, h6, h7⟩ := h
  exact hM.draws p k S F w h1 hq hk
theorem zerr (h : Bz Pm lo X W w p b S S2) (hq : Bq k S) (hk : k ≤ 1000000) : Calls Try.prog 19 #[.pointer (some ⟨p, 0, none⟩)] w fun e w' => e = .returned (.int .i64 (S.e : Nat)) ∧ Below w.heap.size w w' := by
  obtain ⟨F, G, ov, bv, vv, tv, h1, h2, h3, h4, h5, h6, h7⟩ := h
  exact hM.err p k S F w h1 hq hk
theorem ztrace (h : Bz Pm lo X W w p b S S2) (hq : Bq k S) (hk : k ≤ 1000000) : Calls Try.prog 22 #[.pointer (some ⟨p, 0, none⟩)] w fun e w' => ∃ v0 v1, e = .returned (.agg #[.int .i64 S.n, v0, v1]) ∧ ROp w' v0 (S.keep S.L) S.f ∧ RSp w' v1 (S.keep S.M) S.g ∧ Below w.heap.size w w' := by
  obtain ⟨F, G, ov, bv, vv, tv, h1, h2, h3, h4, h5, h6, h7⟩ := h
  exact hM.trace p k S F w h1 hq hk
theorem zvalues (h : Bz Pm lo X W w p b S S2) (hq : Bq k S) (hk : k ≤ 1000000) : Calls Try.prog 23 #[.pointer (some ⟨p, 0, none⟩)] w fun e w' => ∃ v, e = .returned v ∧ Rd .u64 w' v (wdL S.v (S.keep S.L)) ∧ Below w.heap.size w w' := by
  obtain ⟨F, G, ov, bv, vv, tv, h1, h2, h3, h4, h5, h6, h7⟩ := h
  exact hM.values p k S F w h1 hq hk
omit hM
theorem ylen (h : Bz Pm lo X W w p b S2 S) (hq : Bq k S) (hk : k ≤ 100000) : Calls Try.prog 12 #[.pointer (some ⟨b, 0, none⟩)] w fun e w' => e = .returned (.int .i64 (S.len : Nat)) ∧ Below w.heap.size w w' := by
  obtain ⟨F, G, ov, bv, vv, tv, h1, h2, h3, h4, h5, h6, h7⟩ := h
  exact dlen_any ⟨lo, G⟩ b S ov bv vv tv w h2 (hq.bd hk)
theorem ytrace (h : Bz Pm lo X W w p b S2 S) (hq : Bq k S) (hk : k ≤ 100000) : Calls Try.prog 42 #[.pointer (some ⟨b, 0, none⟩)] w fun e w' => ∃ v0 v1, e = .returned (.agg #[.int .i64 S.n, v0, v1]) ∧ ROp w' v0 S.L S.f ∧ RSp w' v1 S.M S.g ∧ Below w.heap.size w w' := by
  obtain ⟨F, G, ov, bv, vv, tv, h1, h2, h3, h4, h5, h6, h7⟩ := h
  have hl := hq.len
  unfold Ms.len at hl
  exact (dtrace_any ⟨lo, G⟩ b S ov bv vv tv w h2).mono fun e w' hr => ⟨ov, bv, hr.1, (orw_rop h2.ops (by omega) hq.ops).self hr.2, (orw_rsp h2.bls (by have := hq.M; omega) hq.sps).self hr.2, hr.2⟩
theorem Bz.vv (h : Bz Pm lo X W w p b S2 S) (hq : Bq k S) (hk : k ≤ 100000) : ∃ a cap, w.cell? ⟨b, 10, none⟩ = some (.slice a S.L cap) ∧ Rd .u64 w (.slice a S.L cap) (wdL S.v S.L) := by
  obtain ⟨F, G, ov, bv, vv, tv, h1, h2, h3, h4, h5, h6, h7⟩ := h
  have hl := hq.len
  unfold Ms.len at hl
  obtain ⟨a, cap, rfl, _⟩ := h2.vals
  exact ⟨a, cap, h2.c_vv, orw_rd h2.val (by omega) hq.v⟩
theorem Bz.c0 (h : Bz Pm lo X W w p b S2 S) : w.cell? ⟨b, 0, none⟩ = some (.int .i64 S.n) ∧ w.cell? ⟨b, 3, none⟩ = some (.int .i64 (S.draws : Int)) ∧ w.cell? ⟨b, 7, none⟩ = some (.int .i64 (S.e : Int)) ∧ w.cell? ⟨b, 14, none⟩ = some (.bool S.dry) := by
  obtain ⟨F, G, ov, bv, vv, tv, h1, h2, h3, h4, h5, h6, h7⟩ := h
  exact ⟨h2.c_n, h2.c_draws, h2.c_e, h2.c_dry⟩
end
set_option maxHeartbeats 12800000 in
theorem lsame_any {Pm : World → Nat → Ms → (Nat → Prop) → Prop} (hM : Mach Pm) {lo : Nat} {X : Nat → Prop} {W w : World} {p b k : Nat} {S : Ms} (h : Bz Pm lo X W w p b S S) (hq : Bq k S) (hk : k ≤ 100000) :
    Calls Try.prog 14 #[.pointer (some ⟨p, 0, none⟩), .pointer (some ⟨b, 0, none⟩)] w fun e w' => e = .returned (.bool true) ∧ Bz Pm lo X W w' p b S S ∧ Below w.heap.size w w' := by
  have Z := hid h
  have HQ := hid hq
  have HK2 := hid hk
  have HK : Hid (k ≤ 1000000) := hid (by omega)
  have HLL : Hid ((wdL S.v S.L).length ≤ 1000000) := hid (by have := hq.len; unfold Ms.len at this; rw [wdL_len]; omega)
  have HC : Hid (∀ w', Below w.heap.size w w' → w'.cell? ⟨b, 0, none⟩ = some (.int .i64 S.n) ∧ w'.cell? ⟨b, 3, none⟩ = some (.int .i64 (S.draws : Int)) ∧ w'.cell? ⟨b, 7, none⟩ = some (.int .i64 (S.e : Int)) ∧ w'.cell? ⟨b, 14, none⟩ = some (.bool S.dry)) := hid (fun w' hb => (h.self hM hb).c0)
  clear h hq hk
  go_enter Try.func14, Try.ntmps14
  go_wp2_with fail
  have Z0 := hid (Z.out.drew hM)
  have BZ0 : Hid (Below w.heap.size w w.drew) := hid ((Below.refl _ w).drew)
  refine wp_region_noPanic ?_
  refine wp_region_held_drew (S := fun w' => Below w.heap.size w w') (by kernel_rfl) (BZ0.out) (fun h0 => ?_)
  generalize w.drew = y1 at *
  refine wpAnyH_take (i := 0) (v := .pointer (some ⟨p, 0, none⟩)) rfl (by kernel_rfl) (by kernel_rfl) (by kernel_rfl) (fun _ _ _ h => h) (.inl ⟨by rfl, fun w hw => by clear hw; go_simp⟩) h0 ?_
  try simp only [Act.put, lay_out]
  refine wpAnyH_take (i := 2) (v := .pointer (some ⟨b, 0, none⟩)) rfl (by kernel_rfl) (by kernel_rfl) (by kernel_rfl) (fun _ _ _ h => h) (.inl ⟨by rfl, fun w hw => by clear hw; go_simp⟩) h0 ?_
  try simp only [Act.put, lay_out]
  refine wpAnyH_take (i := 3) (v := .pointer (some ⟨b, 0, none⟩)) rfl (by kernel_rfl) (by kernel_rfl) (by kernel_rfl) (fun _ _ _ h => h) (.inl ⟨by rfl, fun w hw => by clear hw; go_simp⟩) h0 ?_
  try simp only [Act.put, lay_out]
  refine wpAnyH_take (i := 4) (v := .pointer (some ⟨b, 0, none⟩)) rfl (by kernel_rfl) (by kernel_rfl) (by kernel_rfl) (fun _ _ _ h => h) (.inl ⟨by rfl, fun w hw => by clear hw; go_simp⟩) h0 ?_
  try simp only [Act.put, lay_out]
  refine wpAnyH_take (i := 5) (v := .int .i64 S.n) rfl (by kernel_rfl) (by kernel_rfl) (by kernel_rfl) (fun _ _ _ h => h) (.inl ⟨by rfl, fun w' hw => by have hc := (HC.out w' hw).1; clear hw; go_simp⟩) h0 ?_
  try simp only [Act.put, lay_out]
  refine wpAnyH_ready (rs := [1]) (by kernel_rfl) (by simp) (AllReadyH.cons rfl (fun K hK => ?_) AllReadyH.nil)
  rw [if_pos (by rfl)]
  go_simp
  go_at_call 29
  (with_reducible refine (zn hM Z0.out HQ.out HK.out).mono ?_); rintro e w1 ⟨rfl, hb⟩
  have Z1 := hid (Z0.out.self hM hb)
  have BZ1 := hid (BZ0.out.trans (hb.mono BZ0.out.size))
  clear hb
  refine hK.out _ _ (BZ1.out) (fun h1x => ?_)
  clear hK K
  try simp only [Act.put, lay_out]
  refine wpAnyH_take (i := 6) (v := .bool false) rfl (by kernel_rfl) (by kernel_rfl) (by kernel_rfl) (fun _ _ _ h => h) (.inl ⟨by rfl, fun w hw => by clear hw; go_simp⟩) h1x ?_
  try simp only [Act.put, lay_out]
  refine wpAnyH_take (i := 7) (v := .bool false) rfl (by kernel_rfl) (by kernel_rfl) (by kernel_rfl) (fun _ _ _ h => h) (.inl ⟨by rfl, fun w hw => by clear hw; go_simp⟩) h1x ?_
  try simp only [Act.put, lay_out]
  refine wpAnyH_take (i := 8) (v := .pointer (some ⟨p, 0, none⟩)) rfl (by kernel_rfl) (by kernel_rfl) (by kernel_rfl) (fun _ _ _ h => h) (.inl ⟨by rfl, fun w hw => by clear hw; go_simp⟩) h1x ?_
  try simp only [Act.put, lay_out]
  refine wpAnyH_take (i := 10) (v := .pointer (some ⟨b, 0, none⟩)) rfl (by kernel_rfl) (by kernel_rfl) (by kernel_rfl) (fun _ _ _ h => h) (.inl ⟨by rfl, fun w hw => by clear hw; go_simp⟩) h1x ?_
  try simp only [Act.put, lay_out]
  refine wpAnyH_ready (rs := [9]) (by kernel_rfl) (by simp) (AllReadyH.cons rfl (fun K hK => ?_) AllReadyH.nil)
  rw [if_pos (by rfl)]
  go_simp
  go_at_call 15
  (with_reducible refine (zlen hM Z1.out HQ.out HK.out).mono ?_); rintro e w2 ⟨rfl, hb⟩
  have Z2 := hid (Z1.out.self hM hb)
  have BZ2 := hid (BZ1.out.trans (hb.mono BZ1.out.size))
  clear hb
  refine hK.out _ _ (BZ2.out) (fun h2x => ?_)
  clear hK K
  try simp only [Act.put, lay_out]
  refine wpAnyH_ready (rs := [11]) (by kernel_rfl) (by simp) (AllReadyH.cons rfl (fun K hK => ?_) AllReadyH.nil)
  rw [if_pos (by rfl)]
  go_simp
  go_at_call 12
  (with_reducible refine (ylen Z2.out HQ.out HK2.out).mono ?_); rintro e w3 ⟨rfl, hb⟩
  have Z3 := hid (Z2.out.self hM hb)
  have BZ3 := hid (BZ2.out.trans (hb.mono BZ2.out.size))
  clear hb
  refine hK.out _ _ (BZ3.out) (fun h3x => ?_)
  clear hK K
  try simp only [Act.put, lay_out]
  refine wpAnyH_take (i := 12) (v := .bool false) rfl (by kernel_rfl) (by kernel_rfl) (by kernel_rfl) (fun _ _ _ h => h) (.inl ⟨by rfl, fun w hw => by clear hw; go_simp⟩) h3x ?_
  try simp only [Act.put, lay_out]
  refine wpAnyH_take (i := 13) (v := .bool false) rfl (by kernel_rfl) (by kernel_rfl) (by kernel_rfl) (fun _ _ _ h => h) (.inl ⟨by rfl, fun w hw => by clear hw; go_simp⟩) h3x ?_
  try simp only [Act.put, lay_out]
  refine wpAnyH_take (i := 14) (v := .bool false) rfl (by kernel_rfl) (by kernel_rfl) (by kernel_rfl) (fun _ _ _ h => h) (.inl ⟨by rfl, fun w hw => by clear hw; go_simp⟩) h3x ?_
  try simp only [Act.put, lay_out]
  refine wpAnyH_take (i := 15) (v := .pointer (some ⟨p, 0, none⟩)) rfl (by kernel_rfl) (by kernel_rfl) (by kernel_rfl) (fun _ _ _ h => h) (.inl ⟨by rfl, fun w hw => by clear hw; go_simp⟩) h3x ?_
  try simp only [Act.put, lay_out]
  refine wpAnyH_take (i := 17) (v := .pointer (some ⟨b, 0, none⟩)) rfl (by kernel_rfl) (by kernel_rfl) (by kernel_rfl) (fun _ _ _ h => h) (.inl ⟨by rfl, fun w hw => by clear hw; go_simp⟩) h3x ?_
  try simp only [Act.put, lay_out]
  refine wpAnyH_take (i := 18) (v := .pointer (some ⟨b, 0, none⟩)) rfl (by kernel_rfl) (by kernel_rfl) (by kernel_rfl) (fun _ _ _ h => h) (.inl ⟨by rfl, fun w hw => by clear hw; go_simp⟩) h3x ?_
  try simp only [Act.put, lay_out]
  refine wpAnyH_take (i := 19) (v := .pointer (some ⟨b, 3, none⟩)) rfl (by kernel_rfl) (by kernel_rfl) (by kernel_rfl) (fun _ _ _ h => h) (.inl ⟨by rfl, fun w hw => by clear hw; go_simp⟩) h3x ?_
  try simp only [Act.put, lay_out]
  refine wpAnyH_take (i := 20) (v := .int .i64 (S.draws : Int)) rfl (by kernel_rfl) (by kernel_rfl) (by kernel_rfl) (fun _ _ _ h => h) (.inl ⟨by rfl, fun w' hw => by have hc := (HC.out w' hw).2.1; clear hw; go_simp⟩) h3x ?_
  try simp only [Act.put, lay_out]
  refine wpAnyH_ready (rs := [16]) (by kernel_rfl) (by simp) (AllReadyH.cons rfl (fun K hK => ?_) AllReadyH.nil)
  rw [if_pos (by rfl)]
  go_simp
  go_at_call 30
  (with_reducible refine (zdraws hM Z3.out HQ.out HK.out).mono ?_); rintro e w4 ⟨rfl, hb⟩
  have Z4 := hid (Z3.out.self hM hb)
  have BZ4 := hid (BZ3.out.trans (hb.mono BZ3.out.size))
  clear hb
  refine hK.out _ _ (BZ4.out) (fun h4x => ?_)
  clear hK K
  try simp only [Act.put, lay_out]
  refine wpAnyH_take (i := 21) (v := .bool false) rfl (by kernel_rfl) (by kernel_rfl) (by kernel_rfl) (fun _ _ _ h => h) (.inl ⟨by rfl, fun w hw => by clear hw; go_simp⟩) h4x ?_
  try simp only [Act.put, lay_out]
  refine wpAnyH_take (i := 22) (v := .bool false) rfl (by kernel_rfl) (by kernel_rfl) (by kernel_rfl) (fun _ _ _ h => h) (.inl ⟨by rfl, fun w hw => by clear hw; go_simp⟩) h4x ?_
  try simp only [Act.put, lay_out]
  refine wpAnyH_take (i := 23) (v := .bool false) rfl (by kernel_rfl) (by kernel_rfl) (by kernel_rfl) (fun _ _ _ h => h) (.inl ⟨by rfl, fun w hw => by clear hw; go_simp⟩) h4x ?_
  try simp only [Act.put, lay_out]
  refine wpAnyH_take (i := 24) (v := .pointer (some ⟨p, 0, none⟩)) rfl (by kernel_rfl) (by kernel_rfl) (by kernel_rfl) (fun _ _ _ h => h) (.inl ⟨by rfl, fun w hw => by clear hw; go_simp⟩) h4x ?_
  try simp only [Act.put, lay_out]
  refine wpAnyH_take (i := 26) (v := .pointer (some ⟨b, 0, none⟩)) rfl (by kernel_rfl) (by kernel_rfl) (by kernel_rfl) (fun _ _ _ h => h) (.inl ⟨by rfl, fun w hw => by clear hw; go_simp⟩) h4x ?_
  try simp only [Act.put, lay_out]
  refine wpAnyH_take (i := 27) (v := .pointer (some ⟨b, 0, none⟩)) rfl (by kernel_rfl) (by kernel_rfl) (by kernel_rfl) (fun _ _ _ h => h) (.inl ⟨by rfl, fun w hw => by clear hw; go_simp⟩) h4x ?_
  try simp only [Act.put, lay_out]
  refine wpAnyH_take (i := 28) (v := .pointer (some ⟨b, 7, none⟩)) rfl (by kernel_rfl) (by kernel_rfl) (by kernel_rfl) (fun _ _ _ h => h) (.inl ⟨by rfl, fun w hw => by clear hw; go_simp⟩) h4x ?_
  try simp only [Act.put, lay_out]
  refine wpAnyH_take (i := 29) (v := .int .i64 (S.e : Int)) rfl (by kernel_rfl) (by kernel_rfl) (by kernel_rfl) (fun _ _ _ h => h) (.inl ⟨by rfl, fun w' hw => by have hc := (HC.out w' hw).2.2.1; clear hw; go_simp⟩) h4x ?_
  try simp only [Act.put, lay_out]
  refine wpAnyH_ready (rs := [25]) (by kernel_rfl) (by simp) (AllReadyH.cons rfl (fun K hK => ?_) AllReadyH.nil)
  rw [if_pos (by rfl)]
  go_simp
  go_at_call 19
  (with_reducible refine (zerr hM Z4.out HQ.out HK.out).mono ?_); rintro e w5 ⟨rfl, hb⟩
  have Z5 := hid (Z4.out.self hM hb)
  have BZ5 := hid (BZ4.out.trans (hb.mono BZ4.out.size))
  clear hb
  refine hK.out _ _ (BZ5.out) (fun h5x => ?_)
  clear hK K
  try simp only [Act.put, lay_out]
  refine wpAnyH_take (i := 30) (v := .bool false) rfl (by kernel_rfl) (by kernel_rfl) (by kernel_rfl) (fun _ _ _ h => h) (.inl ⟨by rfl, fun w hw => by clear hw; go_simp⟩) h5x ?_
  try simp only [Act.put, lay_out]
  refine wpAnyH_take (i := 31) (v := .bool false) rfl (by kernel_rfl) (by kernel_rfl) (by kernel_rfl) (fun _ _ _ h => h) (.inl ⟨by rfl, fun w hw => by clear hw; go_simp⟩) h5x ?_
  try simp only [Act.put, lay_out]
  refine wpAnyH_done (by kernel_rfl) ?_ _
  refine NoPanic.normal ?_
  clear h0 h1x h2x h3x h4x h5x
  try simp only [Act.put, lay_out]
  have c14 := (HC.out _ BZ5.out).2.2.2
  cases hd : S.dry
  · rw [hd] at c14
    have HKP : Hid (∀ n, S.keep n = n) := hid (fun n => by unfold Ms.keep; rw [if_neg (by rw [hd]; decide)])
    clear hd
    go_wp2_with fail
    have Z10 := hid (Z5.out.drew hM)
    have BZ10 := hid (BZ5.out.drew)
    refine wp_region_noPanic ?_
    refine wp_region_held_drew (S := fun w' => Below w.heap.size w w') (by kernel_rfl) (BZ10.out) (fun h0 => ?_)
    generalize w5.drew = y2 at *
    obtain ⟨av, cv, hcv, hrv⟩ := Z.out.vv HQ.out HK2.out
    have HCV : Hid (∀ w', Below w.heap.size w w' → w'.cell? ⟨b, 10, none⟩ = some (.slice av S.L cv)) := hid (fun w' hw => tcell_self hcv hw)
    have HRV : Hid (∀ w', Below w.heap.size w w' → Rd .u64 w' (.slice av S.L cv) (wdL S.v S.L)) := hid (fun w' hw => hrv.self hw)
    clear hcv hrv
    refine wpAnyH_take (i := 0) (v := .pointer (some ⟨p, 0, none⟩)) rfl (by kernel_rfl) (by kernel_rfl) (by kernel_rfl) (fun _ _ _ h => h) (.inl ⟨by rfl, fun w hw => by clear hw; go_simp⟩) h0 ?_
    try simp only [Act.put, lay_out]
    refine wpAnyH_take (i := 2) (v := .pointer (some ⟨b, 0, none⟩)) rfl (by kernel_rfl) (by kernel_rfl) (by kernel_rfl) (fun _ _ _ h => h) (.inl ⟨by rfl, fun w hw => by clear hw; go_simp⟩) h0 ?_
    try simp only [Act.put, lay_out]
    refine wpAnyH_take (i := 3) (v := .pointer (some ⟨b, 0, none⟩)) rfl (by kernel_rfl) (by kernel_rfl) (by kernel_rfl) (fun _ _ _ h => h) (.inl ⟨by rfl, fun w hw => by clear hw; go_simp⟩) h0 ?_
    try simp only [Act.put, lay_out]
    refine wpAnyH_take (i := 4) (v := .pointer (some ⟨b, 10, none⟩)) rfl (by kernel_rfl) (by kernel_rfl) (by kernel_rfl) (fun _ _ _ h => h) (.inl ⟨by rfl, fun w hw => by clear hw; go_simp⟩) h0 ?_
    try simp only [Act.put, lay_out]
    refine wpAnyH_take (i := 5) (v := .slice av S.L cv) rfl (by kernel_rfl) (by kernel_rfl) (by kernel_rfl) (fun _ _ _ h => h) (.inl ⟨by rfl, fun w' hw => by have hc := HCV.out w' hw; clear hw; go_simp⟩) h0 ?_
    try simp only [Act.put, lay_out]
    refine wpAnyH_ready (rs := [1]) (by kernel_rfl) (by simp) (AllReadyH.cons rfl (fun K hK => ?_) AllReadyH.nil)
    rw [if_pos (by rfl)]
    go_simp
    go_at_call 23
    (with_reducible refine (zvalues hM Z10.out HQ.out HK.out).mono ?_); rintro e w11 ⟨v, rfl, hv, hb⟩
    have Z11 := hid (Z10.out.self hM hb)
    have BZ11 := hid (BZ10.out.trans (hb.mono BZ10.out.size))
    rw [HKP.out] at hv
    have HV := hid hv
    clear hv
    clear hb
    refine hK.out _ _ (BZ11.out) (fun h1x => ?_)
    clear hK K
    try simp only [Act.put, lay_out]
    refine wpAnyH_ready (rs := [6]) (by kernel_rfl) (by simp) (AllReadyH.cons rfl (fun K hK => ?_) AllReadyH.nil)
    rw [if_pos (by rfl)]
    go_simp
    go_at_call 33
    (with_reducible refine (lwords_eq v (.slice av S.L cv) (wdL S.v S.L) _ HV.out (HRV.out _ BZ11.out) HLL.out).mono ?_); rintro e w12 ⟨rfl, hb⟩
    have Z12 := hid (Z11.out.self hM hb)
    have BZ12 := hid (BZ11.out.trans (hb.mono BZ11.out.size))
    clear hb
    refine hK.out _ _ (BZ12.out) (fun h2x => ?_)
    clear hK K
    try simp only [Act.put, lay_out]
    refine wpAnyH_take (i := 7) (v := .bool true) rfl (by kernel_rfl) (by kernel_rfl) (by kernel_rfl) (fun _ _ _ h => h) (.inl ⟨by rfl, fun w hw => by clear hw; go_simp⟩) h2x ?_
    try simp only [Act.put, lay_out]
    refine wpAnyH_take (i := 8) (v := .pointer (some ⟨p, 0, none⟩)) rfl (by kernel_rfl) (by kernel_rfl) (by kernel_rfl) (fun _ _ _ h => h) (.inl ⟨by rfl, fun w hw => by clear hw; go_simp⟩) h2x ?_
    try simp only [Act.put, lay_out]
    refine wpAnyH_take (i := 10) (v := .pointer (some ⟨b, 0, none⟩)) rfl (by kernel_rfl) (by kernel_rfl) (by kernel_rfl) (fun _ _ _ h => h) (.inl ⟨by rfl, fun w hw => by clear hw; go_simp⟩) h2x ?_
    try simp only [Act.put, lay_out]
    refine wpAnyH_ready (rs := [9]) (by kernel_rfl) (by simp) (AllReadyH.cons rfl (fun K hK => ?_) AllReadyH.nil)
    rw [if_pos (by rfl)]
    go_simp
    go_at_call 22
    (with_reducible refine (ztrace hM Z12.out HQ.out HK.out).mono ?_); rintro e w13 ⟨v0, v1, rfl, hv0, hv1, hb⟩
    have Z13 := hid (Z12.out.self hM hb)
    have BZ13 := hid (BZ12.out.trans (hb.mono BZ12.out.size))
    rw [HKP.out] at hv0
    rw [HKP.out] at hv1
    have HV0 := hid hv0
    have HV1 := hid hv1
    clear hv0 hv1
    clear hb
    refine hK.out _ _ (BZ13.out) (fun h3x => ?_)
    clear hK K
    try simp only [Act.put, lay_out]
    refine wpAnyH_ready (rs := [11]) (by kernel_rfl) (by simp) (AllReadyH.cons rfl (fun K hK => ?_) AllReadyH.nil)
    rw [if_pos (by rfl)]
    go_simp
    go_at_call 42
    (with_reducible refine (ytrace Z13.out HQ.out HK2.out).mono ?_); rintro e w14 ⟨v0', v1', rfl, hv0, hv1, hb⟩
    have Z14 := hid (Z13.out.self hM hb)
    have BZ14 := hid (BZ13.out.trans (hb.mono BZ13.out.size))
    have HV2 := hid hv0
    have HV3 := hid hv1
    have HV0' := hid (HV0.out.self hb)
    have HV1' := hid (HV1.out.self hb)
    clear hv0 hv1
    clear hb
    refine hK.out _ _ (BZ14.out) (fun h4x => ?_)
    clear hK K
    try simp only [Act.put, lay_out]
    refine wpAnyH_ready (rs := [12]) (by kernel_rfl) (by simp) (AllReadyH.cons rfl (fun K hK => ?_) AllReadyH.nil)
    rw [if_pos (by rfl)]
    go_simp
    go_at_call 41
    (with_reducible refine (refsame_eq S.n v0 v1 v0' v1' S.L S.M S.f S.g _ HV0'.out HV1'.out HV2.out HV3.out).mono ?_); rintro e w15 ⟨rfl, hb⟩
    have Z15 := hid (Z14.out.self hM hb)
    have BZ15 := hid (BZ14.out.trans (hb.mono BZ14.out.size))
    clear hb
    refine hK.out _ _ (BZ15.out) (fun h5x => ?_)
    clear hK K
    try simp only [Act.put, lay_out]
    refine wpAnyH_take (i := 13) (v := .bool true) rfl (by kernel_rfl) (by kernel_rfl) (by kernel_rfl) (fun _ _ _ h => h) (.inl ⟨by rfl, fun w hw => by clear hw; go_simp⟩) h5x ?_
    try simp only [Act.put, lay_out]
    refine wpAnyH_take (i := 14) (v := .bool true) rfl (by kernel_rfl) (by kernel_rfl) (by kernel_rfl) (fun _ _ _ h => h) (.inl ⟨by rfl, fun w hw => by clear hw; go_simp⟩) h5x ?_
    try simp only [Act.put, lay_out]
    refine wpAnyH_done (by kernel_rfl) ?_ _
    refine NoPanic.normal ?_
    clear h0 h1x h2x h3x h4x h5x
    try simp only [Act.put, lay_out]
    go_wp2
    go_ret
    exact ⟨rfl, Z15.out, BZ15.out⟩
  · rw [hd] at c14
    have HKP : Hid (∀ n, S.keep n = 0) := hid (fun n => by unfold Ms.keep; rw [if_pos hd])
    clear hd
    go_wp2_with fail
    have Z6 := hid (Z5.out.drew hM)
    have BZ6 := hid (BZ5.out.drew)
    refine wp_region_noPanic ?_
    refine wp_region_held_drew (S := fun w' => Below w.heap.size w w') (by kernel_rfl) (BZ6.out) (fun h0 => ?_)
    generalize w5.drew = y2 at *
    refine wpAnyH_take (i := 0) (v := .pointer (some ⟨p, 0, none⟩)) rfl (by kernel_rfl) (by kernel_rfl) (by kernel_rfl) (fun _ _ _ h => h) (.inl ⟨by rfl, fun w hw => by clear hw; go_simp⟩) h0 ?_
    try simp only [Act.put, lay_out]
    refine wpAnyH_ready (rs := [1]) (by kernel_rfl) (by simp) (AllReadyH.cons rfl (fun K hK => ?_) AllReadyH.nil)
    rw [if_pos (by rfl)]
    go_simp
    go_at_call 23
    (with_reducible refine (zvalues hM Z6.out HQ.out HK.out).mono ?_); rintro e w7 ⟨v, rfl, hv, hb⟩
    have Z7 := hid (Z6.out.self hM hb)
    have BZ7 := hid (BZ6.out.trans (hb.mono BZ6.out.size))
    rw [HKP.out] at hv
    obtain ⟨av, cv, hve, _⟩ := hv
    rw [wdL_len] at hve
    subst hve
    clear hb
    refine hK.out _ _ (BZ7.out) (fun h1x => ?_)
    clear hK K
    try simp only [Act.put, lay_out]
    refine wpAnyH_take (i := 2) (v := .int .i64 0) rfl (by kernel_rfl) (by kernel_rfl) (by kernel_rfl) (fun _ _ _ h => h) (.inl ⟨by rfl, fun w hw => by clear hw; go_simp⟩) h1x ?_
    try simp only [Act.put, lay_out]
    refine wpAnyH_take (i := 3) (v := .bool true) rfl (by kernel_rfl) (by kernel_rfl) (by kernel_rfl) (fun _ _ _ h => h) (.inl ⟨by rfl, fun w hw => by clear hw; go_simp⟩) h1x ?_
    try simp only [Act.put, lay_out]
    refine wpAnyH_take (i := 4) (v := .bool true) rfl (by kernel_rfl) (by kernel_rfl) (by kernel_rfl) (fun _ _ _ h => h) (.inl ⟨by rfl, fun w hw => by clear hw; go_simp⟩) h1x ?_
    try simp only [Act.put, lay_out]
    refine wpAnyH_take (i := 5) (v := .pointer (some ⟨p, 0, none⟩)) rfl (by kernel_rfl) (by kernel_rfl) (by kernel_rfl) (fun _ _ _ h => h) (.inl ⟨by rfl, fun w hw => by clear hw; go_simp⟩) h1x ?_
    try simp only [Act.put, lay_out]
    refine wpAnyH_take (i := 7) (v := .pointer (some ⟨b, 0, none⟩)) rfl (by kernel_rfl) (by kernel_rfl) (by kernel_rfl) (fun _ _ _ h => h) (.inl ⟨by rfl, fun w hw => by clear hw; go_simp⟩) h1x ?_
    try simp only [Act.put, lay_out]
    refine wpAnyH_take (i := 8) (v := .pointer (some ⟨b, 0, none⟩)) rfl (by kernel_rfl) (by kernel_rfl) (by kernel_rfl) (fun _ _ _ h => h) (.inl ⟨by rfl, fun w hw => by clear hw; go_simp⟩) h1x ?_
    try simp only [Act.put, lay_out]
    refine wpAnyH_take (i := 9) (v := .pointer (some ⟨b, 0, none⟩)) rfl (by kernel_rfl) (by kernel_rfl) (by kernel_rfl) (fun _ _ _ h => h) (.inl ⟨by rfl, fun w hw => by clear hw; go_simp⟩) h1x ?_
    try simp only [Act.put, lay_out]
    refine wpAnyH_take (i := 10) (v := .int .i64 S.n) rfl (by kernel_rfl) (by kernel_rfl) (by kernel_rfl) (fun _ _ _ h => h) (.inl ⟨by rfl, fun w' hw => by have hc := (HC.out w' hw).1; clear hw; go_simp⟩) h1x ?_
    try simp only [Act.put, lay_out]
    refine wpAnyH_take (i := 11) (v := .agg #[.int .i64 S.n, .slice none 0 0, .slice none 0 0]) rfl (by kernel_rfl) (by kernel_rfl) (by kernel_rfl) (fun _ _ _ h => h) (.inl ⟨by rfl, fun w hw => by clear hw; go_simp⟩) h1x ?_
    try simp only [Act.put, lay_out]
    refine wpAnyH_ready (rs := [6]) (by kernel_rfl) (by simp) (AllReadyH.cons rfl (fun K hK => ?_) AllReadyH.nil)
    rw [if_pos (by rfl)]
    go_simp
    go_at_call 22
    (with_reducible refine (ztrace hM Z7.out HQ.out HK.out).mono ?_); rintro e w8 ⟨v0, v1, rfl, hv0, hv1, hb⟩
    have Z8 := hid (Z7.out.self hM hb)
    have BZ8 := hid (BZ7.out.trans (hb.mono BZ7.out.size))
    rw [HKP.out] at hv0
    rw [HKP.out] at hv1
    have HV0 := hid hv0
    have HV1 := hid hv1
    clear hv0 hv1
    clear hb
    refine hK.out _ _ (BZ8.out) (fun h2x => ?_)
    clear hK K
    try simp only [Act.put, lay_out]
    refine wpAnyH_ready (rs := [12]) (by kernel_rfl) (by simp) (AllReadyH.cons rfl (fun K hK => ?_) AllReadyH.nil)
    rw [if_pos (by rfl)]
    go_simp
    go_at_call 41
    (with_reducible refine (refsame_eq S.n v0 v1 (.slice none 0 0) (.slice none 0 0) 0 0 S.f S.g _ HV0.out HV1.out (wrop_nil _ _) (wrsp_nil _ _)).mono ?_); rintro e w9 ⟨rfl, hb⟩
    have Z9 := hid (Z8.out.self hM hb)
    have BZ9 := hid (BZ8.out.trans (hb.mono BZ8.out.size))
    clear hb
    refine hK.out _ _ (BZ9.out) (fun h3x => ?_)
    clear hK K
    try simp only [Act.put, lay_out]
    refine wpAnyH_take (i := 13) (v := .bool true) rfl (by kernel_rfl) (by kernel_rfl) (by kernel_rfl) (fun _ _ _ h => h) (.inl ⟨by rfl, fun w hw => by clear hw; go_simp⟩) h3x ?_
    try simp only [Act.put, lay_out]
    refine wpAnyH_take (i := 14) (v := .bool true) rfl (by kernel_rfl) (by kernel_rfl) (by kernel_rfl) (fun _ _ _ h => h) (.inl ⟨by rfl, fun w hw => by clear hw; go_simp⟩) h3x ?_
    try simp only [Act.put, lay_out]
    refine wpAnyH_done (by kernel_rfl) ?_ _
    refine NoPanic.normal ?_
    clear h0 h1x h2x h3x
    try simp only [Act.put, lay_out]
    go_wp2
    go_ret
    exact ⟨rfl, Z9.out, BZ9.out⟩
end Go.Proofs.Ytffoinnllihdeaa
