import Derived.Test.YthkanhhpkaigoaaProg
import Derived.Test.YthkanhhpkaigoaaAeo
import Derived.Test.YthkanhhpkaigoaaAek
import Derived.Test.YthkanhhpkaigoaaAee
namespace Go.Proofs.Ythkanhhpkaigoaa
open Go.RowKit

/-- The document's cipher at work: the block in its variable, the result's block, the round keys. -/
structure RI (w wr : World) (c R1 : Nat) (gs cs : Nat → Nat) (Y : Nat → Nat → Nat) (g : Nat → Nat) : Prop where
  var : At wr w.heap.size 16 23 g
  out : At wr (w.heap.size + 1) 16 23 (fun _ => 0)
  list : RL wr c R1 16 gs (fun _ => 0) cs Y
  low : Below w.heap.size w wr
  lt : 0 < R1
  far : ∀ i, i < R1 → w.heap.size + 2 ≤ gs i
section
variable {w wr w1 : World} {c R1 n : Nat} {gs cs : Nat → Nat} {Y : Nat → Nat → Nat} {g g' k : Nat → Nat}
theorem RI.ne (h : RI w wr c R1 gs cs Y g) : c ≠ w.heap.size ∧ c ≠ w.heap.size + 1 := by
  have h0 := h.list.cell 0 h.lt
  refine ⟨fun e => ?_, fun e => ?_⟩
  · subst e
    have := h.var.cell (show 0 < 16 by decide)
    rw [h0] at this
    simp at this
  · subst e
    have := h.out.cell (show 0 < 16 by decide)
    rw [h0] at this
    simp at this
theorem RI.self (h : RI w wr c R1 gs cs Y g) (hb : Below wr.heap.size wr w1) : RI w w1 c R1 gs cs Y g :=
  ⟨h.var.self hb, h.out.self hb, h.list.self hb, h.low.trans (hb.mono h.low.size), h.lt, h.far⟩
theorem RI.drew (h : RI w wr c R1 gs cs Y g) : RI w wr.drew c R1 gs cs Y g := ⟨h.var.drew, h.out.drew, h.list.drew, h.low.drew, h.lt, h.far⟩
theorem RI.ext (h : RI w wr c R1 gs cs Y g) (e : Eq16 g g') : RI w wr c R1 gs cs Y g' := ⟨h.var.ext e, h.out, h.list, h.low, h.lt, h.far⟩
theorem RL.setRow (h : RL wr c R1 16 gs (fun _ => 0) cs Y) {n : Nat} (hc : c ≠ n) (hg : ∀ i, i < R1 → gs i ≠ n) (x : Array Value) : RL (wr.setRow n x) c R1 16 gs (fun _ => 0) cs Y :=
  ⟨by simpa using h.lt, fun i hi => (World.cell?_of_block (w := wr) (setRow_other wr n c x hc)).trans (h.cell i hi), fun i hi => (h.each i hi).same (by simp) (setRow_other wr n (gs i) x (hg i hi))⟩
theorem RI.row (h : RI w wr c R1 gs cs Y g) (g' : Nat → Nat) : RI w (wr.setRow w.heap.size (ba 16 g')) c R1 gs cs Y g' :=
  ⟨h.var.row g', h.out.rowApart (by omega) _, RL.setRow h.list h.ne.1 (fun i hi => by have := h.far i hi; omega) _, below_setRow h.low (by omega) _, h.lt, h.far⟩
theorem RI.done (h : RI w wr c R1 gs cs Y g) (k : Nat → Nat) :
    At (wr.setRow (w.heap.size + 1) (ba 16 k)) (w.heap.size + 1) 16 23 k ∧ Below w.heap.size w (wr.setRow (w.heap.size + 1) (ba 16 k)) :=
  ⟨h.out.row k, below_setRow h.low (by omega) _⟩
end
/-- What the document's Expand gives. -/
def ExpD (v : Value) (R1 : Nat) (Y : Nat → Nat → Nat) (w : World) : Prop :=
  Calls Try.prog 33 #[v] w fun e w' => ∃ c cap gs cs, e = .returned (.tuple #[.slice (some ⟨c, 0, none⟩) R1 cap, .int .i64 0]) ∧ RL w' c R1 16 gs (fun _ => 0) cs Y ∧ (∀ i, i < R1 → w.heap.size ≤ gs i) ∧ Below w.heap.size w w'

set_option maxRecDepth 100000 in
set_option maxHeartbeats 3200000 in
theorem refblock_any (v : Value) (R R1 : Nat) (Y : Nat → Nat → Nat) (f : Nat → Nat) (w : World) (hR1 : R1 = R + 1) (hR : 0 < R) (hl : R ≤ 1000) (hf : B16 f) (hY : YB Y R) (h : ∀ w', Below w.heap.size w w' → ExpD v R1 Y w') :
    Calls Try.prog 18 #[v, .agg (ba 16 f)] w fun e w' => e = .returned (.agg (ba 16 (blkF Y R f))) ∧ Below w.heap.size w w' := by
  have HS := hid (Var.start1 w f)
  have HR1 : Hid (R1 = R + 1 ∧ 0 < R ∧ R ≤ 1000) := hid ⟨hR1, hR, hl⟩
  have HYb : Hid (∀ r, r < R1 → B16 (Y r)) := hid (fun r hr => hY r (by omega))
  have HX : Hid (ExpD v R1 Y ((w.alloc (.cells (ba 16 f) 23)).alloc (.cells #[.int .u8 0, .int .u8 0, .int .u8 0, .int .u8 0, .int .u8 0, .int .u8 0, .int .u8 0, .int .u8 0, .int .u8 0, .int .u8 0, .int .u8 0, .int .u8 0, .int .u8 0, .int .u8 0, .int .u8 0, .int .u8 0] 23))) := hid (h _ HS.out.low)
  have HE : Hid (∀ n, n ≤ R1 → B16 (enc Y R f n)) := hid (fun n hn => enc_b hY hf n (by omega))
  have HN0 : Hid (enc Y R f 1 = addF f (Y 0)) := hid rfl
  have HN : Hid (∀ r, 0 < r → r < R → enc Y R f (r + 1) = addF (mxC (shR (subF (enc Y R f r)))) (Y r)) := hid (fun r h0 h1 => by show encR Y R r (enc Y R f r) = _; unfold encR; rw [if_neg (by omega), if_pos h1])
  have HZ : Hid (blkF Y R f = addF (shR (subF (enc Y R f R))) (Y R)) := hid (by show encR Y R R (enc Y R f R) = _; unfold encR; rw [if_neg (by omega), if_neg (by omega)])
  have HFb := hid hf
  generalize enc Y R f = E at *
  generalize blkF Y R f = Z at *
  unfold ExpD at HX
  clear hf hY h hR1 hR hl
  go_enter Try.func18, Try.ntmps18
  go_wp2_with (first
    | (go_at_call 33; (with_reducible refine HX.out.mono ?_); rintro e w1 ⟨c, cap, gs, cs, rfl, hrl, hfr, hlow⟩; have HI : Hid (RI w w1 c R1 gs cs Y f) := hid ⟨HS.out.var.self hlow, HS.out.out.self hlow, hrl, HS.out.low.trans (hlow.mono HS.out.low.size), by have := HR1.out; omega, fun i hi => by have := hfr i hi; simpa using this⟩; clear hrl hfr hlow))
  have HR0 := hid (show (0 : Nat) < R1 by have := HR1.out; omega)
  have HD := hid HI.out.drew
  have hc0 : w1.drew.cell? ⟨c, 0, none⟩ = some (.slice (some ⟨gs 0, 0, none⟩) 16 (cs 0)) := HD.out.list.cell 0 HR0.out
  have HAY := hid (HD.out.list.each 0 HR0.out)
  have hp0 := HR0.out
  refine region_tail 4 (by kernel_rfl) (by kernel_rfl) ?_
  simp only [List.take_succ_cons, List.take_zero, List.drop_succ_cons, List.drop_zero]
  generalize w1.drew = w2 at *
  refine still_load_mid rfl 23 (.tmp 3) rfl w.heap.size 0 16 f 5 rfl HD.out.var.range Try.underlying23 infoa ?_
  repeat still_step
  refine wpStill_nil ?_
  clear hc0
  go_wp2_with (first
    | (go_at_call 20; (with_reducible refine (refadd_any f (Y 0) (gs 0) 0 (cs 0) _ HFb.out HAY.out).mono ?_); rintro e w3 ⟨rfl, hlow⟩; have HD3 := hid (HD.out.self hlow); clear hlow)
    | (refine step_store_ba rfl 23 (.tmp 3) (.tmp 20) rfl w.heap.size 16 23 f (addF f (Y 0)) rfl rfl HD3.out.var infoa ?_; have HD4 := hid (HD3.out.row (addF f (Y 0)))))
  have HRR : Hid ((R1 : Int) - 1 = (R : Int) ∧ IntKind.i64.wrap (R : Int) = R) := hid ⟨by have := HR1.out; omega, by have := HR1.out; rw [IntKind.wrap_i64]; omega⟩
  clear HD HD3 HI HAY hp0
  go_loopw [7] (fun i wr => ∃ r : Nat, 1 ≤ r ∧ r ≤ R ∧ i = .int .i64 r ∧ RI w wr c R1 gs cs Y (E r)) (fun i _ => R - (intOf i).toNat)
  case atStart => exact ⟨1, by omega, by have := HR1.out; omega, rfl, by rw [HN0.out]; exact HD4.out⟩
  case round =>
    obtain ⟨r, hr0, hr, rfl, hI⟩ := hrel
    have HI := hid hI
    clear hI HD4
    have e1 := HRR.out.1
    have e2 := HRR.out.2
    by_cases hlt : r < R
    · have c1 : (r : Int) < (R : Int) := by omega
      have HRL := hid (show r < R1 by have := HR1.out; omega)
      have HEb := hid (HE.out r (by have := HR1.out; omega))
      have HYr := hid (HYb.out r HRL.out)
      have HNr := hid (HN.out r (by omega) hlt)
      have hle : R ≤ 1000 := HR1.out.2.2
      generalize hg' : E (r + 1) = g' at HNr
      have HG' := hid hg'
      clear hg'
      generalize E r = g at *
      go_wp2
      have HD := hid HI.out.drew
      have HAY := hid (HD.out.list.each r HRL.out)
      have HCL : Hid (∀ w, RI w wr c R1 gs cs Y g → True) := hid (fun _ _ => trivial)
      have b1 : (r : Int) < (R1 : Int) := by have := HRL.out; omega
      have b0 : (0 : Int) ≤ (r : Int) := by omega
      clear HCL
      refine wp_region_noPanic ?_
      refine wp_region_held_drew (S := fun w' => w'.cell? ⟨c, r, none⟩ = some (.slice (some ⟨gs r, 0, none⟩) 16 (cs r))) (by kernel_rfl) (HD.out.list.cell r HRL.out) (fun h0 => ?_)
      generalize wr.drew = w9 at *
      refine wpAnyH_take (i := 4) (v := .slice (some ⟨c, 0, none⟩) R1 cap) rfl (by kernel_rfl) (by kernel_rfl) (by kernel_rfl) (fun _ _ _ h => h) (.inl ⟨by rfl, fun w hw => by clear hw; go_simp⟩) h0 ?_
      try simp only [Act.put, lay_out]
      refine wpAnyH_take (i := 5) (v := .int .i64 (r : Int)) rfl (by kernel_rfl) (by kernel_rfl) (by kernel_rfl) (fun _ _ _ h => h) (.inl ⟨by rfl, fun w hw => by clear hw; go_simp⟩) h0 ?_
      try simp only [Act.put, lay_out]
      refine wpAnyH_take (i := 6) (v := .pointer (some ⟨c, r, none⟩)) rfl (by kernel_rfl) (by kernel_rfl) (by kernel_rfl) (fun _ _ _ h => h) (.inl ⟨by rfl, fun w hw => by clear hw; go_simp⟩) h0 ?_
      try simp only [Act.put, lay_out]
      refine wpAnyH_take (i := 7) (v := .slice (some ⟨gs r, 0, none⟩) 16 (cs r)) rfl (by kernel_rfl) (by kernel_rfl) (by kernel_rfl) (fun _ _ _ h => h) (.inl ⟨by rfl, fun w hw => by go_simp⟩) h0 ?_
      try simp only [Act.put, lay_out]
      refine wpAnyH_ready (rs := [0]) (by kernel_rfl) (by simp) (AllReadyH.cons rfl (fun K hK => ?_) AllReadyH.nil)
      rw [if_pos (by rfl)]
      refine wp_load_mid 23 (.tmp 3) rfl w.heap.size 0 rfl (ba 16 g).toList _ HD.out.var.range Try.underlying23 rfl (by rw [Array.length_toList, ba_size]; exact infoa) ?_
      simp only [Array.toArray_toList]
      refine hK.out _ _ (h0) (fun h1 => ?_)
      clear hK K
      try simp only [Act.put, lay_out]
      refine wpAnyH_ready (rs := [1]) (by kernel_rfl) (by simp) (AllReadyH.cons rfl (fun K hK => ?_) AllReadyH.nil)
      go_simp
      go_at_call 34
      (with_reducible refine (refsub16_any g _ HEb.out).mono ?_); rintro e w10 ⟨rfl, hlow⟩
      have HM1 := hid (HD.out.self hlow)
      clear hlow
      refine hK.out _ _ (HM1.out.list.cell r HRL.out) (fun h2 => ?_)
      clear hK K
      try simp only [Act.put, lay_out]
      refine wpAnyH_ready (rs := [2]) (by kernel_rfl) (by simp) (AllReadyH.cons rfl (fun K hK => ?_) AllReadyH.nil)
      go_simp
      go_at_call 6
      (with_reducible refine (refrows_any (subF g) _).mono ?_); rintro e w11 ⟨rfl, hlow⟩
      have HM2 := hid (HM1.out.self hlow)
      clear hlow
      refine hK.out _ _ (HM2.out.list.cell r HRL.out) (fun h3 => ?_)
      clear hK K
      try simp only [Act.put, lay_out]
      refine wpAnyH_ready (rs := [3]) (by kernel_rfl) (by simp) (AllReadyH.cons rfl (fun K hK => ?_) AllReadyH.nil)
      go_simp
      go_at_call 8
      (with_reducible refine (refcolumns16_any (shR (subF g)) _ (shR_b (subF_b g))).mono ?_); rintro e w12 ⟨rfl, hlow⟩
      have HM3 := hid (HM2.out.self hlow)
      clear hlow
      refine hK.out _ _ (HM3.out.list.cell r HRL.out) (fun h4 => ?_)
      clear hK K
      try simp only [Act.put, lay_out]
      have HAY3 := hid (HM3.out.list.each r HRL.out)
      refine wpAnyH_ready (rs := [8]) (by kernel_rfl) (by simp) (AllReadyH.cons rfl (fun K hK => ?_) AllReadyH.nil)
      go_simp
      go_at_call 20
      (with_reducible refine (refadd_any (mxC (shR (subF g))) (Y r) (gs r) 0 (cs r) _ (mxC_b (shR_b (subF_b g))) HAY3.out).mono ?_); rintro e w13 ⟨rfl, hlow⟩
      have HM4 := hid (HM3.out.self hlow)
      clear hlow
      refine hK.out _ _ (HM4.out.list.cell r HRL.out) (fun h5 => ?_)
      clear hK K
      try simp only [Act.put, lay_out]
      refine wpAnyH_ready (rs := [9]) (by kernel_rfl) (by simp) (AllReadyH.cons rfl (fun K hK => ?_) AllReadyH.nil)
      rw [if_pos (by rfl)]
      refine wp_store_row 23 (.tmp 3) (.tmp 36) rfl w.heap.size (ba 16 (addF (mxC (shR (subF g))) (Y r))) rfl rfl 23 _ HM4.out.var (by rw [ba_size]; exact infoa) (by rw [ba_size, ba_size]) (ba_one 16 _) ?_
      have HMF := hid (HM4.out.row (addF (mxC (shR (subF g))) (Y r)))
      refine hK.out _ _ (HMF.out.list.cell r HRL.out) (fun h6 => ?_)
      clear hK K
      try simp only [Act.put, lay_out]
      refine wpAnyH_done (by kernel_rfl) ?_ _
      refine NoPanic.normal ?_
      clear h0 h1 h2 h3 h4 h5 h6
      try simp only [Act.put, lay_out]
      go_wp2
      go_roundw
      case rel => exact ⟨r + 1, by omega, by omega, by go_num, by rw [HG'.out, HNr.out]; exact HMF.out⟩
      case measure => simp [intOf]; omega
    · obtain rfl : r = R := by omega
      have c1 : ¬ (r : Int) < (r : Int) := by omega
      have HRL := hid (show r < R1 by have := HR1.out; omega)
      have HEb := hid (HE.out r (by have := HR1.out; omega))
      have HYr := hid (HYb.out r HRL.out)
      generalize E r = g at *
      go_wp2
      have HD := hid HI.out.drew
      have HAY := hid (HD.out.list.each r HRL.out)
      have b1 : (r : Int) < (R1 : Int) := by have := HRL.out; omega
      have b0 : (0 : Int) ≤ (r : Int) := by omega
      refine wp_region_noPanic ?_
      refine wp_region_held_drew (S := fun w' => w'.cell? ⟨c, r, none⟩ = some (.slice (some ⟨gs r, 0, none⟩) 16 (cs r))) (by kernel_rfl) (HD.out.list.cell r HRL.out) (fun h0 => ?_)
      generalize wr.drew = w9 at *
      refine wpAnyH_take (i := 3) (v := .slice (some ⟨c, 0, none⟩) R1 cap) rfl (by kernel_rfl) (by kernel_rfl) (by kernel_rfl) (fun _ _ _ h => h) (.inl ⟨by rfl, fun w hw => by clear hw; go_simp⟩) h0 ?_
      try simp only [Act.put, lay_out]
      refine wpAnyH_take (i := 4) (v := .slice (some ⟨c, 0, none⟩) R1 cap) rfl (by kernel_rfl) (by kernel_rfl) (by kernel_rfl) (fun _ _ _ h => h) (.inl ⟨by rfl, fun w hw => by clear hw; go_simp⟩) h0 ?_
      try simp only [Act.put, lay_out]
      refine wpAnyH_take (i := 5) (v := .int .i64 (R1 : Int)) rfl (by kernel_rfl) (by kernel_rfl) (by kernel_rfl) (fun _ _ _ h => h) (.inl ⟨by rfl, fun w hw => by clear hw; go_simp⟩) h0 ?_
      try simp only [Act.put, lay_out]
      refine wpAnyH_take (i := 6) (v := .int .i64 (r : Int)) rfl (by kernel_rfl) (by kernel_rfl) (by kernel_rfl) (fun _ _ _ h => h) (.inl ⟨by rfl, fun w hw => by clear hw; go_simp⟩) h0 ?_
      try simp only [Act.put, lay_out]
      refine wpAnyH_take (i := 7) (v := .pointer (some ⟨c, r, none⟩)) rfl (by kernel_rfl) (by kernel_rfl) (by kernel_rfl) (fun _ _ _ h => h) (.inl ⟨by rfl, fun w hw => by clear hw; go_simp⟩) h0 ?_
      try simp only [Act.put, lay_out]
      refine wpAnyH_take (i := 8) (v := .slice (some ⟨gs r, 0, none⟩) 16 (cs r)) rfl (by kernel_rfl) (by kernel_rfl) (by kernel_rfl) (fun _ _ _ h => h) (.inl ⟨by rfl, fun w hw => by go_simp⟩) h0 ?_
      try simp only [Act.put, lay_out]
      refine wpAnyH_ready (rs := [0]) (by kernel_rfl) (by simp) (AllReadyH.cons rfl (fun K hK => ?_) AllReadyH.nil)
      rw [if_pos (by rfl)]
      refine wp_load_mid 23 (.tmp 3) rfl w.heap.size 0 rfl (ba 16 g).toList _ HD.out.var.range Try.underlying23 rfl (by rw [Array.length_toList, ba_size]; exact infoa) ?_
      simp only [Array.toArray_toList]
      refine hK.out _ _ (h0) (fun h1 => ?_)
      clear hK K
      try simp only [Act.put, lay_out]
      refine wpAnyH_ready (rs := [1]) (by kernel_rfl) (by simp) (AllReadyH.cons rfl (fun K hK => ?_) AllReadyH.nil)
      go_simp
      go_at_call 34
      (with_reducible refine (refsub16_any g _ HEb.out).mono ?_); rintro e w10 ⟨rfl, hlow⟩
      have HM1 := hid (HD.out.self hlow)
      clear hlow
      refine hK.out _ _ (HM1.out.list.cell r HRL.out) (fun h2 => ?_)
      clear hK K
      try simp only [Act.put, lay_out]
      refine wpAnyH_ready (rs := [2]) (by kernel_rfl) (by simp) (AllReadyH.cons rfl (fun K hK => ?_) AllReadyH.nil)
      go_simp
      go_at_call 6
      (with_reducible refine (refrows_any (subF g) _).mono ?_); rintro e w11 ⟨rfl, hlow⟩
      have HM2 := hid (HM1.out.self hlow)
      clear hlow
      refine hK.out _ _ (HM2.out.list.cell r HRL.out) (fun h3 => ?_)
      clear hK K
      try simp only [Act.put, lay_out]
      have HAY3 := hid (HM2.out.list.each r HRL.out)
      refine wpAnyH_ready (rs := [9]) (by kernel_rfl) (by simp) (AllReadyH.cons rfl (fun K hK => ?_) AllReadyH.nil)
      go_simp
      go_at_call 20
      (with_reducible refine (refadd_any (shR (subF g)) (Y r) (gs r) 0 (cs r) _ (shR_b (subF_b g)) HAY3.out).mono ?_); rintro e w13 ⟨rfl, hlow⟩
      have HM4 := hid (HM2.out.self hlow)
      clear hlow
      refine hK.out _ _ (HM4.out.list.cell r HRL.out) (fun h5 => ?_)
      clear hK K
      try simp only [Act.put, lay_out]
      have HS6 := hid ((World.cell?_of_block (w := w13) (setRow_other w13 (w.heap.size + 1) c (ba 16 (addF (shR (subF g)) (Y r))) HM4.out.ne.2)).trans (HM4.out.list.cell r HRL.out))
      refine wpAnyH_ready (rs := [10]) (by kernel_rfl) (by simp) (AllReadyH.cons rfl (fun K hK => ?_) AllReadyH.nil)
      rw [if_pos (by rfl)]
      refine wp_store_row 23 (.tmp 4) (.tmp 46) rfl (w.heap.size + 1) (ba 16 (addF (shR (subF g)) (Y r))) rfl rfl 23 _ HM4.out.out (by rw [ba_size]; exact infoa) (by rw [ba_size, ba_size]) (ba_one 16 _) ?_
      refine hK.out _ _ (HS6.out) (fun h6 => ?_)
      clear hK K
      try simp only [Act.put, lay_out]
      refine wpAnyH_done (by kernel_rfl) ?_ _
      refine NoPanic.normal ?_
      clear h0 h1 h2 h3 h5 h6
      try simp only [Act.put, lay_out]
      go_wp2
      exact ret_ba rfl rfl Try.underlying23 infoa rfl (HM4.out.done _).1 ⟨by rw [HZ.out], (HM4.out.done _).2⟩
end Go.Proofs.Ythkanhhpkaigoaa
