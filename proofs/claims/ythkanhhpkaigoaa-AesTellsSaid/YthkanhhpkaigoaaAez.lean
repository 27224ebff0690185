import Derived.Test.YthkanhhpkaigoaaProg
import Derived.Test.YthkanhhpkaigoaaAey
namespace Go.Proofs.Ythkanhhpkaigoaa
open Go.RowKit

/-- .. and a cipher beside it. -/
structure LC (w wr : World) (f : Nat → Nat) (d b c cap R1 : Nat) (Y : Nat → Nat → Nat) : Prop extends LT w wr f where
  ci : Ci wr d b c cap R1 Y
  hb : w.heap.size < b
section
variable {w wr w1 : World} {f : Nat → Nat} {d b c cap R1 : Nat} {Y : Nat → Nat → Nat}
theorem LC.self (h : LC w wr f d b c cap R1 Y) (hl : Below wr.heap.size wr w1) : LC w w1 f d b c cap R1 Y := ⟨h.toLT.self hl, h.ci.self hl, h.hb⟩
theorem LC.drew (h : LC w wr f d b c cap R1 Y) : LC w wr.drew f d b c cap R1 Y := ⟨h.toLT.drew, h.ci.drew, h.hb⟩
theorem LC.asked (h : LC w wr f d b c cap R1 Y) (hci : Ci w1 d b c cap R1 Y) (o : Only b wr w1) : LC w w1 f d b c cap R1 Y := ⟨h.toLT.only o h.hb, hci, h.hb⟩
end

set_option maxRecDepth 100000 in
set_option maxHeartbeats 6400000 in
theorem tells_ok (kb ko kc L R R1 : Nat) (Y : Nat → Nat → Nat) (f : Nat → Nat) (w : World) (hf : B16 f) (hR : R1 = R + 1 ∧ 0 < R ∧ R ≤ 1000) (hr : rnd (L : Int) = R) (hYB : YB Y R)
    (hN : ∀ w', Below w.heap.size w w' → NewOk (.slice (some ⟨kb, ko, none⟩) L kc) R1 Y w') (hX : ∀ w', Below w.heap.size w w' → ExpD (.slice (some ⟨kb, ko, none⟩) L kc) R1 Y w') :
    Calls Try.prog 3 #[.slice (some ⟨kb, ko, none⟩) L kc, .agg (ba 16 f)] w fun e w' => e = .returned (.bool true) ∧ Below w.heap.size w w' := by
  have HS := hid (LT.start w f)
  have HF := hid hf
  have HRD := hid (fun w => by have := refrounds_any (L : Int) w; rw [hr] at this; exact this)
  have HRR := hid hR
  have HYB := hid hYB
  have HEX := hid hX
  have HNN := hid (fun w' h => by have := hN w' h; unfold NewOk at this; exact this)
  have p0 : 0 < R := hR.2.1
  clear hf hR hr hYB hN hX
  go_enter Try.func3, Try.ntmps3
  go_wp2
  refine wp_region_noPanic ?_
  have HL := hid HS.out.drew
  refine wp_region_held_drew (S := fun w' => At w' w.heap.size 16 23 f) (by kernel_rfl) (HL.out.arg) (fun h0 => ?_)
  generalize (w.alloc (.cells (ba 16 f) 23)).drew = w2 at *
  refine wpAnyH_take (i := 0) (v := .agg (ba 16 f)) rfl (by kernel_rfl) (by kernel_rfl) (by kernel_rfl) (fun _ _ _ h => h) (yields_load_ba (by rfl) 23 _ rfl w.heap.size 16 23 5 f rfl (fun w h => h) Try.underlying23 infoa) h0 ?_
  try simp only [Act.put, lay_out]
  refine wpAnyH_take (i := 2) (v := .agg (ba 16 f)) rfl (by kernel_rfl) (by kernel_rfl) (by kernel_rfl) (fun _ _ _ h => h) (yields_load_ba (by rfl) 23 _ rfl w.heap.size 16 23 5 f rfl (fun w h => h) Try.underlying23 infoa) h0 ?_
  try simp only [Act.put, lay_out]
  refine wpAnyH_ready (rs := [1]) (by kernel_rfl) (by simp) (AllReadyH.cons rfl (fun K hK => ?_) AllReadyH.nil)
  rw [if_pos (by rfl)]
  go_simp
  go_at_call 5
  (with_reducible refine (rows_any f _).mono ?_); rintro e wa0 ⟨rfl, hlow⟩
  have HQ1 := hid (HL.out.self hlow)
  refine hK.out _ _ (HQ1.out.arg) (fun h1x => ?_)
  clear hK K
  try simp only [Act.put, lay_out]
  refine wpAnyH_ready (rs := [3]) (by kernel_rfl) (by simp) (AllReadyH.cons rfl (fun K hK => ?_) AllReadyH.nil)
  rw [if_pos (by rfl)]
  go_simp
  go_at_call 6
  (with_reducible refine (refrows_any f _).mono ?_); rintro e wb0 ⟨rfl, hlow⟩
  have HQ2 := hid (HQ1.out.self hlow)
  refine hK.out _ _ (HQ2.out.arg) (fun h2x => ?_)
  clear hK K
  try simp only [Act.put, lay_out]
  refine wpAnyH_take (i := 4) (v := .bool false) rfl (by kernel_rfl) (by kernel_rfl) (by kernel_rfl) (fun _ _ _ h => h) (.inl ⟨by rfl, fun w _ => exec_ne16 (.tmp 9) (.tmp 11) rfl (f := (shR f)) (g := (shR f)) (q := true) rfl rfl ⟨fun _ => rfl, fun _ => Eq16.refl _⟩⟩) h2x ?_
  try simp only [Act.put, lay_out]
  refine wpAnyH_take (i := 5) (v := .bool false) rfl (by kernel_rfl) (by kernel_rfl) (by kernel_rfl) (fun _ _ _ h => h) (.inl ⟨by rfl, fun w hw => by clear hw; go_simp⟩) h2x ?_
  try simp only [Act.put, lay_out]
  refine wpAnyH_take (i := 6) (v := .agg (ba 16 f)) rfl (by kernel_rfl) (by kernel_rfl) (by kernel_rfl) (fun _ _ _ h => h) (yields_load_ba (by rfl) 23 _ rfl w.heap.size 16 23 5 f rfl (fun w h => h) Try.underlying23 infoa) h2x ?_
  try simp only [Act.put, lay_out]
  refine wpAnyH_take (i := 8) (v := .agg (ba 16 f)) rfl (by kernel_rfl) (by kernel_rfl) (by kernel_rfl) (fun _ _ _ h => h) (yields_load_ba (by rfl) 23 _ rfl w.heap.size 16 23 5 f rfl (fun w h => h) Try.underlying23 infoa) h2x ?_
  try simp only [Act.put, lay_out]
  refine wpAnyH_ready (rs := [7]) (by kernel_rfl) (by simp) (AllReadyH.cons rfl (fun K hK => ?_) AllReadyH.nil)
  rw [if_pos (by rfl)]
  go_simp
  go_at_call 7
  (with_reducible refine (columns_any16 f _ HF.out).mono ?_); rintro e wa1 ⟨rfl, hlow⟩
  have HQ3 := hid (HQ2.out.self hlow)
  refine hK.out _ _ (HQ3.out.arg) (fun h3x => ?_)
  clear hK K
  try simp only [Act.put, lay_out]
  refine wpAnyH_ready (rs := [9]) (by kernel_rfl) (by simp) (AllReadyH.cons rfl (fun K hK => ?_) AllReadyH.nil)
  rw [if_pos (by rfl)]
  go_simp
  go_at_call 8
  (with_reducible refine (refcolumns16_any f _ HF.out).mono ?_); rintro e wb1 ⟨rfl, hlow⟩
  have HQ4 := hid (HQ3.out.self hlow)
  refine hK.out _ _ (HQ4.out.arg) (fun h4x => ?_)
  clear hK K
  try simp only [Act.put, lay_out]
  refine wpAnyH_take (i := 10) (v := .bool false) rfl (by kernel_rfl) (by kernel_rfl) (by kernel_rfl) (fun _ _ _ h => h) (.inl ⟨by rfl, fun w _ => exec_ne16 (.tmp 15) (.tmp 17) rfl (f := (mxC f)) (g := (mxC f)) (q := true) rfl rfl ⟨fun _ => rfl, fun _ => Eq16.refl _⟩⟩) h4x ?_
  try simp only [Act.put, lay_out]
  refine wpAnyH_take (i := 11) (v := .bool false) rfl (by kernel_rfl) (by kernel_rfl) (by kernel_rfl) (fun _ _ _ h => h) (.inl ⟨by rfl, fun w hw => by clear hw; go_simp⟩) h4x ?_
  try simp only [Act.put, lay_out]
  refine wpAnyH_take (i := 12) (v := .bool false) rfl (by kernel_rfl) (by kernel_rfl) (by kernel_rfl) (fun _ _ _ h => h) (.inl ⟨by rfl, fun w hw => by clear hw; go_simp⟩) h4x ?_
  try simp only [Act.put, lay_out]
  refine wpAnyH_take (i := 13) (v := .agg (ba 16 f)) rfl (by kernel_rfl) (by kernel_rfl) (by kernel_rfl) (fun _ _ _ h => h) (yields_load_ba (by rfl) 23 _ rfl w.heap.size 16 23 5 f rfl (fun w h => h) Try.underlying23 infoa) h4x ?_
  try simp only [Act.put, lay_out]
  refine wpAnyH_take (i := 15) (v := .agg (ba 16 f)) rfl (by kernel_rfl) (by kernel_rfl) (by kernel_rfl) (fun _ _ _ h => h) (yields_load_ba (by rfl) 23 _ rfl w.heap.size 16 23 5 f rfl (fun w h => h) Try.underlying23 infoa) h4x ?_
  try simp only [Act.put, lay_out]
  refine wpAnyH_ready (rs := [14]) (by kernel_rfl) (by simp) (AllReadyH.cons rfl (fun K hK => ?_) AllReadyH.nil)
  rw [if_pos (by rfl)]
  go_simp
  go_at_call 9
  (with_reducible refine (backRows_any f _).mono ?_); rintro e wa2 ⟨rfl, hlow⟩
  have HQ5 := hid (HQ4.out.self hlow)
  refine hK.out _ _ (HQ5.out.arg) (fun h5x => ?_)
  clear hK K
  try simp only [Act.put, lay_out]
  refine wpAnyH_ready (rs := [16]) (by kernel_rfl) (by simp) (AllReadyH.cons rfl (fun K hK => ?_) AllReadyH.nil)
  rw [if_pos (by rfl)]
  go_simp
  go_at_call 10
  (with_reducible refine (refbackRows_any f _).mono ?_); rintro e wb2 ⟨rfl, hlow⟩
  have HQ6 := hid (HQ5.out.self hlow)
  refine hK.out _ _ (HQ6.out.arg) (fun h6x => ?_)
  clear hK K
  try simp only [Act.put, lay_out]
  refine wpAnyH_take (i := 17) (v := .bool false) rfl (by kernel_rfl) (by kernel_rfl) (by kernel_rfl) (fun _ _ _ h => h) (.inl ⟨by rfl, fun w _ => exec_ne16 (.tmp 22) (.tmp 24) rfl (f := (shB f)) (g := (shB f)) (q := true) rfl rfl ⟨fun _ => rfl, fun _ => Eq16.refl _⟩⟩) h6x ?_
  try simp only [Act.put, lay_out]
  refine wpAnyH_take (i := 18) (v := .bool false) rfl (by kernel_rfl) (by kernel_rfl) (by kernel_rfl) (fun _ _ _ h => h) (.inl ⟨by rfl, fun w hw => by clear hw; go_simp⟩) h6x ?_
  try simp only [Act.put, lay_out]
  refine wpAnyH_take (i := 19) (v := .bool false) rfl (by kernel_rfl) (by kernel_rfl) (by kernel_rfl) (fun _ _ _ h => h) (.inl ⟨by rfl, fun w hw => by clear hw; go_simp⟩) h6x ?_
  try simp only [Act.put, lay_out]
  refine wpAnyH_take (i := 20) (v := .agg (ba 16 f)) rfl (by kernel_rfl) (by kernel_rfl) (by kernel_rfl) (fun _ _ _ h => h) (yields_load_ba (by rfl) 23 _ rfl w.heap.size 16 23 5 f rfl (fun w h => h) Try.underlying23 infoa) h6x ?_
  try simp only [Act.put, lay_out]
  refine wpAnyH_take (i := 22) (v := .agg (ba 16 f)) rfl (by kernel_rfl) (by kernel_rfl) (by kernel_rfl) (fun _ _ _ h => h) (yields_load_ba (by rfl) 23 _ rfl w.heap.size 16 23 5 f rfl (fun w h => h) Try.underlying23 infoa) h6x ?_
  try simp only [Act.put, lay_out]
  refine wpAnyH_ready (rs := [21]) (by kernel_rfl) (by simp) (AllReadyH.cons rfl (fun K hK => ?_) AllReadyH.nil)
  rw [if_pos (by rfl)]
  go_simp
  go_at_call 11
  (with_reducible refine (backColumns_any f _ HF.out).mono ?_); rintro e wa3 ⟨rfl, hlow⟩
  have HQ7 := hid (HQ6.out.self hlow)
  refine hK.out _ _ (HQ7.out.arg) (fun h7x => ?_)
  clear hK K
  try simp only [Act.put, lay_out]
  refine wpAnyH_ready (rs := [23]) (by kernel_rfl) (by simp) (AllReadyH.cons rfl (fun K hK => ?_) AllReadyH.nil)
  rw [if_pos (by rfl)]
  go_simp
  go_at_call 12
  (with_reducible refine (refbackColumns_any f _ HF.out).mono ?_); rintro e wb3 ⟨rfl, hlow⟩
  have HQ8 := hid (HQ7.out.self hlow)
  refine hK.out _ _ (HQ8.out.arg) (fun h8x => ?_)
  clear hK K
  try simp only [Act.put, lay_out]
  refine wpAnyH_take (i := 24) (v := .bool false) rfl (by kernel_rfl) (by kernel_rfl) (by kernel_rfl) (fun _ _ _ h => h) (.inl ⟨by rfl, fun w _ => exec_ne16 (.tmp 29) (.tmp 31) rfl (f := (mxB f)) (g := (mxB f)) (q := true) rfl rfl ⟨fun _ => rfl, fun _ => Eq16.refl _⟩⟩) h8x ?_
  try simp only [Act.put, lay_out]
  refine wpAnyH_take (i := 25) (v := .bool false) rfl (by kernel_rfl) (by kernel_rfl) (by kernel_rfl) (fun _ _ _ h => h) (.inl ⟨by rfl, fun w hw => by clear hw; go_simp⟩) h8x ?_
  try simp only [Act.put, lay_out]
  refine wpAnyH_done (by kernel_rfl) ?_ _
  refine NoPanic.normal ?_
  clear h0 h1x h2x h3x h4x h5x h6x h7x h8x
  try simp only [Act.put, lay_out]
  go_wp2_with (first
    | (go_at_call 13; (with_reducible refine (HNN.out _ HQ8.out.low).mono ?_); rintro e w4 ⟨d, b, c, cap, rfl, hci, hb, hlow⟩; have HN : Hid (LC w w4 f d b c cap R1 Y) := hid ⟨HQ8.out.self hlow, hci, Nat.lt_of_lt_of_le HQ8.out.arg.lt hb⟩; clear hci hb hlow))
  refine wp_region_noPanic ?_
  have HM := hid HN.out.drew
  refine wp_region_held_drew (S := fun w' => At w' w.heap.size 16 23 f) (by kernel_rfl) (HM.out.arg) (fun h0 => ?_)
  generalize w4.drew = w5 at *
  refine wpAnyH_take (i := 0) (v := .pointer none) rfl (by kernel_rfl) (by kernel_rfl) (by kernel_rfl) (fun _ _ _ h => h) (.inl ⟨by rfl, fun w hw => by clear hw; go_simp⟩) h0 ?_
  try simp only [Act.put, lay_out]
  refine wpAnyH_take (i := 1) (v := .agg (ba 16 f)) rfl (by kernel_rfl) (by kernel_rfl) (by kernel_rfl) (fun _ _ _ h => h) (yields_load_ba (by rfl) 23 _ rfl w.heap.size 16 23 5 f rfl (fun w h => h) Try.underlying23 infoa) h0 ?_
  try simp only [Act.put, lay_out]
  refine wpAnyH_take (i := 3) (v := .agg (ba 16 f)) rfl (by kernel_rfl) (by kernel_rfl) (by kernel_rfl) (fun _ _ _ h => h) (yields_load_ba (by rfl) 23 _ rfl w.heap.size 16 23 5 f rfl (fun w h => h) Try.underlying23 infoa) h0 ?_
  try simp only [Act.put, lay_out]
  refine wpAnyH_ready (rs := [2]) (by kernel_rfl) (by simp) (AllReadyH.cons rfl (fun K hK => ?_) AllReadyH.nil)
  rw [if_pos (by rfl)]
  go_simp
  go_at_call 14
  (with_reducible refine (block_nil f _).mono ?_); rintro e wc1 ⟨rfl, hlow⟩
  have HQ1 := hid (HM.out.self hlow)
  refine hK.out _ _ (HQ1.out.arg) (fun h1x => ?_)
  clear hK K
  try simp only [Act.put, lay_out]
  refine wpAnyH_take (i := 4) (v := .bool false) rfl (by kernel_rfl) (by kernel_rfl) (by kernel_rfl) (fun _ _ _ h => h) (.inl ⟨by rfl, fun w _ => exec_ne16 (.tmp 41) (.tmp 42) rfl (f := f) (g := f) (q := true) rfl rfl ⟨fun _ => rfl, fun _ => Eq16.refl _⟩⟩) h1x ?_
  try simp only [Act.put, lay_out]
  refine wpAnyH_take (i := 5) (v := .bool false) rfl (by kernel_rfl) (by kernel_rfl) (by kernel_rfl) (fun _ _ _ h => h) (.inl ⟨by rfl, fun w hw => by clear hw; go_simp⟩) h1x ?_
  try simp only [Act.put, lay_out]
  refine wpAnyH_take (i := 6) (v := .pointer none) rfl (by kernel_rfl) (by kernel_rfl) (by kernel_rfl) (fun _ _ _ h => h) (.inl ⟨by rfl, fun w hw => by clear hw; go_simp⟩) h1x ?_
  try simp only [Act.put, lay_out]
  refine wpAnyH_take (i := 7) (v := .agg (ba 16 f)) rfl (by kernel_rfl) (by kernel_rfl) (by kernel_rfl) (fun _ _ _ h => h) (yields_load_ba (by rfl) 23 _ rfl w.heap.size 16 23 5 f rfl (fun w h => h) Try.underlying23 infoa) h1x ?_
  try simp only [Act.put, lay_out]
  refine wpAnyH_take (i := 9) (v := .agg (ba 16 f)) rfl (by kernel_rfl) (by kernel_rfl) (by kernel_rfl) (fun _ _ _ h => h) (yields_load_ba (by rfl) 23 _ rfl w.heap.size 16 23 5 f rfl (fun w h => h) Try.underlying23 infoa) h1x ?_
  try simp only [Act.put, lay_out]
  refine wpAnyH_ready (rs := [8]) (by kernel_rfl) (by simp) (AllReadyH.cons rfl (fun K hK => ?_) AllReadyH.nil)
  rw [if_pos (by rfl)]
  go_simp
  go_at_call 15
  (with_reducible refine (unblock_nil f _).mono ?_); rintro e wc2 ⟨rfl, hlow⟩
  have HQ2 := hid (HQ1.out.self hlow)
  refine hK.out _ _ (HQ2.out.arg) (fun h2x => ?_)
  clear hK K
  try simp only [Act.put, lay_out]
  refine wpAnyH_take (i := 10) (v := .bool false) rfl (by kernel_rfl) (by kernel_rfl) (by kernel_rfl) (fun _ _ _ h => h) (.inl ⟨by rfl, fun w _ => exec_ne16 (.tmp 47) (.tmp 48) rfl (f := f) (g := f) (q := true) rfl rfl ⟨fun _ => rfl, fun _ => Eq16.refl _⟩⟩) h2x ?_
  try simp only [Act.put, lay_out]
  refine wpAnyH_take (i := 11) (v := .bool false) rfl (by kernel_rfl) (by kernel_rfl) (by kernel_rfl) (fun _ _ _ h => h) (.inl ⟨by rfl, fun w hw => by clear hw; go_simp⟩) h2x ?_
  try simp only [Act.put, lay_out]
  refine wpAnyH_take (i := 12) (v := .bool false) rfl (by kernel_rfl) (by kernel_rfl) (by kernel_rfl) (fun _ _ _ h => h) (.inl ⟨by rfl, fun w hw => by clear hw; go_simp⟩) h2x ?_
  try simp only [Act.put, lay_out]
  refine wpAnyH_take (i := 13) (v := .int .i64 0) rfl (by kernel_rfl) (by kernel_rfl) (by kernel_rfl) (fun _ _ _ h => h) (.inl ⟨by rfl, fun w hw => by clear hw; go_simp⟩) h2x ?_
  try simp only [Act.put, lay_out]
  refine wpAnyH_take (i := 14) (v := .bool true) rfl (by kernel_rfl) (by kernel_rfl) (by kernel_rfl) (fun _ _ _ h => h) (.inl ⟨by rfl, fun w hw => by clear hw; go_simp⟩) h2x ?_
  try simp only [Act.put, lay_out]
  refine wpAnyH_take (i := 15) (v := .slice (some ⟨kb, ko, none⟩) L kc) rfl (by kernel_rfl) (by kernel_rfl) (by kernel_rfl) (fun _ _ _ h => h) (.inl ⟨by rfl, fun w hw => by clear hw; go_simp⟩) h2x ?_
  try simp only [Act.put, lay_out]
  refine wpAnyH_take (i := 16) (v := .int .i64 (L : Int)) rfl (by kernel_rfl) (by kernel_rfl) (by kernel_rfl) (fun _ _ _ h => h) (.inl ⟨by rfl, fun w hw => by clear hw; go_simp⟩) h2x ?_
  try simp only [Act.put, lay_out]
  refine wpAnyH_ready (rs := [17]) (by kernel_rfl) (by simp) (AllReadyH.cons rfl (fun K hK => ?_) AllReadyH.nil)
  rw [if_pos (by rfl)]
  go_simp
  go_at_call 16
  (with_reducible refine (HRD.out _).mono ?_); rintro e wc3 ⟨rfl, rfl⟩
  have HQ3 := hid (HQ2.out)
  refine hK.out _ _ (HQ3.out.arg) (fun h3x => ?_)
  clear hK K
  try simp only [Act.put, lay_out]
  refine wpAnyH_take (i := 18) (v := .bool true) rfl (by kernel_rfl) (by kernel_rfl) (by kernel_rfl) (fun _ _ _ h => h) (.inl ⟨by rfl, fun w hw => by clear hw; go_simp⟩) h3x ?_
  try simp only [Act.put, lay_out]
  refine wpAnyH_take (i := 19) (v := .bool false) rfl (by kernel_rfl) (by kernel_rfl) (by kernel_rfl) (fun _ _ _ h => h) (.inl ⟨by rfl, fun w hw => by clear hw; go_simp⟩) h3x ?_
  try simp only [Act.put, lay_out]
  refine wpAnyH_take (i := 20) (v := .bool false) rfl (by kernel_rfl) (by kernel_rfl) (by kernel_rfl) (fun _ _ _ h => h) (.inl ⟨by rfl, fun w hw => by clear hw; go_simp⟩) h3x ?_
  try simp only [Act.put, lay_out]
  refine wpAnyH_done (by kernel_rfl) ?_ _
  refine NoPanic.normal ?_
  clear h0 h1x h2x h3x
  try simp only [Act.put, lay_out]
  go_wp2
  refine wp_region_noPanic ?_
  have HO := hid HQ3.out.drew
  refine wp_region_held_drew (S := fun w' => At w' w.heap.size 16 23 f) (by kernel_rfl) (HO.out.arg) (fun h0 => ?_)
  generalize wc3.drew = w6 at *
  refine wpAnyH_take (i := 0) (v := .pointer (some ⟨d, 0, none⟩)) rfl (by kernel_rfl) (by kernel_rfl) (by kernel_rfl) (fun _ _ _ h => h) (.inl ⟨by rfl, fun w hw => by clear hw; go_simp⟩) h0 ?_
  try simp only [Act.put, lay_out]
  refine wpAnyH_take (i := 1) (v := .agg (ba 16 f)) rfl (by kernel_rfl) (by kernel_rfl) (by kernel_rfl) (fun _ _ _ h => h) (yields_load_ba (by rfl) 23 _ rfl w.heap.size 16 23 5 f rfl (fun w h => h) Try.underlying23 infoa) h0 ?_
  try simp only [Act.put, lay_out]
  refine wpAnyH_take (i := 3) (v := .slice (some ⟨kb, ko, none⟩) L kc) rfl (by kernel_rfl) (by kernel_rfl) (by kernel_rfl) (fun _ _ _ h => h) (.inl ⟨by rfl, fun w hw => by clear hw; go_simp⟩) h0 ?_
  try simp only [Act.put, lay_out]
  refine wpAnyH_take (i := 4) (v := .agg (ba 16 f)) rfl (by kernel_rfl) (by kernel_rfl) (by kernel_rfl) (fun _ _ _ h => h) (yields_load_ba (by rfl) 23 _ rfl w.heap.size 16 23 5 f rfl (fun w h => h) Try.underlying23 infoa) h0 ?_
  try simp only [Act.put, lay_out]
  refine wpAnyH_ready (rs := [2]) (by kernel_rfl) (by simp) (AllReadyH.cons rfl (fun K hK => ?_) AllReadyH.nil)
  rw [if_pos (by rfl)]
  go_simp
  go_at_call 14
  (with_reducible refine (block_any d b c cap R R1 Y f _ HRR.out.1 HRR.out.2.1 HRR.out.2.2 HF.out HO.out.ci).mono ?_); rintro e wd1 ⟨rfl, hci, ho⟩
  have HQ1 := hid (HO.out.asked hci ho)
  refine hK.out _ _ (HQ1.out.arg) (fun h1x => ?_)
  clear hK K
  try simp only [Act.put, lay_out]
  refine wpAnyH_ready (rs := [5]) (by kernel_rfl) (by simp) (AllReadyH.cons rfl (fun K hK => ?_) AllReadyH.nil)
  rw [if_pos (by rfl)]
  go_simp
  go_at_call 18
  (with_reducible refine (refblock_any (.slice (some ⟨kb, ko, none⟩) L kc) R R1 Y f _ HRR.out.1 HRR.out.2.1 HRR.out.2.2 HF.out HYB.out (fun w' hb => HEX.out w' (HQ1.out.low.trans (hb.mono HQ1.out.low.size)))).mono ?_); rintro e wd2 ⟨rfl, hlow⟩
  have HQ2 := hid (HQ1.out.self hlow)
  refine hK.out _ _ (HQ2.out.arg) (fun h2x => ?_)
  clear hK K
  try simp only [Act.put, lay_out]
  refine wpAnyH_take (i := 6) (v := .bool true) rfl (by kernel_rfl) (by kernel_rfl) (by kernel_rfl) (fun _ _ _ h => h) (.inl ⟨by rfl, fun w _ => exec_eq16 (.tmp 73) (.tmp 76) rfl (f := (blkF Y R f)) (g := (blkF Y R f)) (q := true) rfl rfl ⟨fun _ => rfl, fun _ => Eq16.refl _⟩⟩) h2x ?_
  try simp only [Act.put, lay_out]
  refine wpAnyH_take (i := 7) (v := .bool true) rfl (by kernel_rfl) (by kernel_rfl) (by kernel_rfl) (fun _ _ _ h => h) (.inl ⟨by rfl, fun w hw => by clear hw; go_simp⟩) h2x ?_
  try simp only [Act.put, lay_out]
  refine wpAnyH_take (i := 8) (v := .pointer (some ⟨d, 0, none⟩)) rfl (by kernel_rfl) (by kernel_rfl) (by kernel_rfl) (fun _ _ _ h => h) (.inl ⟨by rfl, fun w hw => by clear hw; go_simp⟩) h2x ?_
  try simp only [Act.put, lay_out]
  refine wpAnyH_take (i := 9) (v := .agg (ba 16 f)) rfl (by kernel_rfl) (by kernel_rfl) (by kernel_rfl) (fun _ _ _ h => h) (yields_load_ba (by rfl) 23 _ rfl w.heap.size 16 23 5 f rfl (fun w h => h) Try.underlying23 infoa) h2x ?_
  try simp only [Act.put, lay_out]
  refine wpAnyH_take (i := 11) (v := .slice (some ⟨kb, ko, none⟩) L kc) rfl (by kernel_rfl) (by kernel_rfl) (by kernel_rfl) (fun _ _ _ h => h) (.inl ⟨by rfl, fun w hw => by clear hw; go_simp⟩) h2x ?_
  try simp only [Act.put, lay_out]
  refine wpAnyH_take (i := 12) (v := .agg (ba 16 f)) rfl (by kernel_rfl) (by kernel_rfl) (by kernel_rfl) (fun _ _ _ h => h) (yields_load_ba (by rfl) 23 _ rfl w.heap.size 16 23 5 f rfl (fun w h => h) Try.underlying23 infoa) h2x ?_
  try simp only [Act.put, lay_out]
  refine wpAnyH_ready (rs := [10]) (by kernel_rfl) (by simp) (AllReadyH.cons rfl (fun K hK => ?_) AllReadyH.nil)
  rw [if_pos (by rfl)]
  go_simp
  go_at_call 15
  (with_reducible refine (unblock_any d b c cap R R1 Y f _ HRR.out.1 HRR.out.2.1 HRR.out.2.2 HF.out HQ2.out.ci).mono ?_); rintro e wd3 ⟨rfl, hci, ho⟩
  have HQ3 := hid (HQ2.out.asked hci ho)
  refine hK.out _ _ (HQ3.out.arg) (fun h3x => ?_)
  clear hK K
  try simp only [Act.put, lay_out]
  refine wpAnyH_ready (rs := [13]) (by kernel_rfl) (by simp) (AllReadyH.cons rfl (fun K hK => ?_) AllReadyH.nil)
  rw [if_pos (by rfl)]
  go_simp
  go_at_call 19
  (with_reducible refine (refunblock_any (.slice (some ⟨kb, ko, none⟩) L kc) R R1 Y f _ HRR.out.1 HRR.out.2.1 HRR.out.2.2 HF.out HYB.out (fun w' hb => HEX.out w' (HQ3.out.low.trans (hb.mono HQ3.out.low.size)))).mono ?_); rintro e wd4 ⟨rfl, hlow⟩
  have HQ4 := hid (HQ3.out.self hlow)
  refine hK.out _ _ (HQ4.out.arg) (fun h4x => ?_)
  clear hK K
  try simp only [Act.put, lay_out]
  refine wpAnyH_take (i := 14) (v := .bool true) rfl (by kernel_rfl) (by kernel_rfl) (by kernel_rfl) (fun _ _ _ h => h) (.inl ⟨by rfl, fun w _ => exec_eq16 (.tmp 81) (.tmp 84) rfl (f := (unbF Y R f)) (g := (unbF Y R f)) (q := true) rfl rfl ⟨fun _ => rfl, fun _ => Eq16.refl _⟩⟩) h4x ?_
  try simp only [Act.put, lay_out]
  refine wpAnyH_take (i := 15) (v := .bool true) rfl (by kernel_rfl) (by kernel_rfl) (by kernel_rfl) (fun _ _ _ h => h) (.inl ⟨by rfl, fun w hw => by clear hw; go_simp⟩) h4x ?_
  try simp only [Act.put, lay_out]
  refine wpAnyH_take (i := 16) (v := .bool true) rfl (by kernel_rfl) (by kernel_rfl) (by kernel_rfl) (fun _ _ _ h => h) (.inl ⟨by rfl, fun w hw => by clear hw; go_simp⟩) h4x ?_
  try simp only [Act.put, lay_out]
  refine wpAnyH_ready (rs := [17]) (by kernel_rfl) (by simp) (AllReadyH.cons rfl (fun K hK => ?_) AllReadyH.nil)
  rw [if_pos (by rfl)]
  go_simp
  go_at_call 17
  (with_reducible refine (aesAwake_any _).mono ?_); rintro e wd5 ⟨rfl, hlow⟩
  have HQ5 := hid (HQ4.out.self hlow)
  refine hK.out _ _ (HQ5.out.arg) (fun h5x => ?_)
  clear hK K
  try simp only [Act.put, lay_out]
  refine wpAnyH_take (i := 18) (v := .bool true) rfl (by kernel_rfl) (by kernel_rfl) (by kernel_rfl) (fun _ _ _ h => h) (.inl ⟨by rfl, fun w hw => by clear hw; go_simp⟩) h5x ?_
  try simp only [Act.put, lay_out]
  refine wpAnyH_take (i := 19) (v := .bool true) rfl (by kernel_rfl) (by kernel_rfl) (by kernel_rfl) (fun _ _ _ h => h) (.inl ⟨by rfl, fun w hw => by clear hw; go_simp⟩) h5x ?_
  try simp only [Act.put, lay_out]
  refine wpAnyH_done (by kernel_rfl) ?_ _
  refine NoPanic.normal ?_
  clear h0 h1x h2x h3x h4x h5x
  try simp only [Act.put, lay_out]
  go_wp2
  go_ret
  exact ⟨rfl, HQ5.out.low⟩

theorem tells_at (g off c K L R R1 M N : Nat) (k f : Nat → Nat) (w : World) (hf : B16 f) (hL : L = 4 * K) (hR : rnd (L : Int) = R) (hR1 : R1 = R + 1) (hM : M = 4 * R1) (hMN : M = K + N) (hK : 4 ≤ K) (hK8 : K ≤ 8) (hN : N ≤ 900) (hR0 : 0 < R) (hl : R ≤ 1000) (hc : L ≤ c) (hkc : c ≤ maxLen)
    (hk : ∀ x, k x < 256) (hA : Wd w L g off k) :
    Calls Try.prog 3 #[.slice (some ⟨g, off, none⟩) L c, .agg (ba 16 f)] w fun e w' => e = .returned (.bool true) ∧ Below w.heap.size w w' :=
  tells_ok g off c L R R1 (rkey K k N) f w hf ⟨hR1, hR0, hl⟩ hR (fun r _ m _ => rkey_lt hk N r m)
    (fun w' h => new_ok g off c K L R R1 M N k w' hL hR hR1 hM hMN hK hK8 hN hR0 hc hkc hk (hA.self h))
    (fun w' h => refexpand_new g off c K L R R1 M N k w' hL hR hR1 hM hMN hK hK8 hN hR0 hk (hA.self h))
theorem aestells_core (v : Value) (zs : List Int) (f : Nat → Nat) (w : World) (h : Rd .u8 w v zs) (hcap : ∀ a n c, v = .slice a n c → n ≤ c ∧ c ≤ maxLen) (hf : ∀ i, i < 16 → f i < 256) :
    Calls Try.prog 3 #[v, .agg (ba 16 f)] w fun e w' => e = .returned (.bool true) ∧ Below w.heap.size w w' := by
  by_cases h0 : rnd (zs.length : Int) = 0
  · obtain ⟨a, c, rfl, _⟩ := h
    exact tells_bad a zs.length c f w hf h0
  · have hL := rnd_cases h0
    obtain ⟨g, off, c, rfl, hw⟩ := Wd.of_rd h (by omega)
    have hk := nth_lt h
    obtain ⟨h1, h2⟩ := hcap _ _ _ rfl
    generalize zs.length = L at *
    rcases hL with rfl | rfl | rfl
    · exact tells_at g off c 4 16 10 11 44 40 _ f w hf rfl rfl rfl rfl rfl (by decide) (by decide) (by decide) (by decide) (by decide) h1 h2 hk hw
    · exact tells_at g off c 6 24 12 13 52 46 _ f w hf rfl rfl rfl rfl rfl (by decide) (by decide) (by decide) (by decide) (by decide) h1 h2 hk hw
    · exact tells_at g off c 8 32 14 15 60 52 _ f w hf rfl rfl rfl rfl rfl (by decide) (by decide) (by decide) (by decide) (by decide) h1 h2 hk hw
end Go.Proofs.Ythkanhhpkaigoaa
