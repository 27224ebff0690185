import Derived.Test.YthkanhhpkaigoaaProg
import Derived.Test.YthkanhhpkaigoaaAex
import Derived.Test.YthkanhhpkaigoaaAeq
namespace Go.Proofs.Ythkanhhpkaigoaa
open Go.RowKit

/-- The law's block, and all that was there is as it was. -/
structure LT (w wr : World) (f : Nat → Nat) : Prop where
  arg : At wr w.heap.size 16 23 f
  low : Below w.heap.size w wr
theorem LT.start (w : World) (f : Nat → Nat) : LT w (w.alloc (.cells (ba 16 f) 23)) f := ⟨At.new w 16 23 f, (Below.refl _ _).alloc (Nat.le_refl _) _⟩
theorem LT.self {w wr w1 : World} {f : Nat → Nat} (h : LT w wr f) (hb : Below wr.heap.size wr w1) : LT w w1 f := ⟨h.arg.self hb, h.low.trans (hb.mono h.low.size)⟩
theorem LT.drew {w wr : World} {f : Nat → Nat} (h : LT w wr f) : LT w wr.drew f := ⟨h.arg.drew, h.low.drew⟩
theorem LT.only {w wr w1 : World} {f : Nat → Nat} {b : Nat} (h : LT w wr f) (o : Only b wr w1) (hb : w.heap.size < b) : LT w w1 f :=
  ⟨(o.block _ h.arg.lt (by omega)).trans h.arg, h.low.trans (o.below (by omega) h.low.size)⟩

theorem rnd_cases {L : Nat} (h : rnd (L : Int) ≠ 0) : L = 16 ∨ L = 24 ∨ L = 32 := by
  unfold rnd at h
  by_cases h1 : (L : Int) = 16
  · omega
  · rw [if_neg h1] at h
    by_cases h2 : (L : Int) = 24
    · omega
    · rw [if_neg h2] at h
      by_cases h3 : (L : Int) = 32
      · omega
      · rw [if_neg h3] at h; exact absurd rfl h
theorem rkey_lt {K : Nat} {k : Nat → Nat} (hk : ∀ x, k x < 256) (N r m : Nat) : rkey K k N r m < 256 := exps_lt hk N _ _ (Nat.mod_lt _ (by decide))
theorem nth_lt {w : World} {v : Value} {zs : List Int} (h : Rd .u8 w v zs) : ∀ x, (nth zs x).toNat < 256 := fun x => by
  obtain ⟨_, _, _, _, hz, _⟩ := h
  by_cases hx : x < zs.length
  · have hb := bounds_u8 (hz _ (List.getElem_mem (h := hx)))
    rw [← nth_of hx] at hb
    omega
  · have : nth zs x = 0 := by simp [nth, List.getD, hx]
    rw [this]; decide
/-- The first condition: rows and columns. -/
def NewBad (v : Value) (w : World) : Prop := Calls Try.prog 13 #[v] w fun e w' => e = .returned (.tuple #[.pointer none, .int .i64 5]) ∧ w' = w
def NewOk (v : Value) (R1 : Nat) (Y : Nat → Nat → Nat) (w : World) : Prop := Calls Try.prog 13 #[v] w fun e w' =>
      ∃ d b c cap, e = .returned (.tuple #[.pointer (some ⟨d, 0, none⟩), .int .i64 0]) ∧ Ci w' d b c cap R1 Y ∧ w.heap.size ≤ b ∧ Below w.heap.size w w'

set_option maxRecDepth 100000 in
set_option maxHeartbeats 3200000 in
theorem tells_bad (ka : Option Addr) (L kc : Nat) (f : Nat → Nat) (w : World) (hf : B16 f) (h : rnd (L : Int) = 0) :
    Calls Try.prog 3 #[.slice ka L kc, .agg (ba 16 f)] w fun e w' => e = .returned (.bool true) ∧ Below w.heap.size w w' := by
  have HS := hid (LT.start w f)
  have HF := hid hf
  have HRD := hid (fun w => by have := refrounds_any (L : Int) w; rw [h] at this; exact this)
  have HNB := hid (fun w => new_bad ka L kc w h)
  clear hf h
  go_enter Try.func3, Try.ntmps3
  go_wp2
  refine wp_region_noPanic ?_
  have HL := hid HS.out.drew
  refine wp_region_held_drew (S := fun w' => At w' w.heap.size 16 23 f) (by kernel_rfl) (HL.out.arg) (fun h0 => ?_)
  generalize (w.alloc (.cells (ba 16 f) 23)).drew = w2 at *
  refine wpAnyH_take (i := 0) (v := .agg (ba 16 f)) rfl (by kernel_rfl) (by kernel_rfl) (by kernel_rfl) (fun _ _ _ h => h) (yields_load_ba (by rfl) 23 _ rfl w.heap.size 16 23 5 f rfl (fun w h => h) Try.underlying23 infoa) h0 ?_
  try simp only [Act.put, lay_out]
  refine wpAnyH_take (i := 2) (v := .agg (ba 16 f)) rfl (by kernel_rfl) (by kernel_rfl) (by kernel_rfl) (fun _ _ _ h => h) (yields_load_ba (by rfl) 23 _ rfl w.heap.size 16 23 5 f rfl (fun w h => h) Try.underlying23 infoa) h0 ?_
  try simp only [Act.put, lay_out]
  refine wpAnyH_ready (rs := [1]) (by kernel_rfl) (by simp) (AllReadyH.cons rfl (fun K hK => ?_) AllReadyH.nil)
  rw [if_pos (by rfl)]
  go_simp
  go_at_call 5
  (with_reducible refine (rows_any f _).mono ?_); rintro e wa0 ⟨rfl, hlow⟩
  have HQ1 := hid (HL.out.self hlow)
  refine hK.out _ _ (HQ1.out.arg) (fun h1x => ?_)
  clear hK K
  try simp only [Act.put, lay_out]
  refine wpAnyH_ready (rs := [3]) (by kernel_rfl) (by simp) (AllReadyH.cons rfl (fun K hK => ?_) AllReadyH.nil)
  rw [if_pos (by rfl)]
  go_simp
  go_at_call 6
  (with_reducible refine (refrows_any f _).mono ?_); rintro e wb0 ⟨rfl, hlow⟩
  have HQ2 := hid (HQ1.out.self hlow)
  refine hK.out _ _ (HQ2.out.arg) (fun h2x => ?_)
  clear hK K
  try simp only [Act.put, lay_out]
  refine wpAnyH_take (i := 4) (v := .bool false) rfl (by kernel_rfl) (by kernel_rfl) (by kernel_rfl) (fun _ _ _ h => h) (.inl ⟨by rfl, fun w _ => exec_ne16 (.tmp 9) (.tmp 11) rfl (f := (shR f)) (g := (shR f)) (q := true) rfl rfl ⟨fun _ => rfl, fun _ => Eq16.refl _⟩⟩) h2x ?_
  try simp only [Act.put, lay_out]
  refine wpAnyH_take (i := 5) (v := .bool false) rfl (by kernel_rfl) (by kernel_rfl) (by kernel_rfl) (fun _ _ _ h => h) (.inl ⟨by rfl, fun w hw => by clear hw; go_simp⟩) h2x ?_
  try simp only [Act.put, lay_out]
  refine wpAnyH_take (i := 6) (v := .agg (ba 16 f)) rfl (by kernel_rfl) (by kernel_rfl) (by kernel_rfl) (fun _ _ _ h => h) (yields_load_ba (by rfl) 23 _ rfl w.heap.size 16 23 5 f rfl (fun w h => h) Try.underlying23 infoa) h2x ?_
  try simp only [Act.put, lay_out]
  refine wpAnyH_take (i := 8) (v := .agg (ba 16 f)) rfl (by kernel_rfl) (by kernel_rfl) (by kernel_rfl) (fun _ _ _ h => h) (yields_load_ba (by rfl) 23 _ rfl w.heap.size 16 23 5 f rfl (fun w h => h) Try.underlying23 infoa) h2x ?_
  try simp only [Act.put, lay_out]
  refine wpAnyH_ready (rs := [7]) (by kernel_rfl) (by simp) (AllReadyH.cons rfl (fun K hK => ?_) AllReadyH.nil)
  rw [if_pos (by rfl)]
  go_simp
  go_at_call 7
  (with_reducible refine (columns_any16 f _ HF.out).mono ?_); rintro e wa1 ⟨rfl, hlow⟩
  have HQ3 := hid (HQ2.out.self hlow)
  refine hK.out _ _ (HQ3.out.arg) (fun h3x => ?_)
  clear hK K
  try simp only [Act.put, lay_out]
  refine wpAnyH_ready (rs := [9]) (by kernel_rfl) (by simp) (AllReadyH.cons rfl (fun K hK => ?_) AllReadyH.nil)
  rw [if_pos (by rfl)]
  go_simp
  go_at_call 8
  (with_reducible refine (refcolumns16_any f _ HF.out).mono ?_); rintro e wb1 ⟨rfl, hlow⟩
  have HQ4 := hid (HQ3.out.self hlow)
  refine hK.out _ _ (HQ4.out.arg) (fun h4x => ?_)
  clear hK K
  try simp only [Act.put, lay_out]
  refine wpAnyH_take (i := 10) (v := .bool false) rfl (by kernel_rfl) (by kernel_rfl) (by kernel_rfl) (fun _ _ _ h => h) (.inl ⟨by rfl, fun w _ => exec_ne16 (.tmp 15) (.tmp 17) rfl (f := (mxC f)) (g := (mxC f)) (q := true) rfl rfl ⟨fun _ => rfl, fun _ => Eq16.refl _⟩⟩) h4x ?_
  try simp only [Act.put, lay_out]
  refine wpAnyH_take (i := 11) (v := .bool false) rfl (by kernel_rfl) (by kernel_rfl) (by kernel_rfl) (fun _ _ _ h => h) (.inl ⟨by rfl, fun w hw => by clear hw; go_simp⟩) h4x ?_
  try simp only [Act.put, lay_out]
  refine wpAnyH_take (i := 12) (v := .bool false) rfl (by kernel_rfl) (by kernel_rfl) (by kernel_rfl) (fun _ _ _ h => h) (.inl ⟨by rfl, fun w hw => by clear hw; go_simp⟩) h4x ?_
  try simp only [Act.put, lay_out]
  refine wpAnyH_take (i := 13) (v := .agg (ba 16 f)) rfl (by kernel_rfl) (by kernel_rfl) (by kernel_rfl) (fun _ _ _ h => h) (yields_load_ba (by rfl) 23 _ rfl w.heap.size 16 23 5 f rfl (fun w h => h) Try.underlying23 infoa) h4x ?_
  try simp only [Act.put, lay_out]
  refine wpAnyH_take (i := 15) (v := .agg (ba 16 f)) rfl (by kernel_rfl) (by kernel_rfl) (by kernel_rfl) (fun _ _ _ h => h) (yields_load_ba (by rfl) 23 _ rfl w.heap.size 16 23 5 f rfl (fun w h => h) Try.underlying23 infoa) h4x ?_
  try simp only [Act.put, lay_out]
  refine wpAnyH_ready (rs := [14]) (by kernel_rfl) (by simp) (AllReadyH.cons rfl (fun K hK => ?_) AllReadyH.nil)
  rw [if_pos (by rfl)]
  go_simp
  go_at_call 9
  (with_reducible refine (backRows_any f _).mono ?_); rintro e wa2 ⟨rfl, hlow⟩
  have HQ5 := hid (HQ4.out.self hlow)
  refine hK.out _ _ (HQ5.out.arg) (fun h5x => ?_)
  clear hK K
  try simp only [Act.put, lay_out]
  refine wpAnyH_ready (rs := [16]) (by kernel_rfl) (by simp) (AllReadyH.cons rfl (fun K hK => ?_) AllReadyH.nil)
  rw [if_pos (by rfl)]
  go_simp
  go_at_call 10
  (with_reducible refine (refbackRows_any f _).mono ?_); rintro e wb2 ⟨rfl, hlow⟩
  have HQ6 := hid (HQ5.out.self hlow)
  refine hK.out _ _ (HQ6.out.arg) (fun h6x => ?_)
  clear hK K
  try simp only [Act.put, lay_out]
  refine wpAnyH_take (i := 17) (v := .bool false) rfl (by kernel_rfl) (by kernel_rfl) (by kernel_rfl) (fun _ _ _ h => h) (.inl ⟨by rfl, fun w _ => exec_ne16 (.tmp 22) (.tmp 24) rfl (f := (shB f)) (g := (shB f)) (q := true) rfl rfl ⟨fun _ => rfl, fun _ => Eq16.refl _⟩⟩) h6x ?_
  try simp only [Act.put, lay_out]
  refine wpAnyH_take (i := 18) (v := .bool false) rfl (by kernel_rfl) (by kernel_rfl) (by kernel_rfl) (fun _ _ _ h => h) (.inl ⟨by rfl, fun w hw => by clear hw; go_simp⟩) h6x ?_
  try simp only [Act.put, lay_out]
  refine wpAnyH_take (i := 19) (v := .bool false) rfl (by kernel_rfl) (by kernel_rfl) (by kernel_rfl) (fun _ _ _ h => h) (.inl ⟨by rfl, fun w hw => by clear hw; go_simp⟩) h6x ?_
  try simp only [Act.put, lay_out]
  refine wpAnyH_take (i := 20) (v := .agg (ba 16 f)) rfl (by kernel_rfl) (by kernel_rfl) (by kernel_rfl) (fun _ _ _ h => h) (yields_load_ba (by rfl) 23 _ rfl w.heap.size 16 23 5 f rfl (fun w h => h) Try.underlying23 infoa) h6x ?_
  try simp only [Act.put, lay_out]
  refine wpAnyH_take (i := 22) (v := .agg (ba 16 f)) rfl (by kernel_rfl) (by kernel_rfl) (by kernel_rfl) (fun _ _ _ h => h) (yields_load_ba (by rfl) 23 _ rfl w.heap.size 16 23 5 f rfl (fun w h => h) Try.underlying23 infoa) h6x ?_
  try simp only [Act.put, lay_out]
  refine wpAnyH_ready (rs := [21]) (by kernel_rfl) (by simp) (AllReadyH.cons rfl (fun K hK => ?_) AllReadyH.nil)
  rw [if_pos (by rfl)]
  go_simp
  go_at_call 11
  (with_reducible refine (backColumns_any f _ HF.out).mono ?_); rintro e wa3 ⟨rfl, hlow⟩
  have HQ7 := hid (HQ6.out.self hlow)
  refine hK.out _ _ (HQ7.out.arg) (fun h7x => ?_)
  clear hK K
  try simp only [Act.put, lay_out]
  refine wpAnyH_ready (rs := [23]) (by kernel_rfl) (by simp) (AllReadyH.cons rfl (fun K hK => ?_) AllReadyH.nil)
  rw [if_pos (by rfl)]
  go_simp
  go_at_call 12
  (with_reducible refine (refbackColumns_any f _ HF.out).mono ?_); rintro e wb3 ⟨rfl, hlow⟩
  have HQ8 := hid (HQ7.out.self hlow)
  refine hK.out _ _ (HQ8.out.arg) (fun h8x => ?_)
  clear hK K
  try simp only [Act.put, lay_out]
  refine wpAnyH_take (i := 24) (v := .bool false) rfl (by kernel_rfl) (by kernel_rfl) (by kernel_rfl) (fun _ _ _ h => h) (.inl ⟨by rfl, fun w _ => exec_ne16 (.tmp 29) (.tmp 31) rfl (f := (mxB f)) (g := (mxB f)) (q := true) rfl rfl ⟨fun _ => rfl, fun _ => Eq16.refl _⟩⟩) h8x ?_
  try simp only [Act.put, lay_out]
  refine wpAnyH_take (i := 25) (v := .bool false) rfl (by kernel_rfl) (by kernel_rfl) (by kernel_rfl) (fun _ _ _ h => h) (.inl ⟨by rfl, fun w hw => by clear hw; go_simp⟩) h8x ?_
  try simp only [Act.put, lay_out]
  refine wpAnyH_done (by kernel_rfl) ?_ _
  refine NoPanic.normal ?_
  clear h0 h1x h2x h3x h4x h5x h6x h7x h8x
  try simp only [Act.put, lay_out]
  go_wp2_with (first
    | (go_at_call 13; (with_reducible refine (HNB.out _).mono ?_); rintro e w4 ⟨rfl, rfl⟩))
  refine wp_region_noPanic ?_
  have HM := hid HQ8.out.drew
  refine wp_region_held_drew (S := fun w' => At w' w.heap.size 16 23 f) (by kernel_rfl) (HM.out.arg) (fun h0 => ?_)
  generalize w4.drew = w5 at *
  refine wpAnyH_take (i := 0) (v := .pointer none) rfl (by kernel_rfl) (by kernel_rfl) (by kernel_rfl) (fun _ _ _ h => h) (.inl ⟨by rfl, fun w hw => by clear hw; go_simp⟩) h0 ?_
  try simp only [Act.put, lay_out]
  refine wpAnyH_take (i := 1) (v := .agg (ba 16 f)) rfl (by kernel_rfl) (by kernel_rfl) (by kernel_rfl) (fun _ _ _ h => h) (yields_load_ba (by rfl) 23 _ rfl w.heap.size 16 23 5 f rfl (fun w h => h) Try.underlying23 infoa) h0 ?_
  try simp only [Act.put, lay_out]
  refine wpAnyH_take (i := 3) (v := .agg (ba 16 f)) rfl (by kernel_rfl) (by kernel_rfl) (by kernel_rfl) (fun _ _ _ h => h) (yields_load_ba (by rfl) 23 _ rfl w.heap.size 16 23 5 f rfl (fun w h => h) Try.underlying23 infoa) h0 ?_
  try simp only [Act.put, lay_out]
  refine wpAnyH_ready (rs := [2]) (by kernel_rfl) (by simp) (AllReadyH.cons rfl (fun K hK => ?_) AllReadyH.nil)
  rw [if_pos (by rfl)]
  go_simp
  go_at_call 14
  (with_reducible refine (block_nil f _).mono ?_); rintro e wc1 ⟨rfl, hlow⟩
  have HQ1 := hid (HM.out.self hlow)
  refine hK.out _ _ (HQ1.out.arg) (fun h1x => ?_)
  clear hK K
  try simp only [Act.put, lay_out]
  refine wpAnyH_take (i := 4) (v := .bool false) rfl (by kernel_rfl) (by kernel_rfl) (by kernel_rfl) (fun _ _ _ h => h) (.inl ⟨by rfl, fun w _ => exec_ne16 (.tmp 41) (.tmp 42) rfl (f := f) (g := f) (q := true) rfl rfl ⟨fun _ => rfl, fun _ => Eq16.refl _⟩⟩) h1x ?_
  try simp only [Act.put, lay_out]
  refine wpAnyH_take (i := 5) (v := .bool false) rfl (by kernel_rfl) (by kernel_rfl) (by kernel_rfl) (fun _ _ _ h => h) (.inl ⟨by rfl, fun w hw => by clear hw; go_simp⟩) h1x ?_
  try simp only [Act.put, lay_out]
  refine wpAnyH_take (i := 6) (v := .pointer none) rfl (by kernel_rfl) (by kernel_rfl) (by kernel_rfl) (fun _ _ _ h => h) (.inl ⟨by rfl, fun w hw => by clear hw; go_simp⟩) h1x ?_
  try simp only [Act.put, lay_out]
  refine wpAnyH_take (i := 7) (v := .agg (ba 16 f)) rfl (by kernel_rfl) (by kernel_rfl) (by kernel_rfl) (fun _ _ _ h => h) (yields_load_ba (by rfl) 23 _ rfl w.heap.size 16 23 5 f rfl (fun w h => h) Try.underlying23 infoa) h1x ?_
  try simp only [Act.put, lay_out]
  refine wpAnyH_take (i := 9) (v := .agg (ba 16 f)) rfl (by kernel_rfl) (by kernel_rfl) (by kernel_rfl) (fun _ _ _ h => h) (yields_load_ba (by rfl) 23 _ rfl w.heap.size 16 23 5 f rfl (fun w h => h) Try.underlying23 infoa) h1x ?_
  try simp only [Act.put, lay_out]
  refine wpAnyH_ready (rs := [8]) (by kernel_rfl) (by simp) (AllReadyH.cons rfl (fun K hK => ?_) AllReadyH.nil)
  rw [if_pos (by rfl)]
  go_simp
  go_at_call 15
  (with_reducible refine (unblock_nil f _).mono ?_); rintro e wc2 ⟨rfl, hlow⟩
  have HQ2 := hid (HQ1.out.self hlow)
  refine hK.out _ _ (HQ2.out.arg) (fun h2x => ?_)
  clear hK K
  try simp only [Act.put, lay_out]
  refine wpAnyH_take (i := 10) (v := .bool false) rfl (by kernel_rfl) (by kernel_rfl) (by kernel_rfl) (fun _ _ _ h => h) (.inl ⟨by rfl, fun w _ => exec_ne16 (.tmp 47) (.tmp 48) rfl (f := f) (g := f) (q := true) rfl rfl ⟨fun _ => rfl, fun _ => Eq16.refl _⟩⟩) h2x ?_
  try simp only [Act.put, lay_out]
  refine wpAnyH_take (i := 11) (v := .bool false) rfl (by kernel_rfl) (by kernel_rfl) (by kernel_rfl) (fun _ _ _ h => h) (.inl ⟨by rfl, fun w hw => by clear hw; go_simp⟩) h2x ?_
  try simp only [Act.put, lay_out]
  refine wpAnyH_take (i := 12) (v := .bool false) rfl (by kernel_rfl) (by kernel_rfl) (by kernel_rfl) (fun _ _ _ h => h) (.inl ⟨by rfl, fun w hw => by clear hw; go_simp⟩) h2x ?_
  try simp only [Act.put, lay_out]
  refine wpAnyH_take (i := 13) (v := .int .i64 5) rfl (by kernel_rfl) (by kernel_rfl) (by kernel_rfl) (fun _ _ _ h => h) (.inl ⟨by rfl, fun w hw => by clear hw; go_simp⟩) h2x ?_
  try simp only [Act.put, lay_out]
  refine wpAnyH_take (i := 14) (v := .bool false) rfl (by kernel_rfl) (by kernel_rfl) (by kernel_rfl) (fun _ _ _ h => h) (.inl ⟨by rfl, fun w hw => by clear hw; go_simp⟩) h2x ?_
  try simp only [Act.put, lay_out]
  refine wpAnyH_take (i := 15) (v := .slice ka L kc) rfl (by kernel_rfl) (by kernel_rfl) (by kernel_rfl) (fun _ _ _ h => h) (.inl ⟨by rfl, fun w hw => by clear hw; go_simp⟩) h2x ?_
  try simp only [Act.put, lay_out]
  refine wpAnyH_take (i := 16) (v := .int .i64 (L : Int)) rfl (by kernel_rfl) (by kernel_rfl) (by kernel_rfl) (fun _ _ _ h => h) (.inl ⟨by rfl, fun w hw => by clear hw; go_simp⟩) h2x ?_
  try simp only [Act.put, lay_out]
  refine wpAnyH_ready (rs := [17]) (by kernel_rfl) (by simp) (AllReadyH.cons rfl (fun K hK => ?_) AllReadyH.nil)
  rw [if_pos (by rfl)]
  go_simp
  go_at_call 16
  (with_reducible refine (HRD.out _).mono ?_); rintro e wc3 ⟨rfl, rfl⟩
  have HQ3 := hid (HQ2.out)
  refine hK.out _ _ (HQ3.out.arg) (fun h3x => ?_)
  clear hK K
  try simp only [Act.put, lay_out]
  refine wpAnyH_take (i := 18) (v := .bool false) rfl (by kernel_rfl) (by kernel_rfl) (by kernel_rfl) (fun _ _ _ h => h) (.inl ⟨by rfl, fun w hw => by clear hw; go_simp⟩) h3x ?_
  try simp only [Act.put, lay_out]
  refine wpAnyH_take (i := 19) (v := .bool false) rfl (by kernel_rfl) (by kernel_rfl) (by kernel_rfl) (fun _ _ _ h => h) (.inl ⟨by rfl, fun w hw => by clear hw; go_simp⟩) h3x ?_
  try simp only [Act.put, lay_out]
  refine wpAnyH_take (i := 20) (v := .bool false) rfl (by kernel_rfl) (by kernel_rfl) (by kernel_rfl) (fun _ _ _ h => h) (.inl ⟨by rfl, fun w hw => by clear hw; go_simp⟩) h3x ?_
  try simp only [Act.put, lay_out]
  refine wpAnyH_done (by kernel_rfl) ?_ _
  refine NoPanic.normal ?_
  clear h0 h1x h2x h3x
  try simp only [Act.put, lay_out]
  go_wp2_with (first
    | (go_at_call 17; (with_reducible refine (aesAwake_any _).mono ?_); rintro e w9 ⟨rfl, hlow⟩; have HZ := hid (HQ3.out.self hlow); clear hlow))
  go_ret
  exact ⟨rfl, HZ.out.low⟩
end Go.Proofs.Ythkanhhpkaigoaa
