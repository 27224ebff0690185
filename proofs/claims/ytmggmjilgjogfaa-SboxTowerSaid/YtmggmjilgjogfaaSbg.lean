import Derived.Test.YtmggmjilgjogfaaProg
import Derived.Test.YtmggmjilgjogfaaSbf
import Derived.Test.YtmggmjilgjogfaaMa3
import Derived.Test.YtmggmjilgjogfaaTwb
import Derived.Test.YtmggmjilgjogfaaReg
namespace Go.Proofs.Ytmggmjilgjogfaa
open Go.RowKit

theorem sb_0 : sb 0 = 99 := by unfold sb; rw [tI_pw (by decide)]; decide +kernel
theorem sb_83 : sb 83 = 237 := by unfold sb; rw [tI_pw (by decide)]; decide +kernel

set_option maxHeartbeats 1600000 in
theorem sawake_any (w : World) : Calls Try.prog 10 #[] w fun e w' => e = .returned (.bool true) ∧ Below w.heap.size w w' := by
  have HN := hid (box_any w)
  have S0 : Hid (∀ b s p w, BAt w b 0 0 s zt zt p → Calls Try.prog 8 #[.pointer (some ⟨b, 0, none⟩), .int .u8 0] w fun e w' => e = .returned (.int .u8 99) ∧ BAt w' b 1 0 s sb bk p ∧ Only b w w') := hid (fun b s p w h => by
    have := sub_first b 0 s p w (by decide) h; rw [sb_0] at this; exact this)
  have S1 : Hid (∀ b s p w, BAt w b 1 0 s sb bk p → Calls Try.prog 8 #[.pointer (some ⟨b, 0, none⟩), .int .u8 83] w fun e w' => e = .returned (.int .u8 237) ∧ w' = w) := hid (fun b s p w h => by
    have := sub_done b 83 s p w (by decide) h; rw [sb_83] at this; exact this)
  go_enter Try.func10, Try.ntmps10
  go_wp2_with (first
    | (go_at_call 4; (with_reducible refine HN.out.mono ?_); rintro e w1 ⟨b, rfl, hb, hf, hB, hl⟩; have HB := hid hB; have HL := hid hl; have HLT := hid hb; clear hb hf hB hl)
    | (go_at_call 8; (with_reducible refine (S0.out b 0 _ w1 HB.out).mono ?_); rintro e w2 ⟨rfl, hB, hl⟩; have HB2 := hid hB; have HL2 := hid (HL.out.trans (hl.below (Nat.le_of_lt HLT.out) HL.out.size)); clear hB hl)
    | (go_at_call 8; (with_reducible refine (S1.out b 0 _ w2 HB2.out).mono ?_); rintro e w3 ⟨rfl, rfl⟩))
  go_ret
  exact ⟨rfl, HL2.out⟩

theorem four_0 (f0 f1 f2 f3 : Nat → Nat) : ((ba 32 (four f0 f1 f2 f3)).extract 0 (0 + 8)).toList = (ba 8 f0).toList := by kernel_rfl
theorem four_1 (f0 f1 f2 f3 : Nat → Nat) : ((ba 32 (four f0 f1 f2 f3)).extract 8 (8 + 8)).toList = (ba 8 f1).toList := by kernel_rfl
theorem four_2 (f0 f1 f2 f3 : Nat → Nat) : ((ba 32 (four f0 f1 f2 f3)).extract 16 (16 + 8)).toList = (ba 8 f2).toList := by kernel_rfl
theorem four_3 (f0 f1 f2 f3 : Nat → Nat) : ((ba 32 (four f0 f1 f2 f3)).extract 24 (24 + 8)).toList = (ba 8 f3).toList := by kernel_rfl

/-- The law at work: the box, and the ways in block c. -/
structure QP (b c : Nat) (p : Option Addr) (f0 f1 f2 f3 : Nat → Nat) (w wr : World) : Prop where
  low : Below w.heap.size w wr
  box : BAt wr b 0 0 0 zt zt p
  ways : At wr c 32 26 (four f0 f1 f2 f3)
theorem QP.on {b c : Nat} {p : Option Addr} {f0 f1 f2 f3 : Nat → Nat} {w wr w1 : World} (h : QP b c p f0 f1 f2 f3 w wr) (hb : Below wr.heap.size wr w1) : QP b c p f0 f1 f2 f3 w w1 :=
  ⟨h.low.trans (hb.mono h.low.size), h.box.self hb, h.ways.self hb⟩
theorem QP.drew {b c : Nat} {p : Option Addr} {f0 f1 f2 f3 : Nat → Nat} {w wr : World} (h : QP b c p f0 f1 f2 f3 w wr) : QP b c p f0 f1 f2 f3 w wr.drew := ⟨h.low.drew, h.box, h.ways⟩
theorem QP.r0 {b c : Nat} {p : Option Addr} {f0 f1 f2 f3 : Nat → Nat} {w wr : World} (h : QP b c p f0 f1 f2 f3 w wr) : wr.rangeAt c 0 (ba 8 f0).toList := by
  have := World.rangeAt_of_block h.ways 0 8; rw [four_0] at this; exact this
theorem QP.r1 {b c : Nat} {p : Option Addr} {f0 f1 f2 f3 : Nat → Nat} {w wr : World} (h : QP b c p f0 f1 f2 f3 w wr) : wr.rangeAt c 8 (ba 8 f1).toList := by
  have := World.rangeAt_of_block h.ways 8 8; rw [four_1] at this; exact this
theorem QP.r2 {b c : Nat} {p : Option Addr} {f0 f1 f2 f3 : Nat → Nat} {w wr : World} (h : QP b c p f0 f1 f2 f3 w wr) : wr.rangeAt c 16 (ba 8 f2).toList := by
  have := World.rangeAt_of_block h.ways 16 8; rw [four_2] at this; exact this
theorem QP.r3 {b c : Nat} {p : Option Addr} {f0 f1 f2 f3 : Nat → Nat} {w wr : World} (h : QP b c p f0 f1 f2 f3 w wr) : wr.rangeAt c 24 (ba 8 f3).toList := by
  have := World.rangeAt_of_block h.ways 24 8; rw [four_3] at this; exact this
theorem QP.start {b : Nat} {p : Option Addr} {f0 f1 f2 f3 : Nat → Nat} {w wr : World} (l : Below w.heap.size w wr) (h : BAt wr b 0 0 0 zt zt p) :
    QP b wr.heap.size p f0 f1 f2 f3 w ((wr.alloc (.cells z32 26)).setRow wr.heap.size (ba 32 (four f0 f1 f2 f3))) :=
  ⟨below_setRow (l.alloc l.size _) l.size _, (h.alloc _).row (Nat.ne_of_lt h.lt) _, (show At (wr.alloc (.cells z32 26)) wr.heap.size 32 26 (fun _ => 0) from At.new wr 32 26 (fun _ => 0)).row _⟩

set_option maxRecDepth 100000 in
set_option maxHeartbeats 6400000 in
theorem tower_core (x : Nat) (w : World) (hx : x < 256) :
    Calls Try.prog 3 #[.int .u8 (x : Int)] w fun e w' => e = .returned (.bool true) ∧ Below w.heap.size w w' := by
  have HN := hid (box_any w)
  have HW := hid ways_first
  have A0 := hid (fun w => refapply_any inM x w inM_by hx)
  have I0 := hid (fun w => trefinv_any (ap inM x) w (ap_lt _ _))
  have A1 := hid (fun w => refapply_any (mu bend (inv inM)) (ti (ap inM x)) w (mu_by _ (inv_by _)) (ti_lt _))
  have X1 := xor8 (ap_lt (mu bend (inv inM)) (ti (ap inM x))) (show 99 < 256 by decide)
  rw [way_in hx] at X1
  have X2 := xor8 hx (show 99 < 256 by decide)
  have A2 := hid (fun w => refapply_any (mu inM (inv bend)) (x ^^^ 99) w (mu_by _ (inv_by _)) (xor_lt hx (by decide)))
  have I2 := hid (fun w => trefinv_any (ap (mu inM (inv bend)) (x ^^^ 99)) w (ap_lt _ _))
  have A3 := hid (fun w => refapply_any (inv inM) (ti (ap (mu inM (inv bend)) (x ^^^ 99))) w (inv_by _) (ti_lt _))
  rw [way_back] at A3
  have SF := hid (fun b p w => sub_first b x 0 p w hx)
  have BD := hid (fun b p w => back_done b x 0 p w hx)
  have BY := hid (fun b p w => back_done b (sb x) 0 p w (sb_lt x))
  rw [bk_sb hx] at BY
  have AW := hid sawake_any
  obtain ⟨hn1, hn2⟩ := sb_apart_all x hx
  have ly := sb_lt x
  obtain ⟨y, hy⟩ : ∃ y, sb x = y := ⟨_, rfl⟩
  obtain ⟨z, hz⟩ : ∃ z, bk x = z := ⟨_, rfl⟩
  rw [hy] at X1 SF BY hn1 hn2 ly
  rw [hz] at A3 BD
  clear hy hz
  generalize ti (ap (mu inM (inv bend)) (x ^^^ 99)) = i2 at *
  generalize ap (mu inM (inv bend)) (x ^^^ 99) = a2 at *
  generalize ap (mu bend (inv inM)) (ti (ap inM x)) = a1 at *
  generalize ti (ap inM x) = i0 at *
  generalize ap inM x = a0 at *
  generalize x ^^^ 99 = x2 at *
  replace X1 : bits .xor .u8 (a1 : Int) 99 = (y : Int) := X1
  replace X2 : bits .xor .u8 (x : Int) 99 = (x2 : Int) := X2
  generalize sb = F at *
  generalize bk = G at *
  generalize mu bend (inv inM) = f1 at *
  generalize mu inM (inv bend) = f2 at *
  generalize inv inM = f3 at *
  generalize inM = f0 at *
  go_enter Try.func3, Try.ntmps3
  go_wp2_with (first
    | (go_at_call 4; (with_reducible refine HN.out.mono ?_); rintro e w0 ⟨b, rfl, hb, hf, hB, hl⟩; have HB := hid hB; have HL := hid hl; have HLT := hid hb; have HF := hid hf; clear hb hf hB hl)
    | (go_at_call 5; (with_reducible refine (HW.out b w.heap.size w0 (Nat.ne_of_gt HLT.out) HB.out HF.out).mono ?_); rintro e w1 ⟨rfl, hB, hl⟩; have HP := hid (QP.start (f0 := f0) (f1 := f1) (f2 := f2) (f3 := f3) (HL.out.trans (hl.below (Nat.le_refl _) HL.out.size)) hB); clear hB hl)
    | (refine step_store_ba rfl 26 _ _ rfl w1.heap.size 32 26 (fun _ => 0) (four f0 f1 f2 f3) rfl rfl (At.new w1 32 26 (fun _ => 0)) info26 ?_))
  generalize (w1.alloc (.cells z32 26)).setRow w1.heap.size (ba 32 (four f0 f1 f2 f3)) = w2 at *
  have HP0 := hid HP.out.drew
  refine wp_region_noPanic ?_
  refine wp_region_held_drew (S := fun w' => QP b w1.heap.size (some ⟨w.heap.size, 0, none⟩) f0 f1 f2 f3 w w') (by kernel_rfl) HP0.out (fun h0 => ?_)
  refine wpAnyH_take (i := 0) (v := .pointer (some ⟨w1.heap.size, 8, none⟩)) rfl (by kernel_rfl) (by kernel_rfl) (by kernel_rfl) (fun _ _ _ h => h) (.inl ⟨by rfl, fun w hw => by clear hw; go_simp⟩) h0 ?_
  try simp only [Act.put, List.getElem_toArray, List.getElem_cons_zero, List.getElem_cons_succ, List.setIfInBounds_toArray, List.set_cons_zero, List.set_cons_succ]
  refine wpAnyH_take (i := 1) (v := .agg (ba 8 f1)) rfl (by kernel_rfl) (by kernel_rfl) (by kernel_rfl) (fun _ _ _ h => h) (yieldsIf_load_mid (by rfl) 25 _ rfl w1.heap.size 8 rfl (ba 8 f1).toList _ (fun w h => h.r1) Try.underlying25 rfl (by rw [ba8_size]; exact info23)) h0 ?_
  try simp only [Act.put, List.getElem_toArray, List.getElem_cons_zero, List.getElem_cons_succ, List.setIfInBounds_toArray, List.set_cons_zero, List.set_cons_succ]
  refine wpAnyH_take (i := 2) (v := .pointer (some ⟨w1.heap.size, 0, none⟩)) rfl (by kernel_rfl) (by kernel_rfl) (by kernel_rfl) (fun _ _ _ h => h) (.inl ⟨by rfl, fun w hw => by clear hw; go_simp⟩) h0 ?_
  try simp only [Act.put, List.getElem_toArray, List.getElem_cons_zero, List.getElem_cons_succ, List.setIfInBounds_toArray, List.set_cons_zero, List.set_cons_succ]
  refine wpAnyH_take (i := 3) (v := .agg (ba 8 f0)) rfl (by kernel_rfl) (by kernel_rfl) (by kernel_rfl) (fun _ _ _ h => h) (yieldsIf_load_mid (by rfl) 25 _ rfl w1.heap.size 0 rfl (ba 8 f0).toList _ (fun w h => h.r0) Try.underlying25 rfl (by rw [ba8_size]; exact info23)) h0 ?_
  try simp only [Act.put, List.getElem_toArray, List.getElem_cons_zero, List.getElem_cons_succ, List.setIfInBounds_toArray, List.set_cons_zero, List.set_cons_succ]
  refine wpAnyH_take (i := 4) (v := .int .u8 (x : Int)) rfl (by kernel_rfl) (by kernel_rfl) (by kernel_rfl) (fun _ _ _ h => h) (.inl ⟨by rfl, fun w hw => by clear hw; go_simp⟩) h0 ?_
  try simp only [Act.put, List.getElem_toArray, List.getElem_cons_zero, List.getElem_cons_succ, List.setIfInBounds_toArray, List.set_cons_zero, List.set_cons_succ]
  refine wpAnyH_ready (rs := [5]) (by kernel_rfl) (by simp) (AllReadyH.cons rfl (fun K hK => ?_) AllReadyH.nil)
  go_simp
  go_at_call 6
  (with_reducible refine (A0.out _).mono ?_); rintro e w3 ⟨rfl, hlow⟩
  have HP1 := hid (HP0.out.on hlow)
  refine hK.out _ _ HP1.out (fun h1 => ?_)
  clear hK K hlow
  try simp only [Act.put, List.getElem_toArray, List.getElem_cons_zero, List.getElem_cons_succ, List.setIfInBounds_toArray, List.set_cons_zero, List.set_cons_succ]
  refine wpAnyH_ready (rs := [6]) (by kernel_rfl) (by simp) (AllReadyH.cons rfl (fun K hK => ?_) AllReadyH.nil)
  go_simp
  go_at_call 7
  (with_reducible refine (I0.out _).mono ?_); rintro e w4 ⟨rfl, rfl⟩
  refine hK.out _ _ HP1.out (fun h2 => ?_)
  clear hK K
  try simp only [Act.put, List.getElem_toArray, List.getElem_cons_zero, List.getElem_cons_succ, List.setIfInBounds_toArray, List.set_cons_zero, List.set_cons_succ]
  refine wpAnyH_ready (rs := [7]) (by kernel_rfl) (by simp) (AllReadyH.cons rfl (fun K hK => ?_) AllReadyH.nil)
  go_simp
  go_at_call 6
  (with_reducible refine (A1.out _).mono ?_); rintro e w5 ⟨rfl, hlow⟩
  have HP2 := hid (HP1.out.on hlow)
  refine hK.out _ _ HP2.out (fun h3 => ?_)
  clear hK K hlow
  try simp only [Act.put, List.getElem_toArray, List.getElem_cons_zero, List.getElem_cons_succ, List.setIfInBounds_toArray, List.set_cons_zero, List.set_cons_succ]
  refine wpAnyH_take (i := 8) (v := .int .u8 (y : Int)) rfl (by kernel_rfl) (by kernel_rfl) (by kernel_rfl) (fun _ _ _ h => h) (.inl ⟨by rfl, fun w hw => by clear hw; go_simp⟩) h3 ?_
  try simp only [Act.put, List.getElem_toArray, List.getElem_cons_zero, List.getElem_cons_succ, List.setIfInBounds_toArray, List.set_cons_zero, List.set_cons_succ]
  refine wpAnyH_take (i := 9) (v := .int .u8 (y : Int)) rfl (by kernel_rfl) (by kernel_rfl) (by kernel_rfl) (fun _ _ _ h => h) (.inl ⟨by rfl, fun w hw => by clear hw; go_simp⟩) h3 ?_
  try simp only [Act.put, List.getElem_toArray, List.getElem_cons_zero, List.getElem_cons_succ, List.setIfInBounds_toArray, List.set_cons_zero, List.set_cons_succ]
  refine wpAnyH_done (by kernel_rfl) ?_ _
  refine NoPanic.normal ?_
  clear h0 h1 h2 h3
  try simp only [Act.put, List.getElem_toArray, List.getElem_cons_zero, List.getElem_cons_succ, List.setIfInBounds_toArray, List.set_cons_zero, List.set_cons_succ]
  go_wp2
  have HQ0 := hid HP2.out.drew
  refine wp_region_noPanic ?_
  refine wp_region_held_drew (S := fun w' => QP b w1.heap.size (some ⟨w.heap.size, 0, none⟩) f0 f1 f2 f3 w w') (by kernel_rfl) HQ0.out (fun h0 => ?_)
  refine wpAnyH_take (i := 0) (v := .pointer (some ⟨w1.heap.size, 24, none⟩)) rfl (by kernel_rfl) (by kernel_rfl) (by kernel_rfl) (fun _ _ _ h => h) (.inl ⟨by rfl, fun w hw => by clear hw; go_simp⟩) h0 ?_
  try simp only [Act.put, List.getElem_toArray, List.getElem_cons_zero, List.getElem_cons_succ, List.setIfInBounds_toArray, List.set_cons_zero, List.set_cons_succ]
  refine wpAnyH_take (i := 1) (v := .agg (ba 8 f3)) rfl (by kernel_rfl) (by kernel_rfl) (by kernel_rfl) (fun _ _ _ h => h) (yieldsIf_load_mid (by rfl) 25 _ rfl w1.heap.size 24 rfl (ba 8 f3).toList _ (fun w h => h.r3) Try.underlying25 rfl (by rw [ba8_size]; exact info23)) h0 ?_
  try simp only [Act.put, List.getElem_toArray, List.getElem_cons_zero, List.getElem_cons_succ, List.setIfInBounds_toArray, List.set_cons_zero, List.set_cons_succ]
  refine wpAnyH_take (i := 2) (v := .pointer (some ⟨w1.heap.size, 16, none⟩)) rfl (by kernel_rfl) (by kernel_rfl) (by kernel_rfl) (fun _ _ _ h => h) (.inl ⟨by rfl, fun w hw => by clear hw; go_simp⟩) h0 ?_
  try simp only [Act.put, List.getElem_toArray, List.getElem_cons_zero, List.getElem_cons_succ, List.setIfInBounds_toArray, List.set_cons_zero, List.set_cons_succ]
  refine wpAnyH_take (i := 3) (v := .agg (ba 8 f2)) rfl (by kernel_rfl) (by kernel_rfl) (by kernel_rfl) (fun _ _ _ h => h) (yieldsIf_load_mid (by rfl) 25 _ rfl w1.heap.size 16 rfl (ba 8 f2).toList _ (fun w h => h.r2) Try.underlying25 rfl (by rw [ba8_size]; exact info23)) h0 ?_
  try simp only [Act.put, List.getElem_toArray, List.getElem_cons_zero, List.getElem_cons_succ, List.setIfInBounds_toArray, List.set_cons_zero, List.set_cons_succ]
  refine wpAnyH_take (i := 4) (v := .int .u8 (x : Int)) rfl (by kernel_rfl) (by kernel_rfl) (by kernel_rfl) (fun _ _ _ h => h) (.inl ⟨by rfl, fun w hw => by clear hw; go_simp⟩) h0 ?_
  try simp only [Act.put, List.getElem_toArray, List.getElem_cons_zero, List.getElem_cons_succ, List.setIfInBounds_toArray, List.set_cons_zero, List.set_cons_succ]
  refine wpAnyH_take (i := 5) (v := .int .u8 (x2 : Int)) rfl (by kernel_rfl) (by kernel_rfl) (by kernel_rfl) (fun _ _ _ h => h) (.inl ⟨by rfl, fun w hw => by clear hw; go_simp⟩) h0 ?_
  try simp only [Act.put, List.getElem_toArray, List.getElem_cons_zero, List.getElem_cons_succ, List.setIfInBounds_toArray, List.set_cons_zero, List.set_cons_succ]
  refine wpAnyH_ready (rs := [6]) (by kernel_rfl) (by simp) (AllReadyH.cons rfl (fun K hK => ?_) AllReadyH.nil)
  go_simp
  go_at_call 6
  (with_reducible refine (A2.out _).mono ?_); rintro e w6 ⟨rfl, hlow⟩
  have HQ1 := hid (HQ0.out.on hlow)
  refine hK.out _ _ HQ1.out (fun h1 => ?_)
  clear hK K hlow
  try simp only [Act.put, List.getElem_toArray, List.getElem_cons_zero, List.getElem_cons_succ, List.setIfInBounds_toArray, List.set_cons_zero, List.set_cons_succ]
  refine wpAnyH_ready (rs := [7]) (by kernel_rfl) (by simp) (AllReadyH.cons rfl (fun K hK => ?_) AllReadyH.nil)
  go_simp
  go_at_call 7
  (with_reducible refine (I2.out _).mono ?_); rintro e w7 ⟨rfl, rfl⟩
  refine hK.out _ _ HQ1.out (fun h2 => ?_)
  clear hK K
  try simp only [Act.put, List.getElem_toArray, List.getElem_cons_zero, List.getElem_cons_succ, List.setIfInBounds_toArray, List.set_cons_zero, List.set_cons_succ]
  refine wpAnyH_ready (rs := [8]) (by kernel_rfl) (by simp) (AllReadyH.cons rfl (fun K hK => ?_) AllReadyH.nil)
  go_simp
  go_at_call 6
  (with_reducible refine (A3.out _).mono ?_); rintro e w8 ⟨rfl, hlow⟩
  have HQ2 := hid (HQ1.out.on hlow)
  refine hK.out _ _ HQ2.out (fun h3 => ?_)
  clear hK K hlow
  try simp only [Act.put, List.getElem_toArray, List.getElem_cons_zero, List.getElem_cons_succ, List.setIfInBounds_toArray, List.set_cons_zero, List.set_cons_succ]
  refine wpAnyH_take (i := 9) (v := .int .u8 (z : Int)) rfl (by kernel_rfl) (by kernel_rfl) (by kernel_rfl) (fun _ _ _ h => h) (.inl ⟨by rfl, fun w hw => by clear hw; go_simp⟩) h3 ?_
  try simp only [Act.put, List.getElem_toArray, List.getElem_cons_zero, List.getElem_cons_succ, List.setIfInBounds_toArray, List.set_cons_zero, List.set_cons_succ]
  refine wpAnyH_done (by kernel_rfl) ?_ _
  refine NoPanic.normal ?_
  clear h0 h1 h2 h3
  try simp only [Act.put, List.getElem_toArray, List.getElem_cons_zero, List.getElem_cons_succ, List.setIfInBounds_toArray, List.set_cons_zero, List.set_cons_succ]
  have HL8 := hid HQ2.out.low
  have HB8 := hid HQ2.out.box
  have hn3 : ((y : Int) != (x : Int)) = true := by simp; omega
  have hn4 : ((y : Int) != 255 - (x : Int)) = true := by simp; omega
  clear hn1 hn2
  go_wp2_with (first
    | (go_at_call 8; (with_reducible refine (SF.out b _ w8 HB8.out).mono ?_); rintro e w9 ⟨rfl, hB, hl⟩; have HB9 := hid hB; have HL9 := hid (HL8.out.trans (hl.below (Nat.le_of_lt HLT.out) HL8.out.size)); clear hB hl)
    | (go_at_call 9; (with_reducible refine (BD.out b _ w9 HB9.out).mono ?_); rintro e w10 ⟨rfl, rfl⟩)
    | (go_at_call 9; (with_reducible refine (BY.out b _ _ HB9.out).mono ?_); rintro e w11 ⟨rfl, rfl⟩)
    | (go_at_call 10; (with_reducible refine (AW.out _).mono ?_); rintro e w12 ⟨rfl, hlow⟩; have HL12 := hid (HL9.out.trans (hlow.mono HL9.out.size)); clear hlow))
  go_ret
  exact ⟨rfl, HL12.out⟩
end Go.Proofs.Ytmggmjilgjogfaa
