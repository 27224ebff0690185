import Derived.Test.YtffoinnllihdeaaProg
import Derived.Test.YtffoinnllihdeaaWlo
import Derived.Test.YtffoinnllihdeaaWma
import Derived.Test.YtffoinnllihdeaaTav
import Derived.Deep.CutRange
import Derived.Deep.CutBlock
/- Wire: WirePlays, over what the program's machine tells. -/
namespace Go.Proofs.Ytffoinnllihdeaa
open Go.RowKit
set_option maxRecDepth 100000
/-- The document's dry machine, and the program's, behind a wet one's. -/
theorem Bz.dried {Pm : World → Nat → Ms → (Nat → Prop) → Prop} (hM : Mach Pm) {lo : Nat} {X : Nat → Prop} {W wx : World} {p b : Nat} {S1 S2 S : Ms} (h : Bz Pm lo X W wx p b S1 S2) :
    Bz Pm lo X W (wx.alloc (.cells (dmC S.dryS (.slice none 0 0) (.slice none 0 0) (.slice none 0 0) (.slice none 0 0)) 40)) p wx.heap.size S1 S.dryS := by
  obtain ⟨F, G, ov, bv, vv, tv, h1, h2, h3, h4, h5, h6, h7⟩ := h
  have hb := (Below.refl wx.heap.size wx).alloc (Nat.le_refl _) (.cells (dmC S.dryS (.slice none 0 0) (.slice none 0 0) (.slice none 0 0) (.slice none 0 0)) 40)
  have hft : ∀ k, Ft wx.heap.size (.slice none 0 0) (.slice none 0 0) (.slice none 0 0) k → k = wx.heap.size := fun k hk => by
    rcases hk with e | e | e | e
    · exact e
    · simp [Value.ownBlock] at e
    · simp [Value.ownBlock] at e
    · simp [Value.ownBlock] at e
  refine ⟨F, fun _ => False, .slice none 0 0, .slice none 0 0, .slice none 0 0, .slice none 0 0, hM.stays h1 hb.size (fun k hk => hb.block k (hM.lt h1 k hk)), ⟨heap_alloc_new _ _, h7, orw_nil _ _ _ _ _, orw_nil _ _ _ _ _, orw_nil _ _ _ _ _, by simp [Value.ownBlock], by simp [Value.ownBlock], by simp [Value.ownBlock], by simp [Value.ownBlock], by simp [Value.ownBlock], by simp [Value.ownBlock], ?_⟩, fun k hk => ⟨(h3 k hk).1, fun e => ?_, fun e => e, (h3 k hk).2.2.2⟩, fun k hk => ⟨Nat.lt_of_lt_of_le (h4 k hk).1 hb.size, fun e => ?_, fun e => e⟩, fun k hk => hk.elim, h6.trans (hb.mono h7), Nat.le_trans h7 hb.size⟩
  · show RdS .u64 _ _ (.slice none 0 0) []
    exact ⟨none, 0, rfl, Nat.le_refl _, Nat.zero_le _, by decide, fun z hz => (List.not_mem_nil hz).elim, fun h0 => absurd h0 (by decide)⟩
  · have := hft k e; have := hM.lt h1 k hk; omega
  · have := hft k e; have := (h4 k hk).1; omega
/-- Both machines begin. -/
theorem Bz.begun {Pm : World → Nat → Ms → (Nat → Prop) → Prop} {lo : Nat} {G F : Nat → Prop} {W wx : World} {p b : Nat} {S1 S2 : Ms} {tv : Value} (h1 : Pm wx p S1 F) (h2 : Dm ⟨lo, G⟩ wx b S2 (.slice none 0 0) (.slice none 0 0) (.slice none 0 0) tv) (hF : ∀ k, F k → lo ≤ k ∧ k ≠ b ∧ ¬ G k) (hG : ∀ k, G k → k < wx.heap.size) (h6 : Below lo W wx) (h7 : lo ≤ wx.heap.size) : Bz Pm lo (fun _ => False) W wx p b S1 S2 := by
  refine ⟨F, G, _, _, _, _, h1, h2, fun k hk => ⟨(hF k hk).1, fun e => ?_, (hF k hk).2.2, fun e => e⟩, fun k hk => hk.elim, hG, h6, h7⟩
  rcases e with e | e | e | e
  · exact (hF k hk).2.1 e
  · simp [Value.ownBlock] at e
  · simp [Value.ownBlock] at e
  · simp [Value.ownBlock] at e
/-- What the law's loop holds. -/
structure Wp (Pm : World → Nat → Ms → (Nat → Prop) → Prop) (W wr : World) (p b k : Nat) (S1 S : Ms) : Prop where
  z : Bz Pm W.heap.size (fun _ => False) W wr p b S1 S
  q : Bq k S
theorem Wp.self {Pm : World → Nat → Ms → (Nat → Prop) → Prop} (hM : Mach Pm) {W wr wy : World} {p b k : Nat} {S1 S : Ms} (h : Wp Pm W wr p b k S1 S) (hb : Below wr.heap.size wr wy) : Wp Pm W wy p b k S1 S := ⟨h.z.self hM hb, h.q⟩
set_option maxHeartbeats 25600000 in
theorem lplays_core {Pm : World → Nat → Ms → (Nat → Prop) → Prop} (hM : Mach Pm) (hN : MachN Pm) (T : Nat → Nat) (hT : Lcg T) (n most free : Int) (lv : Value) (LL : Nat) (af : Nat → Act8) (W : World) (h : RAc W lv LL af) (hn : -9223372036854775808 ≤ n ∧ n ≤ 9223372036854775807) (hm : -9223372036854775808 ≤ most ∧ most ≤ 9223372036854775807) :
    Calls Try.prog 3 #[.int .i64 n, .int .i64 most, .int .i64 free, lv] W fun e w' => e = .returned (.bool true) ∧ Below W.heap.size W w' := by
  obtain ⟨a, cap, rfl, _, _, hAc⟩ := id h.at_
  have HLT := hid hT.lt
  have HTW : Hid (∀ w, Calls Try.prog 6 #[.int .i64 40] w fun e w' => ∃ u, e = .returned u ∧ RdS .u64 w' (fun g => w.heap.size ≤ g ∧ g < w'.heap.size) u (wdL (fun i => T (i + 1)) 40) ∧ Below w.heap.size w w') := hid (fun w => (ltape_any T hT 40 (by decide) w).mono fun e w' ⟨u, h1, h2, h3⟩ => ⟨u, h1, h2.rds (by rw [wdL_len]; decide) (fun z hz => by
    unfold wdL at hz
    obtain ⟨i, hi, rfl⟩ := List.mem_map.1 hz
    exact WalkArith.wf_u64 (by have := HLT.out (i + 1); show 0 ≤ ((T (i + 1) : Nat) : Int) ∧ ((T (i + 1) : Nat) : Int) ≤ _; omega)), h3⟩)
  have HTN := hid (fun (v : Value) (w : World) (h : Rd .u64 w v (wdL (fun i => T (i + 1)) 40)) => new_any v _ w h)
  have HN := hid hN
  have HAC := hid hAc
  have HAW := hid h.wf
  have hlim := h.lim
  have HAW2 := hid (lawake_any hM hN)
  have B0 : Hid (Below W.heap.size W W) := hid (Below.refl _ _)
  obtain ⟨may, hmay⟩ : ∃ may : Bool, decide (0 ≤ free ∧ free ≤ 40) = may := ⟨_, rfl⟩
  obtain ⟨fr, hfr⟩ : ∃ fr : Nat, (if may = true then free.toNat else 0) = fr := ⟨_, rfl⟩
  have hfr40 : fr ≤ 40 := by
    subst hfr
    split
    · rename_i e; rw [e] at hmay; have := of_decide_eq_true hmay; omega
    · omega
  have HRS : Hid (∀ lo hi b w, TapeAt w lo hi b (wdL (fun i => T (i + 1)) 40) 0 0 → Calls Try.prog 7 #[.pointer (some ⟨b, 0, none⟩), .int .i64 free] w fun r w' => ∃ c : Int, r = .returned (.int .i64 c) ∧ (c == 0) = may ∧ TapeAt w' lo hi b (wdL (fun i => T (i + 1)) 40) 0 fr ∧ Only b w w') := hid (fun lo hi b w h => (reserve_any lo hi b _ 0 0 free w h).mono fun r w' ⟨h1, h2, h3⟩ => by
    rw [wdL_len] at h1 h2
    refine ⟨_, h1, ?_, ?_, h3⟩
    · subst hmay
      unfold resCode
      by_cases q1 : free < 0
      · rw [if_pos q1, decide_eq_false (by omega)]; rfl
      · rw [if_neg q1]
        by_cases q2 : ((40 : Nat) : Int) - ((0 : Nat) : Int) < free
        · rw [if_pos q2, decide_eq_false (by omega)]; rfl
        · rw [if_neg q2, decide_eq_true (by omega)]; rfl
    · have e : resE 0 0 (((40 : Nat) : Int) - ((0 : Nat) : Int)) free = fr := by
        subst hfr
        unfold resE
        by_cases q : 0 ≤ free ∧ free ≤ 40
        · rw [decide_eq_true q] at hmay
          rw [if_neg (by omega), if_pos hmay.symm]; omega
        · rw [decide_eq_false q] at hmay
          rw [if_pos (by omega), if_neg (by rw [← hmay]; decide)]
      rw [e] at h2
      exact h2)
  have HFR := hid hfr
  have HFR40 := hid hfr40
  have HMAY := hid hmay
  clear h hAc hN hT hfr hfr40 hmay
  go_enter Try.func3, Try.ntmps3
  go_upto_region 2 with (first
    | (go_at_call 6; (with_reducible refine (HTW.out _).mono ?_); rintro e w1 ⟨u, rfl, hu, hb⟩; have B1 := hid (B0.out.trans (hb.mono B0.out.size)); have U1 := hid hu.rd; clear hu hb)
    | (go_at_call 5; (with_reducible refine (HTN.out _ _ U1.out).mono ?_); rintro e w2 ⟨q, rfl, ht, hb⟩; have B2 := hid (B1.out.trans (hb.mono B1.out.size)); have T2 := hid ht; clear ht hb))
  go_cut [10] from 17 to 22 (fun q wx => q = .bool may ∧ w2 = wx)
  case first =>
    have hmm := HMAY.out
    by_cases f1 : 0 ≤ free
    · by_cases f2 : free ≤ 40
      · rw [decide_eq_true ⟨f1, f2⟩] at hmm
        subst hmm
        go_wp2
        go_meet
        exact ⟨rfl, rfl⟩
      · rw [decide_eq_false (fun e => f2 e.2)] at hmm
        subst hmm
        have q2 : decide (free ≤ 40) = false := decide_eq_false f2
        go_wp2
        go_meet
        exact ⟨rfl, rfl⟩
    · rw [decide_eq_false (fun e => f1 e.1)] at hmm
      subst hmm
      have q1 : decide (0 ≤ free) = false := decide_eq_false f1
      go_wp2
      go_meet
      exact ⟨rfl, rfl⟩
  case rest =>
    obtain ⟨rfl, rfl⟩ := hcut
    by_cases hok : (n = 2 ∨ n = 3) ∧ 0 ≤ most ∧ most ≤ 1048576
    · obtain ⟨hn23, hm0, hm1⟩ := hok
      have HN23 := hid hn23
      have HM0 := hid (And.intro hm0 hm1)
      go_upto_region 6 with (first
        | (go_at_call 7; (with_reducible refine (HRS.out _ _ _ _ T2.out).mono ?_); rintro e w3 ⟨c, rfl, hcm, ht, ho⟩; have B3 := hid (B2.out.trans (ho.below (by have := T2.out.lt; have := B1.out.size; omega) B2.out.size)); have T3 := hid ht; clear ht ho)
        | (go_at_call 8; (with_reducible refine (HN.out.new _ _ _ 0 fr n most (fun i => T (i + 1)) 40 _ T3.out HN23.out HM0.out.1 HM0.out.2).mono ?_); rintro e w4 ⟨p, rfl, hb, F, hp, hF⟩; have B4 := hid (B3.out.trans (hb.mono B3.out.size)); have P4 := hid hp; have F4 : Hid (∀ k, F k → W.heap.size ≤ k) := hid (fun k hk => by have := hF k hk; have := B1.out.size; have := B3.out.size; omega); clear hp hF hb))
      go_cut [49] from 36 to 49 (fun q wx => q = .bool false ∧ w4 = wx)
      case first =>
        have q3 : decide (most < 0) = false := decide_eq_false (by omega)
        have q4 : decide (1048576 < most) = false := decide_eq_false (by omega)
        clear hm0 hm1
        rcases hn23 with rfl | rfl
        all_goals
          go_wp2
          go_meet
          exact ⟨rfl, rfl⟩
      case rest =>
        obtain ⟨rfl, rfl⟩ := hcut
        clear hn23 hm0 hm1
        go_upto_if 73 with (first
          | (go_at_call 6; (with_reducible refine (HTW.out _).mono ?_); rintro e w5 ⟨u5, rfl, hu, hb⟩; have B5 := hid (B4.out.trans (hb.mono B4.out.size)); have U5 := hid hu; have P5 := hid (hM.stays P4.out hb.size (fun k hk => hb.block k (hM.lt P4.out k hk))); have HL5 := hid hb.size; clear hu hb)
          | (go_at_call 10; (with_reducible refine (dnew_any ⟨W.heap.size, fun g => w4.heap.size ≤ g ∧ g < w5.heap.size⟩ n most (fun i => T (i + 1)) 40 u5 _ U5.out B5.out.size).mono ?_); rintro e w6 ⟨rfl, hd, hb⟩; have B6 := hid (B5.out.trans (hb.mono B5.out.size)); have D6 := hid hd; have P6 := hid (hM.stays P5.out hb.size (fun k hk => hb.block k (hM.lt P5.out k hk))); have c13 := hd.c_free; have f13 := hd.fz 13; clear hd hb))
        have HBQ : Hid (Bq 0 (startD n most (fun i => T (i + 1)) 40 0 fr)) := hid (startD_bq n most _ 40 0 fr 0 HN23.out HM0.out.1 HM0.out.2 (by decide) (fun i _ => by have := HLT.out (i + 1); show T (i + 1) < 2 ^ 64; omega) (by omega) HFR40.out)
        have HFL : Hid (∀ k, F k → k < w4.heap.size) := hid (hM.lt P4.out)
        obtain ⟨S0, hS0⟩ : ∃ S0, startD n most (fun i => T (i + 1)) 40 0 fr = S0 := ⟨_, rfl⟩
        have HS0 := hid hS0
        go_cut [10] from 74 to 78 (fun q wx => q = .bool may ∧ Wp Pm W wx p w5.heap.size 0 S0 S0)
        case first =>
          have D7 : Hid (Dm ⟨W.heap.size, fun g => w4.heap.size ≤ g ∧ g < w5.heap.size⟩ (w6.setCell ⟨w5.heap.size, 13, none⟩ (.int .i64 0)) w5.heap.size { startS n most (fun i => T (i + 1)) 40 40 with free := 0 } (.slice none 0 0) (.slice none 0 0) (.slice none 0 0) u5) := hid (D6.out.cellSet 13 (.int .i64 0) rfl rfl rfl rfl rfl rfl rfl rfl rfl)
          have hne : ∀ k, F k → k ≠ w5.heap.size := fun k hk => by have := HFL.out k hk; have := HL5.out; omega
          have P7 : Hid (Pm (w6.setCell ⟨w5.heap.size, 13, none⟩ (.int .i64 0)) p (startD n most (fun i => T (i + 1)) 40 0 fr) F) := hid (hM.stays P6.out (by simp [World.setCell]) (fun k hk => heap_setCell_other w6 ⟨w5.heap.size, 13, none⟩ k _ (hne k hk)))
          have B7 : Hid (Below W.heap.size W (w6.setCell ⟨w5.heap.size, 13, none⟩ (.int .i64 0))) := hid (below_set B6.out B5.out.size 13 _)
          have HNE := hid hne
          clear hne hS0
          cases may
          · have h0 : fr = 0 := by have := HFR.out; simpa using this.symm
            have HZ0 := hid h0
            clear h0
            go_wp2
            go_meet
            have h0 := HZ0.out
            subst h0
            refine ⟨rfl, ⟨?_, by rw [← HS0.out]; exact HBQ.out⟩⟩
            rw [← HS0.out]
            exact Bz.begun (G := fun g => w4.heap.size ≤ g ∧ g < w5.heap.size) (F := F) P7.out D7.out (fun k hk => ⟨F4.out k hk, by have := HFL.out k hk; have := HL5.out; omega, fun e => by have := HFL.out k hk; omega⟩) (fun k hk => by have := D6.out.lt; simp [World.setCell]; omega) B7.out B7.out.size
          · have hmm := of_decide_eq_true HMAY.out
            have hff : free = (fr : Int) := by have := HFR.out; simp at this; omega
            subst hff
            have D8 : Hid (Dm ⟨W.heap.size, fun g => w4.heap.size ≤ g ∧ g < w5.heap.size⟩ ((w6.setCell ⟨w5.heap.size, 13, none⟩ (.int .i64 0)).setCell ⟨w5.heap.size, 13, none⟩ (.int .i64 (fr : Int))) w5.heap.size { startS n most (fun i => T (i + 1)) 40 40 with free := fr } (.slice none 0 0) (.slice none 0 0) (.slice none 0 0) u5) := hid (D7.out.cellSet 13 (.int .i64 (fr : Int)) rfl rfl rfl rfl rfl rfl rfl rfl rfl)
            have P8 : Hid (Pm ((w6.setCell ⟨w5.heap.size, 13, none⟩ (.int .i64 0)).setCell ⟨w5.heap.size, 13, none⟩ (.int .i64 (fr : Int))) p (startD n most (fun i => T (i + 1)) 40 0 fr) F) := hid (hM.stays P7.out (by simp [World.setCell]) (fun k hk => heap_setCell_other _ ⟨w5.heap.size, 13, none⟩ k _ (HNE.out k hk)))
            have B8 : Hid (Below W.heap.size W ((w6.setCell ⟨w5.heap.size, 13, none⟩ (.int .i64 0)).setCell ⟨w5.heap.size, 13, none⟩ (.int .i64 (fr : Int)))) := hid (below_set B7.out B5.out.size 13 _)
            clear hmm
            go_wp2
            go_meet
            refine ⟨rfl, ⟨?_, by rw [← HS0.out]; exact HBQ.out⟩⟩
            rw [← HS0.out]
            exact Bz.begun (G := fun g => w4.heap.size ≤ g ∧ g < w5.heap.size) (F := F) P8.out D8.out (fun k hk => ⟨F4.out k hk, by have := HFL.out k hk; have := HL5.out; omega, fun e => by have := HFL.out k hk; omega⟩) (fun k hk => by have := D6.out.lt; simp [World.setCell]; omega) B8.out B8.out.size
        case rest =>
          obtain ⟨rfl, hz⟩ := hcut
          have Z0 := hid hz
          clear hz hS0
          go_wp2
          go_loopw [11, 13, 14] (fun mv xv i wr => ∃ j : Nat, ∃ S p b, j ≤ LL ∧ j ≤ 150 ∧ mv = .pointer (some ⟨p, 0, none⟩) ∧ xv = .pointer (some ⟨b, 0, none⟩) ∧ i = .int .i64 j ∧ Wp Pm W wr p b (2 * j) S S) (fun _ _ i _ => LL - (intOf i).toNat)
          case atStart => exact ⟨0, _, _, _, by omega, by omega, rfl, rfl, rfl, Z0.out⟩
          case round =>
            clear Z0 D6 P6 c13 f13 U5 P5 P4 F4 HBQ HFL
            obtain ⟨j, S, p, b, hj, hj2, rfl, rfl, rfl, hI⟩ := hrel
            have HI := hid hI
            clear hI
            have HK : Hid (2 * j ≤ 100000) := hid (by omega)
            have HK0 : Hid (2 * j ≤ 1000000) := hid (by omega)
            have HK1 : Hid (2 * j + 1 ≤ 100000) := hid (by omega)
            by_cases hlt : j < LL ∧ j < 150
            · obtain ⟨hl1, hl2⟩ := hlt
              have j1 : (0 : Int) ≤ (j : Int) := by omega
              have j2 : (j : Int) < (LL : Int) := by omega
              have j3 : decide ((j : Int) < 150) = true := decide_eq_true (by omega)
              obtain ⟨b0, off, rfl, hb, hc⟩ := HAC.out (by omega)
              have HA : Hid (∀ wx, Below W.heap.size W wx → Ac wx b0 (off + j * 8) (af j)) := hid (fun wx hx => (hc j hl1).self hx)
              have HWF := hid (HAW.out j hl1)
              clear hb hc
              have aac := HA.out wr HI.out.z.low
              have a0 : wr.cell? ⟨b0, off + j * 8, none⟩ = some (.int .i64 (af j).K) := aac.k
              have a1 : wr.cell? ⟨b0, off + j * 8 + 1, none⟩ = some (.int .i64 (af j).o.K) := aac.o.k
              have a2 : wr.cell? ⟨b0, off + j * 8 + 2, none⟩ = some (.int .i64 (af j).o.D) := aac.o.d
              have a3 : wr.cell? ⟨b0, off + j * 8 + 3, none⟩ = some (.int .i64 (af j).o.A) := aac.o.a
              have a4 : wr.cell? ⟨b0, off + j * 8 + 4, none⟩ = some (.int .i64 (af j).o.B) := aac.o.b
              have a5 : wr.cell? ⟨b0, off + j * 8 + 5, none⟩ = some (.int .i64 (af j).o.E) := aac.o.e
              have a6 : wr.cell? ⟨b0, off + j * 8 + 6, none⟩ = some (.int .u64 ((af j).o.C : Int)) := aac.o.c
              have a7 : wr.cell? ⟨b0, off + j * 8 + 7, none⟩ = some (.int .u64 ((af j).X : Int)) := aac.x
              clear aac
              have c14 := HI.out.z.dry
              by_cases h10 : (af j).K = 10
              · have H10 := hid h10
                cases hd : S.dry
                · rw [hd] at c14
                  have e10 : ((af j).K == 10) = true := by simp [h10]
                  clear h10 hd
                  go_wp2_with (go_at_call 11; (with_reducible refine (zdry hM HI.out.z HI.out.q HK0.out).mono ?_); rintro e w5' ⟨p', rfl, hz, _⟩; have Z5 := hid hz; clear hz)
                  clear a0 a1 a2 a3 a4 a5 a6 a7 c14
                  have Z5d := hid (Z5.out.self hM ((Below.refl _ w5').drew))
                  refine wp_region_noPanic ?_
                  refine wp_region_held_drew (S := fun w' => w'.cell? ⟨b, 0, none⟩ = some (.int .i64 S.n) ∧ w'.cell? ⟨b, 2, none⟩ = some (.int .i64 (S.words : Int))) (by kernel_rfl) (⟨Z5d.out.c0.1, Z5d.out.words⟩) (fun h0 => ?_)
                  generalize w5'.drew = y1 at *
                  refine wpAnyH_take (i := 0) (v := .pointer (some ⟨b, 0, none⟩)) rfl (by kernel_rfl) (by kernel_rfl) (by kernel_rfl) (fun _ _ _ h => h) (.inl ⟨by rfl, fun w hw => by clear hw; go_simp⟩) h0 ?_
                  try simp only [Act.put, lay_out]
                  refine wpAnyH_take (i := 1) (v := .pointer (some ⟨b, 0, none⟩)) rfl (by kernel_rfl) (by kernel_rfl) (by kernel_rfl) (fun _ _ _ h => h) (.inl ⟨by rfl, fun w hw => by clear hw; go_simp⟩) h0 ?_
                  try simp only [Act.put, lay_out]
                  refine wpAnyH_take (i := 2) (v := .pointer (some ⟨b, 0, none⟩)) rfl (by kernel_rfl) (by kernel_rfl) (by kernel_rfl) (fun _ _ _ h => h) (.inl ⟨by rfl, fun w hw => by clear hw; go_simp⟩) h0 ?_
                  try simp only [Act.put, lay_out]
                  refine wpAnyH_take (i := 3) (v := .int .i64 S.n) rfl (by kernel_rfl) (by kernel_rfl) (by kernel_rfl) (fun _ _ _ h => h) (.inl ⟨by rfl, fun w' hw => by have hc := hw.1; clear hw; go_simp⟩) h0 ?_
                  try simp only [Act.put, lay_out]
                  refine wpAnyH_take (i := 4) (v := .pointer (some ⟨b, 0, none⟩)) rfl (by kernel_rfl) (by kernel_rfl) (by kernel_rfl) (fun _ _ _ h => h) (.inl ⟨by rfl, fun w hw => by clear hw; go_simp⟩) h0 ?_
                  try simp only [Act.put, lay_out]
                  refine wpAnyH_take (i := 5) (v := .pointer (some ⟨b, 0, none⟩)) rfl (by kernel_rfl) (by kernel_rfl) (by kernel_rfl) (fun _ _ _ h => h) (.inl ⟨by rfl, fun w hw => by clear hw; go_simp⟩) h0 ?_
                  try simp only [Act.put, lay_out]
                  refine wpAnyH_take (i := 6) (v := .pointer (some ⟨b, 2, none⟩)) rfl (by kernel_rfl) (by kernel_rfl) (by kernel_rfl) (fun _ _ _ h => h) (.inl ⟨by rfl, fun w hw => by clear hw; go_simp⟩) h0 ?_
                  try simp only [Act.put, lay_out]
                  refine wpAnyH_take (i := 7) (v := .int .i64 (S.words : Int)) rfl (by kernel_rfl) (by kernel_rfl) (by kernel_rfl) (fun _ _ _ h => h) (.inl ⟨by rfl, fun w' hw => by have hc := hw.2; clear hw; go_simp⟩) h0 ?_
                  try simp only [Act.put, lay_out]
                  refine wpAnyH_take (i := 8) (v := .pointer (some ⟨b, 0, none⟩)) rfl (by kernel_rfl) (by kernel_rfl) (by kernel_rfl) (fun _ _ _ h => h) (.inl ⟨by rfl, fun w hw => by clear hw; go_simp⟩) h0 ?_
                  try simp only [Act.put, lay_out]
                  refine wpAnyH_ready (rs := [9]) (by kernel_rfl) (by simp) (AllReadyH.cons rfl (fun K hK => ?_) AllReadyH.nil)
                  rw [if_pos (by rfl)]
                  go_simp
                  go_at_call 12
                  (with_reducible refine (ylen Z5d.out HI.out.q HK.out).mono ?_); rintro e w6z ⟨rfl, hb⟩
                  have Z6 := hid (Z5d.out.self hM hb)
                  clear hb
                  refine hK.out _ _ (⟨Z6.out.c0.1, Z6.out.words⟩) (fun h1x => ?_)
                  clear hK K
                  try simp only [Act.put, lay_out]
                  refine wpAnyH_take (i := 10) (v := .agg #[.int .i64 S.n, .int .i64 0, .int .i64 (S.words : Int), .int .i64 0, .int .i64 0, .int .i64 (S.len : Int), .int .i64 0, .int .i64 0, .slice none 0 0, .slice none 0 0, .slice none 0 0, .slice none 0 0, .int .i64 0, .int .i64 0, .bool true]) rfl (by kernel_rfl) (by kernel_rfl) (by kernel_rfl) (fun _ _ _ h => h) (.inl ⟨by rfl, fun w hw => by clear hw; go_simp⟩) h1x ?_
                  try simp only [Act.put, lay_out]
                  refine wpAnyH_ready (rs := [11]) (by kernel_rfl) (by simp) (AllReadyH.cons rfl (fun K hK => ?_) AllReadyH.nil)
                  rw [if_pos (by rfl)]
                  go_simp
                  have ZA := hid (Bz.self hM Z6.out ((Below.refl w6z.heap.size w6z).alloc (Nat.le_refl _) (.cells #[.int .i64 S.n, .int .i64 0, .int .i64 (S.words : Int), .int .i64 0, .int .i64 0, .int .i64 (S.len : Int), .int .i64 0, .int .i64 0, .slice none 0 0, .slice none 0 0, .slice none 0 0, .slice none 0 0, .int .i64 0, .int .i64 0, .bool true] 40)))
                  have Z7 : Hid (Wp Pm W (w6z.alloc (.cells #[.int .i64 S.n, .int .i64 0, .int .i64 (S.words : Int), .int .i64 0, .int .i64 0, .int .i64 (S.len : Int), .int .i64 0, .int .i64 0, .slice none 0 0, .slice none 0 0, .slice none 0 0, .slice none 0 0, .int .i64 0, .int .i64 0, .bool true] 40)) p' w6z.heap.size (2 * j) S.dryS S.dryS) := hid ⟨Bz.dried (S := S) hM Z6.out, HI.out.q.dries⟩
                  refine hK.out _ _ (⟨ZA.out.c0.1, ZA.out.words⟩) (fun h2x => ?_)
                  clear hK K
                  try simp only [Act.put, lay_out]
                  refine wpAnyH_take (i := 12) (v := .pointer (some ⟨w6z.heap.size, 0, none⟩)) rfl (by kernel_rfl) (by kernel_rfl) (by kernel_rfl) (fun _ _ _ h => h) (.inl ⟨by rfl, fun w hw => by clear hw; go_simp⟩) h2x ?_
                  try simp only [Act.put, lay_out]
                  refine wpAnyH_done (by kernel_rfl) ?_ _
                  refine NoPanic.normal ?_
                  clear h0 h1x h2x
                  try simp only [Act.put, lay_out]
                  have dac := HA.out (w6z.alloc (.cells #[.int .i64 S.n, .int .i64 0, .int .i64 (S.words : Int), .int .i64 0, .int .i64 0, .int .i64 (S.len : Int), .int .i64 0, .int .i64 0, .slice none 0 0, .slice none 0 0, .slice none 0 0, .slice none 0 0, .int .i64 0, .int .i64 0, .bool true] 40)) Z7.out.z.low
                  have d0 : (w6z.alloc (.cells #[.int .i64 S.n, .int .i64 0, .int .i64 (S.words : Int), .int .i64 0, .int .i64 0, .int .i64 (S.len : Int), .int .i64 0, .int .i64 0, .slice none 0 0, .slice none 0 0, .slice none 0 0, .slice none 0 0, .int .i64 0, .int .i64 0, .bool true] 40)).cell? ⟨b0, off + j * 8, none⟩ = some (.int .i64 (af j).K) := dac.k
                  have d1 : (w6z.alloc (.cells #[.int .i64 S.n, .int .i64 0, .int .i64 (S.words : Int), .int .i64 0, .int .i64 0, .int .i64 (S.len : Int), .int .i64 0, .int .i64 0, .slice none 0 0, .slice none 0 0, .slice none 0 0, .slice none 0 0, .int .i64 0, .int .i64 0, .bool true] 40)).cell? ⟨b0, off + j * 8 + 1, none⟩ = some (.int .i64 (af j).o.K) := dac.o.k
                  have d2 : (w6z.alloc (.cells #[.int .i64 S.n, .int .i64 0, .int .i64 (S.words : Int), .int .i64 0, .int .i64 0, .int .i64 (S.len : Int), .int .i64 0, .int .i64 0, .slice none 0 0, .slice none 0 0, .slice none 0 0, .slice none 0 0, .int .i64 0, .int .i64 0, .bool true] 40)).cell? ⟨b0, off + j * 8 + 2, none⟩ = some (.int .i64 (af j).o.D) := dac.o.d
                  have d3 : (w6z.alloc (.cells #[.int .i64 S.n, .int .i64 0, .int .i64 (S.words : Int), .int .i64 0, .int .i64 0, .int .i64 (S.len : Int), .int .i64 0, .int .i64 0, .slice none 0 0, .slice none 0 0, .slice none 0 0, .slice none 0 0, .int .i64 0, .int .i64 0, .bool true] 40)).cell? ⟨b0, off + j * 8 + 3, none⟩ = some (.int .i64 (af j).o.A) := dac.o.a
                  have d4 : (w6z.alloc (.cells #[.int .i64 S.n, .int .i64 0, .int .i64 (S.words : Int), .int .i64 0, .int .i64 0, .int .i64 (S.len : Int), .int .i64 0, .int .i64 0, .slice none 0 0, .slice none 0 0, .slice none 0 0, .slice none 0 0, .int .i64 0, .int .i64 0, .bool true] 40)).cell? ⟨b0, off + j * 8 + 4, none⟩ = some (.int .i64 (af j).o.B) := dac.o.b
                  have d5 : (w6z.alloc (.cells #[.int .i64 S.n, .int .i64 0, .int .i64 (S.words : Int), .int .i64 0, .int .i64 0, .int .i64 (S.len : Int), .int .i64 0, .int .i64 0, .slice none 0 0, .slice none 0 0, .slice none 0 0, .slice none 0 0, .int .i64 0, .int .i64 0, .bool true] 40)).cell? ⟨b0, off + j * 8 + 5, none⟩ = some (.int .i64 (af j).o.E) := dac.o.e
                  have d6 : (w6z.alloc (.cells #[.int .i64 S.n, .int .i64 0, .int .i64 (S.words : Int), .int .i64 0, .int .i64 0, .int .i64 (S.len : Int), .int .i64 0, .int .i64 0, .slice none 0 0, .slice none 0 0, .slice none 0 0, .slice none 0 0, .int .i64 0, .int .i64 0, .bool true] 40)).cell? ⟨b0, off + j * 8 + 6, none⟩ = some (.int .u64 ((af j).o.C : Int)) := dac.o.c
                  have d7 : (w6z.alloc (.cells #[.int .i64 S.n, .int .i64 0, .int .i64 (S.words : Int), .int .i64 0, .int .i64 0, .int .i64 (S.len : Int), .int .i64 0, .int .i64 0, .slice none 0 0, .slice none 0 0, .slice none 0 0, .slice none 0 0, .int .i64 0, .int .i64 0, .bool true] 40)).cell? ⟨b0, off + j * 8 + 7, none⟩ = some (.int .u64 ((af j).X : Int)) := dac.x
                  clear dac
                  go_wp2_with (first
                    | (go_at_call 13; (with_reducible refine (ldoes_any hM (af j) Z7.out.z Z7.out.q HK.out HWF.out).mono ?_); rintro e w8 ⟨rfl, hz, hlow⟩; have Y1 := hid (Wp.mk hz (Z7.out.q.acts HK0.out HWF.out)); clear hz hlow)
                    | (go_at_call 14; (with_reducible refine (lsame_any hM Y1.out.z Y1.out.q HK1.out).mono ?_); rintro e w9 ⟨rfl, hz, hb⟩; have Y2 := hid (Wp.mk hz Y1.out.q); clear hz hb))
                  go_roundw
                  case rel => exact ⟨j + 1, _, _, _, by omega, by omega, rfl, rfl, by go_num, Y2.out.z, Y2.out.q.mono (by omega)⟩
                  case measure => simp [intOf]; omega
                · rw [hd] at c14
                  have e10 : ((af j).K == 10) = true := by simp [h10]
                  clear h10 hd
                  go_wp2_with (first
                    | (go_at_call 13; (with_reducible refine (ldoes_any hM (af j) HI.out.z HI.out.q HK.out HWF.out).mono ?_); rintro e w8 ⟨rfl, hz, hlow⟩; have Y1 := hid (Wp.mk hz (HI.out.q.acts HK0.out HWF.out)); clear hz hlow)
                    | (go_at_call 14; (with_reducible refine (lsame_any hM Y1.out.z Y1.out.q HK1.out).mono ?_); rintro e w9 ⟨rfl, hz, hb⟩; have Y2 := hid (Wp.mk hz Y1.out.q); clear hz hb))
                  go_roundw
                  case rel => exact ⟨j + 1, _, _, _, by omega, by omega, rfl, rfl, by go_num, Y2.out.z, Y2.out.q.mono (by omega)⟩
                  case measure => simp [intOf]; omega
              · have e10 : ((af j).K == 10) = false := by simp [h10]
                clear h10
                go_wp2_with (first
                  | (go_at_call 13; (with_reducible refine (ldoes_any hM (af j) HI.out.z HI.out.q HK.out HWF.out).mono ?_); rintro e w8 ⟨rfl, hz, hlow⟩; have Y1 := hid (Wp.mk hz (HI.out.q.acts HK0.out HWF.out)); clear hz hlow)
                  | (go_at_call 14; (with_reducible refine (lsame_any hM Y1.out.z Y1.out.q HK1.out).mono ?_); rintro e w9 ⟨rfl, hz, hb⟩; have Y2 := hid (Wp.mk hz Y1.out.q); clear hz hb))
                go_roundw
                case rel => exact ⟨j + 1, _, _, _, by omega, by omega, rfl, rfl, by go_num, Y2.out.z, Y2.out.q.mono (by omega)⟩
                case measure => simp [intOf]; omega
            · by_cases h1 : j < LL
              · have j3 : decide ((j : Int) < 150) = false := decide_eq_false (by omega)
                have j2 : (j : Int) < (LL : Int) := by omega
                clear hlt h1
                go_wp2_with (go_at_call 9; (with_reducible refine (HAW2.out _).mono ?_); rintro e w5 ⟨rfl, hb⟩; have Z5 := hid (HI.out.self hM hb); clear hb)
                go_ret
                exact ⟨rfl, Z5.out.z.low⟩
              · obtain rfl : j = LL := by omega
                clear hlt h1
                go_wp2_with (go_at_call 9; (with_reducible refine (HAW2.out _).mono ?_); rintro e w5 ⟨rfl, hb⟩; have Z5 := hid (HI.out.self hM hb); clear hb)
                go_ret
                exact ⟨rfl, Z5.out.z.low⟩
    · by_cases h2 : n = 2
      · subst h2
        have HBD := hid (fun q w => HN.out.bad 2 most q w hok)
        by_cases h3 : most < 0
        · clear hok
          have q3 : decide (most < 0) = true := decide_eq_true h3
          go_wp2_with (first
            | (go_at_call 7; (with_reducible refine (HRS.out _ _ _ _ T2.out).mono ?_); rintro e w3 ⟨c, rfl, hcm, ht, ho⟩; have B3 := hid (B2.out.trans (ho.below (by have := T2.out.lt; have := B1.out.size; omega) B2.out.size)); have T3 := hid ht; clear ht ho)
            | (go_at_call 8; (with_reducible refine (HBD.out q _).mono ?_); rintro e w4 ⟨rfl, hb⟩; have B4 := hid (B3.out.trans (hb.mono B3.out.size)); clear hb)
            | (go_at_call 9; (with_reducible refine (HAW2.out _).mono ?_); rintro e w5 ⟨rfl, hb⟩; have B5 := hid (B4.out.trans (hb.mono B4.out.size)); clear hb))
          go_ret
          exact ⟨rfl, B5.out⟩
        · have q3 : decide (most < 0) = false := decide_eq_false h3
          have q4 : decide (1048576 < most) = true := decide_eq_true (by omega)
          clear hok h3
          go_wp2_with (first
            | (go_at_call 7; (with_reducible refine (HRS.out _ _ _ _ T2.out).mono ?_); rintro e w3 ⟨c, rfl, hcm, ht, ho⟩; have B3 := hid (B2.out.trans (ho.below (by have := T2.out.lt; have := B1.out.size; omega) B2.out.size)); have T3 := hid ht; clear ht ho)
            | (go_at_call 8; (with_reducible refine (HBD.out q _).mono ?_); rintro e w4 ⟨rfl, hb⟩; have B4 := hid (B3.out.trans (hb.mono B3.out.size)); clear hb)
            | (go_at_call 9; (with_reducible refine (HAW2.out _).mono ?_); rintro e w5 ⟨rfl, hb⟩; have B5 := hid (B4.out.trans (hb.mono B4.out.size)); clear hb))
          go_ret
          exact ⟨rfl, B5.out⟩
      · by_cases h2' : n = 3
        · subst h2'
          have HBD := hid (fun q w => HN.out.bad 3 most q w hok)
          by_cases h3 : most < 0
          · clear hok
            have q3 : decide (most < 0) = true := decide_eq_true h3
            go_wp2_with (first
              | (go_at_call 7; (with_reducible refine (HRS.out _ _ _ _ T2.out).mono ?_); rintro e w3 ⟨c, rfl, hcm, ht, ho⟩; have B3 := hid (B2.out.trans (ho.below (by have := T2.out.lt; have := B1.out.size; omega) B2.out.size)); have T3 := hid ht; clear ht ho)
              | (go_at_call 8; (with_reducible refine (HBD.out q _).mono ?_); rintro e w4 ⟨rfl, hb⟩; have B4 := hid (B3.out.trans (hb.mono B3.out.size)); clear hb)
              | (go_at_call 9; (with_reducible refine (HAW2.out _).mono ?_); rintro e w5 ⟨rfl, hb⟩; have B5 := hid (B4.out.trans (hb.mono B4.out.size)); clear hb))
            go_ret
            exact ⟨rfl, B5.out⟩
          · have q3 : decide (most < 0) = false := decide_eq_false h3
            have q4 : decide (1048576 < most) = true := decide_eq_true (by omega)
            clear hok h3
            go_wp2_with (first
              | (go_at_call 7; (with_reducible refine (HRS.out _ _ _ _ T2.out).mono ?_); rintro e w3 ⟨c, rfl, hcm, ht, ho⟩; have B3 := hid (B2.out.trans (ho.below (by have := T2.out.lt; have := B1.out.size; omega) B2.out.size)); have T3 := hid ht; clear ht ho)
              | (go_at_call 8; (with_reducible refine (HBD.out q _).mono ?_); rintro e w4 ⟨rfl, hb⟩; have B4 := hid (B3.out.trans (hb.mono B3.out.size)); clear hb)
              | (go_at_call 9; (with_reducible refine (HAW2.out _).mono ?_); rintro e w5 ⟨rfl, hb⟩; have B5 := hid (B4.out.trans (hb.mono B4.out.size)); clear hb))
            go_ret
            exact ⟨rfl, B5.out⟩
        · have HBD := hid (fun q w => HN.out.bad n most q w hok)
          have g2 : (n != 2) = true := by simp [h2]
          have g3 : (n != 3) = true := by simp [h2']
          clear hok h2 h2'
          go_wp2_with (first
            | (go_at_call 7; (with_reducible refine (HRS.out _ _ _ _ T2.out).mono ?_); rintro e w3 ⟨c, rfl, hcm, ht, ho⟩; have B3 := hid (B2.out.trans (ho.below (by have := T2.out.lt; have := B1.out.size; omega) B2.out.size)); have T3 := hid ht; clear ht ho)
            | (go_at_call 8; (with_reducible refine (HBD.out q _).mono ?_); rintro e w4 ⟨rfl, hb⟩; have B4 := hid (B3.out.trans (hb.mono B3.out.size)); clear hb)
            | (go_at_call 9; (with_reducible refine (HAW2.out _).mono ?_); rintro e w5 ⟨rfl, hb⟩; have B5 := hid (B4.out.trans (hb.mono B4.out.size)); clear hb))
          go_ret
          exact ⟨rfl, B5.out⟩
end Go.Proofs.Ytffoinnllihdeaa
