import Derived.Test.YtnklljlgghenpaaProg
import Derived.Test.YtnklljlgghenpaaKyb
import Derived.Test.YtnklljlgghenpaaReg
namespace Go.Proofs.Ytnklljlgghenpaa
open Go.RowKit

theorem tmod_nat (a b : Nat) : ((a : Int).tmod (b : Int)) = ((a % b : Nat) : Int) := by rw [Int.tmod_eq_emod_of_nonneg (by omega)]; omega
theorem tdiv_nat (a b : Nat) : ((a : Int).tdiv (b : Int)) = ((a / b : Nat) : Int) := by rw [Int.tdiv_eq_ediv_of_nonneg (by omega)]; omega

/-- What made promises. -/
def MadeP (b K i : Nat) (f : Nat → Nat) (w : World) (e : Ending) (w' : World) : Prop :=
  ∃ g o c, e = .returned (.slice (some ⟨g, o, none⟩) 4 c) ∧ g ≠ b ∧ Wd w' 4 g o (mkw K i f) ∧ Box w' b ∧ Only b w w'

set_option maxRecDepth 100000 in
set_option maxHeartbeats 1600000 in
theorem made_mark (b g o i K : Nat) (f : Nat → Nat) (w : World) (hB : Box w b) (hA : Wd w 4 g o f) (_hn : g ≠ b) (hK : 0 < K) (hK8 : K ≤ 8) (hi : i ≤ 1000) (hr : i % K = 0) :
    Calls Try.prog 24 #[.pointer (some ⟨b, 0, none⟩), .slice (some ⟨g, o, none⟩) 4 4, .int .i64 (i : Int), .int .i64 (K : Int)] w fun e w' => MadeP b K i f w e w' := by
  have HT := hid (turned_any g o f w hA)
  have HSB := hid (fun g w c hb ha hn => substituted_any b g 0 c (fun j => f ((j + 1) % 4)) w hb ha hn)
  have hlb := hB.lt
  have HB := hid hB
  have HM := hid (fun w => marks_nat (i / K) w (Nat.le_trans (Nat.div_le_self _ _) (by omega)))
  have hmod : ((i : Int) % (K : Int) == 0) = true := by rw [beq_iff_eq]; omega
  have hdiv : (i : Int) / (K : Int) = ((i / K : Nat) : Int) := by omega
  have h0 : ¬ (K : Int) = 0 := by omega
  have h00 : ¬ K = 0 := by omega
  have hwr : IntKind.i64.wrap ((i / K : Nat) : Int) = ((i / K : Nat) : Int) := by rw [IntKind.wrap_i64]; have := Nat.div_le_self i K; generalize i / K = q at *; omega
  have HE := hid (show mkw K i f = fun j => sb (f ((j + 1) % 4)) ^^^ (if j = 0 then mkb (i / K) else 0) by funext j; unfold mkw; rw [if_pos hr])
  have HML := hid (mkb_lt (i / K))
  generalize mkb (i / K) = mk at HM HE HML
  generalize i / K = q at *
  clear hB hA hr
  go_enter Try.func24, Try.ntmps24
  go_wp2_with (first
    | (go_at_call 29; (with_reducible refine (HT.out).mono ?_); rintro e w1 ⟨g1, c1, rfl, hg1, hw1, hl1⟩; have HB1 := hid (HB.out.self hl1); have HW1 := hid hw1; have HL1 := hid hl1; have HN1 := hid (show g1 ≠ b by omega); clear hw1 hl1 hg1)
    | (go_at_call 28; (with_reducible refine (HSB.out _ _ _ HB1.out HW1.out HN1.out).mono ?_); rintro e w2 ⟨rfl, ha2, hb2, ho2⟩; have HA2 := hid ha2; have HB2 := hid hb2; have HO2 := hid ((Only.of_below HL1.out).trans ho2); clear ha2 hb2 ho2))
  have hsz : w.heap.size ≤ w1.heap.size := HL1.out.size
  generalize w1.heap.size = g2 at *
  have hc0 := HA2.out.drew.cell (show 0 < 4 by decide)
  have hf0 := HA2.out.drew.free 0
  have HSET := hid (HA2.out.drew.set 0 (sb (f 1) ^^^ mk))
  have hx1 : sb (f ((0 + 1) % 4)) = sb (f 1) := rfl
  rw [hx1] at hc0
  have HX := hid (xor8 (sb_lt (f 1)) HML.out)
  have HSL := hid (sb_lt (f 1))
  have HAll := hid (fun (j : Nat) => show sb (f ((j + 1) % 4)) < 256 from sb_lt _)
  have HB3 := hid (HB2.out.drew)
  have HO3 := hid (HO2.out.drew)
  have hgb : b ≠ g2 := by omega
  have HF := hid (show ∀ j, j < 4 → upd (fun j => sb (f ((j + 1) % 4))) 0 (sb (f 1) ^^^ mk) j = sb (f ((j + 1) % 4)) ^^^ (if j = 0 then mk else 0) by
    intro j hj
    unfold upd
    by_cases e : j = 0
    · subst e; rfl
    · rw [if_neg e, if_neg e, Nat.xor_zero])
  generalize sb (f 1) = x at *
  refine region_tail 9 (by kernel_rfl) (by kernel_rfl) ?_
  simp only [List.take_succ_cons, List.take_zero, List.drop_succ_cons, List.drop_zero]
  generalize w2.drew = w3 at *
  repeat still_step
  still_call (HM.out _)
  repeat still_step
  refine wpStill_nil ?_
  go_wp2
  go_ret
  refine ⟨g2, 0, 4, rfl, Ne.symm hgb, ?_, HB3.out.set (a := ⟨g2, 0, none⟩) hgb _, below_only HO3.out _ _ hsz⟩
  rw [HE.out, HX.out]
  exact (Wd.of_at HSET.out (fun j hj => by rw [HF.out j hj]; exact xor_lt (HAll.out j) (by split; exact HML.out; decide))).ext HF.out

set_option maxRecDepth 100000 in
set_option maxHeartbeats 1600000 in
theorem made_sub (b g o i : Nat) (f : Nat → Nat) (w : World) (hB : Box w b) (hA : Wd w 4 g o f) (hn : g ≠ b) (hi : i ≤ 1000) (hr : i % 8 = 4) :
    Calls Try.prog 24 #[.pointer (some ⟨b, 0, none⟩), .slice (some ⟨g, o, none⟩) 4 4, .int .i64 (i : Int), .int .i64 8] w fun e w' => MadeP b 8 i f w e w' := by
  have HSB := hid (substituted_any b g o 4 f w hB hA hn)
  have hlb := hB.lt
  have h1 : ((i : Int) % 8 == 0) = false := by rw [beq_eq_false_iff_ne]; omega
  have h2 : (((i : Int) - 4).tmod 8 == 0) = true := by rw [Int.tmod_eq_emod_of_nonneg (by omega), beq_iff_eq]; omega
  have HE := hid (show mkw 8 i f = fun j => sb (f j) by funext j; unfold mkw; rw [if_neg (by omega), if_pos ⟨rfl, hr⟩])
  clear hB hA hr
  go_enter Try.func24, Try.ntmps24
  go_wp2_with (first
    | (go_at_call 28; (with_reducible refine (HSB.out).mono ?_); rintro e w2 ⟨rfl, ha2, hb2, ho2⟩; have HA2 := hid ha2; have HB2 := hid hb2; have HO2 := hid ho2; clear ha2 hb2 ho2))
  go_ret
  exact ⟨_, 0, 4, rfl, Nat.ne_of_gt hlb, by rw [HE.out]; exact Wd.of_at HA2.out (fun j _ => sb_lt _), HB2.out, HO2.out⟩

set_option maxRecDepth 100000 in
set_option maxHeartbeats 1600000 in
theorem made_plain (b g o i K : Nat) (f : Nat → Nat) (w : World) (hB : Box w b) (hA : Wd w 4 g o f) (hn : g ≠ b) (hK : 0 < K) (hi : i ≤ 1000) (hi4 : 4 ≤ i) (hr : i % K ≠ 0) (h8 : ¬(K = 8 ∧ i % 8 = 4)) :
    Calls Try.prog 24 #[.pointer (some ⟨b, 0, none⟩), .slice (some ⟨g, o, none⟩) 4 4, .int .i64 (i : Int), .int .i64 (K : Int)] w fun e w' => MadeP b K i f w e w' := by
  have HE := hid (show mkw K i f = f by funext j; unfold mkw; rw [if_neg hr, if_neg h8])
  have h1 : ((i : Int) % (K : Int) == 0) = false := by rw [beq_eq_false_iff_ne]; omega
  have h0 : ¬ (K : Int) = 0 := by omega
  have h00 : ¬ K = 0 := by omega
  have HA := hid hA
  have HB := hid hB
  by_cases h : K = 8
  · subst h
    have h2 : (((i : Int) - 4) % 8 == 0) = false := by rw [beq_eq_false_iff_ne]; omega
    clear hA hB hr h8
    go_enter Try.func24, Try.ntmps24
    go_wp2
    go_ret
    exact ⟨g, o, 4, rfl, hn, by rw [HE.out]; exact HA.out, HB.out, Only.refl b w⟩
  · have h2 : ((K : Int) == 8) = false := by rw [beq_eq_false_iff_ne]; omega
    clear hA hB hr h8
    go_enter Try.func24, Try.ntmps24
    go_wp2
    go_ret
    exact ⟨g, o, 4, rfl, hn, by rw [HE.out]; exact HA.out, HB.out, Only.refl b w⟩

theorem made_any (b g o i K : Nat) (f : Nat → Nat) (w : World) (hB : Box w b) (hA : Wd w 4 g o f) (hn : g ≠ b) (hK : 4 ≤ K) (hK8 : K ≤ 8) (hi : i ≤ 1000) (hKi : K ≤ i) :
    Calls Try.prog 24 #[.pointer (some ⟨b, 0, none⟩), .slice (some ⟨g, o, none⟩) 4 4, .int .i64 (i : Int), .int .i64 (K : Int)] w fun e w' => MadeP b K i f w e w' := by
  by_cases h1 : i % K = 0
  · exact made_mark b g o i K f w hB hA hn (by omega) hK8 hi h1
  · by_cases h2 : K = 8 ∧ i % 8 = 4
    · obtain ⟨rfl, h2⟩ := h2
      exact made_sub b g o i f w hB hA hn hi h2
    · exact made_plain b g o i K f w hB hA hn (by omega) hi (by omega) h1 h2
end Go.Proofs.Ytnklljlgghenpaa
