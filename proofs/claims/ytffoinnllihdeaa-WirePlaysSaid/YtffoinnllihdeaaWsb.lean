import Derived.Test.YtffoinnllihdeaaWst
import Derived.Test.YtffoinnllihdeaaAcw
/- General: the machine as numbers: bounds, acts, a dry machine, a new one. No program is named. -/
namespace Go.Proofs.Ytffoinnllihdeaa

namespace Ms
/-- A dry machine that goes on from there. -/
def dryS (S : Ms) : Ms := ⟨S.n, 0, S.words, 0, 0, S.len, 0, 0, 0, fun _ => ⟨0, 0, 0, 0, 0, 0⟩, 0, fun _ => ⟨0, 0, 0⟩, fun _ => 0, fun _ => 0, 0, 0, 0, true⟩
/-- The op that an act asks for. -/
def opA (S : Ms) (a : Act8) : Op6 :=
  if a.K = 0 then a.o else if a.K = 1 then ⟨1, a.o.D, -1, -1, -1, 0⟩ else if a.K = 2 then ⟨2, 0, a.o.A, a.o.B, -1, S.words⟩
  else if a.K = 3 then ⟨3, a.o.D, -1, -1, -1, a.o.C⟩ else if a.K = 4 then ⟨4, a.o.D, -1, -1, -1, a.o.C⟩ else if a.K = 5 then ⟨a.o.K, a.o.D, a.o.A, a.o.B, -1, 0⟩
  else if a.K = 6 then ⟨a.o.K, a.o.D, a.o.A, -1, -1, a.o.C⟩ else ⟨12, -1, a.o.A, a.o.B, a.o.E, 0⟩
/-- The word that an act brings. -/
def wdA (a : Act8) : Nat := if a.K = 0 ∨ a.K = 2 then a.X else 0
/-- What an act leaves. -/
def actS (S : Ms) (a : Act8) : Ms :=
  if 0 ≤ a.K ∧ a.K ≤ 7 then S.doS (S.opA a) (wdA a) else if a.K = 8 then S.beginS a.o.K else if a.K = 9 then S.endS else S
/-- What is opened. -/
def opR (S : Ms) (o : Op6) : Nat := if S.doR o < 0 then 0 else if S.dry = true then 18446744073709551615 else (S.doS o 0).v S.len
end Ms
/-- Bounds of a machine. -/
structure Bq (k : Nat) (S : Ms) : Prop where
  len : S.len ≤ k
  M : S.M ≤ k
  words : S.words ≤ k
  draws : S.draws ≤ k
  fr : S.fr ≤ k
  used : S.used ≤ 20000000000000
  free : S.free ≤ 20000000000000
  TN : S.TN ≤ 20000000000000
  v : ∀ i, i < S.L → S.v i < 2 ^ 64
  tw : ∀ i, i < S.TN → S.tw i < 2 ^ 64
  wet : S.dry = false → S.skip = 0
  ops : ∀ i, i < S.L → opwf (S.f i)
  sps : ∀ i, i < S.M → spwf (S.g i)
  kind : 0 ≤ S.kind ∧ S.kind ≤ 3
  n : -9223372036854775808 ≤ S.n ∧ S.n ≤ 9223372036854775807
  most : -9223372036854775808 ≤ S.most ∧ S.most ≤ 9223372036854775807
  e : S.e ≤ 4
theorem Bq.mono {k k' : Nat} {S : Ms} (h : Bq k S) (hk : k ≤ k') : Bq k' S :=
  ⟨Nat.le_trans h.len hk, Nat.le_trans h.M hk, Nat.le_trans h.words hk, Nat.le_trans h.draws hk, Nat.le_trans h.fr hk, h.used, h.free, h.TN, h.v, h.tw, h.wet, h.ops, h.sps, h.kind, h.n, h.most, h.e⟩
theorem Bq.fails {k : Nat} {S : Ms} (h : Bq k S) (e : Nat) (he : e ≤ 4) : Bq k { S with e := e } :=
  ⟨h.len, h.M, h.words, h.draws, h.fr, h.used, h.free, h.TN, h.v, h.tw, h.wet, h.ops, h.sps, h.kind, h.n, h.most, he⟩
theorem wordAt_lt {v : Nat → Nat} {L : Nat} (h : ∀ i, i < L → v i < 2 ^ 64) (r : Int) : wordAt v L r < 2 ^ 64 := by
  unfold wordAt
  split
  · rename_i hr; exact h _ (by omega)
  · decide
theorem Bq.does {k : Nat} {S : Ms} (h : Bq k S) {o : Op6} {x : Nat} (ho : opwf o) (hx : x < 2 ^ 64) : Bq (k + 1) (S.doS o x) := by
  unfold Ms.doS
  split
  · exact h.mono (by omega)
  · split
    · exact (h.fails 1 (by omega)).mono (by omega)
    · split
      · exact (h.fails 3 (by omega)).mono (by omega)
      · split
        · exact (h.fails 2 (by omega)).mono (by omega)
        · rename_i _ hb hf hout
          have hw : S.word o x < 2 ^ 64 := by
            unfold Ms.word
            split
            · rename_i e
              unfold Ms.out at hout
              rw [decide_eq_true e.1, e.2, Bool.not_false, Bool.true_and, Bool.true_and] at hout
              have h2 := of_decide_eq_false (Bool.not_eq_true _ ▸ hout)
              exact h.tw _ (by omega)
            · exact hx
          have hm : S.makes o x < 2 ^ 64 := evN_lt (by have := ho.2.2.2.2.2; omega) (wordAt_lt h.v _) (wordAt_lt h.v _) (wordAt_lt h.v _) hw
          have hl := h.len
          unfold Ms.len at hl
          refine ⟨by show S.skip + (S.L + 1) ≤ k + 1; omega, Nat.le_succ_of_le h.M, ?_, ?_, Nat.le_succ_of_le h.fr, ?_, ?_, h.TN, fun i hi => ?_, h.tw, h.wet, fun i hi => ?_, h.sps, h.kind, h.n, h.most, h.e⟩
          · show (if o.K = 2 then S.words + 1 else S.words) ≤ k + 1
            have := h.words
            split <;> omega
          · show (if o.K = 1 then S.draws + 1 else S.draws) ≤ k + 1
            have := h.draws
            split <;> omega
          · show (if o.K = 1 ∧ S.dry = false then S.used + 1 else S.used) ≤ 20000000000000
            have := h.used
            split
            · rename_i e
              unfold Ms.out at hout
              rw [decide_eq_true e.1, e.2, Bool.not_false, Bool.true_and, Bool.true_and] at hout
              have h2 := of_decide_eq_false (Bool.not_eq_true _ ▸ hout)
              have := h.TN
              omega
            · exact this
          · show (if o.K = 1 ∧ S.dry = false then S.free - 1 else S.free) ≤ 20000000000000
            have := h.free
            split <;> omega
          · show updN S.v S.L (S.makes o x) i < 2 ^ 64
            have hi' : i < S.L + 1 := hi
            by_cases e : i = S.L
            · subst e; rw [updN_at]; exact hm
            · rw [updN_no _ _ e]; exact h.v i (by omega)
          · show opwf (updO S.f S.L o i)
            have hi' : i < S.L + 1 := hi
            by_cases e : i = S.L
            · subst e; rw [updO_at]; exact ho
            · rw [updO_no _ _ e]; exact h.ops i (by omega)
theorem Bq.begins {k : Nat} {S : Ms} (h : Bq k S) (kd : Int) : Bq k (S.beginS kd) := by
  unfold Ms.beginS
  split
  · exact h
  · split
    · exact h.fails 1 (by omega)
    · rename_i _ e
      exact ⟨h.len, h.M, h.words, h.draws, h.len, h.used, h.free, h.TN, h.v, h.tw, h.wet, h.ops, h.sps, by show 0 ≤ kd ∧ kd ≤ 3; omega, h.n, h.most, h.e⟩
theorem Bq.ends {k : Nat} {S : Ms} (h : Bq k S) (hk : k ≤ 1000000) : Bq (k + 1) S.endS := by
  unfold Ms.endS
  split
  · exact h.mono (by omega)
  · split
    · exact (h.fails 1 (by omega)).mono (by omega)
    · have g : Bq (k + 1) { S with kind := 0 } := ⟨Nat.le_succ_of_le h.len, Nat.le_succ_of_le h.M, Nat.le_succ_of_le h.words, Nat.le_succ_of_le h.draws, Nat.le_succ_of_le h.fr, h.used, h.free, h.TN, h.v, h.tw, h.wet, h.ops, h.sps, by show (0 : Int) ≤ 0 ∧ (0 : Int) ≤ 3; decide, h.n, h.most, h.e⟩
      split
      · refine ⟨g.len, Nat.succ_le_succ h.M, g.words, g.draws, g.fr, h.used, h.free, h.TN, h.v, h.tw, h.wet, h.ops, fun i hi => ?_, g.kind, h.n, h.most, h.e⟩
        show spwf (updS S.g S.M ⟨S.kind, (S.fr : Int), (S.len : Int)⟩ i)
        have hi' : i < S.M + 1 := hi
        by_cases e : i = S.M
        · subst e
          rw [updS_at]
          have h1 := h.kind
          have h2 := h.fr
          have h3 := h.len
          exact ⟨by show _ ≤ S.kind ∧ S.kind ≤ _; omega, by show _ ≤ (S.fr : Int) ∧ (S.fr : Int) ≤ _; omega, by show _ ≤ (S.len : Int) ∧ (S.len : Int) ≤ _; omega⟩
        · rw [updS_no _ _ e]; exact h.sps i (by omega)
      · exact g
theorem Bq.dries {k : Nat} {S : Ms} (h : Bq k S) : Bq k S.dryS := by
  refine ⟨by show S.len + 0 ≤ k; exact h.len, Nat.zero_le _, h.words, Nat.zero_le _, Nat.zero_le _, by show 0 ≤ _; omega, by show 0 ≤ _; omega, by show 0 ≤ _; omega, fun i hi => absurd hi (Nat.not_lt_zero i), fun i hi => absurd hi (Nat.not_lt_zero i), fun e => Bool.noConfusion e, fun i hi => absurd hi (Nat.not_lt_zero i), fun i hi => absurd hi (Nat.not_lt_zero i), by show (0 : Int) ≤ 0 ∧ (0 : Int) ≤ 3; decide, h.n, by show _ ≤ (0 : Int) ∧ (0 : Int) ≤ _; decide, by show 0 ≤ 4; omega⟩
theorem opA_wf {k : Nat} {S : Ms} (h : Bq k S) (hk : k ≤ 1000000) {a : Act8} (ha : acwf a) : opwf (S.opA a) := by
  obtain ⟨_, ⟨o1, o2, o3, o4, o5, o6⟩, _⟩ := ha
  have hw := h.words
  have m1 : (-9223372036854775808 : Int) ≤ -1 ∧ (-1 : Int) ≤ 9223372036854775807 := by decide
  have k1 : (-9223372036854775808 : Int) ≤ 1 ∧ (1 : Int) ≤ 9223372036854775807 := by decide
  have k2 : (-9223372036854775808 : Int) ≤ 2 ∧ (2 : Int) ≤ 9223372036854775807 := by decide
  have k0 : (-9223372036854775808 : Int) ≤ 0 ∧ (0 : Int) ≤ 9223372036854775807 := by decide
  have k3 : (-9223372036854775808 : Int) ≤ 3 ∧ (3 : Int) ≤ 9223372036854775807 := by decide
  have k4 : (-9223372036854775808 : Int) ≤ 4 ∧ (4 : Int) ≤ 9223372036854775807 := by decide
  have k12 : (-9223372036854775808 : Int) ≤ 12 ∧ (12 : Int) ≤ 9223372036854775807 := by decide
  unfold Ms.opA
  repeat' split
  · exact ⟨o1, o2, o3, o4, o5, o6⟩
  · exact ⟨k1, o2, m1, m1, m1, by show 0 < _; omega⟩
  · exact ⟨k2, k0, o3, o4, m1, by show S.words < _; omega⟩
  · exact ⟨k3, o2, m1, m1, m1, o6⟩
  · exact ⟨k4, o2, m1, m1, m1, o6⟩
  · exact ⟨o1, o2, o3, o4, m1, by show 0 < _; omega⟩
  · exact ⟨o1, o2, o3, m1, m1, o6⟩
  · exact ⟨k12, m1, o3, o4, o5, by show 0 < _; omega⟩
theorem wdA_lt {a : Act8} (ha : acwf a) : Ms.wdA a < 2 ^ 64 := by
  unfold Ms.wdA
  have := ha.2.2
  split <;> omega
theorem Bq.acts {k : Nat} {S : Ms} (h : Bq k S) (hk : k ≤ 1000000) {a : Act8} (ha : acwf a) : Bq (k + 1) (S.actS a) := by
  unfold Ms.actS
  repeat' split
  · exact h.does (opA_wf h hk ha) (wdA_lt ha)
  · exact (h.begins _).mono (by omega)
  · exact h.ends hk
  · exact h.mono (by omega)
theorem doR_yes {S : Ms} {o : Op6} (h : ¬ S.doR o < 0) : S.doR o = (S.len : Int) ∧ ∀ x, S.doS o x = S.put o x := by
  unfold Ms.doR at h ⊢
  by_cases e : S.e ≠ 0 ∨ S.bad o = true ∨ S.full = true ∨ S.out o = true
  · rw [if_pos e] at h; exact absurd (by decide) h
  · rw [if_neg e]
    refine ⟨rfl, fun x => ?_⟩
    unfold Ms.doS
    rw [if_neg (fun q => e (.inl q)), if_neg (fun q => e (.inr (.inl q))), if_neg (fun q => e (.inr (.inr (.inl q)))), if_neg (fun q => e (.inr (.inr (.inr q))))]
theorem doS_dry (S : Ms) (o : Op6) (x : Nat) : (S.doS o x).dry = S.dry := by
  unfold Ms.doS
  repeat' split
  all_goals rfl
theorem doS_n (S : Ms) (o : Op6) (x : Nat) : (S.doS o x).n = S.n := by
  unfold Ms.doS
  repeat' split
  all_goals rfl
theorem doS_tw (S : Ms) (o : Op6) (x : Nat) : (S.doS o x).tw = S.tw := by
  unfold Ms.doS
  repeat' split
  all_goals rfl
theorem doS_TN (S : Ms) (o : Op6) (x : Nat) : (S.doS o x).TN = S.TN := by
  unfold Ms.doS
  repeat' split
  all_goals rfl
theorem beginS_n (S : Ms) (k : Int) : (S.beginS k).n = S.n ∧ (S.beginS k).tw = S.tw ∧ (S.beginS k).TN = S.TN := by
  unfold Ms.beginS
  repeat' split
  all_goals exact ⟨rfl, rfl, rfl⟩
theorem endS_n (S : Ms) : S.endS.n = S.n ∧ S.endS.tw = S.tw ∧ S.endS.TN = S.TN := by
  unfold Ms.endS
  repeat' split
  all_goals exact ⟨rfl, rfl, rfl⟩
theorem doS_len (S : Ms) (o : Op6) (x : Nat) : (S.doS o x).len = if S.doR o = -1 then S.len else S.len + 1 := by
  by_cases h : S.doR o < 0
  · have e : S.doR o = -1 := by
      unfold Ms.doR at h ⊢
      split at h <;> rename_i q
      · rw [if_pos q]
      · omega
    rw [if_pos e]
    unfold Ms.doR at e
    unfold Ms.doS
    split at e
    · rename_i q
      by_cases q1 : S.e ≠ 0
      · rw [if_pos q1]
      · rw [if_neg q1]
        by_cases q2 : S.bad o = true
        · rw [if_pos q2]; rfl
        · rw [if_neg q2]
          by_cases q3 : S.full = true
          · rw [if_pos q3]; rfl
          · rw [if_neg q3, if_pos (by rcases q with q | q | q | q <;> first | exact q | contradiction)]; rfl
    · omega
  · obtain ⟨e1, e2⟩ := doR_yes h
    rw [if_neg (by omega), e2 x]
    show S.skip + (S.L + 1) = S.skip + S.L + 1
    omega
end Go.Proofs.Ytffoinnllihdeaa
