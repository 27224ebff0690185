import Derived.Test.YthkanhhpkaigoaaProg
import Derived.Test.YthkanhhpkaigoaaAec
import Derived.Test.YthkanhhpkaigoaaKer
namespace Go.Proofs.Ythkanhhpkaigoaa
open Go.RowKit

/-- Places written so far: all of the rows above r, and of row r what comes from the columns before c. -/
def rmC (r c j : Nat) : Prop := j % 4 < r ∨ (j % 4 = r ∧ src j / 4 < c)
instance (r c j : Nat) : Decidable (rmC r c j) := inferInstanceAs (Decidable (_ ∨ _))
def rmTo (f : Nat → Nat) (r c : Nat) : Nat → Nat := fun j => if rmC r c j then f (src j) else 0
theorem rm_d1 : ∀ r < 4, ∀ c < 4, src (mvd (r + 4 * c)) = r + 4 * c ∧ rmC r (c + 1) (mvd (r + 4 * c)) := by decide
theorem rm_d2 : ∀ r < 4, ∀ c < 4, ∀ j < 16, j = mvd (r + 4 * c) ∨ (rmC r c j ↔ rmC r (c + 1) j) := by decide
theorem rm_next : ∀ r < 4, ∀ j < 16, (rmC r 4 j ↔ rmC (r + 1) 0 j) := by decide
theorem rm_zero : ∀ j < 16, ¬ rmC 0 0 j := by decide
theorem rm_all : ∀ j < 16, rmC 4 0 j := by decide
theorem rmTo_zero (f : Nat → Nat) : Eq16 (fun _ => 0) (rmTo f 0 0) := fun j hj => (if_neg (rm_zero j hj)).symm
theorem rmTo_all (f : Nat → Nat) : Eq16 (rmTo f 4 0) (shR f) := fun j hj => if_pos (rm_all j hj)
theorem rmTo_next (f : Nat → Nat) {r : Nat} (hr : r < 4) : Eq16 (rmTo f r 4) (rmTo f (r + 1) 0) := fun j hj => by
  unfold rmTo
  have := rm_next r hr j hj
  by_cases h : rmC r 4 j
  · rw [if_pos h, if_pos (this.1 h)]
  · rw [if_neg h, if_neg (fun h' => h (this.2 h'))]
theorem rmTo_step (f : Nat → Nat) {r c : Nat} (hr : r < 4) (hc : c < 4) : Eq16 (upd (rmTo f r c) (mvd (r + 4 * c)) (f (r + 4 * c))) (rmTo f r (c + 1)) := fun j hj => by
  have h1 := rm_d1 r hr c hc
  unfold upd rmTo
  by_cases e : j = mvd (r + 4 * c)
  · subst e; rw [if_pos rfl, if_pos h1.2, h1.1]
  · have h2 := (rm_d2 r hr c hc j hj).resolve_left e
    rw [if_neg e]
    by_cases h : rmC r c j
    · rw [if_pos h, if_pos (h2.1 h)]
    · rw [if_neg h, if_neg (fun h' => h (h2.2 h'))]
theorem mvd_at : ∀ r < 4, ∀ c < 4, mvd (r + 4 * c) = r + 4 * ((c + 4 - r) % 4) := by decide

set_option maxRecDepth 100000 in
set_option maxHeartbeats 800000 in
theorem refrows_any (f : Nat → Nat) (w : World) : Calls Try.prog 6 #[.agg (ba 16 f)] w fun e w' => e = .returned (.agg (ba 16 (shR f))) ∧ Below w.heap.size w w' := by
  have HS := hid (Tri.start w f)
  have HS1 := hid (HS.out.row (fun _ => 0))
  go_enter Try.func6, Try.ntmps6
  go_wp2_with (first
    | (refine step_store_ba rfl 23 (.tmp 3) (.tmp 6) rfl (w.heap.size + 2) 16 23 (fun _ => 0) (fun _ => 0) rfl rfl HS.out.var infoa ?_))
  go_loopw [4] (fun i wr => ∃ r : Nat, r ≤ 4 ∧ i = .int .i64 r ∧ Tri w wr f (rmTo f r 0)) (fun i _ => 4 - (intOf i).toNat)
  case atStart => exact ⟨0, by omega, rfl, HS1.out.ext (rmTo_zero f)⟩
  case round =>
    obtain ⟨r, hr, rfl, hI⟩ := hrel
    have HI := hid hI
    clear hI
    by_cases hlt : r < 4
    · have HRL := hid hlt
      go_wp2
      go_loopw [5] (fun i wr => ∃ c : Nat, c ≤ 4 ∧ i = .int .i64 c ∧ Tri w wr f (rmTo f r c)) (fun i _ => 4 - (intOf i).toNat)
      case atStart => exact ⟨0, by omega, rfl, HI.out⟩
      case round =>
        obtain ⟨c, hc, rfl, hJ⟩ := hrel
        have HJ := hid hJ
        clear hJ
        by_cases hlc : c < 4
        · obtain ⟨s, hs⟩ : ∃ s, c + 4 - r = s := ⟨_, rfl⟩
          obtain ⟨t, ht⟩ : ∃ t, s % 4 = t := ⟨_, rfl⟩
          obtain ⟨p, hp⟩ : ∃ p, 4 * t = p := ⟨_, rfl⟩
          obtain ⟨m, hm⟩ : ∃ m, r + p = m := ⟨_, rfl⟩
          obtain ⟨u, hu⟩ : ∃ u, 4 * c = u := ⟨_, rfl⟩
          obtain ⟨i, hi⟩ : ∃ i, r + u = i := ⟨_, rfl⟩
          have hmv : mvd i = m := by rw [← hi, ← hu, mvd_at r hlt c hlc, hs, ht, hp, hm]
          have hm16 : m < 16 := by omega
          have hi16 : i < 16 := by omega
          have HT := hid (fun z => HJ.out.set m z)
          have HE : Hid (Eq16 (upd (rmTo f r c) m (f i)) (rmTo f r (c + 1))) := hid (by have := rmTo_step f hlt hlc; rw [hu, hi, hmv] at this; exact this)
          have k1 := HJ.out.arg.cell hi16
          have k2 := HJ.out.var.cell hm16
          have kf := HJ.out.var.free m
          have w0 : IntKind.i64.wrap ((c : Int) - (r : Int)) = (c : Int) - r := by rw [IntKind.wrap_i64]; omega
          have e1 : (c : Int) - (r : Int) + 4 = (s : Int) := by omega
          have w1 : IntKind.i64.wrap (s : Int) = s := by rw [IntKind.wrap_i64]; omega
          have e2 : (s : Int) % 4 = (t : Int) := by omega
          have w2 : IntKind.i64.wrap (t : Int) = t := by rw [IntKind.wrap_i64]; omega
          have e3 : 4 * (t : Int) = (p : Int) := by omega
          have w3 : IntKind.i64.wrap (p : Int) = p := by rw [IntKind.wrap_i64]; omega
          have e4 : (r : Int) + (p : Int) = (m : Int) := by omega
          have w4 : IntKind.i64.wrap (m : Int) = m := by rw [IntKind.wrap_i64]; omega
          have e5 : 4 * (c : Int) = (u : Int) := by omega
          have w5 : IntKind.i64.wrap (u : Int) = u := by rw [IntKind.wrap_i64]; omega
          have e6 : (r : Int) + (u : Int) = (i : Int) := by omega
          have w6 : IntKind.i64.wrap (i : Int) = i := by rw [IntKind.wrap_i64]; omega
          have s0 : (0 : Int) ≤ (s : Int) := by omega
          clear hs ht hp hm hu hi hmv
          generalize rmTo f r c = g at *
          generalize f i = x at *
          go_wp2
          go_roundw
          case rel => exact ⟨c + 1, by omega, by go_num, (HT.out x).ext HE.out⟩
          case measure => simp [intOf]; omega
        · obtain rfl : c = 4 := by omega
          have HJ2 := hid (HJ.out.ext (rmTo_next f HRL.out))
          go_wp2
          go_roundw
          case rel => exact ⟨r + 1, by omega, by go_num, HJ2.out⟩
          case measure => simp [intOf]; omega
    · obtain rfl : r = 4 := by omega
      have HD := hid (HI.out.ext (rmTo_all f))
      go_wp2_with (first
        | (refine step_load_ba rfl 23 _ rfl (w.heap.size + 2) 16 23 5 _ rfl HD.out.var Try.underlying23 infoa ?_)
        | (refine step_store_ba rfl 23 _ _ rfl (w.heap.size + 1) 16 23 (fun _ => 0) _ rfl rfl HD.out.out infoa ?_))
      exact ret_ba rfl rfl Try.underlying23 infoa rfl (HD.out.done _).1 ⟨rfl, (HD.out.done _).2⟩

set_option maxRecDepth 100000 in
set_option maxHeartbeats 800000 in
theorem refbackRows_any (f : Nat → Nat) (w : World) : Calls Try.prog 10 #[.agg (ba 16 f)] w fun e w' => e = .returned (.agg (ba 16 (shB f))) ∧ Below w.heap.size w w' := by
  have HS := hid (Var.start1 w f)
  have HE := hid (row3 f)
  go_enter Try.func10, Try.ntmps10
  go_wp2_with (first
    | (refine step_load_ba rfl 23 (.tmp 1) rfl w.heap.size 16 23 5 f rfl HS.out.var Try.underlying23 infoa ?_)
    | (go_at_call 6; (with_reducible refine (refrows_any f _).mono ?_); rintro e w1 ⟨rfl, hlow⟩; have H1 := hid (HS.out.self hlow); clear hlow)
    | (go_at_call 6; (with_reducible refine (refrows_any (shR f) _).mono ?_); rintro e w2 ⟨rfl, hlow⟩; have H2 := hid (H1.out.self hlow); clear hlow)
    | (go_at_call 6; (with_reducible refine (refrows_any (shR (shR f)) _).mono ?_); rintro e w3 ⟨rfl, hlow⟩; have H3 := hid (H2.out.self hlow); clear hlow)
    | (refine step_store_ba rfl 23 (.tmp 2) (.tmp 6) rfl (w.heap.size + 1) 16 23 (fun _ => 0) (shR (shR (shR f))) rfl rfl H3.out.out infoa ?_))
  exact ret_ba rfl rfl Try.underlying23 infoa rfl (H3.out.done _).1 ⟨by rw [ba_ext HE.out], (H3.out.done _).2⟩
end Go.Proofs.Ythkanhhpkaigoaa
