import Derived.Test.YthhkhcacljgelaaGreatProg
import Derived.Test.YthhkhcacljgelaaGreatAes
import Derived.Test.YthhkhcacljgelaaGreatKer
set_option maxRecDepth 100000
namespace Go.Proofs.YthhkhcacljgelaaGreat
open Go.RowKit

/-- The document's way back, bit by bit. -/
def usum (y i : Nat) : Nat := 5 / 2 ^ i % 2 + y / 2 ^ ((i + 2) % 8) + y / 2 ^ ((i + 5) % 8) + y / 2 ^ ((i + 7) % 8)
def uout (y : Nat) : Nat → Nat
  | 0 => 0
  | i + 1 => uout y i + usum y i % 2 * 2 ^ i
theorem uout_lt (y : Nat) : ∀ i, uout y i < 2 ^ i
  | 0 => Nat.one_pos
  | i + 1 => by
    unfold uout
    have := uout_lt y i
    have h2 : usum y i % 2 ≤ 1 := by omega
    have h3 : usum y i % 2 * 2 ^ i ≤ 1 * 2 ^ i := Nat.mul_le_mul_right _ h2
    rw [Nat.pow_succ]; omega
theorem uout_bend : ∀ y < 256, ap bend (uout y 8) = y ^^^ 99 := by decide +kernel
theorem uout_all {y : Nat} (hy : y < 256) : pw (uout y 8) 254 = bk y := by
  have h8 : uout y 8 < 256 := uout_lt y 8
  have hz := pw_lt h8 254
  have e := bk_sb hz
  rw [show sb (pw (uout y 8) 254) = y by unfold sb; rw [pw_pw_all _ h8, uout_bend y hy, xor_back]] at e
  exact e.symm

end Go.Proofs.YthhkhcacljgelaaGreat

namespace Go.Proofs.YthhkhcacljgelaaGreat
open Go.RowKit

set_option maxRecDepth 100000 in
set_option maxHeartbeats 800000 in
theorem refadd_any (f k : Nat → Nat) (g o c : Nat) (w : World) (hf : B16 f) (hk : Wd w 16 g o k) :
    Calls Tryz.prog 54 #[.agg (ba 16 f), .slice (some ⟨g, o, none⟩) 16 c] w fun e w' => e = .returned (.agg (ba 16 (addF f k))) ∧ Below w.heap.size w w' := by
  have HS := hid (Var.start1 w f)
  have HF := hid hf
  have HK := hid hk
  clear hf hk
  go_enter Tryz.func54, Tryz.ntmps54
  go_wp2
  go_loopw [5] (fun i wr => ∃ j : Nat, j ≤ 16 ∧ i = .int .i64 j ∧ Var 1 w wr (mkTo (addF f k) f j)) (fun i _ => 16 - (intOf i).toNat)
  case atStart => exact ⟨0, by omega, rfl, HS.out.ext (mkTo_zero _ _)⟩
  case round =>
    obtain ⟨j, hj, rfl, hI⟩ := hrel
    have HI := hid hI
    clear hI
    by_cases hlt : j < 16
    · have HT := hid (fun z => HI.out.drew.set (by decide) j z)
      have HE := hid (fun (z : Nat) (hz : addF f k j = z) => mkTo_step (addF f k) f hz)
      have hc := HI.out.drew.var.cell hlt
      rw [mkTo_at] at hc
      have hfz := HI.out.drew.var.free j
      have hk1 := (HK.out.self HI.out.drew.low).cell j hlt
      have HX := hid (xor8 (HF.out j hlt) (HK.out.byte j hlt))
      have HV : Hid (addF f k j = f j ^^^ k j) := hid rfl
      have j0 : (0 : Int) ≤ (j : Int) := by omega
      have j1 : (j : Int) < 16 := by omega
      generalize mkTo (addF f k) f j = G at *
      generalize f j = x at *
      generalize k j = y at *
      go_wp2
      refine region_tail 10 (by kernel_rfl) (by kernel_rfl) ?_
      simp only [List.take_succ_cons, List.take_zero, List.drop_succ_cons, List.drop_zero]
      generalize wr.drew = w2 at *
      repeat still_step
      refine wpStill_nil ?_
      go_wp2
      go_roundw
      case rel => exact ⟨j + 1, by omega, by go_num, by rw [HX.out]; exact (HT.out _).ext (HE.out _ HV.out)⟩
      case measure => simp [intOf]; omega
    · obtain rfl : j = 16 := by omega
      have HD := hid (HI.out.ext (mkTo_all _ _))
      go_wp2_with (first
        | (refine step_load_ba rfl 48 _ rfl w.heap.size 16 48 5 _ rfl HD.out.var Tryz.underlying48 infoa ?_)
        | (refine step_store_ba rfl 48 _ _ rfl (w.heap.size + 1) 16 48 (fun _ => 0) _ rfl rfl HD.out.out infoa ?_))
      exact ret_ba rfl rfl Tryz.underlying48 infoa rfl (HD.out.done _).1 ⟨rfl, (HD.out.done _).2⟩

set_option maxRecDepth 100000 in
set_option maxHeartbeats 800000 in
theorem refsub16_any (f : Nat → Nat) (w : World) (hf : B16 f) : Calls Tryz.prog 57 #[.agg (ba 16 f)] w fun e w' => e = .returned (.agg (ba 16 (subF f))) ∧ Below w.heap.size w w' := by
  have HS := hid (Var.start1 w f)
  have HF := hid hf
  clear hf
  go_enter Tryz.func57, Tryz.ntmps57
  go_wp2
  go_loopw [3] (fun i wr => ∃ j : Nat, j ≤ 16 ∧ i = .int .i64 j ∧ Var 1 w wr (mkTo (subF f) f j)) (fun i _ => 16 - (intOf i).toNat)
  case atStart => exact ⟨0, by omega, rfl, HS.out.ext (mkTo_zero _ _)⟩
  case round =>
    obtain ⟨j, hj, rfl, hI⟩ := hrel
    have HI := hid hI
    clear hI
    by_cases hlt : j < 16
    · have HT := hid (fun z => HI.out.set (by decide) j z)
      have HE := hid (fun (z : Nat) (hz : subF f j = z) => mkTo_step (subF f) f hz)
      have hc := HI.out.var.cell hlt
      rw [mkTo_at] at hc
      have hfz := HI.out.var.free j
      have HV : Hid (subF f j = sb (f j)) := hid rfl
      have HC := hid (fun w => refsub_any (f j) w (HF.out j hlt))
      generalize mkTo (subF f) f j = G at *
      generalize sb (f j) = z at *
      generalize f j = x at *
      go_wp2_with (first | (go_at_call 69; (with_reducible refine (HC.out _).mono ?_); rintro e w1 ⟨rfl, rfl⟩))
      go_roundw
      case rel => exact ⟨j + 1, by omega, by go_num, (HT.out _).ext (HE.out _ HV.out)⟩
      case measure => simp [intOf]; omega
    · obtain rfl : j = 16 := by omega
      have HD := hid (HI.out.ext (mkTo_all _ _))
      go_wp2_with (first
        | (refine step_load_ba rfl 48 _ rfl w.heap.size 16 48 5 _ rfl HD.out.var Tryz.underlying48 infoa ?_)
        | (refine step_store_ba rfl 48 _ _ rfl (w.heap.size + 1) 16 48 (fun _ => 0) _ rfl rfl HD.out.out infoa ?_))
      exact ret_ba rfl rfl Tryz.underlying48 infoa rfl (HD.out.done _).1 ⟨rfl, (HD.out.done _).2⟩

end Go.Proofs.YthhkhcacljgelaaGreat

namespace Go.Proofs.YthhkhcacljgelaaGreat
open Go.RowKit

/-- Places written so far: all of the rows above r, and of row r what comes from the columns before c. -/
def rmC (r c j : Nat) : Prop := j % 4 < r ∨ (j % 4 = r ∧ src j / 4 < c)
instance (r c j : Nat) : Decidable (rmC r c j) := inferInstanceAs (Decidable (_ ∨ _))
def rmTo (f : Nat → Nat) (r c : Nat) : Nat → Nat := fun j => if rmC r c j then f (src j) else 0
theorem rm_d1 : ∀ r < 4, ∀ c < 4, src (mvd (r + 4 * c)) = r + 4 * c ∧ rmC r (c + 1) (mvd (r + 4 * c)) := by decide
theorem rm_d2 : ∀ r < 4, ∀ c < 4, ∀ j < 16, j = mvd (r + 4 * c) ∨ (rmC r c j ↔ rmC r (c + 1) j) := by decide
theorem rm_next : ∀ r < 4, ∀ j < 16, (rmC r 4 j ↔ rmC (r + 1) 0 j) := by decide
theorem rm_zero : ∀ j < 16, ¬ rmC 0 0 j := by decide
theorem rm_all : ∀ j < 16, rmC 4 0 j := by decide
theorem rmTo_zero (f : Nat → Nat) : Eq16 (fun _ => 0) (rmTo f 0 0) := fun j hj => (if_neg (rm_zero j hj)).symm
theorem rmTo_all (f : Nat → Nat) : Eq16 (rmTo f 4 0) (shR f) := fun j hj => if_pos (rm_all j hj)
theorem rmTo_next (f : Nat → Nat) {r : Nat} (hr : r < 4) : Eq16 (rmTo f r 4) (rmTo f (r + 1) 0) := fun j hj => by
  unfold rmTo
  have := rm_next r hr j hj
  by_cases h : rmC r 4 j
  · rw [if_pos h, if_pos (this.1 h)]
  · rw [if_neg h, if_neg (fun h' => h (this.2 h'))]
theorem rmTo_step (f : Nat → Nat) {r c : Nat} (hr : r < 4) (hc : c < 4) : Eq16 (upd (rmTo f r c) (mvd (r + 4 * c)) (f (r + 4 * c))) (rmTo f r (c + 1)) := fun j hj => by
  have h1 := rm_d1 r hr c hc
  unfold upd rmTo
  by_cases e : j = mvd (r + 4 * c)
  · subst e; rw [if_pos rfl, if_pos h1.2, h1.1]
  · have h2 := (rm_d2 r hr c hc j hj).resolve_left e
    rw [if_neg e]
    by_cases h : rmC r c j
    · rw [if_pos h, if_pos (h2.1 h)]
    · rw [if_neg h, if_neg (fun h' => h (h2.2 h'))]
theorem mvd_at : ∀ r < 4, ∀ c < 4, mvd (r + 4 * c) = r + 4 * ((c + 4 - r) % 4) := by decide

set_option maxRecDepth 100000 in
set_option maxHeartbeats 800000 in
theorem refrows_any (f : Nat → Nat) (w : World) : Calls Tryz.prog 56 #[.agg (ba 16 f)] w fun e w' => e = .returned (.agg (ba 16 (shR f))) ∧ Below w.heap.size w w' := by
  have HS := hid (Tri.start w f)
  have HS1 := hid (HS.out.row (fun _ => 0))
  go_enter Tryz.func56, Tryz.ntmps56
  go_wp2_with (first
    | (refine step_store_ba rfl 48 (.tmp 3) (.tmp 6) rfl (w.heap.size + 2) 16 48 (fun _ => 0) (fun _ => 0) rfl rfl HS.out.var infoa ?_))
  go_loopw [4] (fun i wr => ∃ r : Nat, r ≤ 4 ∧ i = .int .i64 r ∧ Tri w wr f (rmTo f r 0)) (fun i _ => 4 - (intOf i).toNat)
  case atStart => exact ⟨0, by omega, rfl, HS1.out.ext (rmTo_zero f)⟩
  case round =>
    obtain ⟨r, hr, rfl, hI⟩ := hrel
    have HI := hid hI
    clear hI
    by_cases hlt : r < 4
    · have HRL := hid hlt
      go_wp2
      go_loopw [5] (fun i wr => ∃ c : Nat, c ≤ 4 ∧ i = .int .i64 c ∧ Tri w wr f (rmTo f r c)) (fun i _ => 4 - (intOf i).toNat)
      case atStart => exact ⟨0, by omega, rfl, HI.out⟩
      case round =>
        obtain ⟨c, hc, rfl, hJ⟩ := hrel
        have HJ := hid hJ
        clear hJ
        by_cases hlc : c < 4
        · obtain ⟨s, hs⟩ : ∃ s, c + 4 - r = s := ⟨_, rfl⟩
          obtain ⟨t, ht⟩ : ∃ t, s % 4 = t := ⟨_, rfl⟩
          obtain ⟨p, hp⟩ : ∃ p, 4 * t = p := ⟨_, rfl⟩
          obtain ⟨m, hm⟩ : ∃ m, r + p = m := ⟨_, rfl⟩
          obtain ⟨u, hu⟩ : ∃ u, 4 * c = u := ⟨_, rfl⟩
          obtain ⟨i, hi⟩ : ∃ i, r + u = i := ⟨_, rfl⟩
          have hmv : mvd i = m := by rw [← hi, ← hu, mvd_at r hlt c hlc, hs, ht, hp, hm]
          have hm16 : m < 16 := by omega
          have hi16 : i < 16 := by omega
          have HT := hid (fun z => HJ.out.set m z)
          have HE : Hid (Eq16 (upd (rmTo f r c) m (f i)) (rmTo f r (c + 1))) := hid (by have := rmTo_step f hlt hlc; rw [hu, hi, hmv] at this; exact this)
          have k1 := HJ.out.arg.cell hi16
          have k2 := HJ.out.var.cell hm16
          have kf := HJ.out.var.free m
          have w0 : IntKind.i64.wrap ((c : Int) - (r : Int)) = (c : Int) - r := by rw [IntKind.wrap_i64]; omega
          have e1 : (c : Int) - (r : Int) + 4 = (s : Int) := by omega
          have w1 : IntKind.i64.wrap (s : Int) = s := by rw [IntKind.wrap_i64]; omega
          have e2 : (s : Int) % 4 = (t : Int) := by omega
          have w2 : IntKind.i64.wrap (t : Int) = t := by rw [IntKind.wrap_i64]; omega
          have e3 : 4 * (t : Int) = (p : Int) := by omega
          have w3 : IntKind.i64.wrap (p : Int) = p := by rw [IntKind.wrap_i64]; omega
          have e4 : (r : Int) + (p : Int) = (m : Int) := by omega
          have w4 : IntKind.i64.wrap (m : Int) = m := by rw [IntKind.wrap_i64]; omega
          have e5 : 4 * (c : Int) = (u : Int) := by omega
          have w5 : IntKind.i64.wrap (u : Int) = u := by rw [IntKind.wrap_i64]; omega
          have e6 : (r : Int) + (u : Int) = (i : Int) := by omega
          have w6 : IntKind.i64.wrap (i : Int) = i := by rw [IntKind.wrap_i64]; omega
          have s0 : (0 : Int) ≤ (s : Int) := by omega
          clear hs ht hp hm hu hi hmv
          generalize rmTo f r c = g at *
          generalize f i = x at *
          go_wp2
          go_roundw
          case rel => exact ⟨c + 1, by omega, by go_num, (HT.out x).ext HE.out⟩
          case measure => simp [intOf]; omega
        · obtain rfl : c = 4 := by omega
          have HJ2 := hid (HJ.out.ext (rmTo_next f HRL.out))
          go_wp2
          go_roundw
          case rel => exact ⟨r + 1, by omega, by go_num, HJ2.out⟩
          case measure => simp [intOf]; omega
    · obtain rfl : r = 4 := by omega
      have HD := hid (HI.out.ext (rmTo_all f))
      go_wp2_with (first
        | (refine step_load_ba rfl 48 _ rfl (w.heap.size + 2) 16 48 5 _ rfl HD.out.var Tryz.underlying48 infoa ?_)
        | (refine step_store_ba rfl 48 _ _ rfl (w.heap.size + 1) 16 48 (fun _ => 0) _ rfl rfl HD.out.out infoa ?_))
      exact ret_ba rfl rfl Tryz.underlying48 infoa rfl (HD.out.done _).1 ⟨rfl, (HD.out.done _).2⟩

end Go.Proofs.YthhkhcacljgelaaGreat

namespace Go.Proofs.YthhkhcacljgelaaGreat
open Go.RowKit

set_option maxRecDepth 100000 in
set_option maxHeartbeats 3200000 in
theorem refcolumns16_any (f : Nat → Nat) (w : World) (h : B16 f) : Calls Tryz.prog 55 #[.agg (ba 16 f)] w fun e w' => e = .returned (.agg (ba 16 (mxC f))) ∧ Below w.heap.size w w' := by
  have HS := hid (Tri.start w f)
  have HS1 := hid (HS.out.row (fun _ => 0))
  have HF := hid h
  have HDC := hid (fun i (hi : i < 16) => doc_col h hi)
  clear h
  go_enter Tryz.func55, Tryz.ntmps55
  go_wp2_with (first
    | (refine step_store_ba rfl 48 (.tmp 3) (.tmp 6) rfl (w.heap.size + 2) 16 48 (fun _ => 0) (fun _ => 0) rfl rfl HS.out.var infoa ?_))
  go_loopw [4] (fun i wr => ∃ r : Nat, r ≤ 16 ∧ i = .int .i64 r ∧ Tri w wr f (upF (mxC f) r)) (fun i _ => 16 - (intOf i).toNat)
  case atStart => exact ⟨0, by omega, rfl, HS1.out.ext (upF_zero _)⟩
  case round =>
    obtain ⟨i, hr, rfl, hI⟩ := hrel
    have HI := hid hI
    clear hI
    by_cases hlt : i < 16
    · obtain ⟨q, hq⟩ : ∃ q, i / 4 = q := ⟨_, rfl⟩
      obtain ⟨c, hc⟩ : ∃ c, q * 4 = c := ⟨_, rfl⟩
      have hci : i - i % 4 = c := by omega
      have HT := hid (fun z => HI.out.drew.set i z)
      have HE := hid (fun (z : Nat) (hz : mxC f i = z) => upF_step (mxC f) hz)
      have HV := hid (HDC.out i hlt)
      have kd := HI.out.drew.var.cell hlt
      have kf := HI.out.drew.var.free i
      have k0 := HI.out.drew.arg.cell hlt
      have l0 := HF.out i hlt
      have e1 : (i : Int) / 4 = (q : Int) := by omega
      have w1 : IntKind.i64.wrap (q : Int) = q := by rw [IntKind.wrap_i64]; omega
      have e2 : (q : Int) * 4 = (c : Int) := by omega
      have w2 : IntKind.i64.wrap (c : Int) = c := by rw [IntKind.wrap_i64]; omega
      obtain ⟨s1, hs1⟩ : ∃ s, i + 1 = s := ⟨_, rfl⟩
      obtain ⟨t1, ht1⟩ : ∃ t, s1 % 4 = t := ⟨_, rfl⟩
      obtain ⟨a1, ha1⟩ : ∃ a, c + t1 = a := ⟨_, rfl⟩
      have hn1 : nb i 1 = a1 := by unfold nb; rw [hci, hs1, ht1, ha1]
      have m1 : a1 < 16 := by omega
      have k1 := HI.out.drew.arg.cell m1
      have l1 := HF.out _ m1
      have f1 : (i : Int) + 1 = (s1 : Int) := by omega
      have v1 : IntKind.i64.wrap (s1 : Int) = s1 := by rw [IntKind.wrap_i64]; omega
      have g1 : (s1 : Int) % 4 = (t1 : Int) := by omega
      have gt1 : (s1 : Int).tmod 4 = (t1 : Int) := by rw [Int.tmod_eq_emod_of_nonneg (Int.natCast_nonneg _)]; omega
      have u1 : IntKind.i64.wrap (t1 : Int) = t1 := by rw [IntKind.wrap_i64]; omega
      have j1 : (c : Int) + (t1 : Int) = (a1 : Int) := by omega
      have x1 : IntKind.i64.wrap (a1 : Int) = a1 := by rw [IntKind.wrap_i64]; omega
      have y1 : (a1 : Int) < 16 := by omega
      have z1 : (0 : Int) ≤ (a1 : Int) := by omega
      obtain ⟨s2, hs2⟩ : ∃ s, i + 2 = s := ⟨_, rfl⟩
      obtain ⟨t2, ht2⟩ : ∃ t, s2 % 4 = t := ⟨_, rfl⟩
      obtain ⟨a2, ha2⟩ : ∃ a, c + t2 = a := ⟨_, rfl⟩
      have hn2 : nb i 2 = a2 := by unfold nb; rw [hci, hs2, ht2, ha2]
      have m2 : a2 < 16 := by omega
      have k2 := HI.out.drew.arg.cell m2
      have l2 := HF.out _ m2
      have f2 : (i : Int) + 2 = (s2 : Int) := by omega
      have v2 : IntKind.i64.wrap (s2 : Int) = s2 := by rw [IntKind.wrap_i64]; omega
      have g2 : (s2 : Int) % 4 = (t2 : Int) := by omega
      have gt2 : (s2 : Int).tmod 4 = (t2 : Int) := by rw [Int.tmod_eq_emod_of_nonneg (Int.natCast_nonneg _)]; omega
      have u2 : IntKind.i64.wrap (t2 : Int) = t2 := by rw [IntKind.wrap_i64]; omega
      have j2 : (c : Int) + (t2 : Int) = (a2 : Int) := by omega
      have x2 : IntKind.i64.wrap (a2 : Int) = a2 := by rw [IntKind.wrap_i64]; omega
      have y2 : (a2 : Int) < 16 := by omega
      have z2 : (0 : Int) ≤ (a2 : Int) := by omega
      obtain ⟨s3, hs3⟩ : ∃ s, i + 3 = s := ⟨_, rfl⟩
      obtain ⟨t3, ht3⟩ : ∃ t, s3 % 4 = t := ⟨_, rfl⟩
      obtain ⟨a3, ha3⟩ : ∃ a, c + t3 = a := ⟨_, rfl⟩
      have hn3 : nb i 3 = a3 := by unfold nb; rw [hci, hs3, ht3, ha3]
      have m3 : a3 < 16 := by omega
      have k3 := HI.out.drew.arg.cell m3
      have l3 := HF.out _ m3
      have f3 : (i : Int) + 3 = (s3 : Int) := by omega
      have v3 : IntKind.i64.wrap (s3 : Int) = s3 := by rw [IntKind.wrap_i64]; omega
      have g3 : (s3 : Int) % 4 = (t3 : Int) := by omega
      have gt3 : (s3 : Int).tmod 4 = (t3 : Int) := by rw [Int.tmod_eq_emod_of_nonneg (Int.natCast_nonneg _)]; omega
      have u3 : IntKind.i64.wrap (t3 : Int) = t3 := by rw [IntKind.wrap_i64]; omega
      have j3 : (c : Int) + (t3 : Int) = (a3 : Int) := by omega
      have x3 : IntKind.i64.wrap (a3 : Int) = a3 := by rw [IntKind.wrap_i64]; omega
      have y3 : (a3 : Int) < 16 := by omega
      have z3 : (0 : Int) ≤ (a3 : Int) := by omega
      rw [hn1, hn2, hn3] at HV
      clear hq hc hci hs1 ht1 ha1 hn1 hs2 ht2 ha2 hn2 hs3 ht3 ha3 hn3
      have i0 : (0 : Int) ≤ (i : Int) := by omega
      have i1 : (i : Int) < 16 := by omega
      generalize hMX : mxC f i = M at HV HE
      have HM := hid hMX
      clear hMX
      generalize f i = p0 at *
      generalize f a1 = p1 at *
      generalize f a2 = p2 at *
      generalize f a3 = p3 at *
      generalize upF (mxC f) i = G at *
      have HC0 : Hid (∀ w, Calls Tryz.prog 68 #[.int .u8 2, .int .u8 (p0 : Int)] w fun e w' => e = .returned (.int .u8 (gm 2 p0 : Nat)) ∧ w' = w) := hid (fun w => refmul_any 2 p0 w (by decide) l0)
      have b0 : gm 2 p0 < 256 := gm_lt (by decide)
      have HC1 : Hid (∀ w, Calls Tryz.prog 68 #[.int .u8 3, .int .u8 (p1 : Int)] w fun e w' => e = .returned (.int .u8 (gm 3 p1 : Nat)) ∧ w' = w) := hid (fun w => refmul_any 3 p1 w (by decide) l1)
      have b1 : gm 3 p1 < 256 := gm_lt (by decide)
      have HR : Hid (bits .xor .u8 (bits .xor .u8 (bits .xor .u8 ((((gm 2 p0) : Nat) : Int)) (((gm 3 p1) : Nat) : Int)) ((p2 : Nat) : Int)) ((p3 : Nat) : Int) = ((M : Nat) : Int)) := hid (by rw [xor8 b0 b1, xor8 (xor_lt b0 b1) l2, xor8 (xor_lt (xor_lt b0 b1) l2) l3, HV.out])
      generalize gm 2 p0 = r0 at *
      generalize gm 3 p1 = r1 at *
      clear l0 l1 l2 l3 b0 b1 m1 m2 m3 HV
      go_wp2
      refine region_tail 31 (by kernel_rfl) (by kernel_rfl) ?_
      simp only [List.take_succ_cons, List.take_zero, List.drop_succ_cons, List.drop_zero]
      generalize wr.drew = w9 at *
      repeat still_step
      still_call (HC0.out _)
      repeat still_step
      still_call (HC1.out _)
      repeat still_step
      refine wpStill_nil ?_
      clear k0 k1 k2 k3
      go_wp2
      go_roundw
      case rel => exact ⟨i + 1, by omega, by go_num, by rw [HR.out]; exact (HT.out _).ext (HE.out _ rfl)⟩
      case measure => simp [intOf]; omega
    · obtain rfl : i = 16 := by omega
      have HD := hid (HI.out.ext (upF_all _))
      go_wp2_with (first
        | (refine step_load_ba rfl 48 _ rfl (w.heap.size + 2) 16 48 5 _ rfl HD.out.var Tryz.underlying48 infoa ?_)
        | (refine step_store_ba rfl 48 _ _ rfl (w.heap.size + 1) 16 48 (fun _ => 0) _ rfl rfl HD.out.out infoa ?_))
      exact ret_ba rfl rfl Tryz.underlying48 infoa rfl (HD.out.done _).1 ⟨rfl, (HD.out.done _).2⟩

end Go.Proofs.YthhkhcacljgelaaGreat

namespace Go.Proofs.YthhkhcacljgelaaGreat
open Go.RowKit

/-- The document's cipher at work: the block in its variable, the result's block, the round keys. -/
structure RI (w wr : World) (c R1 : Nat) (gs cs : Nat → Nat) (Y : Nat → Nat → Nat) (g : Nat → Nat) : Prop where
  var : At wr w.heap.size 16 48 g
  out : At wr (w.heap.size + 1) 16 48 (fun _ => 0)
  list : RL wr c R1 16 gs (fun _ => 0) cs Y
  low : Below w.heap.size w wr
  lt : 0 < R1
  far : ∀ i, i < R1 → w.heap.size + 2 ≤ gs i
section
variable {w wr w1 : World} {c R1 n : Nat} {gs cs : Nat → Nat} {Y : Nat → Nat → Nat} {g g' k : Nat → Nat}
theorem RI.ne (h : RI w wr c R1 gs cs Y g) : c ≠ w.heap.size ∧ c ≠ w.heap.size + 1 := by
  have h0 := h.list.cell 0 h.lt
  refine ⟨fun e => ?_, fun e => ?_⟩
  · subst e
    have := h.var.cell (show 0 < 16 by decide)
    rw [h0] at this
    simp at this
  · subst e
    have := h.out.cell (show 0 < 16 by decide)
    rw [h0] at this
    simp at this
theorem RI.self (h : RI w wr c R1 gs cs Y g) (hb : Below wr.heap.size wr w1) : RI w w1 c R1 gs cs Y g :=
  ⟨h.var.self hb, h.out.self hb, h.list.self hb, h.low.trans (hb.mono h.low.size), h.lt, h.far⟩
theorem RI.drew (h : RI w wr c R1 gs cs Y g) : RI w wr.drew c R1 gs cs Y g := ⟨h.var.drew, h.out.drew, h.list.drew, h.low.drew, h.lt, h.far⟩
theorem RI.ext (h : RI w wr c R1 gs cs Y g) (e : Eq16 g g') : RI w wr c R1 gs cs Y g' := ⟨h.var.ext e, h.out, h.list, h.low, h.lt, h.far⟩
theorem RL.setRow (h : RL wr c R1 16 gs (fun _ => 0) cs Y) {n : Nat} (hc : c ≠ n) (hg : ∀ i, i < R1 → gs i ≠ n) (x : Array Value) : RL (wr.setRow n x) c R1 16 gs (fun _ => 0) cs Y :=
  ⟨by simpa using h.lt, fun i hi => (World.cell?_of_block (w := wr) (setRow_other wr n c x hc)).trans (h.cell i hi), fun i hi => (h.each i hi).same (by simp) (setRow_other wr n (gs i) x (hg i hi))⟩
theorem RI.row (h : RI w wr c R1 gs cs Y g) (g' : Nat → Nat) : RI w (wr.setRow w.heap.size (ba 16 g')) c R1 gs cs Y g' :=
  ⟨h.var.row g', h.out.rowApart (by omega) _, RL.setRow h.list h.ne.1 (fun i hi => by have := h.far i hi; omega) _, below_setRow h.low (by omega) _, h.lt, h.far⟩
theorem RI.done (h : RI w wr c R1 gs cs Y g) (k : Nat → Nat) :
    At (wr.setRow (w.heap.size + 1) (ba 16 k)) (w.heap.size + 1) 16 48 k ∧ Below w.heap.size w (wr.setRow (w.heap.size + 1) (ba 16 k)) :=
  ⟨h.out.row k, below_setRow h.low (by omega) _⟩
end
/-- What the document's Expand gives. -/
def ExpD (v : Value) (R1 : Nat) (Y : Nat → Nat → Nat) (w : World) : Prop :=
  Calls Tryz.prog 53 #[v] w fun e w' => ∃ c cap gs cs, e = .returned (.tuple #[.slice (some ⟨c, 0, none⟩) R1 cap, .int .i64 0]) ∧ RL w' c R1 16 gs (fun _ => 0) cs Y ∧ (∀ i, i < R1 → w.heap.size ≤ gs i) ∧ Below w.heap.size w w'

set_option maxRecDepth 100000 in
set_option maxHeartbeats 3200000 in
theorem refblock_any (v : Value) (R R1 : Nat) (Y : Nat → Nat → Nat) (f : Nat → Nat) (w : World) (hR1 : R1 = R + 1) (hR : 0 < R) (hl : R ≤ 1000) (hf : B16 f) (hY : YB Y R) (h : ∀ w', Below w.heap.size w w' → ExpD v R1 Y w') :
    Calls Tryz.prog 35 #[v, .agg (ba 16 f)] w fun e w' => e = .returned (.agg (ba 16 (blkF Y R f))) ∧ Below w.heap.size w w' := by
  have HS := hid (Var.start1 w f)
  have HR1 : Hid (R1 = R + 1 ∧ 0 < R ∧ R ≤ 1000) := hid ⟨hR1, hR, hl⟩
  have HYb : Hid (∀ r, r < R1 → B16 (Y r)) := hid (fun r hr => hY r (by omega))
  have HX : Hid (ExpD v R1 Y ((w.alloc (.cells (ba 16 f) 48)).alloc (.cells #[.int .u8 0, .int .u8 0, .int .u8 0, .int .u8 0, .int .u8 0, .int .u8 0, .int .u8 0, .int .u8 0, .int .u8 0, .int .u8 0, .int .u8 0, .int .u8 0, .int .u8 0, .int .u8 0, .int .u8 0, .int .u8 0] 48))) := hid (h _ HS.out.low)
  have HE : Hid (∀ n, n ≤ R1 → B16 (enc Y R f n)) := hid (fun n hn => enc_b hY hf n (by omega))
  have HN0 : Hid (enc Y R f 1 = addF f (Y 0)) := hid rfl
  have HN : Hid (∀ r, 0 < r → r < R → enc Y R f (r + 1) = addF (mxC (shR (subF (enc Y R f r)))) (Y r)) := hid (fun r h0 h1 => by show encR Y R r (enc Y R f r) = _; unfold encR; rw [if_neg (by omega), if_pos h1])
  have HZ : Hid (blkF Y R f = addF (shR (subF (enc Y R f R))) (Y R)) := hid (by show encR Y R R (enc Y R f R) = _; unfold encR; rw [if_neg (by omega), if_neg (by omega)])
  have HFb := hid hf
  generalize enc Y R f = E at *
  generalize blkF Y R f = Z at *
  unfold ExpD at HX
  clear hf hY h hR1 hR hl
  go_enter Tryz.func35, Tryz.ntmps35
  go_wp2_with (first
    | (go_at_call 53; (with_reducible refine HX.out.mono ?_); rintro e w1 ⟨c, cap, gs, cs, rfl, hrl, hfr, hlow⟩; have HI : Hid (RI w w1 c R1 gs cs Y f) := hid ⟨HS.out.var.self hlow, HS.out.out.self hlow, hrl, HS.out.low.trans (hlow.mono HS.out.low.size), by have := HR1.out; omega, fun i hi => by have := hfr i hi; simpa using this⟩; clear hrl hfr hlow))
  have HR0 := hid (show (0 : Nat) < R1 by have := HR1.out; omega)
  have HD := hid HI.out.drew
  have hc0 : w1.drew.cell? ⟨c, 0, none⟩ = some (.slice (some ⟨gs 0, 0, none⟩) 16 (cs 0)) := HD.out.list.cell 0 HR0.out
  have HAY := hid (HD.out.list.each 0 HR0.out)
  have hp0 := HR0.out
  refine region_tail 4 (by kernel_rfl) (by kernel_rfl) ?_
  simp only [List.take_succ_cons, List.take_zero, List.drop_succ_cons, List.drop_zero]
  generalize w1.drew = w2 at *
  refine still_load_mid rfl 48 (.tmp 3) rfl w.heap.size 0 16 f 5 rfl HD.out.var.range Tryz.underlying48 infoa ?_
  repeat still_step
  refine wpStill_nil ?_
  clear hc0
  go_wp2_with (first
    | (go_at_call 54; (with_reducible refine (refadd_any f (Y 0) (gs 0) 0 (cs 0) _ HFb.out HAY.out).mono ?_); rintro e w3 ⟨rfl, hlow⟩; have HD3 := hid (HD.out.self hlow); clear hlow)
    | (refine step_store_ba rfl 48 (.tmp 3) (.tmp 20) rfl w.heap.size 16 48 f (addF f (Y 0)) rfl rfl HD3.out.var infoa ?_; have HD4 := hid (HD3.out.row (addF f (Y 0)))))
  have HRR : Hid ((R1 : Int) - 1 = (R : Int) ∧ IntKind.i64.wrap (R : Int) = R) := hid ⟨by have := HR1.out; omega, by have := HR1.out; rw [IntKind.wrap_i64]; omega⟩
  clear HD HD3 HI HAY hp0
  go_loopw [7] (fun i wr => ∃ r : Nat, 1 ≤ r ∧ r ≤ R ∧ i = .int .i64 r ∧ RI w wr c R1 gs cs Y (E r)) (fun i _ => R - (intOf i).toNat)
  case atStart => exact ⟨1, by omega, by have := HR1.out; omega, rfl, by rw [HN0.out]; exact HD4.out⟩
  case round =>
    obtain ⟨r, hr0, hr, rfl, hI⟩ := hrel
    have HI := hid hI
    clear hI HD4
    have e1 := HRR.out.1
    have e2 := HRR.out.2
    by_cases hlt : r < R
    · have c1 : (r : Int) < (R : Int) := by omega
      have HRL := hid (show r < R1 by have := HR1.out; omega)
      have HEb := hid (HE.out r (by have := HR1.out; omega))
      have HYr := hid (HYb.out r HRL.out)
      have HNr := hid (HN.out r (by omega) hlt)
      have hle : R ≤ 1000 := HR1.out.2.2
      generalize hg' : E (r + 1) = g' at HNr
      have HG' := hid hg'
      clear hg'
      generalize E r = g at *
      go_wp2
      have HD := hid HI.out.drew
      have HAY := hid (HD.out.list.each r HRL.out)
      have HCL : Hid (∀ w, RI w wr c R1 gs cs Y g → True) := hid (fun _ _ => trivial)
      have b1 : (r : Int) < (R1 : Int) := by have := HRL.out; omega
      have b0 : (0 : Int) ≤ (r : Int) := by omega
      clear HCL
      refine wp_region_noPanic ?_
      refine wp_region_held_drew (S := fun w' => w'.cell? ⟨c, r, none⟩ = some (.slice (some ⟨gs r, 0, none⟩) 16 (cs r))) (by kernel_rfl) (HD.out.list.cell r HRL.out) (fun h0 => ?_)
      generalize wr.drew = w9 at *
      refine wpAnyH_take (i := 4) (v := .slice (some ⟨c, 0, none⟩) R1 cap) rfl (by kernel_rfl) (by kernel_rfl) (by kernel_rfl) (fun _ _ _ h => h) (.inl ⟨by rfl, fun w hw => by clear hw; go_simp⟩) h0 ?_
      try simp only [Act.put, lay_out]
      refine wpAnyH_take (i := 5) (v := .int .i64 (r : Int)) rfl (by kernel_rfl) (by kernel_rfl) (by kernel_rfl) (fun _ _ _ h => h) (.inl ⟨by rfl, fun w hw => by clear hw; go_simp⟩) h0 ?_
      try simp only [Act.put, lay_out]
      refine wpAnyH_take (i := 6) (v := .pointer (some ⟨c, r, none⟩)) rfl (by kernel_rfl) (by kernel_rfl) (by kernel_rfl) (fun _ _ _ h => h) (.inl ⟨by rfl, fun w hw => by clear hw; go_simp⟩) h0 ?_
      try simp only [Act.put, lay_out]
      refine wpAnyH_take (i := 7) (v := .slice (some ⟨gs r, 0, none⟩) 16 (cs r)) rfl (by kernel_rfl) (by kernel_rfl) (by kernel_rfl) (fun _ _ _ h => h) (.inl ⟨by rfl, fun w hw => by go_simp⟩) h0 ?_
      try simp only [Act.put, lay_out]
      refine wpAnyH_ready (rs := [0]) (by kernel_rfl) (by simp) (AllReadyH.cons rfl (fun K hK => ?_) AllReadyH.nil)
      rw [if_pos (by rfl)]
      refine wp_load_mid 48 (.tmp 3) rfl w.heap.size 0 rfl (ba 16 g).toList _ HD.out.var.range Tryz.underlying48 rfl (by rw [Array.length_toList, ba_size]; exact infoa) ?_
      simp only [Array.toArray_toList]
      refine hK.out _ _ (h0) (fun h1 => ?_)
      clear hK K
      try simp only [Act.put, lay_out]
      refine wpAnyH_ready (rs := [1]) (by kernel_rfl) (by simp) (AllReadyH.cons rfl (fun K hK => ?_) AllReadyH.nil)
      go_simp
      go_at_call 57
      (with_reducible refine (refsub16_any g _ HEb.out).mono ?_); rintro e w10 ⟨rfl, hlow⟩
      have HM1 := hid (HD.out.self hlow)
      clear hlow
      refine hK.out _ _ (HM1.out.list.cell r HRL.out) (fun h2 => ?_)
      clear hK K
      try simp only [Act.put, lay_out]
      refine wpAnyH_ready (rs := [2]) (by kernel_rfl) (by simp) (AllReadyH.cons rfl (fun K hK => ?_) AllReadyH.nil)
      go_simp
      go_at_call 56
      (with_reducible refine (refrows_any (subF g) _).mono ?_); rintro e w11 ⟨rfl, hlow⟩
      have HM2 := hid (HM1.out.self hlow)
      clear hlow
      refine hK.out _ _ (HM2.out.list.cell r HRL.out) (fun h3 => ?_)
      clear hK K
      try simp only [Act.put, lay_out]
      refine wpAnyH_ready (rs := [3]) (by kernel_rfl) (by simp) (AllReadyH.cons rfl (fun K hK => ?_) AllReadyH.nil)
      go_simp
      go_at_call 55
      (with_reducible refine (refcolumns16_any (shR (subF g)) _ (shR_b (subF_b g))).mono ?_); rintro e w12 ⟨rfl, hlow⟩
      have HM3 := hid (HM2.out.self hlow)
      clear hlow
      refine hK.out _ _ (HM3.out.list.cell r HRL.out) (fun h4 => ?_)
      clear hK K
      try simp only [Act.put, lay_out]
      have HAY3 := hid (HM3.out.list.each r HRL.out)
      refine wpAnyH_ready (rs := [8]) (by kernel_rfl) (by simp) (AllReadyH.cons rfl (fun K hK => ?_) AllReadyH.nil)
      go_simp
      go_at_call 54
      (with_reducible refine (refadd_any (mxC (shR (subF g))) (Y r) (gs r) 0 (cs r) _ (mxC_b (shR_b (subF_b g))) HAY3.out).mono ?_); rintro e w13 ⟨rfl, hlow⟩
      have HM4 := hid (HM3.out.self hlow)
      clear hlow
      refine hK.out _ _ (HM4.out.list.cell r HRL.out) (fun h5 => ?_)
      clear hK K
      try simp only [Act.put, lay_out]
      refine wpAnyH_ready (rs := [9]) (by kernel_rfl) (by simp) (AllReadyH.cons rfl (fun K hK => ?_) AllReadyH.nil)
      rw [if_pos (by rfl)]
      refine wp_store_row 48 (.tmp 3) (.tmp 36) rfl w.heap.size (ba 16 (addF (mxC (shR (subF g))) (Y r))) rfl rfl 48 _ HM4.out.var (by rw [ba_size]; exact infoa) (by rw [ba_size, ba_size]) (ba_one 16 _) ?_
      have HMF := hid (HM4.out.row (addF (mxC (shR (subF g))) (Y r)))
      refine hK.out _ _ (HMF.out.list.cell r HRL.out) (fun h6 => ?_)
      clear hK K
      try simp only [Act.put, lay_out]
      refine wpAnyH_done (by kernel_rfl) ?_ _
      refine NoPanic.normal ?_
      clear h0 h1 h2 h3 h4 h5 h6
      try simp only [Act.put, lay_out]
      go_wp2
      go_roundw
      case rel => exact ⟨r + 1, by omega, by omega, by go_num, by rw [HG'.out, HNr.out]; exact HMF.out⟩
      case measure => simp [intOf]; omega
    · obtain rfl : r = R := by omega
      have c1 : ¬ (r : Int) < (r : Int) := by omega
      have HRL := hid (show r < R1 by have := HR1.out; omega)
      have HEb := hid (HE.out r (by have := HR1.out; omega))
      have HYr := hid (HYb.out r HRL.out)
      generalize E r = g at *
      go_wp2
      have HD := hid HI.out.drew
      have HAY := hid (HD.out.list.each r HRL.out)
      have b1 : (r : Int) < (R1 : Int) := by have := HRL.out; omega
      have b0 : (0 : Int) ≤ (r : Int) := by omega
      refine wp_region_noPanic ?_
      refine wp_region_held_drew (S := fun w' => w'.cell? ⟨c, r, none⟩ = some (.slice (some ⟨gs r, 0, none⟩) 16 (cs r))) (by kernel_rfl) (HD.out.list.cell r HRL.out) (fun h0 => ?_)
      generalize wr.drew = w9 at *
      refine wpAnyH_take (i := 3) (v := .slice (some ⟨c, 0, none⟩) R1 cap) rfl (by kernel_rfl) (by kernel_rfl) (by kernel_rfl) (fun _ _ _ h => h) (.inl ⟨by rfl, fun w hw => by clear hw; go_simp⟩) h0 ?_
      try simp only [Act.put, lay_out]
      refine wpAnyH_take (i := 4) (v := .slice (some ⟨c, 0, none⟩) R1 cap) rfl (by kernel_rfl) (by kernel_rfl) (by kernel_rfl) (fun _ _ _ h => h) (.inl ⟨by rfl, fun w hw => by clear hw; go_simp⟩) h0 ?_
      try simp only [Act.put, lay_out]
      refine wpAnyH_take (i := 5) (v := .int .i64 (R1 : Int)) rfl (by kernel_rfl) (by kernel_rfl) (by kernel_rfl) (fun _ _ _ h => h) (.inl ⟨by rfl, fun w hw => by clear hw; go_simp⟩) h0 ?_
      try simp only [Act.put, lay_out]
      refine wpAnyH_take (i := 6) (v := .int .i64 (r : Int)) rfl (by kernel_rfl) (by kernel_rfl) (by kernel_rfl) (fun _ _ _ h => h) (.inl ⟨by rfl, fun w hw => by clear hw; go_simp⟩) h0 ?_
      try simp only [Act.put, lay_out]
      refine wpAnyH_take (i := 7) (v := .pointer (some ⟨c, r, none⟩)) rfl (by kernel_rfl) (by kernel_rfl) (by kernel_rfl) (fun _ _ _ h => h) (.inl ⟨by rfl, fun w hw => by clear hw; go_simp⟩) h0 ?_
      try simp only [Act.put, lay_out]
      refine wpAnyH_take (i := 8) (v := .slice (some ⟨gs r, 0, none⟩) 16 (cs r)) rfl (by kernel_rfl) (by kernel_rfl) (by kernel_rfl) (fun _ _ _ h => h) (.inl ⟨by rfl, fun w hw => by go_simp⟩) h0 ?_
      try simp only [Act.put, lay_out]
      refine wpAnyH_ready (rs := [0]) (by kernel_rfl) (by simp) (AllReadyH.cons rfl (fun K hK => ?_) AllReadyH.nil)
      rw [if_pos (by rfl)]
      refine wp_load_mid 48 (.tmp 3) rfl w.heap.size 0 rfl (ba 16 g).toList _ HD.out.var.range Tryz.underlying48 rfl (by rw [Array.length_toList, ba_size]; exact infoa) ?_
      simp only [Array.toArray_toList]
      refine hK.out _ _ (h0) (fun h1 => ?_)
      clear hK K
      try simp only [Act.put, lay_out]
      refine wpAnyH_ready (rs := [1]) (by kernel_rfl) (by simp) (AllReadyH.cons rfl (fun K hK => ?_) AllReadyH.nil)
      go_simp
      go_at_call 57
      (with_reducible refine (refsub16_any g _ HEb.out).mono ?_); rintro e w10 ⟨rfl, hlow⟩
      have HM1 := hid (HD.out.self hlow)
      clear hlow
      refine hK.out _ _ (HM1.out.list.cell r HRL.out) (fun h2 => ?_)
      clear hK K
      try simp only [Act.put, lay_out]
      refine wpAnyH_ready (rs := [2]) (by kernel_rfl) (by simp) (AllReadyH.cons rfl (fun K hK => ?_) AllReadyH.nil)
      go_simp
      go_at_call 56
      (with_reducible refine (refrows_any (subF g) _).mono ?_); rintro e w11 ⟨rfl, hlow⟩
      have HM2 := hid (HM1.out.self hlow)
      clear hlow
      refine hK.out _ _ (HM2.out.list.cell r HRL.out) (fun h3 => ?_)
      clear hK K
      try simp only [Act.put, lay_out]
      have HAY3 := hid (HM2.out.list.each r HRL.out)
      refine wpAnyH_ready (rs := [9]) (by kernel_rfl) (by simp) (AllReadyH.cons rfl (fun K hK => ?_) AllReadyH.nil)
      go_simp
      go_at_call 54
      (with_reducible refine (refadd_any (shR (subF g)) (Y r) (gs r) 0 (cs r) _ (shR_b (subF_b g)) HAY3.out).mono ?_); rintro e w13 ⟨rfl, hlow⟩
      have HM4 := hid (HM2.out.self hlow)
      clear hlow
      refine hK.out _ _ (HM4.out.list.cell r HRL.out) (fun h5 => ?_)
      clear hK K
      try simp only [Act.put, lay_out]
      have HS6 := hid ((World.cell?_of_block (w := w13) (setRow_other w13 (w.heap.size + 1) c (ba 16 (addF (shR (subF g)) (Y r))) HM4.out.ne.2)).trans (HM4.out.list.cell r HRL.out))
      refine wpAnyH_ready (rs := [10]) (by kernel_rfl) (by simp) (AllReadyH.cons rfl (fun K hK => ?_) AllReadyH.nil)
      rw [if_pos (by rfl)]
      refine wp_store_row 48 (.tmp 4) (.tmp 46) rfl (w.heap.size + 1) (ba 16 (addF (shR (subF g)) (Y r))) rfl rfl 48 _ HM4.out.out (by rw [ba_size]; exact infoa) (by rw [ba_size, ba_size]) (ba_one 16 _) ?_
      refine hK.out _ _ (HS6.out) (fun h6 => ?_)
      clear hK K
      try simp only [Act.put, lay_out]
      refine wpAnyH_done (by kernel_rfl) ?_ _
      refine NoPanic.normal ?_
      clear h0 h1 h2 h3 h5 h6
      try simp only [Act.put, lay_out]
      go_wp2
      exact ret_ba rfl rfl Tryz.underlying48 infoa rfl (HM4.out.done _).1 ⟨by rw [HZ.out], (HM4.out.done _).2⟩
end Go.Proofs.YthhkhcacljgelaaGreat

namespace Go.Proofs.YthhkhcacljgelaaGreat
open Go.RowKit

end Go.Proofs.YthhkhcacljgelaaGreat
