import Derived.Test.YteoiekooaokhaaaProg
import Derived.Test.YteoiekooaokhaaaCma
/- Masks, cut. -/
namespace Go.Proofs.Yteoiekooaokhaaa
open Go.RowKit
set_option maxRecDepth 100000

theorem gblock_zero (d b c cap R R1 : Nat) (Y : Nat → Nat → Nat) (w : World) (h : Gc w d b c cap R R1 Y) :
    Calls Try.prog 19 #[.pointer (some ⟨d, 0, none⟩), .agg z16] w fun e w' => e = .returned (.agg (ba 16 (blkF Y R (fun _ => 0)))) ∧ Gc w' d b c cap R R1 Y ∧ Only b w w' :=
  gblock_any d b c cap R R1 Y (fun _ => 0) w h B16.zero
theorem at_zero (w : World) : At (w.alloc (.cells z16 39)) w.heap.size 16 39 (fun _ => 0) := At.new w 16 39 (fun _ => 0)

set_option maxHeartbeats 800000 in
theorem masks_any (d b c cap R R1 : Nat) (Y : Nat → Nat → Nat) (w : World) (h : Gc w d b c cap R R1 Y) :
    Calls Try.prog 9 #[.pointer (some ⟨d, 0, none⟩)] w fun e w' => ∃ g1 c1 g2 c2, e = .returned (.tuple #[.slice (some ⟨g1, 0, none⟩) 16 c1, .slice (some ⟨g2, 0, none⟩) 16 c2]) ∧
      Wd w' 16 g1 0 (m1F Y R) ∧ Wd w' 16 g2 0 (m2F Y R) ∧ w.heap.size ≤ g1 ∧ w.heap.size ≤ g2 ∧ Gc w' d b c cap R R1 Y ∧ Only b w w' := by
  have HG := hid h
  have HZ := hid (blkF_b h.yb B16.zero)
  have HM1 := hid (m1F_b h.yb)
  have HM2 := hid (m2F_b h.yb)
  have HC := hid (gblock_zero d b c cap R R1 Y w h)
  have HE : Hid (dbF (blkF Y R (fun _ => 0)) = m1F Y R ∧ dbF (m1F Y R) = m2F Y R) := hid ⟨rfl, rfl⟩
  generalize blkF Y R (fun _ => 0) = z at *
  generalize m1F Y R = m1 at *
  generalize m2F Y R = m2 at *
  clear h
  go_enter Try.func9, Try.ntmps9
  go_wp2_with (first
    | (go_at_call 19; (with_reducible refine HC.out.mono ?_); rintro e w1 ⟨rfl, hg1, ho⟩
       have HG1 := hid hg1
       have HO1 := hid ho
       have HA1 := hid (at_zero w1)
       clear hg1 ho)
    | (refine step_store_ba rfl 39 (.tmp 4) (.tmp 8) rfl w1.heap.size 16 39 (fun _ => 0) z rfl rfl HA1.out infoa ?_
       have HA2 := hid (HA1.out.row z)
       have HR2 := hid ((Wd.of_at HA2.out HZ.out).rd 16 (by decide))
       have HG2 : Hid (Gc ((w1.alloc (.cells z16 39)).setRow w1.heap.size (ba 16 z)) d b c cap R R1 Y ∧ Only b w ((w1.alloc (.cells z16 39)).setRow w1.heap.size (ba 16 z))) :=
         hid (HG.out.row (HG1.out.self ((Below.refl _ w1).alloc (Nat.le_refl _) _)) (HO1.out.trans (Only.of_below ((Below.refl _ w1).alloc (Nat.le_refl _) _))) HO1.out.size _)
       have HS2 : Hid (w1.heap.size ≤ ((w1.alloc (.cells z16 39)).setRow w1.heap.size (ba 16 z)).heap.size) := hid (by simp)
       generalize (w1.alloc (.cells z16 39)).setRow w1.heap.size (ba 16 z) = w2 at *)
    | (go_at_call 26; (with_reducible refine (double_ns (.slice (some ⟨w1.heap.size, 0, none⟩) 16 16) z w2 HR2.out HZ.out).mono ?_); rintro e w3 ⟨g1, c1, rfl, hown, hlow⟩
       rw [HE.out.1] at hown
       have HW3 := hid (wd_own hown HM1.out)
       have HR3 := hid (HW3.out.1.rd c1 (by decide))
       have HL3 := hid hlow
       clear hown hlow)
    | (go_at_call 26; (with_reducible refine (double_ns (.slice (some ⟨g1, 0, none⟩) 16 c1) m1 w3 HR3.out HM1.out).mono ?_); rintro e w4 ⟨g2, c2, rfl, hown, hlow⟩
       rw [HE.out.2] at hown
       have HW4 := hid (wd_own hown HM2.out)
       have HL4 := hid hlow
       clear hown hlow))
  go_ret2
  refine ⟨g1, c1, g2, c2, rfl, HW3.out.1.self HL4.out, HW4.out.1, ?_, ?_, (HG2.out.1.self HL3.out).self HL4.out, (HG2.out.2.trans (Only.of_below HL3.out)).trans (Only.of_below HL4.out)⟩
  · have := HW3.out.2; have := HG2.out.2.size; omega
  · have := HW4.out.2; have := HL3.out.size; have := HG2.out.2.size; omega

/-- Where the rest of a row lies. -/
def restA (a : Option Addr) (n c : Nat) : Option Addr := if c = n then a else a.map (·.add n)
theorem mcut_any (a : Option Addr) (M c n n0 : Nat) (w : World) (hM : M ≤ c) (hn : n = min n0 M) :
    Calls Try.prog 37 #[.slice a M c, .int .i64 n0] w fun e w' => e = .returned (.tuple #[.slice a n n, .slice (restA a n c) (M - n) (c - n)]) ∧ Below w.heap.size w w' := by
  by_cases h : M < n0
  · obtain rfl : n = M := by omega
    have h3 : (n : Int) < (n0 : Int) := by omega
    have h5 : (n : Int) ≤ (c : Int) := by omega
    by_cases h2 : c = n
    · subst h2
      have h4 : restA a c c = a := if_pos rfl
      rw [h4]
      clear h hn h4 hM
      go_enter Try.func37, Try.ntmps37
      go_wp2
      go_region
      go_wp2
      go_ret2
      exact ⟨by rw [Nat.sub_self]; rfl, (Below.refl _ _).drew⟩
    · have h4 : restA a n c = a.map (·.add n) := if_neg h2
      rw [h4]
      have h6 : ¬ (c : Int) = (n : Int) := by omega
      clear h hn h4 hM
      go_enter Try.func37, Try.ntmps37
      go_wp2
      go_region
      go_wp2
      go_ret2
      exact ⟨by rw [Nat.sub_self]; rfl, (Below.refl _ _).drew⟩
  · obtain rfl : n = n0 := by omega
    have h3 : ¬ (M : Int) < (n : Int) := by omega
    have h5 : (n : Int) ≤ (M : Int) := by omega
    have h7 : (n : Int) ≤ (c : Int) := by omega
    by_cases h2 : c = n
    · obtain rfl : M = n := by omega
      subst h2
      have h4 : restA a c c = a := if_pos rfl
      rw [h4]
      clear h hn h4 hM
      go_enter Try.func37, Try.ntmps37
      go_wp2
      go_region
      go_wp2
      go_ret2
      exact ⟨by rw [Nat.sub_self]; rfl, (Below.refl _ _).drew⟩
    · have h4 : restA a n c = a.map (·.add n) := if_neg h2
      rw [h4]
      have h6 : ¬ (c : Int) = (n : Int) := by omega
      clear h hn h4 hM
      go_enter Try.func37, Try.ntmps37
      go_wp2
      go_region
      go_wp2
      go_ret2
      exact ⟨rfl, (Below.refl _ _).drew⟩
end Go.Proofs.Yteoiekooaokhaaa
