import Derived.Test.YtiejaedljebbfaaProg
import Derived.Test.YtiejaedljebbfaaCtd
/- Stream, Cover, Part. -/
namespace Go.Proofs.Ytiejaedljebbfaa
open Go.RowKit
set_option maxRecDepth 100000

theorem wd_own {B n g c : Nat} {E : TypeId} {w : World} {F : Nat → Nat} (h : Own .u8 B E w (.slice (some ⟨g, 0, none⟩) n c) (ns n F)) (hF : ∀ j, j < n → F j < 256) : Wd w n g 0 F ∧ B ≤ g := by
  have hl := h.lt g rfl
  refine ⟨?_, hl.1⟩
  by_cases hn : 0 < n
  · exact Wd.of_own h hn hF
  · exact ⟨hl.2, fun j hj => absurd hj (by omega), fun j hj => absurd hj (by omega)⟩
/-- What is given: a cipher that may be, at work; and a begin. -/
structure Gv (w : World) (d b c cap R R1 g off cc : Nat) (Y : Nat → Nat → Nat) (f : Nat → Nat) : Prop where
  num : R1 = R + 1 ∧ 0 < R ∧ R ≤ 1000
  ci : Ci w d b c cap R1 Y
  cnt : Wd w 16 g off f
  ne : g ≠ b
section
variable {w w' : World} {d b c cap R R1 g off cc : Nat} {Y : Nat → Nat → Nat} {f : Nat → Nat}
theorem Gv.yb (h : Gv w d b c cap R R1 g off cc Y f) : YB Y R := fun r hr => h.ci.rows.byte r (by have := h.num; omega)
theorem Gv.self (h : Gv w d b c cap R R1 g off cc Y f) (hb : Below w.heap.size w w') : Gv w' d b c cap R R1 g off cc Y f := ⟨h.num, h.ci.self hb, h.cnt.self hb, h.ne⟩
theorem Gv.asked (h : Gv w d b c cap R R1 g off cc Y f) (hc : Ci w' d b c cap R1 Y) (o : Only b w w') : Gv w' d b c cap R R1 g off cc Y f := ⟨h.num, hc, h.cnt.only o h.ne, h.ne⟩
theorem Gv.strb (h : Gv w d b c cap R R1 g off cc Y f) (j : Nat) : strF Y R f j < 256 := strF_b h.yb f j
end
/-- .. and the loop over what blocks tells. -/
theorem told_any (d b c cap R R1 g off cc n : Nat) (Y : Nat → Nat → Nat) (f : Nat → Nat) (w : World) (hn : n ≤ 140000) (h : Gv w d b c cap R R1 g off cc Y f) :
    Calls Try.prog 21 #[.func (.func 31) #[] #[.pointer (some ⟨w.heap.size + 1, 0, none⟩), .pointer (some ⟨w.heap.size, 0, none⟩)], .int .i64 n] ((w.alloc (.cells #[.pointer (some ⟨d, 0, none⟩)] 25)).alloc (.cells #[.slice (some ⟨g, off, none⟩) 16 cc] 22)) fun e w' =>
      ∃ g', e = .returned (.slice (some ⟨g', 0, none⟩) n n) ∧ w.heap.size ≤ g' ∧ Wd w' n g' 0 (strF Y R f) ∧ Ci w' d b c cap R1 Y ∧ Only b w w' := by
  have hlow : Below w.heap.size w ((w.alloc (.cells #[.pointer (some ⟨d, 0, none⟩)] 25)).alloc (.cells #[.slice (some ⟨g, off, none⟩) 16 cc] 22)) := ((Below.refl _ _).alloc (Nat.le_refl _) _).alloc (by simp) _
  have h2 := h.self hlow
  refine (first_any d b c cap R R1 w.heap.size (w.heap.size + 1) g off cc n Y f _ h.num.1 h.num.2.1 h.num.2.2 hn h2.ci h2.cnt h.ne ?_ ?_).mono ?_
  · have := heap_alloc_new (w.alloc (.cells #[.pointer (some ⟨d, 0, none⟩)] 25)) (.cells #[.slice (some ⟨g, off, none⟩) 16 cc] 22)
    rwa [World.size_alloc] at this
  · exact (heap_alloc_old _ _ (by simp)).trans (heap_alloc_new w _)
  · rintro e w' ⟨g', rfl, hown, hci, ho⟩
    obtain ⟨hw, hg⟩ := wd_own hown (fun j _ => h.strb j)
    exact ⟨g', rfl, by have := hlow.size; omega, hw, hci, (Only.of_below hlow).trans ho⟩

theorem stream_bad (v : Value) (a : Option Addr) (L cc : Nat) (n : Int) (w : World) (h : ckr L (outs n) ≠ 0) :
    Calls Try.prog 9 #[v, .slice a L cc, .int .i64 n] w fun e w' => e = none2 (ckr L (outs n)) ∧ w' = w := by
  have HR := hid (refused_any a L cc (outs n) w)
  have h3 : (ckr L (outs n) != 0) = true := by rw [bne_iff_ne]; exact h
  generalize ckr L (outs n) = x at *
  clear h
  by_cases h0 : n < 0
  · have ho : outs n = true := by simp [outs, h0]
    rw [ho] at HR
    go_enter Try.func9, Try.ntmps9
    go_wp2_with (go_at_call 20; refine HR.out.mono ?_; rintro e w1 ⟨rfl, rfl⟩)
    go_ret2
    exact ⟨rfl, rfl⟩
  · by_cases h1 : n > 65536
    · have ho : outs n = true := by simp [outs, h1]
      rw [ho] at HR
      go_enter Try.func9, Try.ntmps9
      go_wp2_with (go_at_call 20; refine HR.out.mono ?_; rintro e w1 ⟨rfl, rfl⟩)
      go_ret2
      exact ⟨rfl, rfl⟩
    · have ho : outs n = false := by simp [outs, h0, h1]
      rw [ho] at HR
      go_enter Try.func9, Try.ntmps9
      go_wp2_with (go_at_call 20; refine HR.out.mono ?_; rintro e w1 ⟨rfl, rfl⟩)
      go_ret2
      exact ⟨rfl, rfl⟩

theorem stream_any (d b c cap R R1 g off cc n : Nat) (Y : Nat → Nat → Nat) (f : Nat → Nat) (w : World) (hn : n ≤ 65536) (h : Gv w d b c cap R R1 g off cc Y f) :
    Calls Try.prog 9 #[.pointer (some ⟨d, 0, none⟩), .slice (some ⟨g, off, none⟩) 16 cc, .int .i64 n] w fun e w' =>
      ∃ g', e = .returned (.tuple #[.slice (some ⟨g', 0, none⟩) n n, .int .i64 0]) ∧ w.heap.size ≤ g' ∧ Wd w' n g' 0 (strF Y R f) ∧ Ci w' d b c cap R1 Y ∧ Only b w w' := by
  have HR := hid (refused_any (some ⟨g, off, none⟩) 16 cc false w)
  have HB := hid (blocks_any d g off 16 cc w)
  have HT := hid (told_any d b c cap R R1 g off cc n Y f w (by omega) h)
  have h0 : ¬ (n : Int) < 0 := by omega
  have h1 : ¬ (n : Int) > 65536 := by omega
  have hk : ckr 16 false = 0 := rfl
  rw [hk] at HR
  clear h hn hk
  go_enter Try.func9, Try.ntmps9
  go_wp2_with (first
    | (go_at_call 20; (with_reducible refine HR.out.mono ?_); rintro e w1 ⟨rfl, rfl⟩)
    | (go_at_call 22; (with_reducible refine HB.out.mono ?_); rintro e w1 ⟨rfl, rfl⟩)
    | (go_at_call 21; (with_reducible refine HT.out.mono ?_); rintro e w2 ⟨g', rfl, hg, hw, hci, ho⟩; have HX := hid (And.intro hg (And.intro hw (And.intro hci ho))); clear hg hw hci ho))
  go_ret2
  exact ⟨g', rfl, HX.out⟩
end Go.Proofs.Ytiejaedljebbfaa
