import Derived.Test.YthhkhcacljgelaaGreatProg
import Derived.Test.YthhkhcacljgelaaGreatEaa
/- tagFrom. -/
namespace Go.Proofs.YthhkhcacljgelaaGreat
open Go.RowKit
set_option maxRecDepth 100000

/-- A row of N bytes that stays whatever is done that turns block b alone; not too long. -/
structure Mg (b : Nat) (w : World) (a : Option Addr) (N e : Nat) (ν : Nat → Nat) : Prop where
  kept : Kept b w (.slice a N e) (ns N ν)
  all : ∀ j, j < N → ν j < 256
  le : N ≤ e
  max : N ≤ 50000
section
variable {b : Nat} {w w' : World} {a : Option Addr} {N e : Nat} {ν : Nat → Nat}
theorem Mg.later (h : Mg b w a N e ν) (o : Only b w w') : Mg b w' a N e ν := ⟨h.kept.later o, h.all, h.le, h.max⟩
theorem Mg.self (h : Mg b w a N e ν) (hb : Below w.heap.size w w') : Mg b w' a N e ν := h.later (Only.of_below hb)
theorem Mg.rd (h : Mg b w a N e ν) : Rd .u8 w (.slice a N e) (ns N ν) := h.kept.rd
theorem mg_none (b : Nat) (w : World) (ν : Nat → Nat) : Mg b w none 0 0 ν := ⟨kept_zero none 0 ν, fun j hj => absurd hj (by omega), Nat.le_refl _, by decide⟩
end
/-- A row of 16 bytes told by a call that asks the cipher. -/
structure Et (w w' : World) (d b c cap R R1 : Nat) (Y : Nat → Nat → Nat) (g e : Nat) (z : Nat → Nat) : Prop where
  gc : Gc w' d b c cap R R1 Y
  low : Only b w w'
  row : Wd w' 16 g 0 z
  new : w.heap.size ≤ g
  cap : 16 ≤ e
theorem Et.mg {w w' : World} {d b c cap R R1 g e : Nat} {Y : Nat → Nat → Nat} {z : Nat → Nat} (h : Et w w' d b c cap R R1 Y g e z) (hb : b < w.heap.size) : Mg b w' (some ⟨g, 0, none⟩) 16 e z :=
  ⟨kept_wd h.row (by have := h.new; omega) (by decide), h.row.byte, h.cap, by decide⟩
theorem nam_any (t d b c cap R R1 N e : Nat) (Y : Nat → Nat → Nat) (ν : Nat → Nat) (a : Option Addr) (w : World) (ht : t < 256) (h : Gc w d b c cap R R1 Y) (m : Mg b w a N e ν) :
    Calls Tryz.prog 17 #[.pointer (some ⟨d, 0, none⟩), .int .u8 t, .slice a N e] w fun q w' => ∃ g, q = .returned (.slice (some ⟨g, 0, none⟩) 16 16) ∧ Et w w' d b c cap R R1 Y g 16 (namF Y R t N ν) := by
  refine (named_any d b c cap R R1 N e t Y ν a w h ht m.all m.le m.max m.kept).mono ?_
  rintro q w' ⟨g, rfl, hte⟩
  exact ⟨g, rfl, hte.gc, hte.low, Wd.of_at hte.tag (namF_b h.yb ht m.all), hte.new, Nat.le_refl _⟩
theorem nam0_any (d b c cap R R1 N e : Nat) (Y : Nat → Nat → Nat) (ν : Nat → Nat) (a : Option Addr) (w : World) (h : Gc w d b c cap R R1 Y) (m : Mg b w a N e ν) :
    Calls Tryz.prog 17 #[.pointer (some ⟨d, 0, none⟩), .int .u8 0, .slice a N e] w fun q w' => ∃ g, q = .returned (.slice (some ⟨g, 0, none⟩) 16 16) ∧ Et w w' d b c cap R R1 Y g 16 (namF Y R 0 N ν) := nam_any 0 d b c cap R R1 N e Y ν a w (by decide) h m
theorem nam1_any (d b c cap R R1 N e : Nat) (Y : Nat → Nat → Nat) (ν : Nat → Nat) (a : Option Addr) (w : World) (h : Gc w d b c cap R R1 Y) (m : Mg b w a N e ν) :
    Calls Tryz.prog 17 #[.pointer (some ⟨d, 0, none⟩), .int .u8 1, .slice a N e] w fun q w' => ∃ g, q = .returned (.slice (some ⟨g, 0, none⟩) 16 16) ∧ Et w w' d b c cap R R1 Y g 16 (namF Y R 1 N ν) := nam_any 1 d b c cap R R1 N e Y ν a w (by decide) h m
theorem nam2_any (d b c cap R R1 N e : Nat) (Y : Nat → Nat → Nat) (ν : Nat → Nat) (a : Option Addr) (w : World) (h : Gc w d b c cap R R1 Y) (m : Mg b w a N e ν) :
    Calls Tryz.prog 17 #[.pointer (some ⟨d, 0, none⟩), .int .u8 2, .slice a N e] w fun q w' => ∃ g, q = .returned (.slice (some ⟨g, 0, none⟩) 16 16) ∧ Et w w' d b c cap R R1 Y g 16 (namF Y R 2 N ν) := nam_any 2 d b c cap R R1 N e Y ν a w (by decide) h m

theorem cells_three (w : World) (v0 v1 v2 : Value) (E : TypeId) : ∀ i, i < 3 → (w.alloc (.cells #[v0, v1, v2] E)).cell? ⟨w.heap.size, i, none⟩ = some (if i = 0 then v0 else if i = 1 then v1 else v2) := by
  intro i hi
  have e := heap_alloc_new w (.cells #[v0, v1, v2] E)
  rw [cell_of_row _ _ i _ E (0, 0) e]
  have : i = 0 ∨ i = 1 ∨ i = 2 := by omega
  rcases this with rfl | rfl | rfl <;> rfl
theorem together_three (v0 v1 v2 : Value) (x y z : Nat → Nat) (w : World) (h0 : Rd .u8 w v0 (ns 16 x)) (h1 : Rd .u8 w v1 (ns 16 y)) (h2 : Rd .u8 w v2 (ns 16 z)) (hx : B16 x) (hy : B16 y) (hz : B16 z) :
    Calls Tryz.prog 33 #[.slice (some ⟨w.heap.size, 0, none⟩) 3 3] (w.alloc (.cells #[v0, v1, v2] 22)) fun q w' => ∃ g c, q = .returned (.slice (some ⟨g, 0, none⟩) 16 c) ∧ 16 ≤ c ∧ Wd w' 16 g 0 (xorF (xorF x y) z) ∧ w.heap.size ≤ g ∧ Below w.heap.size w w' := by
  have hb : Below w.heap.size w (w.alloc (.cells #[v0, v1, v2] 22)) := (Below.refl _ _).alloc (Nat.le_refl _) _
  have hs : tgsF (fun i => if i = 0 then x else if i = 1 then y else z) 3 = xorF (xorF x y) z := by
    show xorF (xorF (xorF (fun _ => 0) x) y) z = _
    rw [xorF_zero]
  refine (together_any w.heap.size 3 3 (fun i => if i = 0 then v0 else if i = 1 then v1 else v2) (fun i => if i = 0 then x else if i = 1 then y else z) _ (by decide) (by simp) (cells_three w v0 v1 v2 22) (fun i hi => ?_) (fun i hi => ?_)).mono ?_
  · have : i = 0 ∨ i = 1 ∨ i = 2 := by omega
    rcases this with rfl | rfl | rfl
    · exact h0.self hb
    · exact h1.self hb
    · exact h2.self hb
  · have : i = 0 ∨ i = 1 ∨ i = 2 := by omega
    rcases this with rfl | rfl | rfl
    · exact hx
    · exact hy
    · exact hz
  · rintro q w' ⟨g, c, rfl, hc, hw, hg, hlow⟩
    rw [hs] at hw
    exact ⟨g, c, rfl, hc, hw, Nat.le_trans hb.size hg, hb.trans (hlow.mono hb.size)⟩

set_option maxHeartbeats 1600000 in
theorem tagFrom_any (d b c cap R R1 gn cn H he M e : Nat) (Y : Nat → Nat → Nat) (n η δ : Nat → Nat) (ha a : Option Addr) (w : World) (h : Gc w d b c cap R R1 Y) (mn : Mg b w (some ⟨gn, 0, none⟩) 16 cn n) (mh : Mg b w ha H he η) (m : Mg b w a M e δ) :
    Calls Tryz.prog 20 #[.pointer (some ⟨d, 0, none⟩), .slice (some ⟨gn, 0, none⟩) 16 cn, .slice ha H he, .slice a M e] w fun q w' => ∃ g c', q = .returned (.slice (some ⟨g, 0, none⟩) 16 c') ∧ Et w w' d b c cap R R1 Y g c' (fromF Y R n H η M δ) := by
  have HN1 := hid (nam1_any d b c cap R R1 H he Y η ha w h mh)
  have HM := hid m
  have HNN := hid mn
  have HLT := hid h.lt
  have HNB : Hid (B16 n) := hid mn.all
  clear h mh m mn
  go_enter Tryz.func20, Tryz.ntmps20
  go_wp2_with (first
    | (go_at_call 17; (with_reducible refine HN1.out.mono ?_); rintro q w1 ⟨g1, rfl, hte⟩
       have HE1 := hid hte
       have HN2 := hid (nam2_any d b c cap R R1 M e Y δ a w1 hte.gc (HM.out.later hte.low))
       clear hte)
    | (go_at_call 17; (with_reducible refine HN2.out.mono ?_); rintro q w2 ⟨g2, rfl, hte⟩
       have HE2 := hid hte
       have HT := hid (together_three (.slice (some ⟨gn, 0, none⟩) 16 cn) (.slice (some ⟨g1, 0, none⟩) 16 16) (.slice (some ⟨g2, 0, none⟩) 16 16) n (namF Y R 1 H η) (namF Y R 2 M δ) w2
         ((HNN.out.later HE1.out.low).later hte.low).rd (((HE1.out.mg HLT.out).later hte.low).rd) (hte.row.rd 16 (by decide)) HNB.out HE1.out.row.byte hte.row.byte)
       clear hte)
    | (go_at_call 33; (with_reducible refine HT.out.mono ?_); rintro q w3 ⟨g3, c3, rfl, hc, hw, hg, hlow⟩
       have HE3 : Hid (Et w w3 d b c cap R R1 Y g3 c3 (fromF Y R n H η M δ)) := hid ⟨HE2.out.gc.self hlow, (HE1.out.low.trans HE2.out.low).trans (Only.of_below hlow), hw, Nat.le_trans (HE1.out.low.trans HE2.out.low).size hg, hc⟩
       clear hc hw hg hlow))
  go_ret
  exact ⟨g3, c3, rfl, HE3.out⟩
end Go.Proofs.YthhkhcacljgelaaGreat
