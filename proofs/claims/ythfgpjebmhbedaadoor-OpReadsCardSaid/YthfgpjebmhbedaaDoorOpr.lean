import Derived.Test.YthfgpjebmhbedaaDoorProg
import Derived.Test.YthfgpjebmhbedaaDoorOpm
/- Op: OpReads, over what Parse tells. -/
namespace Go.Proofs.YthfgpjebmhbedaaDoor
open Go.RowKit Go.Lib
set_option maxRecDepth 100000

/-- An op's value. -/
abbrev opW (o : Op6) : Value := .agg #[.int .i64 o.K, .int .i64 o.D, .int .i64 o.A, .int .i64 o.B, .int .i64 o.E, .int .u64 (o.C : Int)]
abbrev op0 : Value := .agg #[.int .i64 0, .int .i64 0, .int .i64 0, .int .i64 0, .int .i64 0, .int .u64 0]
/-- What Parse tells. -/
def ParP (s : ByteArray) (w : World) (e : Ending) (w' : World) : Prop :=
  ((∃ o, mayP o ∧ sB (lnL o) = s ∧ e = .returned (.tuple #[opW o, .bool true])) ∨ ((∀ o, mayP o → sB (lnL o) ≠ s) ∧ e = .returned (.tuple #[op0, .bool false]))) ∧ Below w.heap.size w w'
theorem par_yes {s : ByteArray} {w w' : World} {e : Ending} {o : Op6} (h : ParP s w e w') (ho : mayP o) (hs : sB (lnL o) = s) : e = .returned (.tuple #[opW o, .bool true]) ∧ Below w.heap.size w w' := by
  obtain ⟨⟨p, hp, hl, rfl⟩ | ⟨hn, _⟩, hb⟩ := h
  · obtain rfl := ln_one ho (sB_inj (hs.trans hl.symm))
    exact ⟨rfl, hb⟩
  · exact absurd hs (hn o ho)
theorem par_no {s : ByteArray} {w w' : World} {e : Ending} (h : ParP s w e w') (hn : ∀ o, mayP o → sB (lnL o) ≠ s) : e = .returned (.tuple #[op0, .bool false]) ∧ Below w.heap.size w w' := by
  obtain ⟨⟨p, hp, hl, rfl⟩ | ⟨_, rfl⟩, hb⟩ := h
  · exact absurd hl (hn p hp)
  · exact ⟨rfl, hb⟩
theorem no_line {o : Op6} (h : ¬ mayP o) : ∀ p, mayP p → sB (lnL p) ≠ sB (lnL o) := fun p hp e => by
  have := ln_one hp (sB_inj e)
  subst this
  exact h hp
/-- Do the first j of four numbers lie in the range? -/
def inB (D A B E : Int) (b : Bool) : Nat → Bool
  | 0 => b
  | j + 1 => inB D A B E b j && decide ((if j = 0 then D else if j = 1 then A else if j = 2 then B else E) ≤ 4611686018427387904) && decide (-4611686018427387904 ≤ (if j = 0 then D else if j = 1 then A else if j = 2 then B else E))
theorem in_may (o : Op6) (hC : o.C < 18446744073709551616) : inB o.D o.A o.B o.E (decide (0 < o.K) && decide (o.K < 13)) 4 = decide (mayP o) := by
  show (((((((((decide (0 < o.K) && decide (o.K < 13)) && decide (o.D ≤ 4611686018427387904)) && decide (-4611686018427387904 ≤ o.D)) && decide (o.A ≤ 4611686018427387904)) && decide (-4611686018427387904 ≤ o.A)) && decide (o.B ≤ 4611686018427387904)) && decide (-4611686018427387904 ≤ o.B)) && decide (o.E ≤ 4611686018427387904)) && decide (-4611686018427387904 ≤ o.E)) = decide (mayP o)
  rw [Bool.eq_iff_iff]
  simp only [Bool.and_eq_true, decide_eq_true_eq]
  unfold mayP
  constructor
  · rintro ⟨⟨⟨⟨⟨⟨⟨⟨⟨a, b⟩, c⟩, d⟩, e⟩, f⟩, g⟩, h⟩, i⟩, j⟩
    exact ⟨by omega, by omega, by omega, by omega, by omega, hC⟩
  · rintro ⟨a, b, c, d, e, f⟩
    exact ⟨⟨⟨⟨⟨⟨⟨⟨⟨by omega, by omega⟩, by omega⟩, by omega⟩, by omega⟩, by omega⟩, by omega⟩, by omega⟩, by omega⟩, by omega⟩
end Go.Proofs.YthfgpjebmhbedaaDoor
