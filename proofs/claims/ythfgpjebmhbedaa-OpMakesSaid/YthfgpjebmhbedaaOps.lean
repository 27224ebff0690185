import Derived.Test.YthfgpjebmhbedaaGen
import Derived.ChangeArms
/- General: an op that comes in: a struct of five ints and a word. No program is named. -/
namespace Go.Proofs.Ythfgpjebmhbedaa
open Go.ChangeShapes Go.WideShapes Go.ChangeAt Go.RowKit Go.Deep

theorem op_open {H : Type} {enc : TypeId × Value → H} {P : Program} {W : World} {held : Bool} {t ti tw : TypeId} {fs : Array Field} {base : Nat} {v : Value} {d : DataW H} {p : List MemPlace}
    (ht : P.underlying t = some (.struct fs)) (hfs : fs.toList.map (fun f => (f.type, f.offset)) = [(ti, 0), (ti, 1), (ti, 2), (ti, 3), (ti, 4), (tw, 5)]) (hi : P.underlying ti = some (.int .i64)) (hw : P.underlying tw = some (.int .u64))
    (ci : P.cellsOf ti = 1) (cw : P.cellsOf tw = 1) (ct : P.cellsOf t = 6)
    (hv : Value.okWide P W .any base t v) (h : DataW.Trod enc P W 0 (fun _ => true) held t v d p) :
    ∃ (x0 x1 x2 x3 x4 : Int) (c : Nat), v = .agg #[.int .i64 x0, .int .i64 x1, .int .i64 x2, .int .i64 x3, .int .i64 x4, .int .u64 (c : Int)] ∧ (Lit.int .i64 x0).wf = true ∧ (Lit.int .i64 x1).wf = true ∧ (Lit.int .i64 x2).wf = true ∧ (Lit.int .i64 x3).wf = true ∧ (Lit.int .i64 x4).wf = true ∧ c < 2 ^ 64 := by
  obtain ⟨cells, rfl, hcs⟩ : ∃ cs, v = .agg cs ∧ cs.size = P.cellsOf t := by
    unfold Value.okWide at hv
    rw [ht] at hv
    obtain ⟨cs, h1, h2, _⟩ := hv
    exact ⟨cs, h1, h2⟩
  rw [ct] at hcs
  obtain ⟨l⟩ := cells
  match l, hcs with
  | [c0, c1, c2, c3, c4, c5], _ =>
    obtain ⟨fuel, hf⟩ := h
    obtain ⟨xs, m, _, hx, _, hlen, hget⟩ := DataW.trod_struct ht hf
    have hfl : fs.size = 6 := by have := congrArg List.length hfs; simpa using this
    rw [hfl] at hlen
    have hfi : ∀ i q o, [(ti, 0), (ti, 1), (ti, 2), (ti, 3), (ti, 4), (tw, 5)][i]? = some (q, o) → ∃ f : Field, fs[i]? = some f ∧ f.type = q ∧ f.offset = o := fun i q o hq => by
      rw [← hfs, List.getElem?_map, Option.map_eq_some_iff] at hq
      obtain ⟨f, h1, h2⟩ := hq
      injection h2 with h3 h4
      exact ⟨f, by simpa using h1, h3, h4⟩
    match xs, hlen with
    | [y0, y1, y2, y3, y4, y5], _ =>
      simp only [Prod.mk.injEq] at hx
      obtain ⟨rfl, rfl⟩ := hx
      have g : ∀ (i : Nat) (q : TypeId) (o : Nat), [(ti, 0), (ti, 1), (ti, 2), (ti, 3), (ti, 4), (tw, 5)][i]? = some (q, o) → DataW.trod enc P W 0 (fun _ => true) held m q (([c0, c1, c2, c3, c4, c5].drop o).take (P.cellsOf q)) = [y0, y1, y2, y3, y4, y5][i]? := fun i q o hq => by
        obtain ⟨f, h1, rfl, rfl⟩ := hfi i q o hq
        exact hget i f h1
      have g0 := g 0 ti 0 rfl
      have g1 := g 1 ti 1 rfl
      have g2 := g 2 ti 2 rfl
      have g3 := g 3 ti 3 rfl
      have g4 := g 4 ti 4 rfl
      have g5 := g 5 tw 5 rfl
      rw [ci] at g0 g1 g2 g3 g4
      rw [cw] at g5
      simp only [List.drop_succ_cons, List.drop_zero, List.take_succ_cons, List.take_zero, List.getElem?_cons_zero, List.getElem?_cons_succ] at g0 g1 g2 g3 g4 g5
      obtain ⟨x0, e0, _, w0⟩ := DataW.trod_int hi g0
      obtain ⟨x1, e1, _, w1⟩ := DataW.trod_int hi g1
      obtain ⟨x2, e2, _, w2⟩ := DataW.trod_int hi g2
      obtain ⟨x3, e3, _, w3⟩ := DataW.trod_int hi g3
      obtain ⟨x4, e4, _, w4⟩ := DataW.trod_int hi g4
      obtain ⟨x5, e5, _, w5⟩ := DataW.trod_int hw g5
      simp only [List.cons.injEq, and_true] at e0 e1 e2 e3 e4 e5
      subst e0 e1 e2 e3 e4 e5
      have b5 := bounds_u64 w5
      obtain ⟨c, rfl⟩ := Int.eq_ofNat_of_zero_le b5.1
      exact ⟨x0, x1, x2, x3, x4, c, rfl, w0, w1, w2, w3, w4, by have := b5.2; omega⟩
end Go.Proofs.Ythfgpjebmhbedaa
