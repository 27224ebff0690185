import Derived.Test.YtffoinnllihdeaaTrp
/- General: a slice of acts (an int, an op, a word) that comes in. No program is named. -/
namespace Go.Proofs.Ytffoinnllihdeaa
open Go.ChangeShapes Go.WideShapes Go.ChangeAt Go.RowKit Go.Deep

/-- An act. -/
structure Act8 where
  K : Int
  o : Op6
  X : Nat
def acwf (a : Act8) : Prop := (-9223372036854775808 ≤ a.K ∧ a.K ≤ 9223372036854775807) ∧ opwf a.o ∧ a.X < 18446744073709551616
/-- The cells of an act from offset n of block b on. -/
structure Ac (w : World) (q n : Nat) (a : Act8) : Prop where
  k : w.cell? ⟨q, n, none⟩ = some (.int .i64 a.K)
  o : Oc w q (n + 1) a.o
  x : w.cell? ⟨q, n + 7, none⟩ = some (.int .u64 (a.X : Int))
theorem Ac.self {w w' : World} {b n : Nat} {a : Act8} (h : Ac w b n a) (hb : Below w.heap.size w w') : Ac w' b n a :=
  ⟨tcell_self h.k hb, h.o.self hb, tcell_self h.x hb⟩
/-- v reads as the L acts f. -/
structure RAc (w : World) (v : Value) (L : Nat) (f : Nat → Act8) : Prop where
  lim : L ≤ 2300000000000
  wf : ∀ i, i < L → acwf (f i)
  at_ : ∃ a cap, v = .slice a L cap ∧ L ≤ cap ∧ cap ≤ maxLen ∧ (0 < L → ∃ b off, a = some ⟨b, off, none⟩ ∧ b < w.heap.size ∧ ∀ i, i < L → Ac w b (off + i * 8) (f i))
theorem RAc.self {w w' : World} {v : Value} {L : Nat} {f : Nat → Act8} (h : RAc w v L f) (hb : Below w.heap.size w w') : RAc w' v L f := by
  obtain ⟨a, cap, h1, h2, h3, h4⟩ := h.at_
  refine ⟨h.lim, h.wf, a, cap, h1, h2, h3, fun h0 => ?_⟩
  obtain ⟨b, off, e1, e2, e3⟩ := h4 h0
  exact ⟨b, off, e1, Nat.lt_of_lt_of_le e2 hb.size, fun i hi => (e3 i hi).self hb⟩
theorem trod_fields {H : Type} {enc : TypeId × Value → H} {P : Program} {W : World} {held : Bool} {t : TypeId} {fs : Array Field} {cs : List Value} {d : DataW H} {p : List MemPlace} {fuel : Nat} {pat : List (TypeId × Nat)}
    (ht : P.underlying t = some (.struct fs)) (hfs : fs.toList.map (fun f => (f.type, f.offset)) = pat) (hf : DataW.trod enc P W 0 (fun _ => true) held fuel t cs = some (d, p)) :
    ∃ m, ∀ (i : Nat) (q : TypeId) (o : Nat), pat[i]? = some (q, o) → ∃ y, DataW.trod enc P W 0 (fun _ => true) held m q ((cs.drop o).take (P.cellsOf q)) = some y := by
  obtain ⟨xs, m, _, hx, _, hlen, hget⟩ := DataW.trod_struct ht hf
  refine ⟨m, fun i q o hq => ?_⟩
  rw [← hfs, List.getElem?_map, Option.map_eq_some_iff] at hq
  obtain ⟨f, h1, h2⟩ := hq
  injection h2 with h3 h4
  subst h3 h4
  have h5 : fs[i]? = some f := by simpa using h1
  have hi : i < xs.length := by rw [hlen]; exact (Array.getElem?_eq_some_iff.1 h5).1
  exact ⟨xs[i], by rw [hget i f h5, List.getElem?_eq_getElem hi]⟩
theorem op_cells {H : Type} {enc : TypeId × Value → H} {P : Program} {W : World} {held : Bool} {t ti tw : TypeId} {fs : Array Field} {cs : List Value} {d : DataW H} {p : List MemPlace} {fuel : Nat}
    (ht : P.underlying t = some (.struct fs)) (hfs : fs.toList.map (fun f => (f.type, f.offset)) = [(ti, 0), (ti, 1), (ti, 2), (ti, 3), (ti, 4), (tw, 5)]) (hi : P.underlying ti = some (.int .i64)) (hw : P.underlying tw = some (.int .u64))
    (ci : P.cellsOf ti = 1) (cw : P.cellsOf tw = 1) (hl : cs.length = 6) (hf : DataW.trod enc P W 0 (fun _ => true) held fuel t cs = some (d, p)) :
    ∃ o : Op6, cs = [.int .i64 o.K, .int .i64 o.D, .int .i64 o.A, .int .i64 o.B, .int .i64 o.E, .int .u64 (o.C : Int)] ∧ opwf o := by
  obtain ⟨m, g⟩ := trod_fields ht hfs hf
  match cs, hl with
  | [c0, c1, c2, c3, c4, c5], _ =>
    obtain ⟨y0, g0⟩ := g 0 ti 0 rfl
    obtain ⟨y1, g1⟩ := g 1 ti 1 rfl
    obtain ⟨y2, g2⟩ := g 2 ti 2 rfl
    obtain ⟨y3, g3⟩ := g 3 ti 3 rfl
    obtain ⟨y4, g4⟩ := g 4 ti 4 rfl
    obtain ⟨y5, g5⟩ := g 5 tw 5 rfl
    rw [ci] at g0 g1 g2 g3 g4
    rw [cw] at g5
    simp only [List.drop_succ_cons, List.drop_zero, List.take_succ_cons, List.take_zero] at g0 g1 g2 g3 g4 g5
    obtain ⟨x0, e0, _, w0⟩ := DataW.trod_int hi g0
    obtain ⟨x1, e1, _, w1⟩ := DataW.trod_int hi g1
    obtain ⟨x2, e2, _, w2⟩ := DataW.trod_int hi g2
    obtain ⟨x3, e3, _, w3⟩ := DataW.trod_int hi g3
    obtain ⟨x4, e4, _, w4⟩ := DataW.trod_int hi g4
    obtain ⟨x5, e5, _, w5⟩ := DataW.trod_int hw g5
    simp only [List.cons.injEq, and_true] at e0 e1 e2 e3 e4 e5
    subst e0 e1 e2 e3 e4 e5
    have b5 := bounds_u64 w5
    obtain ⟨c, rfl⟩ := Int.eq_ofNat_of_zero_le b5.1
    exact ⟨⟨x0, x1, x2, x3, x4, c⟩, rfl, bounds_of w0, bounds_of w1, bounds_of w2, bounds_of w3, bounds_of w4, by show c < _; have := b5.2; omega⟩
theorem act_cells {H : Type} {enc : TypeId × Value → H} {P : Program} {W : World} {held : Bool} {t to ti tw : TypeId} {fs fo : Array Field} {cs : List Value} {d : DataW H} {p : List MemPlace} {fuel : Nat}
    (ht : P.underlying t = some (.struct fs)) (hfs : fs.toList.map (fun f => (f.type, f.offset)) = [(ti, 0), (to, 1), (tw, 7)])
    (ho : P.underlying to = some (.struct fo)) (hfo : fo.toList.map (fun f => (f.type, f.offset)) = [(ti, 0), (ti, 1), (ti, 2), (ti, 3), (ti, 4), (tw, 5)]) (hi : P.underlying ti = some (.int .i64)) (hw : P.underlying tw = some (.int .u64))
    (ci : P.cellsOf ti = 1) (cw : P.cellsOf tw = 1) (co : P.cellsOf to = 6) (hl : cs.length = 8) (hf : DataW.trod enc P W 0 (fun _ => true) held fuel t cs = some (d, p)) :
    ∃ a : Act8, cs = [.int .i64 a.K, .int .i64 a.o.K, .int .i64 a.o.D, .int .i64 a.o.A, .int .i64 a.o.B, .int .i64 a.o.E, .int .u64 (a.o.C : Int), .int .u64 (a.X : Int)] ∧ acwf a := by
  obtain ⟨m, g⟩ := trod_fields ht hfs hf
  match cs, hl with
  | [c0, c1, c2, c3, c4, c5, c6, c7], _ =>
    obtain ⟨y0, g0⟩ := g 0 ti 0 rfl
    obtain ⟨⟨y1, y2⟩, g1⟩ := g 1 to 1 rfl
    obtain ⟨y7, g7⟩ := g 2 tw 7 rfl
    rw [ci] at g0
    rw [co] at g1
    rw [cw] at g7
    simp only [List.drop_succ_cons, List.drop_zero, List.take_succ_cons, List.take_zero] at g0 g1 g7
    obtain ⟨x0, e0, _, w0⟩ := DataW.trod_int hi g0
    obtain ⟨o, e1, wo⟩ := op_cells ho hfo hi hw ci cw rfl g1
    obtain ⟨x7, e7, _, w7⟩ := DataW.trod_int hw g7
    simp only [List.cons.injEq, and_true] at e0 e1 e7
    obtain ⟨rfl, rfl, rfl, rfl, rfl, rfl⟩ := e1
    subst e0 e7
    have b7 := bounds_u64 w7
    obtain ⟨c, rfl⟩ := Int.eq_ofNat_of_zero_le b7.1
    exact ⟨⟨x0, o, c⟩, rfl, bounds_of w0, wo, by show c < _; have := b7.2; omega⟩
/-- A slice of acts that comes in. -/
theorem acts_open {H : Type} {enc : TypeId × Value → H} {P : Program} {W : World} {held : Bool} {t e to ti tw : TypeId} {fs fo : Array Field} {base : Nat} {v : Value} {d : DataW H} {p : List MemPlace} {ts : List TypeId} {ds : List (DataW H)} {j0 : Nat}
    (ht : P.underlying t = some (.slice e)) (he : P.underlying e = some (.struct fs)) (hfs : fs.toList.map (fun f => (f.type, f.offset)) = [(ti, 0), (to, 1), (tw, 7)])
    (ho : P.underlying to = some (.struct fo)) (hfo : fo.toList.map (fun f => (f.type, f.offset)) = [(ti, 0), (ti, 1), (ti, 2), (ti, 3), (ti, 4), (tw, 5)]) (hi : P.underlying ti = some (.int .i64)) (hw : P.underlying tw = some (.int .u64))
    (ci : P.cellsOf ti = 1) (cw : P.cellsOf tw = 1) (co : P.cellsOf to = 6) (ce : P.cellsOf e = 8) (hB : P.bytesOf e = 64)
    (hv : Value.okWide P W .any base t v) (h : DataW.Trod enc P W 0 (fun _ => true) held t v d p) (hlt : ∀ x ∈ p, x.block < W.heap.size)
    (hsz : (DataW.weightsEach P ts ds).all (· ≤ reachBytes) = true) (hj : ts[j0]? = some t) (hd : ds[j0]? = some d) : ∃ L f, RAc W v L f := by
  obtain ⟨a0, len0, cap0, rfl⟩ := okWide_slice ht hv
  obtain ⟨fuel, hf⟩ := h
  rcases open_slice ht hf with ⟨hcs, hx⟩ | ⟨a, len, cap, m, n, D, Pl, hcs, hb, hl, hm, hmm, hx, hi'⟩
  · simp [Value.cells] at hcs
    obtain ⟨rfl, rfl, rfl⟩ := hcs
    exact ⟨0, fun _ => ⟨0, ⟨0, 0, 0, 0, 0, 0⟩, 0⟩, by omega, fun i hi => by omega, none, 0, rfl, by omega, by unfold maxLen; omega, fun h0 => by omega⟩
  · simp [Value.cells] at hcs
    obtain ⟨rfl, rfl, rfl⟩ := hcs
    simp only [Prod.mk.injEq] at hx
    obtain ⟨rfl, rfl⟩ := hx
    simp only [if_true] at hmm
    have hreach := sized_slice hsz hj hd ht
    simp only [List.length_map, List.length_range, reachBytes, hB] at hreach
    have each : ∀ i, i < len0 → ∃ c : Act8, (∀ j u, [Value.int .i64 c.K, .int .i64 c.o.K, .int .i64 c.o.D, .int .i64 c.o.A, .int .i64 c.o.B, .int .i64 c.o.E, .int .u64 (c.o.C : Int), .int .u64 (c.X : Int)][j]? = some u → W.cell? ((a.add (i * 8)).add j) = some u) ∧ acwf c := by
      intro i hi1
      obtain ⟨cs', hc, ht'⟩ := hi' i (by omega)
      rw [ce] at hc
      obtain ⟨_, hcl, hat⟩ := World.cells?_some hc
      obtain ⟨c, rfl, hw'⟩ := act_cells he hfs ho hfo hi hw ci cw co hcl ht'
      refine ⟨c, fun j u hu => ?_, hw'⟩
      have hj1 : j < 8 := by have := (List.getElem?_eq_some_iff.1 hu).1; simpa using this
      rw [hat j hj1, hu]
    refine ⟨len0, fun i => if hh : i < len0 then Classical.choose (each i hh) else ⟨0, ⟨0, 0, 0, 0, 0, 0⟩, 0⟩, by omega, fun i hi1 => ?_, some a, cap0, rfl, hl, hm, fun hp => ?_⟩
    · simp only [hi1, dif_pos]
      exact (Classical.choose_spec (each i hi1)).2
    · obtain ⟨b, off, spot⟩ := a
      have hspot : spot = none := by
        obtain ⟨c, hc, _⟩ := each 0 hp
        simpa [Addr.add] using World.cell?_spot (hc 0 _ rfl)
      subst hspot
      refine ⟨b, off, rfl, hlt (.cell b off) (List.mem_append.2 (.inl (MemPlace.mem_row.2 ⟨0, ?_, by simp⟩))), fun i hi1 => ?_⟩
      · rw [ce]; exact Nat.mul_pos (by omega) (by omega)
      · have := (Classical.choose_spec (each i hi1)).1
        simp only [hi1, dif_pos]
        have g : ∀ j u, [Value.int .i64 (Classical.choose (each i hi1)).K, .int .i64 (Classical.choose (each i hi1)).o.K, .int .i64 (Classical.choose (each i hi1)).o.D, .int .i64 (Classical.choose (each i hi1)).o.A, .int .i64 (Classical.choose (each i hi1)).o.B, .int .i64 (Classical.choose (each i hi1)).o.E, .int .u64 ((Classical.choose (each i hi1)).o.C : Int), .int .u64 ((Classical.choose (each i hi1)).X : Int)][j]? = some u → W.cell? ⟨b, off + i * 8 + j, none⟩ = some u := fun j u hu => by
          have := this j u hu
          rw [add_plain, add_plain] at this
          exact this
        exact ⟨g 0 _ rfl, ⟨g 1 _ rfl, g 2 _ rfl, g 3 _ rfl, g 4 _ rfl, g 5 _ rfl, g 6 _ rfl⟩, g 7 _ rfl⟩
end Go.Proofs.Ytffoinnllihdeaa
