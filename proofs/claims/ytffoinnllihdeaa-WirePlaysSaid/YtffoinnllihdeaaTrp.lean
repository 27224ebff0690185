import Derived.Test.YtffoinnllihdeaaGen
import Derived.Test.YtffoinnllihdeaaSix
import Derived.Test.YtffoinnllihdeaaLin
import Derived.Deep.Slices
import Derived.Deep.Fields
/- General: a trace that comes in: an int, a slice of ops, a slice of spans. No program is named. -/
namespace Go.Proofs.Ytffoinnllihdeaa
open Go.ChangeShapes Go.WideShapes Go.ChangeAt Go.RowKit Go.Deep

/-- A slice of structs of whole numbers, as a part of something. -/
theorem recs_of_part {H : Type} {enc : TypeId × Value → H} {P : Program} {W : World} {held : Bool} {t e : TypeId} {fs : Array Field} {v : Value} {d : DataW H} {p : List MemPlace} {fuel : Nat} (ks : Nat → IntKind)
    (ht : P.underlying t = some (.slice e)) (he : P.underlying e = some (.struct fs)) (hone : oneCellFields P fs = true) (hC : P.cellsOf e = fs.size)
    (hk : ∀ (j : Nat) (f : Field), fs[j]? = some f → P.underlying f.type = some (.int (ks j)))
    (hf : DataW.trod enc P W 0 (fun _ => true) held fuel t [v] = some (d, p)) (hlt : ∀ x ∈ p, x.block < W.heap.size) (h0 : 0 < fs.size) (hw : ∀ m ∈ d.weights P t, m ≤ reachBytes) :
    ∃ (a : Option Addr) (L cap : Nat) (Z : Nat → Nat → Int), v = .slice a L cap ∧ L ≤ cap ∧ cap ≤ maxLen ∧ L * P.bytesOf e ≤ 140737488351232 ∧
      (0 < L → ∃ b off, a = some ⟨b, off, none⟩ ∧ b < W.heap.size ∧ ∀ i, i < L → ∀ j, j < fs.size → W.cell? ⟨b, off + (i * fs.size + j), none⟩ = some (.int (ks j) (Z i j)) ∧ (Lit.int (ks j) (Z i j)).wf = true) := by
  rcases open_slice ht hf with ⟨hcs, hx⟩ | ⟨a, len, cap, m, n, D, Pl, hcs, hb, hl, hm, hmm, hx, hi⟩
  · simp at hcs
    subst hcs
    exact ⟨none, 0, 0, fun _ _ => 0, rfl, by omega, by unfold maxLen; omega, by simp, by omega⟩
  · simp at hcs
    subst hcs
    simp only [Prod.mk.injEq] at hx
    obtain ⟨rfl, rfl⟩ := hx
    simp only [if_true] at hmm
    have hreach := hw _ (by simp only [DataW.weights, ht]; exact .head _)
    simp only [List.length_map, List.length_range, reachBytes] at hreach
    have each : ∀ i j, i < len → j < fs.size → ∃ z, W.cell? (a.add (i * fs.size + j)) = some (.int (ks j) z) ∧ (Lit.int (ks j) z).wf = true := by
      intro i j hi1 hj1
      obtain ⟨cs', hc, ht'⟩ := hi i (by omega)
      rw [hC] at hc
      obtain ⟨ys, n', _, _, _, hyl, hfl⟩ := DataW.trod_struct he ht'
      obtain ⟨_, hcl, hat⟩ := World.cells?_some hc
      have hfj : fs[j]? = some fs[j] := Array.getElem?_eq_getElem hj1
      obtain ⟨ho, hk1⟩ := hone_of hone j _ hfj
      have h1 := hfl j _ hfj
      rw [ho, hk1, List.drop_eq_getElem_cons (by omega), List.take_succ_cons, List.take_zero, List.getElem?_eq_getElem (show j < ys.length by omega)] at h1
      obtain ⟨z, hz, _, hw⟩ := DataW.trod_int (hk j _ hfj) h1
      simp only [List.cons.injEq, and_true] at hz
      refine ⟨z, ?_, hw⟩
      rw [← Go.Deep.add_add, hat j hj1, List.getElem?_eq_getElem (by omega), hz]
    refine ⟨some a, len, cap, fun i j => if hh : i < len ∧ j < fs.size then Classical.choose (each i j hh.1 hh.2) else 0, rfl, hl, hm, Nat.le_trans (Nat.mul_le_mul_right _ (by omega)) hreach, fun hp => ?_⟩
    obtain ⟨b, off, spot⟩ := a
    have hspot : spot = none := by
      obtain ⟨z, hz, _⟩ := each 0 0 hp h0
      simpa [Addr.add] using World.cell?_spot hz
    subst hspot
    refine ⟨b, off, rfl, hlt (.cell b off) (List.mem_append.2 (.inl (MemPlace.mem_row.2 ⟨0, ?_, by simp⟩))), fun i hi1 j hj1 => ?_⟩
    · rw [hC]; exact Nat.mul_pos (by omega) h0
    · have := Classical.choose_spec (each i j hi1 hj1)
      simp only [hi1, hj1, and_self, dif_pos]
      refine ⟨?_, this.2⟩
      rw [← this.1, add_plain]

/-- May an op come in? (its numbers are ints, its constant a word) -/
def opwf (o : Op6) : Prop := (-9223372036854775808 ≤ o.K ∧ o.K ≤ 9223372036854775807) ∧ (-9223372036854775808 ≤ o.D ∧ o.D ≤ 9223372036854775807) ∧ (-9223372036854775808 ≤ o.A ∧ o.A ≤ 9223372036854775807) ∧ (-9223372036854775808 ≤ o.B ∧ o.B ≤ 9223372036854775807) ∧ (-9223372036854775808 ≤ o.E ∧ o.E ≤ 9223372036854775807) ∧ o.C < 18446744073709551616
/-- A span. -/
structure Sp3 where
  K : Int
  F : Int
  T : Int
def spwf (s : Sp3) : Prop := (-9223372036854775808 ≤ s.K ∧ s.K ≤ 9223372036854775807) ∧ (-9223372036854775808 ≤ s.F ∧ s.F ≤ 9223372036854775807) ∧ (-9223372036854775808 ≤ s.T ∧ s.T ≤ 9223372036854775807)
/-- The cells of an op from offset n of block b on. -/
structure Oc (w : World) (q n : Nat) (o : Op6) : Prop where
  k : w.cell? ⟨q, n, none⟩ = some (.int .i64 o.K)
  d : w.cell? ⟨q, n + 1, none⟩ = some (.int .i64 o.D)
  a : w.cell? ⟨q, n + 2, none⟩ = some (.int .i64 o.A)
  b : w.cell? ⟨q, n + 3, none⟩ = some (.int .i64 o.B)
  e : w.cell? ⟨q, n + 4, none⟩ = some (.int .i64 o.E)
  c : w.cell? ⟨q, n + 5, none⟩ = some (.int .u64 (o.C : Int))
structure Sc (w : World) (q n : Nat) (s : Sp3) : Prop where
  k : w.cell? ⟨q, n, none⟩ = some (.int .i64 s.K)
  f : w.cell? ⟨q, n + 1, none⟩ = some (.int .i64 s.F)
  t : w.cell? ⟨q, n + 2, none⟩ = some (.int .i64 s.T)
/-- v reads as the L ops f. -/
structure ROp (w : World) (v : Value) (L : Nat) (f : Nat → Op6) : Prop where
  lim : L ≤ 4000000000000
  wf : ∀ i, i < L → opwf (f i)
  at_ : ∃ a cap, v = .slice a L cap ∧ L ≤ cap ∧ cap ≤ maxLen ∧ (0 < L → ∃ b off, a = some ⟨b, off, none⟩ ∧ b < w.heap.size ∧ ∀ i, i < L → Oc w b (off + i * 6) (f i))
/-- v reads as the L spans g. -/
structure RSp (w : World) (v : Value) (L : Nat) (g : Nat → Sp3) : Prop where
  lim : L ≤ 10000000000000
  wf : ∀ i, i < L → spwf (g i)
  at_ : ∃ a cap, v = .slice a L cap ∧ L ≤ cap ∧ cap ≤ maxLen ∧ (0 < L → ∃ b off, a = some ⟨b, off, none⟩ ∧ b < w.heap.size ∧ ∀ i, i < L → Sc w b (off + i * 3) (g i))
theorem tcell_self {w w' : World} {a : Addr} {v : Value} (h : w.cell? a = some v) (hb : Below w.heap.size w w') : w'.cell? a = some v :=
  (hb.cell (World.block_lt_of_cell? w _ h)).trans h
theorem Oc.self {w w' : World} {b n : Nat} {o : Op6} (h : Oc w b n o) (hb : Below w.heap.size w w') : Oc w' b n o :=
  ⟨tcell_self h.k hb, tcell_self h.d hb, tcell_self h.a hb, tcell_self h.b hb, tcell_self h.e hb, tcell_self h.c hb⟩
theorem Sc.self {w w' : World} {b n : Nat} {s : Sp3} (h : Sc w b n s) (hb : Below w.heap.size w w') : Sc w' b n s :=
  ⟨tcell_self h.k hb, tcell_self h.f hb, tcell_self h.t hb⟩
theorem ROp.self {w w' : World} {v : Value} {L : Nat} {f : Nat → Op6} (h : ROp w v L f) (hb : Below w.heap.size w w') : ROp w' v L f := by
  obtain ⟨a, cap, h1, h2, h3, h4⟩ := h.at_
  refine ⟨h.lim, h.wf, a, cap, h1, h2, h3, fun h0 => ?_⟩
  obtain ⟨b, off, e1, e2, e3⟩ := h4 h0
  exact ⟨b, off, e1, Nat.lt_of_lt_of_le e2 hb.size, fun i hi => (e3 i hi).self hb⟩
theorem RSp.self {w w' : World} {v : Value} {L : Nat} {g : Nat → Sp3} (h : RSp w v L g) (hb : Below w.heap.size w w') : RSp w' v L g := by
  obtain ⟨a, cap, h1, h2, h3, h4⟩ := h.at_
  refine ⟨h.lim, h.wf, a, cap, h1, h2, h3, fun h0 => ?_⟩
  obtain ⟨b, off, e1, e2, e3⟩ := h4 h0
  exact ⟨b, off, e1, Nat.lt_of_lt_of_le e2 hb.size, fun i hi => (e3 i hi).self hb⟩
theorem bounds_of {z : Int} (h : (Lit.int .i64 z).wf = true) : -9223372036854775808 ≤ z ∧ z ≤ 9223372036854775807 := bounds_i64 h

theorem rop_of_part {H : Type} {enc : TypeId × Value → H} {P : Program} {W : World} {held : Bool} {t e : TypeId} {fs : Array Field} {v : Value} {d : DataW H} {p : List MemPlace} {fuel : Nat}
    (ht : P.underlying t = some (.slice e)) (he : P.underlying e = some (.struct fs)) (hone : oneCellFields P fs = true) (hC : P.cellsOf e = fs.size) (h6 : fs.size = 6) (hB : P.bytesOf e = 48)
    (hk : ∀ (j : Nat) (f : Field), fs[j]? = some f → P.underlying f.type = some (TypeDesc.int (if j = 5 then IntKind.u64 else IntKind.i64)))
    (hf : DataW.trod enc P W 0 (fun _ => true) held fuel t [v] = some (d, p)) (hlt : ∀ x ∈ p, x.block < W.heap.size) (hw : ∀ m ∈ d.weights P t, m ≤ reachBytes) :
    ∃ L f, ROp W v L f := by
  obtain ⟨a, L, cap, Z, rfl, h1, h2, h3, h4⟩ := recs_of_part (fun j => if j = 5 then IntKind.u64 else IntKind.i64) ht he hone hC hk hf hlt (by omega) hw
  rw [h6] at h4
  rw [hB] at h3
  refine ⟨L, fun i => ⟨Z i 0, Z i 1, Z i 2, Z i 3, Z i 4, (Z i 5).toNat⟩, by omega, fun i hi => ?_, a, cap, rfl, h1, h2, fun h0 => ?_⟩
  · obtain ⟨b, off, _, _, hc⟩ := h4 (by omega)
    have w5 := bounds_u64 (hc i hi 5 (by decide)).2
    exact ⟨bounds_of (hc i hi 0 (by decide)).2, bounds_of (hc i hi 1 (by decide)).2, bounds_of (hc i hi 2 (by decide)).2, bounds_of (hc i hi 3 (by decide)).2, bounds_of (hc i hi 4 (by decide)).2, by show (Z i 5).toNat < _; omega⟩
  · obtain ⟨b, off, rfl, hb, hc⟩ := h4 h0
    refine ⟨b, off, rfl, hb, fun i hi => ?_⟩
    have w5 := bounds_u64 (hc i hi 5 (by decide)).2
    have e5 : (((Z i 5).toNat : Nat) : Int) = Z i 5 := Int.toNat_of_nonneg w5.1
    exact ⟨(hc i hi 0 (by decide)).1, (hc i hi 1 (by decide)).1, (hc i hi 2 (by decide)).1, (hc i hi 3 (by decide)).1, (hc i hi 4 (by decide)).1, by show _ = some (Value.int .u64 (((Z i 5).toNat : Nat) : Int)); rw [e5]; exact (hc i hi 5 (by decide)).1⟩
theorem rsp_of_part {H : Type} {enc : TypeId × Value → H} {P : Program} {W : World} {held : Bool} {t e : TypeId} {fs : Array Field} {v : Value} {d : DataW H} {p : List MemPlace} {fuel : Nat}
    (ht : P.underlying t = some (.slice e)) (he : P.underlying e = some (.struct fs)) (hone : oneCellFields P fs = true) (hC : P.cellsOf e = fs.size) (h3 : fs.size = 3) (hB : P.bytesOf e = 24)
    (hk : ∀ (j : Nat) (f : Field), fs[j]? = some f → P.underlying f.type = some (.int .i64))
    (hf : DataW.trod enc P W 0 (fun _ => true) held fuel t [v] = some (d, p)) (hlt : ∀ x ∈ p, x.block < W.heap.size) (hw : ∀ m ∈ d.weights P t, m ≤ reachBytes) :
    ∃ L g, RSp W v L g := by
  obtain ⟨a, L, cap, Z, rfl, h1, h2, h4, h5⟩ := recs_of_part (fun _ => .i64) ht he hone hC hk hf hlt (by omega) hw
  rw [h3] at h5
  rw [hB] at h4
  refine ⟨L, fun i => ⟨Z i 0, Z i 1, Z i 2⟩, by omega, fun i hi => ?_, a, cap, rfl, h1, h2, fun h0 => ?_⟩
  · obtain ⟨b, off, _, _, hc⟩ := h5 (by omega)
    exact ⟨bounds_of (hc i hi 0 (by decide)).2, bounds_of (hc i hi 1 (by decide)).2, bounds_of (hc i hi 2 (by decide)).2⟩
  · obtain ⟨b, off, rfl, hb, hc⟩ := h5 h0
    exact ⟨b, off, rfl, hb, fun i hi => ⟨(hc i hi 0 (by decide)).1, (hc i hi 1 (by decide)).1, (hc i hi 2 (by decide)).1⟩⟩
/-- A trace that comes in. -/
theorem tr_open {H : Type} {enc : TypeId × Value → H} {P : Program} {W : World} {held : Bool} {t ti s e s' e' : TypeId} {fs fo fp : Array Field} {base : Nat} {v : Value} {d : DataW H} {p : List MemPlace} {ts : List TypeId} {ds : List (DataW H)} {j : Nat}
    (ht : P.underlying t = some (.struct fs)) (hfs : fs.toList.map (fun f => (f.type, f.offset)) = [(ti, 0), (s, 1), (s', 2)]) (hi : P.underlying ti = some (.int .i64))
    (hs : P.underlying s = some (.slice e)) (he : P.underlying e = some (.struct fo)) (hs' : P.underlying s' = some (.slice e')) (he' : P.underlying e' = some (.struct fp))
    (ci : P.cellsOf ti = 1) (cs : P.cellsOf s = 1) (cs' : P.cellsOf s' = 1) (ct : P.cellsOf t = 3)
    (hone : oneCellFields P fo = true) (hC : P.cellsOf e = fo.size) (h6 : fo.size = 6) (hB : P.bytesOf e = 48) (hk : ∀ (j : Nat) (f : Field), fo[j]? = some f → P.underlying f.type = some (TypeDesc.int (if j = 5 then IntKind.u64 else IntKind.i64)))
    (hone' : oneCellFields P fp = true) (hC' : P.cellsOf e' = fp.size) (h3' : fp.size = 3) (hB' : P.bytesOf e' = 24) (hk' : ∀ (j : Nat) (f : Field), fp[j]? = some f → P.underlying f.type = some (.int .i64))
    (hv : Value.okWide P W .any base t v) (h : DataW.Trod enc P W 0 (fun _ => true) held t v d p) (hlt : ∀ x ∈ p, x.block < W.heap.size)
    (hsz : (DataW.weightsEach P ts ds).all (· ≤ reachBytes) = true) (hj : ts[j]? = some t) (hd : ds[j]? = some d) :
    ∃ (n : Int) (v0 v1 : Value) (L M : Nat) (f : Nat → Op6) (g : Nat → Sp3), v = .agg #[.int .i64 n, v0, v1] ∧ (Lit.int .i64 n).wf = true ∧ ROp W v0 L f ∧ RSp W v1 M g := by
  obtain ⟨cells, rfl, hcs⟩ : ∃ cs, v = .agg cs ∧ cs.size = P.cellsOf t := by
    unfold Value.okWide at hv
    rw [ht] at hv
    obtain ⟨cs, h1, h2, _⟩ := hv
    exact ⟨cs, h1, h2⟩
  rw [ct] at hcs
  obtain ⟨l⟩ := cells
  match l, hcs with
  | [c0, c1, c2], _ =>
    obtain ⟨fuel, hf⟩ := h
    obtain ⟨xs, m, _, hx, _, hlen, hget⟩ := DataW.trod_struct ht hf
    have hfl : fs.size = 3 := by have := congrArg List.length hfs; simpa using this
    rw [hfl] at hlen
    have hfi : ∀ i q o, [(ti, 0), (s, 1), (s', 2)][i]? = some (q, o) → ∃ f : Field, fs[i]? = some f ∧ f.type = q ∧ f.offset = o := fun i q o hq => by
      rw [← hfs, List.getElem?_map, Option.map_eq_some_iff] at hq
      obtain ⟨f, h1, h2⟩ := hq
      injection h2 with h3 h4
      exact ⟨f, by simpa using h1, h3, h4⟩
    match xs, hlen with
    | [y0, y1, y2], _ =>
      simp only [Prod.mk.injEq] at hx
      obtain ⟨rfl, rfl⟩ := hx
      have g : ∀ (i : Nat) (q : TypeId) (o : Nat), [(ti, 0), (s, 1), (s', 2)][i]? = some (q, o) → DataW.trod enc P W 0 (fun _ => true) held m q (([c0, c1, c2].drop o).take (P.cellsOf q)) = [y0, y1, y2][i]? := fun i q o hq => by
        obtain ⟨f, h1, rfl, rfl⟩ := hfi i q o hq
        exact hget i f h1
      have g0 := g 0 ti 0 rfl
      have g1 := g 1 s 1 rfl
      have g2 := g 2 s' 2 rfl
      rw [ci] at g0
      rw [cs] at g1
      rw [cs'] at g2
      simp only [List.drop_succ_cons, List.drop_zero, List.take_succ_cons, List.take_zero, List.getElem?_cons_zero, List.getElem?_cons_succ] at g0 g1 g2
      obtain ⟨n, e0, _, w0⟩ := DataW.trod_int hi g0
      simp only [List.cons.injEq, and_true] at e0
      subst e0
      have htp : fs.toList.map (·.type) = [ti, s, s'] := by
        have := congrArg (List.map Prod.fst) hfs
        rw [List.map_map] at this
        exact this
      have hall : ∀ (q : TypeId) (i : Nat) (y : DataW H), (fs.toList.map (·.type))[i]? = some q → ([y0, y1, y2].map (·.1))[i]? = some y → ∀ k ∈ y.weights P q, k ≤ reachBytes := fun q i y h1 h2 k hk => by
        have h8 := List.all_eq_true.1 hsz k (DataW.weights_mem_each hj hd k (by simp only [DataW.weights, ht]; exact each_has h1 h2 k hk))
        exact of_decide_eq_true h8
      obtain ⟨L, f, a1⟩ := rop_of_part hs he hone hC h6 hB hk g1 (fun x hx => hlt x (by simp [hx])) (hall s 1 _ (by rw [htp]; rfl) rfl)
      obtain ⟨M, q, a2⟩ := rsp_of_part hs' he' hone' hC' h3' hB' hk' g2 (fun x hx => hlt x (by simp [hx])) (hall s' 2 _ (by rw [htp]; rfl) rfl)
      exact ⟨n, c1, c2, L, M, f, q, rfl, w0, a1, a2⟩
end Go.Proofs.Ytffoinnllihdeaa
