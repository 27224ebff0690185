import Derived.Test.YtffoinnllihdeaaGen
import Derived.ChangeArms
/- General: a struct that comes in: two ints, three slices of bytes, and a bool. No program is named. -/
namespace Go.Proofs.Ytffoinnllihdeaa
open Go.ChangeShapes Go.WideShapes Go.ChangeAt Go.RowKit Go.Deep

theorem each_has {H : Type} {P : Program} : ∀ {ts : List TypeId} {l : List (DataW H)} {i : Nat} {t : TypeId} {d : DataW H}, ts[i]? = some t → l[i]? = some d → ∀ n ∈ d.weights P t, n ∈ DataW.weightsEach P ts l
  | t :: ts, d :: l, 0, _, _, h1, h2, n, hn => by
    injection h1 with h1; injection h2 with h2; subst h1 h2
    rw [DataW.weightsEach]; exact List.mem_append_left _ hn
  | t :: ts, d :: l, i + 1, _, _, h1, h2, n, hn => by
    rw [DataW.weightsEach]; exact List.mem_append_right _ (each_has (i := i) (by simpa using h1) (by simpa using h2) n hn)
  | [], _, _, _, _, h1, _, _, _ => by simp at h1
  | _ :: _, [], _, _, _, _, h2, _, _ => by simp at h2
theorem six_open {H : Type} {enc : TypeId × Value → H} {P : Program} {W : World} {held : Bool} {t ti s e tb : TypeId} {fs : Array Field} {base : Nat} {v : Value} {d : DataW H} {p : List MemPlace} {ts : List TypeId} {ds : List (DataW H)} {j : Nat}
    (ht : P.underlying t = some (.struct fs)) (hfs : fs.toList.map (fun f => (f.type, f.offset)) = [(ti, 0), (ti, 1), (s, 2), (s, 3), (s, 4), (tb, 5)]) (hi : P.underlying ti = some (.int .i64)) (hs : P.underlying s = some (.slice e)) (he : P.underlying e = some (.int .u8)) (hb : P.underlying tb = some .bool)
    (ci : P.cellsOf ti = 1) (cs : P.cellsOf s = 1) (cb : P.cellsOf tb = 1) (ct : P.cellsOf t = 6) (ce : P.cellsOf e = 1) (be : P.bytesOf e = 1)
    (hv : Value.okWide P W .any base t v) (h : DataW.Trod enc P W 0 (fun _ => true) held t v d p) (hlt : ∀ x ∈ p, x.block < W.heap.size)
    (hsz : (DataW.weightsEach P ts ds).all (· ≤ reachBytes) = true) (hj : ts[j]? = some t) (hd : ds[j]? = some d) :
    ∃ (x n : Int) (v0 v1 v2 : Value) (b : Bool) (z0 z1 z2 : List Int), v = .agg #[.int .i64 x, .int .i64 n, v0, v1, v2, .bool b] ∧ (Lit.int .i64 x).wf = true ∧ (Lit.int .i64 n).wf = true ∧
      (Rd .u8 W v0 z0 ∧ ∀ a n c, v0 = .slice a n c → n ≤ c ∧ c ≤ maxLen) ∧ (Rd .u8 W v1 z1 ∧ ∀ a n c, v1 = .slice a n c → n ≤ c ∧ c ≤ maxLen) ∧ (Rd .u8 W v2 z2 ∧ ∀ a n c, v2 = .slice a n c → n ≤ c ∧ c ≤ maxLen) := by
  obtain ⟨cells, rfl, hcs⟩ : ∃ cs, v = .agg cs ∧ cs.size = P.cellsOf t := by
    unfold Value.okWide at hv
    rw [ht] at hv
    obtain ⟨cs, h1, h2, _⟩ := hv
    exact ⟨cs, h1, h2⟩
  rw [ct] at hcs
  obtain ⟨l⟩ := cells
  match l, hcs with
  | [c0, c1, c2, c3, c4, c5], _ =>
    obtain ⟨fuel, hf⟩ := h
    obtain ⟨xs, m, _, hx, _, hlen, hget⟩ := DataW.trod_struct ht hf
    have hfl : fs.size = 6 := by have := congrArg List.length hfs; simpa using this
    rw [hfl] at hlen
    have hfi : ∀ i q o, [(ti, 0), (ti, 1), (s, 2), (s, 3), (s, 4), (tb, 5)][i]? = some (q, o) → ∃ f : Field, fs[i]? = some f ∧ f.type = q ∧ f.offset = o := fun i q o hq => by
      rw [← hfs, List.getElem?_map, Option.map_eq_some_iff] at hq
      obtain ⟨f, h1, h2⟩ := hq
      injection h2 with h3 h4
      exact ⟨f, by simpa using h1, h3, h4⟩
    match xs, hlen with
    | [y0, y1, y2, y3, y4, y5], _ =>
      simp only [Prod.mk.injEq] at hx
      obtain ⟨rfl, rfl⟩ := hx
      have g : ∀ (i : Nat) (q : TypeId) (o : Nat), [(ti, 0), (ti, 1), (s, 2), (s, 3), (s, 4), (tb, 5)][i]? = some (q, o) → DataW.trod enc P W 0 (fun _ => true) held m q (([c0, c1, c2, c3, c4, c5].drop o).take (P.cellsOf q)) = [y0, y1, y2, y3, y4, y5][i]? := fun i q o hq => by
        obtain ⟨f, h1, rfl, rfl⟩ := hfi i q o hq
        exact hget i f h1
      have g0 := g 0 ti 0 rfl
      have g1 := g 1 ti 1 rfl
      have g2 := g 2 s 2 rfl
      have g3 := g 3 s 3 rfl
      have g4 := g 4 s 4 rfl
      have g5 := g 5 tb 5 rfl
      rw [ci] at g0 g1
      rw [cs] at g2 g3 g4
      rw [cb] at g5
      simp only [List.drop_succ_cons, List.drop_zero, List.take_succ_cons, List.take_zero, List.getElem?_cons_zero, List.getElem?_cons_succ] at g0 g1 g2 g3 g4 g5
      obtain ⟨x, e0, _, w0⟩ := DataW.trod_int hi g0
      obtain ⟨n, e1, _, w1⟩ := DataW.trod_int hi g1
      obtain ⟨b, e5, _⟩ := DataW.trod_bool hb g5
      simp only [List.cons.injEq, and_true] at e0 e1 e5
      subst e0 e1 e5
      have hall : ∀ (i : Nat) (y : DataW H), (fs.toList.map (·.type))[i]? = some s → ([y0, y1, y2, y3, y4, y5].map (·.1))[i]? = some y → ∀ k ∈ y.weights P s, k ≤ reachBytes := fun i y h1 h2 k hk => by
        have h8 := List.all_eq_true.1 hsz k (DataW.weights_mem_each hj hd k (by simp only [DataW.weights, ht]; exact each_has h1 h2 k hk))
        exact of_decide_eq_true h8
      have htp : fs.toList.map (·.type) = [ti, ti, s, s, s, tb] := by
        have := congrArg (List.map Prod.fst) hfs
        rw [List.map_map] at this
        exact this
      obtain ⟨z0, a0⟩ := rd_of_part (k := .u8) hs he ce be g2 (fun x hx => hlt x (by simp [hx])) (hall 2 _ (by rw [htp]; rfl) rfl)
      obtain ⟨z1, a1⟩ := rd_of_part (k := .u8) hs he ce be g3 (fun x hx => hlt x (by simp [hx])) (hall 3 _ (by rw [htp]; rfl) rfl)
      obtain ⟨z2, a2⟩ := rd_of_part (k := .u8) hs he ce be g4 (fun x hx => hlt x (by simp [hx])) (hall 4 _ (by rw [htp]; rfl) rfl)
      exact ⟨x, n, c2, c3, c4, b, z0, z1, z2, rfl, w0, w1, a0, a1, a2⟩
end Go.Proofs.Ytffoinnllihdeaa
