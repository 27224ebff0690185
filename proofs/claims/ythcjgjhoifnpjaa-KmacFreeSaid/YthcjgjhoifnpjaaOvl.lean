/- General: rows of values of one cell that the call owns (bools and the like), in a block that is named. No program is named. -/
import Derived.Test.YthcjgjhoifnpjaaGen
namespace Go.Proofs.Ythcjgjhoifnpjaa
open Go.ChangeShapes Go.WideShapes Go.ChangeAt Go.RowKit

/-- Block g is the call's own, has room for cap, and begins with the values xs. -/
def OV (B : Nat) (E : TypeId) (w : World) (g cap : Nat) (xs : List Value) : Prop := w.ownsRow B E 1 (.slice (some ⟨g, 0, none⟩) xs.length cap) xs.length xs
section
variable {B : Nat} {E : TypeId} {w : World} {g cap : Nat} {xs : List Value}
theorem OV.open (h : OV B E w g cap xs) : ∃ cur : Array Value, B ≤ g ∧ w.heap[g]? = some (.cells cur E (0, 0)) ∧ xs.length ≤ cap ∧ cap ≤ maxLen ∧ cur.size = cap ∧ cur.toList.take xs.length = xs := by
  obtain ⟨_, h2⟩ := h
  rcases h2 with ⟨h2, _⟩ | ⟨g', cap', cur, h2, hb, hg, hn, hc, hs, ht⟩
  · cases h2
  · simp only [Value.slice.injEq, Option.some.injEq, Addr.mk.injEq] at h2
    obtain ⟨⟨rfl, _, _⟩, _, rfl⟩ := h2
    exact ⟨cur, hb, hg, hn, hc, by simpa using hs, by simpa using ht⟩
theorem OV.mk {cur : Array Value} (hb : B ≤ g) (hg : w.heap[g]? = some (.cells cur E (0, 0))) (hn : xs.length ≤ cap) (hc : cap ≤ maxLen) (hs : cur.size = cap) (ht : cur.toList.take xs.length = xs) : OV B E w g cap xs :=
  ⟨by simp, .inr ⟨g, cap, cur, rfl, hb, hg, hn, hc, by simpa using hs, by simpa using ht⟩⟩
theorem OV.lt (h : OV B E w g cap xs) : B ≤ g ∧ g < w.heap.size ∧ xs.length ≤ cap := by
  obtain ⟨cur, h1, h2, h3, _⟩ := h.open
  exact ⟨h1, (Array.getElem?_eq_some_iff.1 h2).1, h3⟩
theorem OV.cell (h : OV B E w g cap xs) {j : Nat} {u : Value} (hj : xs[j]? = some u) : w.cell? ⟨g, j, none⟩ = some u := by
  obtain ⟨cur, _, hg, _, _, _, ht⟩ := h.open
  have hl : j < xs.length := (List.getElem?_eq_some_iff.1 hj).1
  have e := congrArg (fun l => l[j]?) ht
  simp only [List.getElem?_take, hl, if_true] at e
  simp only [World.cell?, hg]
  rw [← hj, ← e]
  simp
theorem OV.free (h : OV B E w g cap xs) (o : Nat) : w.frozen? ⟨g, o, none⟩ = false := by
  obtain ⟨cur, _, hg, _⟩ := h.open
  simp [World.frozen?, hg]
theorem OV.set (h : OV B E w g cap xs) (j : Nat) (u : Value) : OV B E (w.setCell ⟨g, j, none⟩ u) g cap (xs.set j u) := by
  obtain ⟨cur, hb, hg, hn, hc, hs, ht⟩ := h.open
  refine OV.mk (cur := cur.setIfInBounds j u) hb ?_ (by simpa using hn) hc (by simpa using hs) ?_
  · simp [World.setCell, Array.getElem?_modify, hg]
  · rw [List.length_set, Array.toList_setIfInBounds, List.take_set, ht]
theorem OV.new (w : World) (hB : B ≤ w.heap.size) (cs : Array Value) (n : Nat) (hn : n = cs.size) (hm : n ≤ maxLen) : OV B E (w.alloc (.cells cs E)) w.heap.size n cs.toList := by
  subst hn
  exact OV.mk hB (heap_alloc_new w _) (by simp) hm rfl (List.take_length)
theorem OV.alloc (h : OV B E w g cap xs) (o : Obj) : OV B E (w.alloc o) g cap xs := World.ownsRow.alloc h o
theorem OV.drew (h : OV B E w g cap xs) : OV B E w.drew g cap xs := h
end
/-- 'append' of values that can be read, onto a row of the call's own. -/
theorem wpList_append_ov {P : Program} {w : World} {ops : Array Oper} {rest : List Oper} {o : Oper} {a : Act} {Q : Exit → Act → World → Prop} (hgd : o.guard = none) (s x : Operand) (t : TypeId)
    (ho : o.op = .call { callee := .builtin .append, args := #[s, x], argTypes := #[t, t] }) (z : Value) (bytes B : Nat) (E : TypeId) (ht : P.underlying t = some (.slice E))
    (hinfo : (P.info? E).map (fun i => (i.zero, i.size, i.bytes)) = some (some z, 1, bytes)) (hz : z.cells.size = 1)
    (g cap : Nat) (xs : List Value) (n : Nat) (hn : n = xs.length) (hs : a.eval s = .slice (some ⟨g, 0, none⟩) n cap) (hown : OV B E w g cap xs) (ad : Addr) (m c : Nat) (news : List Value) (hx : a.eval x = .slice (some ad) m c) (hm : news.length = m)
    (hnews : ∀ j u, news[j]? = some u → w.cell? (ad.add j) = some u) (h1 : ∀ u ∈ news, u.oneCell' = true) (hlen : xs.length + m ≤ maxLen)
    (hlim : (xs.length + m) * bytes ≤ 140737488355328) (hB : B ≤ w.heap.size) (B0 : Nat) (w0 : World) (hb : Below B0 w0 w) (hBB : B0 ≤ B)
    (h : ∀ g' cap' w', OV B E w' g' cap' (xs ++ news) → Below B0 w0 w' → w.heap.size ≤ w'.heap.size → wpList P ops Q rest (a.put o.dst (.slice (some ⟨g', 0, none⟩) (n + m) cap')) w') : wpList P ops Q (o :: rest) a w := by
  subst hn
  obtain ⟨i0, hi, hz0, hz1, hz2⟩ := info_parts hinfo
  refine wpList_append_own w hgd s x t ho B E i0 z 1 bytes ht hi hz0 hz1 hz2 hz (by decide) _ xs.length xs hs hown ad m c news hx (by rw [hm, Nat.mul_one]) hnews h1 hlen hlim hB ?_
  intro v' w' h2 h3 h4
  have hne : v' ≠ .slice none 0 0 := fun e => by have := (h4.1 e).1; cases this
  obtain ⟨h5, h6⟩ := h2
  rcases h6 with ⟨h6, _⟩ | ⟨g', cap', cur, rfl, q1, q2, q3, q4, q5, q6⟩
  · exact absurd h6 hne
  · refine h g' cap' w' ?_ (hb.grown h3 (by have := hown.lt; omega) (fun j hj => by simp [Value.ownBlock] at hj; subst hj; have := hown.lt; omega)) h3.size
    refine OV.mk q1 q2 (by rw [List.length_append, hm]; exact q3) q4 (by simpa using q5) (by rw [List.length_append, hm]; simpa using q6)
end Go.Proofs.Ythcjgjhoifnpjaa
