import Derived.Test.YtffoinnllihdeaaGen
import Derived.Test.YtffoinnllihdeaaTrp
import Derived.Deep.AppendLies
/- General: rows of records that an object owns; what an object owns, and what leaves it alone. No program is named. -/
namespace Go.Proofs.Ytffoinnllihdeaa
open Go.RowKit

/-- The cells of the first n records. -/
def recs (c : Nat → List Value) : Nat → List Value
  | 0 => []
  | n + 1 => recs c n ++ c n
theorem recs_len {c : Nat → List Value} {k : Nat} (hc : ∀ i, (c i).length = k) : ∀ n, (recs c n).length = n * k
  | 0 => by simp [recs]
  | n + 1 => by rw [recs, List.length_append, recs_len hc n, hc, Nat.add_mul, Nat.one_mul]
theorem recs_at {c : Nat → List Value} {k : Nat} (hc : ∀ i, (c i).length = k) {i j : Nat} (hj : j < k) : ∀ {n : Nat}, i < n → (recs c n)[i * k + j]? = (c i)[j]?
  | 0, h => by omega
  | n + 1, h => by
    rw [recs]
    have hl := recs_len hc n
    by_cases e : i = n
    · subst e
      rw [List.getElem?_append_right (by omega), hl, Nat.add_sub_cancel_left]
    · have hlt : i * k + j < n * k := by
        have h2 : (i + 1) * k ≤ n * k := Nat.mul_le_mul_right k (by omega)
        rw [Nat.add_mul, Nat.one_mul] at h2
        omega
      rw [List.getElem?_append_left (by omega)]
      exact recs_at hc hj (by omega)
theorem recs_ext {c d : Nat → List Value} : ∀ {n : Nat}, (∀ i, i < n → c i = d i) → recs c n = recs d n
  | 0, _ => rfl
  | n + 1, h => by rw [recs, recs, recs_ext (fun i hi => h i (by omega)), h n (by omega)]
/-- v is a row of n records c, of k cells each, that lies in a block from B on. -/
def Orw (w : World) (B : Nat) (E : TypeId) (k : Nat) (v : Value) (n : Nat) (c : Nat → List Value) : Prop := w.ownsRow B E k v n (recs c n)
section
variable {w w' : World} {B k n : Nat} {E : TypeId} {v : Value} {c : Nat → List Value}
theorem Orw.lt (h : Orw w B E k v n c) : ∀ j, v.ownBlock = some j → B ≤ j ∧ j < w.heap.size := World.ownsRow.lt h
theorem row_stays {xs : List Value} (h : w.ownsRow B E k v n xs) (hs : ∀ j, v.ownBlock = some j → w'.heap[j]? = w.heap[j]?) : w'.ownsRow B E k v n xs := by
  obtain ⟨h1, h2⟩ := h
  refine ⟨h1, ?_⟩
  rcases h2 with h2 | ⟨g, cap, cur, rfl, hg, hh, r⟩
  · exact .inl h2
  · exact .inr ⟨g, cap, cur, rfl, hg, (hs g rfl).trans hh, r⟩
theorem Orw.stays (h : Orw w B E k v n c) (hs : ∀ j, v.ownBlock = some j → w'.heap[j]? = w.heap[j]?) : Orw w' B E k v n c := row_stays h hs
theorem Orw.ext {d : Nat → List Value} (h : Orw w B E k v n c) (e : ∀ i, i < n → c i = d i) : Orw w B E k v n d := by unfold Orw at h ⊢; rw [← recs_ext e]; exact h
theorem Orw.slice (h : Orw w B E k v n c) : ∃ a cap, v = .slice a n cap ∧ n ≤ cap ∧ cap ≤ maxLen ∧ (∀ g, a = some g → v.ownBlock = some g.block ∧ g.off = 0 ∧ g.spot = none) ∧ (0 < n → ∃ g, a = some ⟨g, 0, none⟩) := by
  obtain ⟨_, h2⟩ := h
  rcases h2 with ⟨rfl, rfl⟩ | ⟨g, cap, cur, rfl, hg, hh, hn, hc, _⟩
  · refine ⟨none, 0, rfl, Nat.le_refl _, Nat.zero_le _, fun g e => ?_, fun h => by omega⟩
    cases e
  · exact ⟨some ⟨g, 0, none⟩, cap, rfl, hn, hc, fun a e => by injection e with e; subst e; exact ⟨rfl, rfl, rfl⟩, fun _ => ⟨g, rfl⟩⟩
theorem Orw.cell {g cap : Nat} (h : Orw w B E k (.slice (some ⟨g, 0, none⟩) n cap) n c) (hc : ∀ i, (c i).length = k) {i j : Nat} (hi : i < n) (hj : j < k) {u : Value} (hu : (c i)[j]? = some u) : w.cell? ⟨g, i * k + j, none⟩ = some u := by
  have := World.ownsRow.cells (g := g) h rfl (i * k + j) u (by rw [recs_at hc hj hi]; exact hu)
  simpa [Addr.add_lit] using this
end
/-- One record more; the row lies where it lay, or in the next new block. -/
theorem wp_append_rec {P : Program} {w : World} {o : Oper} {a : Act} {K : Act → World → Prop} {Q : Exit → Act → World → Prop} (s x : Operand) (t : TypeId)
    (ho : o.op = .call { callee := .builtin .append, args := #[s, x], argTypes := #[t, t] }) (B : Nat) (E : TypeId) (k by_ : Nat) (z : Value) (ht : P.underlying t = some (.slice E))
    (hinfo : (P.info? E).map (fun i => (i.zero, i.size, i.bytes)) = some (some z, k, by_)) (hz : z.cells.size = k) (hk : 0 < k)
    (sv : Value) (n : Nat) (c : Nat → List Value) (hs : a.eval s = sv) (hown : Orw w B E k sv n c) (ad : Addr) (cap : Nat) (hx : a.eval x = .slice (some ad) 1 cap) (hl : (c n).length = k) (hone : ∀ u ∈ c n, u.oneCell' = true)
    (hns : ∀ j u, (c n)[j]? = some u → w.cell? (ad.add j) = some u) (hm : n + 1 ≤ maxLen) (hlim : (n + 1) * by_ ≤ 140737488355328) (hB : B ≤ w.heap.size)
    (h : ∀ g cap' w', Orw w' B E k (.slice (some ⟨g, 0, none⟩) (n + 1) cap') (n + 1) c → w.grownBy w' sv.ownBlock → (sv.ownBlock = some g ∨ g = w.heap.size) → K (a.put o.dst (.slice (some ⟨g, 0, none⟩) (n + 1) cap')) w') : o.wp P a w K Q := by
  cases hq : P.info? E with
  | none => simp [hq] at hinfo
  | some i =>
    rw [hq] at hinfo
    simp only [Option.map_some, Option.some.injEq, Prod.mk.injEq] at hinfo
    obtain ⟨h1, h2, h3⟩ := hinfo
    exact wp_append_lies w s x t ho B E i z k by_ ht hq h1 h2 h3 hz hk sv n (recs c n) hs hown ad 1 cap (c n) hx (by omega) hns hone (by decide) hm hlim hB w.heap.size rfl (fun g cap' w' g1 g2 g3 _ => h g cap' w' g1 g2 g3)

/-- Nothing but what is in F, and new blocks, is touched. -/
structure Tch (F : Nat → Prop) (w w' : World) : Prop where
  os : w'.os = w.os
  tape : w'.tape = w.tape
  output : w'.output = w.output
  size : w.heap.size ≤ w'.heap.size
  block : ∀ k, k < w.heap.size → ¬ F k → w'.heap[k]? = w.heap[k]?
namespace Tch
variable {F G : Nat → Prop} {w w' w2 : World}
theorem refl (F : Nat → Prop) (w : World) : Tch F w w := ⟨rfl, rfl, rfl, Nat.le_refl _, fun _ _ _ => rfl⟩
theorem trans (h : Tch F w w') (k : Tch G w' w2) (hG : ∀ j, j < w.heap.size → G j → F j) : Tch F w w2 :=
  ⟨k.os.trans h.os, k.tape.trans h.tape, k.output.trans h.output, Nat.le_trans h.size k.size, fun j hj hF => (k.block j (Nat.lt_of_lt_of_le hj h.size) (fun g => hF (hG j hj g))).trans (h.block j hj hF)⟩
theorem mono (h : Tch F w w') (hF : ∀ j, j < w.heap.size → F j → G j) : Tch G w w' := ⟨h.os, h.tape, h.output, h.size, fun j hj hG => h.block j hj (fun f => hG (hF j hj f))⟩
theorem of_below (h : Below w.heap.size w w') : Tch F w w' := ⟨h.os, h.tape, h.output, h.size, fun k hk _ => h.block k hk⟩
theorem of_grown {r : Option Nat} (h : w.grownBy w' r) (hr : ∀ k, r = some k → F k) : Tch F w w' := ⟨h.os, h.tape, h.output, h.size, fun k hk hF => h.block k hk (fun e => hF (hr k e.symm))⟩
theorem below {B : Nat} (h : Tch F w w') (hF : ∀ k, F k → B ≤ k) (hB : B ≤ w.heap.size) : Below B w w' := ⟨h.os, h.tape, h.output, h.size, fun k hk => h.block k (by omega) (fun f => by have := hF k f; omega)⟩
theorem set (w : World) {b o : Nat} (v : Value) (hb : F b) : Tch F w (w.setCell ⟨b, o, none⟩ v) := ⟨rfl, rfl, rfl, by simp [World.setCell], fun k _ hF => heap_setCell_other w ⟨b, o, none⟩ k v (fun e => hF (e ▸ hb))⟩
end Tch
end Go.Proofs.Ytffoinnllihdeaa
