import Derived.Test.YtkeojphhgebhdaaGen
/- General: rows of any lengths: a list of them that is read, a list that the call owns and puts behind. No program is named. -/
namespace Go.Proofs.Ytkeojphhgebhdaa
open Go.ChangeShapes Go.WideShapes Go.ChangeAt Go.RowKit

/-- A row of something lies in no block c. -/
def Apart (u : Value) (c : Nat) : Prop := ∀ b off s n cap, u = .slice (some ⟨b, off, s⟩) n cap → 0 < n → b ≠ c
theorem rd_block {k : IntKind} {w : World} {u : Value} {z : List Int} (h : Rd k w u z) : ∀ b off s n cap, u = .slice (some ⟨b, off, s⟩) n cap → 0 < n → b < w.heap.size := by
  rintro b off s n cap rfl hn
  obtain ⟨a, c, e, _, _, hc⟩ := h
  injection e with e1 e2 e3
  obtain ⟨b', off', e', hlt, _⟩ := hc (by omega)
  rw [e'] at e1
  injection e1 with e1
  injection e1 with e1
  subst e1
  exact hlt
theorem rd_same {k : IntKind} {w w' : World} {u : Value} {z : List Int} {o : Option Nat} (h : Rd k w u z) (hg : w.grownBy w' o) (ha : ∀ c, o = some c → Apart u c) : Rd k w' u z := by
  obtain ⟨a, cap, rfl, h2, h3, h4⟩ := h
  refine ⟨a, cap, rfl, h2, h3, fun hp => ?_⟩
  obtain ⟨b, off, rfl, hbw, hc⟩ := h4 hp
  exact ⟨b, off, rfl, Nat.lt_of_lt_of_le hbw hg.size, fun j hj => (hg.cell_far ⟨b, off + j, none⟩ hbw (fun e => ha b e.symm b off none _ cap rfl hp rfl)).trans (hc j hj)⟩
theorem apart_new {k : IntKind} {w : World} {u : Value} {z : List Int} (h : Rd k w u z) {c : Nat} (hc : w.heap.size ≤ c) : Apart u c :=
  fun b off s n cap e hn => by have := rd_block h b off s n cap e hn; omega
theorem apart_own {k : IntKind} {B : Nat} {E : TypeId} {w : World} {v : Value} {z : List Int} (h : Own k B E w v z) {c : Nat} (hc : c < B) : Apart v c :=
  fun b off s n cap e hn => by
    subst e
    have := (h.lt b rfl).1
    omega
/-- Rows, the call's own list of them. -/
structure RwL (k : IntKind) (w : World) (B : Nat) (E : TypeId) (v : Value) (us : List Value) (Z : List (List Int)) : Prop where
  own : w.ownsRow B E 1 v us.length us
  len : us.length = Z.length
  each : ∀ (i : Nat) (u : Value) (z : List Int), us[i]? = some u → Z[i]? = some z → Rd k w u z ∧ ∀ c, v.ownBlock = some c → Apart u c
section
variable {k : IntKind} {w w' : World} {B : Nat} {E : TypeId} {v v' : Value} {us : List Value} {Z : List (List Int)}
theorem RwL.nil (k : IntKind) (w : World) (B : Nat) (E : TypeId) : RwL k w B E (.slice none 0 0) [] [] :=
  ⟨World.ownsRow_nil w B E 1, rfl, fun i u z h => by cases h⟩
theorem RwL.self (h : RwL k w B E v us Z) (hb : Below w.heap.size w w') : RwL k w' B E v us Z := by
  refine ⟨⟨h.own.1, ?_⟩, h.len, fun i u z h1 h2 => ⟨(h.each i u z h1 h2).1.self hb, (h.each i u z h1 h2).2⟩⟩
  rcases h.own.2 with ⟨e, e0⟩ | ⟨g, cap', cur, e, h1, h2, h3⟩
  · exact .inl ⟨e, e0⟩
  · exact .inr ⟨g, cap', cur, e, h1, (hb.block g (Array.getElem?_eq_some_iff.1 h2).1).trans h2, h3⟩
theorem RwL.lt (h : RwL k w B E v us Z) : ∀ j, v.ownBlock = some j → B ≤ j ∧ j < w.heap.size := World.ownsRow.lt h.own
/-- Rows behind the others. -/
theorem RwL.more {g cap n : Nat} (h : RwL k w B E v us Z) {xs : List Value} {Y : List (List Int)} (hl : xs.length = Y.length) (hn : us.length + xs.length = n)
    (he : ∀ (i : Nat) (u : Value) (z : List Int), xs[i]? = some u → Y[i]? = some z → Rd k w u z ∧ ∀ c, v.ownBlock = some c → Apart u c)
    (ho : w'.ownsRow B E 1 (.slice (some ⟨g, 0, none⟩) n cap) n (us ++ xs)) (hg : w.grownBy w' v.ownBlock) (hc : v.ownBlock = some g ∨ g = w.heap.size) :
    RwL k w' B E (.slice (some ⟨g, 0, none⟩) n cap) (us ++ xs) (Z ++ Y) := by
  refine ⟨by rw [List.length_append, hn]; exact ho, by rw [List.length_append, List.length_append, h.len, hl], fun i u z h1 h2 => ?_⟩
  have key : Rd k w u z ∧ ∀ c, v.ownBlock = some c → Apart u c := by
    by_cases hi : i < us.length
    · rw [List.getElem?_append_left hi] at h1
      rw [List.getElem?_append_left (by rw [← h.len]; exact hi)] at h2
      exact h.each i u z h1 h2
    · rw [List.getElem?_append_right (by omega)] at h1
      rw [List.getElem?_append_right (by rw [← h.len]; omega), ← h.len] at h2
      exact he _ u z h1 h2
  refine ⟨rd_same key.1 hg key.2, fun c e => ?_⟩
  simp only [Value.ownBlock, Option.some.injEq] at e
  subst e
  rcases hc with hc | hc
  · exact key.2 _ hc
  · exact apart_new key.1 (by omega)
end

/-- Rows that are read: m of them, from a on. -/
structure RdL (k : IntKind) (w : World) (a : Option Addr) (m : Nat) (us : Nat → Value) (zs : Nat → List Int) : Prop where
  out : 0 < m → ∃ g off, a = some ⟨g, off, none⟩ ∧ g < w.heap.size ∧ ∀ i, i < m → w.cell? ⟨g, off + i, none⟩ = some (us i)
  each : ∀ i, i < m → Rd k w (us i) (zs i)
theorem RdL.self {k : IntKind} {w w' : World} {a : Option Addr} {m : Nat} {us : Nat → Value} {zs : Nat → List Int} (h : RdL k w a m us zs) (hb : Below w.heap.size w w') : RdL k w' a m us zs := by
  refine ⟨fun h0 => ?_, fun i hi => (h.each i hi).self hb⟩
  obtain ⟨g, off, e, hg, hc⟩ := h.out h0
  exact ⟨g, off, e, Nat.lt_of_lt_of_le hg hb.size, fun i hi => (World.cell?_of_block (w := w) (hb.block g hg)).trans (hc i hi)⟩
/-- A list that is owned is read. -/
theorem RwL.rdl {k : IntKind} {w : World} {B : Nat} {E : TypeId} {v : Value} {us : List Value} {Z : List (List Int)} (h : RwL k w B E v us Z) :
    ∃ a cap, v = .slice a us.length cap ∧ us.length ≤ cap ∧ RdL k w a us.length (fun i => us.getD i default) (fun i => Z.getD i []) := by
  have he : ∀ i, i < us.length → Rd k w (us.getD i default) (Z.getD i []) := fun i hi => by
    have hz : i < Z.length := by rw [← h.len]; exact hi
    have := (h.each i _ _ (List.getElem?_eq_getElem hi) (List.getElem?_eq_getElem hz)).1
    simpa [List.getD, hi, hz] using this
  rcases h.own.2 with ⟨rfl, e0⟩ | ⟨g, cap, cur, rfl, h1, h2, h3, _⟩
  · exact ⟨none, 0, by rw [e0], by omega, fun h0 => absurd e0 (by omega), he⟩
  · refine ⟨_, cap, rfl, h3, fun _ => ⟨g, 0, rfl, (Array.getElem?_eq_some_iff.1 h2).1, fun i hi => ?_⟩, he⟩
    have := h.own.cells (g := g) rfl i _ (List.getElem?_eq_getElem hi)
    rw [Addr.add_mid, Nat.zero_add] at this
    rw [Nat.zero_add, this]
    simp [List.getD, hi]
/-- 'append(list, rows ..)'. -/
theorem wpList_append_rwl {P : Program} {w : World} {ops : Array Oper} {rest : List Oper} {o : Oper} {a : Act} {Q : Exit → Act → World → Prop} (hgd : o.guard = none) (s x : Operand) (t : TypeId)
    (ho : o.op = .call { callee := .builtin .append, args := #[s, x], argTypes := #[t, t] }) {k : IntKind} {B : Nat} {E : TypeId} {v : Value} {us : List Value} {Z : List (List Int)} (ht : P.underlying t = some (.slice E))
    (hinfo : (P.info? E).map (fun i => (i.zero, i.size, i.bytes)) = some (some (.slice none 0 0), 1, 24)) (h : RwL k w B E v us Z) (hs : a.eval s = v)
    (ad : Addr) (m c : Nat) (hx : a.eval x = .slice (some ad) m c) (xs : List Value) (Y : List (List Int)) (hm : xs.length = m) (hl : xs.length = Y.length) (hm0 : 0 < m) (hcs : ∀ (j : Nat) (u : Value), xs[j]? = some u → w.cell? (ad.add j) = some u)
    (he : ∀ (i : Nat) (u : Value) (z : List Int), xs[i]? = some u → Y[i]? = some z → Rd k w u z ∧ ∀ c, v.ownBlock = some c → Apart u c) (hlim : us.length + m ≤ 5864062014805) (hB : B ≤ w.heap.size) (n : Nat) (hn : us.length + m = n)
    (hK : ∀ g cap w', RwL k w' B E (.slice (some ⟨g, 0, none⟩) n cap) (us ++ xs) (Z ++ Y) → w.grownBy w' v.ownBlock → wpList P ops Q rest (a.put o.dst (.slice (some ⟨g, 0, none⟩) n cap)) w') : wpList P ops Q (o :: rest) a w := by
  obtain ⟨i0, hi, hz0, hz1, hz2⟩ := info_parts hinfo
  subst hn
  refine wpList_append_lies w hgd s x t ho B E i0 _ 1 24 ht hi hz0 hz1 hz2 rfl (by decide) v us.length us hs h.own ad m c xs hx (by omega) hcs (fun u hu => ?_) hm0 (by unfold maxLen; omega) (by omega) hB _ rfl (fun g cap w' h2 h3 h4 _ => hK g cap w' (h.more hl (by omega) he h2 h3 h4) h3)
  obtain ⟨j, hj⟩ := List.getElem?_of_mem hu
  have hj2 : j < Y.length := by rw [← hl]; exact (List.getElem?_eq_some_iff.1 hj).1
  obtain ⟨a', c', rfl, _⟩ := (he j u _ hj (List.getElem?_eq_getElem hj2)).1
  rfl
end Go.Proofs.Ytkeojphhgebhdaa
