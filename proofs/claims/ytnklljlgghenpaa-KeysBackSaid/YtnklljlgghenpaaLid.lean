/- General: what one block's turning leaves, slices that lie in a block of a kind, blocks of three cells. No program is named. -/
import Derived.Test.YtnklljlgghenpaaLib
namespace Go.Proofs.Ytnklljlgghenpaa
open Go.RowKit

/-! ### a slice whose cells lie in a block of a kind -/
/-- v reads, in w, as zs, and its cells (if there are any) lie in a block that S knows. -/
def RdS (k : IntKind) (w : World) (S : Nat → Prop) (v : Value) (zs : List Int) : Prop :=
  ∃ a cap, v = .slice a zs.length cap ∧ zs.length ≤ cap ∧ cap ≤ maxLen ∧ zs.length * (k.bits / 8) ≤ 140737488351232 ∧ (∀ z ∈ zs, (Lit.int k z).wf = true) ∧
    (0 < zs.length → ∃ g off, a = some ⟨g, off, none⟩ ∧ S g ∧ g < w.heap.size ∧ ∀ j, j < zs.length → w.cell? ⟨g, off + j, none⟩ = some (.int k (nth zs j)))

/-- But for block g (and new ones) w' is as w was. -/
structure Only (g : Nat) (w w' : World) : Prop where
  os : w'.os = w.os
  tape : w'.tape = w.tape
  output : w'.output = w.output
  size : w.heap.size ≤ w'.heap.size
  block : ∀ j, j < w.heap.size → j ≠ g → w'.heap[j]? = w.heap[j]?

theorem Only.below {g B : Nat} {w w' : World} (h : Only g w w') (hg : B ≤ g) (hB : B ≤ w.heap.size) : Below B w w' :=
  ⟨h.os, h.tape, h.output, h.size, fun j hj => h.block j (by omega) (by omega)⟩
theorem Only.of_below {g : Nat} {w w' : World} (h : Below w.heap.size w w') : Only g w w' := ⟨h.os, h.tape, h.output, h.size, fun j hj _ => h.block j hj⟩
theorem Only.refl (g : Nat) (w : World) : Only g w w := Only.of_below (Below.refl _ _)
theorem Only.trans {g : Nat} {a b c : World} (h : Only g a b) (k : Only g b c) : Only g a c :=
  ⟨k.os.trans h.os, k.tape.trans h.tape, k.output.trans h.output, Nat.le_trans h.size k.size, fun j hj hn => (k.block j (Nat.lt_of_lt_of_le hj h.size) hn).trans (h.block j hj hn)⟩
theorem Only.set {g : Nat} (w : World) {p : Addr} (hp : p.block = g) (u : Value) : Only g w (w.setCell p u) :=
  ⟨rfl, rfl, rfl, by simp [World.setCell], fun j _ hj => Below.heap_setCell _ _ _ _ (by omega)⟩
theorem Only.drew {g : Nat} {a w : World} (h : Only g a w) : Only g a w.drew := ⟨h.os, h.tape, h.output, h.size, h.block⟩
theorem Only.drewN (g : Nat) (w : World) (n : Nat) : Only g w (w.drewN n) := ⟨rfl, rfl, rfl, Nat.le_refl _, fun _ _ _ => rfl⟩
theorem Only.undrewN {g : Nat} {a w : World} {n : Nat} (h : Only g (a.drewN n) w) : Only g a w := ⟨h.os, h.tape, h.output, h.size, h.block⟩
theorem Only.cell {g : Nat} {w w' : World} (h : Only g w w') {p : Addr} (hp : p.block < w.heap.size) (hn : p.block ≠ g) : w'.cell? p = w.cell? p := World.cell?_of_block (w := w) (h.block p.block hp hn)
theorem Only.undrew {g : Nat} {a w : World} (h : Only g a.drew w) : Only g a w := ⟨h.os, h.tape, h.output, h.size, h.block⟩

theorem RdS.same {k : IntKind} {w w' : World} {S : Nat → Prop} {v : Value} {zs : List Int} (h : RdS k w S v zs) (hs : w.heap.size ≤ w'.heap.size) (hg : ∀ g, S g → g < w.heap.size → w'.heap[g]? = w.heap[g]?) : RdS k w' S v zs := by
  obtain ⟨a, cap, h1, h2, h3, h4, h5, h7⟩ := h
  refine ⟨a, cap, h1, h2, h3, h4, h5, fun hp => ?_⟩
  obtain ⟨g, off, e, hS, hlt, hc⟩ := h7 hp
  exact ⟨g, off, e, hS, Nat.lt_of_lt_of_le hlt hs, fun j hj => (World.cell?_of_block (w := w) (hg g hS hlt)).trans (hc j hj)⟩
theorem RdS.imp {k : IntKind} {w : World} {S T : Nat → Prop} {v : Value} {zs : List Int} (h : RdS k w S v zs) (hT : ∀ g, S g → g < w.heap.size → T g) : RdS k w T v zs := by
  obtain ⟨a, cap, h1, h2, h3, h4, h5, h7⟩ := h
  refine ⟨a, cap, h1, h2, h3, h4, h5, fun hp => ?_⟩
  obtain ⟨g, off, e, hS, hlt, hc⟩ := h7 hp
  exact ⟨g, off, e, hT g hS hlt, hlt, hc⟩
theorem RdS.only {k : IntKind} {w w' : World} {S : Nat → Prop} {c : Nat} {v : Value} {zs : List Int} (h : RdS k w S v zs) (o : Only c w w') (hn : ∀ g, S g → g ≠ c) : RdS k w' S v zs :=
  h.same o.size fun g hg hlt => o.block g hlt (hn g hg)
theorem RdS.below {k : IntKind} {w w' : World} {S : Nat → Prop} {v : Value} {zs : List Int} (h : RdS k w S v zs) (o : Below w.heap.size w w') : RdS k w' S v zs :=
  h.same o.size fun g _ hlt => o.block g hlt
theorem RdS.rd {k : IntKind} {w : World} {S : Nat → Prop} {v : Value} {zs : List Int} (h : RdS k w S v zs) : Rd k w v zs := by
  obtain ⟨a, cap, h1, h2, h3, h4, h5, h7⟩ := h
  exact ⟨a, cap, h1, h4, h5, fun hp => by obtain ⟨g, off, e, _, h6, hc⟩ := h7 hp; exact ⟨g, off, e, h6, hc⟩⟩

/-- What the call owns. -/
theorem Own.rds {k : IntKind} {B : Nat} {E : TypeId} {w : World} {v : Value} {zs : List Int} (h : Own k B E w v zs) (hb : zs.length * (k.bits / 8) ≤ 140737488351232) (hw : ∀ z ∈ zs, (Lit.int k z).wf = true) :
    RdS k w (fun g => B ≤ g ∧ g < w.heap.size) v zs := by
  obtain ⟨p, c, e, hlc, _⟩ := h.slice
  have hcap : c ≤ maxLen := by
    obtain ⟨_, h2⟩ := h
    rcases h2 with ⟨h2, _⟩ | ⟨g, cap, cur, h2, _, _, _, hc, _⟩
    · rw [h2] at e; injection e with e1 e2 e3; subst e3; unfold maxLen; omega
    · rw [h2] at e; injection e with e1 e2 e3; subst e3; exact hc
  refine ⟨p, c, e, hlc, hcap, hb, hw, fun hp => ?_⟩
  obtain ⟨g, cap, e', hgB, hg, hcell, _⟩ := h.part hp
  rw [e] at e'
  injection e' with e1 e2 e3; subst e1
  exact ⟨g, 0, rfl, ⟨hgB, hg⟩, hg, fun j hj => by rw [Nat.zero_add]; exact hcell j hj⟩

theorem cells3 {w : World} {b : Nat} {x y z : Value} {t : TypeId} (h : w.heap[b]? = some (.cells #[x, y, z] t (0, 0))) :
    w.cell? ⟨b, 0, none⟩ = some x ∧ w.cell? ⟨b, 1, none⟩ = some y ∧ w.cell? ⟨b, 2, none⟩ = some z ∧ ∀ o, w.frozen? ⟨b, o, none⟩ = false := by
  refine ⟨?_, ?_, ?_, fun o => ?_⟩ <;> simp [World.cell?, World.frozen?, h]
theorem set3_1 {w : World} {b : Nat} {x y z u : Value} {t : TypeId} (h : w.heap[b]? = some (.cells #[x, y, z] t (0, 0))) : (w.setCell ⟨b, 1, none⟩ u).heap[b]? = some (.cells #[x, u, z] t (0, 0)) := by
  simp [World.setCell, Array.getElem?_modify, h]
theorem set3_2 {w : World} {b : Nat} {x y z u : Value} {t : TypeId} (h : w.heap[b]? = some (.cells #[x, y, z] t (0, 0))) : (w.setCell ⟨b, 2, none⟩ u).heap[b]? = some (.cells #[x, y, u] t (0, 0)) := by
  simp [World.setCell, Array.getElem?_modify, h]
theorem set3_0 {w : World} {b : Nat} {x y z u : Value} {t : TypeId} (h : w.heap[b]? = some (.cells #[x, y, z] t (0, 0))) : (w.setCell ⟨b, 0, none⟩ u).heap[b]? = some (.cells #[u, y, z] t (0, 0)) := by
  simp [World.setCell, Array.getElem?_modify, h]

theorem below_undrewN {B n : Nat} {a w : World} (h : Below B (a.drewN n) w) : Below B a w := ⟨h.os, h.tape, h.output, h.size, h.block⟩
theorem Only.belowN {N b : Nat} {w0 w w' : World} (hB : Below N w0 w) (o : Only b w w') (h : N ≤ b) (hN : N ≤ w.heap.size) : Below N w0 w' := hB.trans (o.below h hN)
end Go.Proofs.Ytnklljlgghenpaa
