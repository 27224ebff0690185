import Derived.Test.YtkeojphhgebhdaaGen
import Derived.Deep.RegionHeld
/- General: rows as strings, in regions that draw: the condition that every world meets is made stronger on the way. No program is named. -/
namespace Go.Proofs.Ytkeojphhgebhdaa
open Go.ChangeShapes Go.WideShapes Go.ChangeAt Go.RowKit

/-- A row of bytes that is read, however long. -/
def Rw (w : World) (v : Value) (zs : List Int) : Prop := ∃ a cap, v = .slice a zs.length cap ∧ (0 < zs.length → ∃ b off, a = some ⟨b, off, none⟩ ∧ b < w.heap.size ∧ ∀ j, j < zs.length → w.cell? ⟨b, off + j, none⟩ = some (.int .u8 (nth zs j)))
theorem Rw.of_rd {w : World} {v : Value} {zs : List Int} (h : Rd .u8 w v zs) : Rw w v zs := by
  obtain ⟨a, cap, h1, _, _, h2⟩ := h
  exact ⟨a, cap, h1, h2⟩
theorem Rw.self {w w' : World} {v : Value} {zs : List Int} (h : Rw w v zs) (hb : Below w.heap.size w w') : Rw w' v zs := by
  obtain ⟨a, cap, h1, h2⟩ := h
  refine ⟨a, cap, h1, fun h0 => ?_⟩
  obtain ⟨b, off, e, hlt, hc⟩ := h2 h0
  exact ⟨b, off, e, Nat.lt_of_lt_of_le hlt hb.size, fun j hj => (World.cell?_of_block (w := w) (hb.block b hlt)).trans (hc j hj)⟩
theorem Rw.of_own {B : Nat} {E : TypeId} {w : World} {v : Value} {zs : List Int} (h : Own .u8 B E w v zs) : Rw w v zs := by
  by_cases h0 : 0 < zs.length
  · obtain ⟨g, cap, e, _, h2, hc, _⟩ := h.part h0
    exact ⟨_, cap, e, fun _ => ⟨g, 0, rfl, h2, fun j hj => by rw [Nat.zero_add]; exact hc j hj⟩⟩
  · obtain ⟨p, cap, e, _⟩ := h.slice
    exact ⟨p, cap, e, fun h => absurd h h0⟩
theorem rw_nil (w : World) : Rw w (.slice none 0 0) [] := ⟨none, 0, rfl, fun h => absurd h (by decide)⟩
theorem run_conv_rw {P : Program} {w : World} {v : Value} {zs : List Int} {src e : TypeId} (h : Rw w v zs) (hs : P.underlying src = some (.slice e)) (he : P.underlying e = some (.int .u8)) (dst : TypeId) (hd : P.underlying dst = some .string) :
    (convert src dst v).run P w = .ok (.string (strOfNums zs)) w := by
  obtain ⟨a, cap, rfl, hc⟩ := h
  by_cases hp : 0 < zs.length
  · obtain ⟨b, off, rfl, _, hc⟩ := hc hp
    exact run_convert_bytes_arg w src e hs he b off zs.length cap zs rfl (fun i hi => hc i hi) dst hd
  · obtain rfl : zs = [] := List.eq_nil_of_length_eq_zero (by omega)
    rw [run_convert_bytes_string w src dst e _ _ _ hs he hd]
    cases a with
    | none => simp [Conv.bytesToString, strOfNums]; rfl
    | some a =>
      have hl : (loadCells a 0).run P w = .ok (([] : List Int).map (Value.int .u8)).toArray w := by simp [loadCells, loadCellsFrom]
      exact run_bytesToString w a 0 cap [] hl

section
variable {P : Program} {md : Region.Mode} {ops : Array Oper} {Q : Exit → Act → World → Prop} {S S' : World → Prop}
/-- On the way the condition may be made stronger. -/
theorem wpAnyH_mono (hs : ∀ w, S' w → S w) : ∀ (fuel : Nat) (listed : Array Bool) (a : Act) (w : World), wpAnyH P md ops Q S' fuel listed a w → wpAnyH P md ops Q S fuel listed a w
  | 0, _, _, _, h => h
  | fuel + 1, _, _, _, h => ⟨h.1, fun i hi => wpOp_mono (fun a' w' h' => ⟨hs w' h'.1, wpAnyH_mono hs fuel _ a' w' h'.2⟩) (h.2 i hi)⟩
/-- .. from here on: what lies there stays. -/
theorem wpAnyH_from {fuel : Nat} {listed : Array Bool} {a : Act} {w0 w : World} (hb : Below w0.heap.size w0 w) (h : Below w.heap.size w w → wpAnyH P md ops Q (fun w' => Below w.heap.size w w') fuel listed a w) :
    wpAnyH P md ops Q (fun w' => Below w0.heap.size w0 w') fuel listed a w :=
  wpAnyH_mono (fun _ h' => hb.trans (h'.mono hb.size)) _ _ _ _ (h (Below.refl _ _))
theorem yields_conv {o : Oper} {a : Act} {v : Value} {zs : List Int} {src e dst : TypeId} (hw : Region.wanted o (yielded ops a.tmps) = true) (x : Operand) (ho : o.op = .convert src dst x) (hx : a.eval x = v) (hS : ∀ w, S w → Rw w v zs)
    (hs : P.underlying src = some (.slice e)) (he : P.underlying e = some (.int .u8)) (hd : P.underlying dst = some .string) : YieldsIf P ops S o (.string (strOfNums zs)) a :=
  .inl ⟨hw, fun w h => by
    have := run_conv_rw (P := P) (hS w h) hs he dst hd
    unfold execOp
    simp only [ho, hx, Sem.run_bind, this, Result.andThen_ok, Sem.run_pure]⟩
end
end Go.Proofs.Ytkeojphhgebhdaa
