import Derived.Test.YthkijncnndoafaaGreatDoorGen
import Derived.Test.YthkijncnndoafaaGreatDoorGenB
import Derived.Laws.Rows
import Derived.Laws.Tables
import Derived.Laws.StructEq
import Derived.ChangeKeysEq
import Derived.Deep.WholeRow
import Derived.Test.YthkijncnndoafaaGreatDoorBtf
namespace Go.Proofs.YthkijncnndoafaaGreatDoor
open Go.ChangeShapes Go.WideShapes Go.ChangeAt Go.RowKit

theorem wa_size (n : Nat) (f : Nat → Nat) : (wa n f).size = n := by simp [wa]
theorem wa_get {n : Nat} (f : Nat → Nat) {j : Nat} (h : j < n) : (wa n f)[j]? = some (.int .u64 (f j : Int)) := by simp [wa, h]
section prog
variable {P : Program}

end prog
section prog2
variable {P : Program}
end prog2

theorem wa_open {H : Type} {enc : TypeId × Value → H} {P : Program} {W : World} {sp : Nat → Bool} {held : Bool} {n : Nat} {t e : TypeId} {base : Nat} {v : Value} {d : DataW H} {p : List MemPlace} {b0 : Nat}
  (ht : P.underlying t = some (.array n e)) (he : P.underlying e = some (.int .u64)) (hc : P.cellsOf e = 1) (hct : P.cellsOf t = n)
  (hv : Value.okWide P W .any b0 t v) (h : DataW.Trod enc P W base sp held t v d p) :
  ∃ f : Nat → Nat, v = .agg (wa n f) ∧ ∀ i, i < n → f i < 2 ^ 64 := by
 obtain ⟨zs, rfl, hl, hw⟩ := arr_open ht he hc hct hv h
 have hb : ∀ i, i < n → 0 ≤ nth zs i ∧ nth zs i ≤ 18446744073709551615 := fun i hi => by
  rw [nth_of (show i < zs.length by omega)]; exact bounds_u64 (hw _ (List.getElem_mem _))
 refine ⟨fun i => (nth zs i).toNat, ?_, fun i hi => by have := hb i hi; show (nth zs i).toNat < 2 ^ 64; omega⟩
 congr 1
 apply Array.ext_getElem?
 intro i
 by_cases hi : i < n
 ·
  rw [wa_get _ hi]
  have := hb i hi
  simp only [List.getElem?_toArray, List.getElem?_map, List.getElem?_eq_getElem (show i < zs.length by omega), Option.map_some]
  rw [nth_of (show i < zs.length by omega)] at this ⊢
  congr 2; omega
 ·
  have h2 : (wa n (fun i => (nth zs i).toNat))[i]? = none := by simp [wa_size]; omega
  rw [h2]
  simp; omega
end Go.Proofs.YthkijncnndoafaaGreatDoor
