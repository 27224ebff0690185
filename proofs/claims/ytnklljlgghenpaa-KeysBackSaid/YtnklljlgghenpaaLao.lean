/- General: an array of bytes that comes in by value, read as numbers. No program is named. -/
import Derived.Test.YtnklljlgghenpaaArr
namespace Go.Proofs.Ytnklljlgghenpaa
open Go.ChangeShapes Go.WideShapes Go.ChangeAt Go.RowKit

theorem arr_open {H : Type} {enc : TypeId × Value → H} {P : Program} {W : World} {sp : Nat → Bool} {held : Bool} {k : IntKind} {n : Nat} {t e : TypeId} {base : Nat} {v : Value} {d : DataW H} {p : List MemPlace} {b0 : Nat}
    (ht : P.underlying t = some (.array n e)) (he : P.underlying e = some (.int k)) (hc : P.cellsOf e = 1) (hct : P.cellsOf t = n)
    (hv : Value.okWide P W .any b0 t v) (h : DataW.Trod enc P W base sp held t v d p) :
    ∃ zs : List Int, v = .agg (zs.map (Value.int k)).toArray ∧ zs.length = n ∧ ∀ z ∈ zs, (Lit.int k z).wf = true := by
  have hv' : ∃ cs, v = .agg cs ∧ cs.size = P.cellsOf t := by
    unfold Value.okWide at hv
    rw [ht] at hv
    obtain ⟨cs, h1, h2, _⟩ := hv
    exact ⟨cs, h1, h2⟩
  obtain ⟨cs, rfl, hcs⟩ := hv'
  obtain ⟨fuel, hf⟩ := h
  obtain ⟨xs, m, rfl, _, hl, hxl, hel⟩ := DataW.trod_array ht hf
  simp only [Value.cells, hc, Nat.mul_one, hct] at hl hel
  have each : ∀ i (h : i < cs.toList.length), ∃ z, cs.toList[i] = .int k z ∧ (Lit.int k z).wf = true := by
    intro i hi
    have h1 := hel i (by omega)
    rw [List.drop_eq_getElem_cons hi, List.take_succ_cons, List.take_zero, List.getElem?_eq_getElem (by omega)] at h1
    obtain ⟨z, hz, _, hw⟩ := DataW.trod_int he h1
    simp only [List.cons.injEq, and_true] at hz
    exact ⟨z, hz, hw⟩
  have lst : ∀ l : List Value, (∀ i (h : i < l.length), ∃ z, l[i] = .int k z ∧ (Lit.int k z).wf = true) → ∃ zs : List Int, l = zs.map (Value.int k) ∧ ∀ z ∈ zs, (Lit.int k z).wf = true := by
    intro l
    induction l with
    | nil => intro _; exact ⟨[], rfl, by simp⟩
    | cons a r ih =>
      intro h
      obtain ⟨z, hz, hw⟩ := h 0 (by simp)
      obtain ⟨zs, hr, hws⟩ := ih (fun i hi => h (i + 1) (by simp; omega))
      simp only [List.getElem_cons_zero] at hz
      exact ⟨z :: zs, by rw [hz, hr]; rfl, by intro y hy; rcases List.mem_cons.1 hy with rfl | hy; exact hw; exact hws y hy⟩
  obtain ⟨zs, hz, hws⟩ := lst _ each
  refine ⟨zs, by rw [← hz], ?_, hws⟩
  have := congrArg List.length hz
  simp at this hl; omega


/-- .. of n bytes. -/
theorem ba_open {H : Type} {enc : TypeId × Value → H} {P : Program} {W : World} {sp : Nat → Bool} {held : Bool} {n : Nat} {t e : TypeId} {base : Nat} {v : Value} {d : DataW H} {p : List MemPlace} {b0 : Nat}
    (ht : P.underlying t = some (.array n e)) (he : P.underlying e = some (.int .u8)) (hc : P.cellsOf e = 1) (hct : P.cellsOf t = n)
    (hv : Value.okWide P W .any b0 t v) (h : DataW.Trod enc P W base sp held t v d p) :
    ∃ f : Nat → Nat, v = .agg (ba n f) ∧ ∀ i, i < n → f i < 256 := by
  obtain ⟨zs, rfl, hl, hw⟩ := arr_open ht he hc hct hv h
  have hb : ∀ i, i < n → 0 ≤ nth zs i ∧ nth zs i ≤ 255 := fun i hi => by
    rw [nth_of (show i < zs.length by omega)]; exact bounds_u8 (hw _ (List.getElem_mem _))
  refine ⟨fun i => (nth zs i).toNat, ?_, fun i hi => by have := hb i hi; show (nth zs i).toNat < 256; omega⟩
  congr 1
  apply Array.ext_getElem?
  intro i
  by_cases hi : i < n
  · rw [ba_get _ hi]
    have := hb i hi
    simp only [List.getElem?_toArray, List.getElem?_map, List.getElem?_eq_getElem (show i < zs.length by omega), Option.map_some]
    rw [nth_of (show i < zs.length by omega)] at this ⊢
    congr 2; omega
  · have h2 : (ba n (fun i => (nth zs i).toNat))[i]? = none := by simp [ba_size]; omega
    rw [h2]
    simp; omega
end Go.Proofs.Ytnklljlgghenpaa
