/- General: slices of structs of whole numbers that come in. No program is named. -/
import Derived.Test.YtolagogfjfcmaaaLib
import Derived.Deep.Slices
import Derived.Deep.Fields
namespace Go.Proofs.Ytolagogfjfcmaaa
open Go.ChangeShapes Go.WideShapes Go.ChangeAt Go.RowKit Go.Deep

/-- A slice of structs, each field a whole number: each number's cell. -/
theorem recs_open {H : Type} {enc : TypeId × Value → H} {P : Program} {W : World} {held : Bool} {t e : TypeId} {fs : Array Field} {base : Nat} {v : Value} {d : DataW H} {p : List MemPlace} {ts : List TypeId} {ds : List (DataW H)} {j0 : Nat} (ks : Nat → IntKind)
    (ht : P.underlying t = some (.slice e)) (he : P.underlying e = some (.struct fs)) (hone : oneCellFields P fs = true) (hC : P.cellsOf e = fs.size)
    (hk : ∀ j f, fs[j]? = some f → P.underlying f.type = some (.int (ks j)))
    (hv : Value.okWide P W .any base t v) (h : DataW.Trod enc P W 0 (fun _ => true) held t v d p) (hlt : ∀ x ∈ p, x.block < W.heap.size) (h0 : 0 < fs.size)
    (hsz : (DataW.weightsEach P ts ds).all (· ≤ reachBytes) = true) (hj : ts[j0]? = some t) (hd : ds[j0]? = some d) :
    ∃ (a : Option Addr) (L cap : Nat) (Z : Nat → Nat → Int), v = .slice a L cap ∧ L ≤ cap ∧ cap ≤ maxLen ∧ L * P.bytesOf e ≤ 140737488351232 ∧
      (0 < L → ∃ b off, a = some ⟨b, off, none⟩ ∧ b < W.heap.size ∧ ∀ i, i < L → ∀ j, j < fs.size → W.cell? ⟨b, off + (i * fs.size + j), none⟩ = some (.int (ks j) (Z i j)) ∧ (Lit.int (ks j) (Z i j)).wf = true) := by
  obtain ⟨a0, len0, cap0, rfl⟩ := okWide_slice ht hv
  obtain ⟨fuel, hf⟩ := h
  rcases open_slice ht hf with ⟨hcs, hx⟩ | ⟨a, len, cap, m, n, D, Pl, hcs, hb, hl, hm, hmm, hx, hi⟩
  · simp [Value.cells] at hcs
    obtain ⟨rfl, rfl, rfl⟩ := hcs
    exact ⟨none, 0, 0, fun _ _ => 0, rfl, by omega, by unfold maxLen; omega, by simp, by omega⟩
  · simp [Value.cells] at hcs
    obtain ⟨rfl, rfl, rfl⟩ := hcs
    simp only [Prod.mk.injEq] at hx
    obtain ⟨rfl, rfl⟩ := hx
    simp only [if_true] at hmm
    have hreach := sized_slice hsz hj hd ht
    simp only [List.length_map, List.length_range, reachBytes] at hreach
    have each : ∀ i j, i < len0 → j < fs.size → ∃ z, W.cell? (a.add (i * fs.size + j)) = some (.int (ks j) z) ∧ (Lit.int (ks j) z).wf = true := by
      intro i j hi1 hj1
      obtain ⟨cs', hc, ht'⟩ := hi i (by omega)
      rw [hC] at hc
      obtain ⟨ys, n', _, _, _, hyl, hfl⟩ := DataW.trod_struct he ht'
      obtain ⟨_, hcl, hat⟩ := World.cells?_some hc
      have hfj : fs[j]? = some fs[j] := Array.getElem?_eq_getElem hj1
      obtain ⟨ho, hk1⟩ := hone_of hone j _ hfj
      have h1 := hfl j _ hfj
      rw [ho, hk1, List.drop_eq_getElem_cons (by omega), List.take_succ_cons, List.take_zero, List.getElem?_eq_getElem (show j < ys.length by omega)] at h1
      obtain ⟨z, hz, _, hw⟩ := DataW.trod_int (hk j _ hfj) h1
      simp only [List.cons.injEq, and_true] at hz
      refine ⟨z, ?_, hw⟩
      rw [← Go.Deep.add_add, hat j hj1, List.getElem?_eq_getElem (by omega), hz]
    refine ⟨some a, len0, cap0, fun i j => if hh : i < len0 ∧ j < fs.size then Classical.choose (each i j hh.1 hh.2) else 0, rfl, hl, hm, Nat.le_trans (Nat.mul_le_mul_right _ (by omega)) hreach, fun hp => ?_⟩
    obtain ⟨b, off, spot⟩ := a
    have hspot : spot = none := by
      obtain ⟨z, hz, _⟩ := each 0 0 hp h0
      simpa [Addr.add] using World.cell?_spot hz
    subst hspot
    refine ⟨b, off, rfl, hlt (.cell b off) (List.mem_append.2 (.inl (MemPlace.mem_row.2 ⟨0, ?_, by simp⟩))), fun i hi1 j hj1 => ?_⟩
    · rw [hC]; exact Nat.mul_pos (by omega) h0
    · have := Classical.choose_spec (each i j hi1 hj1)
      simp only [hi1, hj1, and_self, dif_pos]
      refine ⟨?_, this.2⟩
      rw [← this.1, add_plain]
end Go.Proofs.Ytolagogfjfcmaaa
