import Derived.Test.YteoiekooaokhaaaGen
import Derived.Deep.Matrix
/- General: a slice of slices of bytes that comes in. No program is named. -/
namespace Go.Proofs.Yteoiekooaokhaaa
open Go.ChangeShapes Go.WideShapes Go.ChangeAt Go.RowKit Go.Deep

/-- n rows of bytes, at a: row i has Ls i bytes, Fs i. -/
structure Rws (w : World) (a : Option Addr) (n : Nat) (As : Nat → Option Addr) (Ls Cs : Nat → Nat) (Fs : Nat → Nat → Nat) : Prop where
  out : 0 < n → ∃ g off, a = some ⟨g, off, none⟩ ∧ g < w.heap.size ∧ ∀ i, i < n → w.cell? ⟨g, off + i, none⟩ = some (.slice (As i) (Ls i) (Cs i))
  row : ∀ i, i < n → (Ls i ≤ Cs i ∧ Ls i ≤ 140737488351232) ∧ (Ls i ≤ 60000 → Rd .u8 w (.slice (As i) (Ls i) (Cs i)) (ns (Ls i) (Fs i)) ∧ ∀ j, j < Ls i → Fs i j < 256)
theorem Rws.self {w w' : World} {a : Option Addr} {n : Nat} {As : Nat → Option Addr} {Ls Cs : Nat → Nat} {Fs : Nat → Nat → Nat} (h : Rws w a n As Ls Cs Fs) (hb : Below w.heap.size w w') : Rws w' a n As Ls Cs Fs := by
  refine ⟨fun h0 => ?_, fun i hi => ⟨(h.row i hi).1, fun hl => ⟨((h.row i hi).2 hl).1.self hb, ((h.row i hi).2 hl).2⟩⟩⟩
  obtain ⟨g, off, e, hg, hc⟩ := h.out h0
  exact ⟨g, off, e, Nat.lt_of_lt_of_le hg hb.size, fun i hi => (World.cell?_of_block (w := w) (hb.block g hg)).trans (hc i hi)⟩
theorem weightsAll_has {H : Type} {P : Program} {e : TypeId} : ∀ {l : List (DataW H)} {d : DataW H}, d ∈ l → ∀ n ∈ d.weights P e, n ∈ DataW.weightsAll P e l
  | x :: r, d, h, n, hn => by
    simp only [DataW.weightsAll, List.mem_append]
    rcases List.mem_cons.1 h with rfl | h
    · exact Or.inl hn
    · exact Or.inr (weightsAll_has h n hn)
theorem rows_open {H : Type} {enc : TypeId × Value → H} {P : Program} {W : World} {held : Bool} {t e q : TypeId} {base : Nat} {v : Value} {d : DataW H} {p : List MemPlace} {ts : List TypeId} {ds : List (DataW H)} {j0 : Nat}
    (ht : P.underlying t = some (.slice e)) (he : P.underlying e = some (.slice q)) (hq : P.underlying q = some (.int .u8)) (ce : P.cellsOf e = 1) (cq : P.cellsOf q = 1) (bq : P.bytesOf q = 1)
    (hv : Value.okWide P W .any base t v) (h : DataW.Trod enc P W 0 (fun _ => true) held t v d p)
    (hsz : (DataW.weightsEach P ts ds).all (· ≤ reachBytes) = true) (hj : ts[j0]? = some t) (hd : ds[j0]? = some d) :
    ∃ a n c As Ls Cs Fs, v = .slice a n c ∧ (n ≤ c ∧ c ≤ maxLen) ∧ Rws W a n As Ls Cs Fs := by
  obtain ⟨a0, len, cap, rfl⟩ := okWide_slice ht hv
  obtain ⟨fuel, hf⟩ := h
  rcases open_int_rows ht he hq ce cq hf with ⟨hcs, _⟩ | ⟨a, len', cap', A, L, C, Z, hcs, _, hl, hmx, hx, hrow⟩
  · simp [Value.cells] at hcs
    obtain ⟨rfl, rfl, rfl⟩ := hcs
    exact ⟨none, 0, 0, fun _ => none, fun _ => 0, fun _ => 0, fun _ _ => 0, rfl, ⟨Nat.le_refl _, by unfold maxLen; omega⟩, ⟨fun h => absurd h (by decide), fun i hi => absurd hi (by omega)⟩⟩
  · simp [Value.cells] at hcs
    obtain ⟨rfl, rfl, rfl⟩ := hcs
    simp only [Prod.mk.injEq] at hx
    obtain ⟨rfl, -⟩ := hx
    have hsmall : ∀ i, i < len → L i ≤ 140737488351232 := fun i hi => by
      obtain ⟨_, h1, _, h3, _, h5, _⟩ := hrow i (by omega)
      cases hA : A i with
      | none => have := h5 hA; omega
      | some a' =>
        have hm : intRow (H := H) .u8 (A i) (L i) (Z i) ∈ (List.range len).map fun r => intRow .u8 (A r) (L r) (Z r) := List.mem_map.2 ⟨i, List.mem_range.2 hi, rfl⟩
        have hw : (Z i).length ∈ (intRow (H := H) .u8 (A i) (L i) (Z i)).weights P e := by
          have : (Z i).length = ((lits (H := H) .u8 ((Z i).take (L i))).length + (lits (H := H) .u8 ((Z i).drop (L i))).length) * P.bytesOf q := by
            rw [bq, Nat.mul_one]; simp [lits]; omega
          rw [this]
          simp only [intRow, hA, DataW.weights, he]
          exact .head _
        have h7 : (Z i).length ∈ DataW.weightsEach P ts ds := DataW.weights_mem_each hj hd _ (by simp only [DataW.weights, ht]; exact .tail _ (List.mem_append.2 (.inl (weightsAll_has hm _ hw))))
        have h8 := List.all_eq_true.1 hsz _ h7
        have h9 := of_decide_eq_true h8
        unfold reachBytes at h9
        omega
    refine ⟨some a, len, cap, A, L, C, fun i j => (nth (Z i) j).toNat, rfl, ⟨hl, hmx⟩, ⟨fun h0 => ?_, fun i hi => ?_⟩⟩
    · obtain ⟨b, off, spot⟩ := a
      have hspot : spot = none := by simpa [Addr.add] using World.cell?_spot (hrow 0 (by omega)).1
      subst hspot
      have h1 := (hrow 0 (by omega)).1
      have hlt := World.block_lt_of_cell? W _ h1
      exact ⟨b, off, rfl, by simpa [Addr.add] using hlt, fun i hi => by have := (hrow i (by omega)).1; rwa [add_plain] at this⟩
    · obtain ⟨_, h1, _, h3, h4, h5, h6⟩ := hrow i (by omega)
      refine ⟨⟨h1, hsmall i hi⟩, fun hL => ?_⟩
      have hb : ∀ j, j < L i → (nth (Z i) j).toNat < 256 ∧ nth (Z i) j = ((nth (Z i) j).toNat : Int) := fun j hj => by
        have hz : nth (Z i) j ∈ Z i := by rw [nth_of (show j < (Z i).length by omega)]; exact List.getElem_mem _
        have := bounds_u8 (h4 _ hz)
        omega
      refine ⟨⟨A i, C i, by rw [ns_len], by rw [ns_len]; show _ * 1 ≤ _; omega, ns_wf fun j hj => (hb j hj).1, fun hp => ?_⟩, fun j hj => (hb j hj).1⟩
      rw [ns_len] at hp ⊢
      cases hA : A i with
      | none => have := h5 hA; omega
      | some a' =>
        obtain ⟨_, hc⟩ := h6 a' hA
        obtain ⟨b, off, spot⟩ := a'
        have hspot : spot = none := by simpa [Addr.add] using World.cell?_spot (hc 0 (by omega))
        subst hspot
        have hlt := World.block_lt_of_cell? W _ (hc 0 (by omega))
        refine ⟨b, off, rfl, by simpa [Addr.add] using hlt, fun j hj => ?_⟩
        have := hc j (by omega)
        rw [add_plain] at this
        rw [this, ns_nth _ hj, ← (hb j hj).2]
        rfl
end Go.Proofs.Yteoiekooaokhaaa
