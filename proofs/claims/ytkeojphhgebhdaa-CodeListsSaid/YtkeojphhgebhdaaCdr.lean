import Derived.Test.YtkeojphhgebhdaaProg
import Derived.Test.YtkeojphhgebhdaaCdp
/- CodeLists: what is wanted. -/
namespace Go.Proofs.Ytkeojphhgebhdaa
open Go.RowKit

theorem sto_pos (z : List Int) : 2 ≤ (sto z).length := by have := dg_pos (8 * z.length); rw [sto_len, lef_len]; omega
theorem fit_flat : ∀ Z : List (List Int), (∀ z ∈ Z, z.length ≤ 65536) → Fit (Z.map sto).flatten
  | [], _ => .nil
  | z :: Z, h => by
    rw [List.map_cons, List.flatten_cons]
    refine .cons (beg_sto (lef_le5 (h z (by simp)))) ?_
    rw [List.drop_left' (by rw [sto_len])]
    exact fit_flat Z fun y hy => h y (by simp [hy])
theorem flat_inj : ∀ A B : List (List Int), (A.map sto).flatten = (B.map sto).flatten → A = B
  | [], [], _ => rfl
  | [], b :: B, h => by
    have := congrArg List.length h
    have h2 := sto_pos b
    rw [List.map_cons, List.flatten_cons, List.length_append, show (([] : List (List Int)).map sto).flatten.length = 0 from rfl] at this
    omega
  | a :: A, [], h => by
    have := congrArg List.length h
    have h2 := sto_pos a
    rw [List.map_cons, List.flatten_cons, List.length_append, show (([] : List (List Int)).map sto).flatten.length = 0 from rfl] at this
    omega
  | a :: A, b :: B, h => by
    rw [List.map_cons, List.flatten_cons, List.map_cons, List.flatten_cons] at h
    have h1 := sto_inj h
    rw [h1.1, flat_inj A B h1.2]
theorem cat_range (f : Nat → List Int) : ∀ n, cat f n = ((List.range n).map f).flatten
  | 0 => rfl
  | n + 1 => by rw [cat, cat_range f n, List.range_succ, List.map_append, List.flatten_append]; simp
theorem cat_sto (f : Nat → List Int) (n : Nat) : cat (fun i => sto (f i)) n = (((List.range n).map f).map sto).flatten := by
  rw [cat_range, List.map_map]; rfl
theorem cat_sto_le {f : Nat → List Int} : ∀ {n : Nat}, (∀ i, i < n → (f i).length ≤ 400) → (cat (fun i => sto (f i)) n).length ≤ 409 * n
  | 0, _ => Nat.le_refl _
  | n + 1, h => by
    have h1 := cat_sto_le (n := n) fun i hi => h i (by omega)
    have h2 := h n (by omega)
    have h3 := sto_le (z := f n) (by omega)
    rw [cat, List.length_append]
    omega
theorem cat_sto_wf {f : Nat → List Int} : ∀ {n : Nat}, (∀ i, i < n → (f i).length ≤ 400 ∧ ∀ z ∈ f i, (Lit.int .u8 z).wf = true) → ∀ z ∈ cat (fun i => sto (f i)) n, (Lit.int .u8 z).wf = true
  | 0, _ => fun z hz => by cases hz
  | n + 1, h => fun z hz => by
    rw [cat] at hz
    rcases List.mem_append.1 hz with hz | hz
    · exact cat_sto_wf (fun i hi => h i (by omega)) z hz
    · exact sto_wf (by have := (h n (by omega)).1; omega) (h n (by omega)).2 z hz

/-- What Split tells of strings, put. -/
def ListP (w : World) (n : Nat) (f : Nat → List Int) (e : Ending) (w' : World) : Prop :=
  ∃ a cap us, e = .returned (.tuple #[.slice a n cap, .bool true]) ∧ RdL .u8 w' a n us f ∧ Below w.heap.size w w'
theorem rdl_fun {k : IntKind} {w : World} {a : Option Addr} {m : Nat} {us : Nat → Value} {zs zs' : Nat → List Int} (h : RdL k w a m us zs) (e : ∀ i, i < m → zs i = zs' i) : RdL k w a m us zs' :=
  ⟨h.out, fun i hi => by rw [← e i hi]; exact h.each i hi⟩
theorem split_list (v : Value) (f : Nat → List Int) (n : Nat) (w : World) (h : RdC w v (cat (fun i => sto (f i)) n)) (hf : ∀ i, i < n → (f i).length ≤ 400) (hn : n ≤ 30) :
    Calls Try.prog 18 #[v] w fun e w' => ListP w n f e w' := by
  have hle := cat_sto_le hf
  refine (split_any v _ w h (by omega)).mono ?_
  have hfit : Fit (cat (fun i => sto (f i)) n) := by
    rw [cat_sto]
    exact fit_flat _ fun z hz => by
      obtain ⟨i, hi, rfl⟩ := List.mem_map.1 hz
      have := hf i (List.mem_range.1 hi)
      omega
  rintro e w' ⟨hl, ⟨v', us, Z, rfl, hr, hz, _, _⟩ | ⟨h1, _⟩⟩
  · rw [cat_sto] at hz
    have e1 := flat_inj _ _ hz
    have e2 : us.length = n := by rw [hr.len, e1]; simp
    obtain ⟨a, cap, e3, _, hd⟩ := hr.rdl
    rw [e2] at e3 hd
    subst e3
    refine ⟨a, cap, _, rfl, rdl_fun hd fun i hi => ?_, hl⟩
    rw [e1]
    simp [List.getD, hi]
  · exact absurd hfit h1
/-- .. and of any bytes. -/
def SplL (w : World) (zs : List Int) (ok : Bool) (e : Ending) (w' : World) : Prop :=
  ∃ a m cap us Z, e = .returned (.tuple #[.slice a m cap, .bool ok]) ∧ Below w.heap.size w w' ∧ (ok = true → RdL .u8 w' a m us Z ∧ m ≤ 65536 ∧ cat (fun i => sto (Z i)) m = zs) ∧ (ok = false → m = 0)
theorem split_b (v : Value) (zs : List Int) (ok : Bool) (w : World) (h : RdC w v zs) (hl : zs.length ≤ 3000) (hok : ok = true ↔ Fit zs) : Calls Try.prog 18 #[v] w fun e w' => SplL w zs ok e w' := by
  refine (split_any v zs w h (by omega)).mono ?_
  rintro e w' ⟨hl, ⟨v', us, Z, rfl, hr, hz, hf, hn⟩ | ⟨h1, rfl⟩⟩
  · obtain rfl : ok = true := hok.2 hf
    obtain ⟨a, cap, rfl, _, hd⟩ := hr.rdl
    refine ⟨a, us.length, cap, _, _, rfl, hl, fun _ => ⟨hd, by omega, ?_⟩, fun h => Bool.noConfusion h⟩
    have e1 : (List.range us.length).map (fun i => Z.getD i []) = Z := by
      rw [hr.len]
      apply List.ext_getElem
      · simp
      · intro i h1 h2
        simp [List.getD, h2]
    rw [cat_sto, e1, hz]
  · obtain rfl : ok = false := by
      cases ok
      · rfl
      · exact absurd (hok.1 rfl) h1
    exact ⟨none, 0, 0, fun _ => default, fun _ => [], rfl, hl, fun h => Bool.noConfusion h, fun _ => rfl⟩

/-- The rest of a row. -/
theorem rdc_rest {w : World} {b off L cap q : Nat} {zs : List Int} (h : RdC w (.slice (some ⟨b, off, none⟩) L cap) zs) (hq : q ≤ L) : RdC w (.slice (some ⟨b, off + q, none⟩) (L - q) (cap - q)) (zs.drop q) := by
  have hc := h.cap _ _ _ rfl
  have hl : zs.length = L := by
    obtain ⟨_, _, e, _⟩ := h.rd
    injection e with e1 e2 e3
    exact e2.symm
  refine ⟨?_, fun a' n' c' e => by injection e with e1 e2 e3; subst e2; subst e3; omega⟩
  have := rd_sub (m := L - q) (k := cap - q) (p := some ⟨b, off + q, none⟩) h.rd (q := q) (by omega) (fun _ => rfl)
  rwa [List.take_of_length_le (by rw [List.length_drop]; omega)] at this
end Go.Proofs.Ytkeojphhgebhdaa
