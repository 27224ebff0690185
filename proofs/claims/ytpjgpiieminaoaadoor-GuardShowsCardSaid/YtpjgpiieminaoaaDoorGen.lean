import Derived.WalkKit
import Derived.ProofKit
import Derived.OpenShut
import Derived.SizedLaws
import Derived.BigQuiet
import Derived.Deep.QuietTactic
import Derived.Deep.RegionLaw
import Derived.Laws.CopyOwn
import GoSem.ClaimJoined
import Derived.Deep.Slices
import Derived.Deep.Fields
import Derived.Laws.Rows
import Derived.Laws.Tables
import Derived.Laws.StructEq
import Derived.ChangeKeysEq
import Derived.Deep.WholeRow
import Derived.Deep.RegionHeld3
import Derived.BigRegion
import Derived.StillTailTactics
import Derived.ArgAppend
import Derived.Deep.AppendLies
import Derived.Deep.MidRow
import Derived.Lib.AppendZerosOnto
import Derived.Deep.Matrix
import Derived.Laws.IdiomArrays
import Derived.Deep.RegionHeld
import Derived.LaidMore
import Derived.HandedShaped
import Derived.Stop.Joined
import Derived.Lib.ItoaNum
import Derived.ChangeArms
/- General words and lemmas for the laws of this seat: byte slices read and owned, and a law's row from its contract. No program is named. -/
namespace Go.Proofs.YtpjgpiieminaoaaDoor
open Go.ChangeShapes Go.WideShapes Go.ChangeAt Go.RowKit

/-- An act's slots laid out: one name for simp, so that no linter asks which of them a step used. -/
theorem lay_out {α : Type} : (∀ (l : List α) (i : Nat) (h : i < l.toArray.size), l.toArray[i]'h = l[i]'(by simpa using h)) ∧ (∀ (a : α) (l : List α) (h : 0 < (a :: l).length), (a :: l)[0]'h = a) ∧
    (∀ (a : α) (l : List α) (i : Nat) (h : i + 1 < (a :: l).length), (a :: l)[i + 1]'h = l[i]'(by simpa using h)) ∧ (∀ (l : List α) (i : Nat) (v : α), l.toArray.setIfInBounds i v = (l.set i v).toArray) ∧
    (∀ (a : α) (l : List α) (v : α), (a :: l).set 0 v = v :: l) ∧ (∀ (a : α) (l : List α) (i : Nat) (v : α), (a :: l).set (i + 1) v = a :: l.set i v) :=
  ⟨fun _ _ _ => by simp, fun _ _ _ => rfl, fun _ _ _ _ => rfl, fun _ _ _ => by simp, fun _ _ _ => rfl, fun _ _ _ _ => rfl⟩

theorem hid {p : Prop} (h : p) : Hid p := h
theorem ret_int {k : IntKind} {a b : Int} (h : a = b) : Ending.returned (.int k a) = .returned (.int k b) := by rw [h]
theorem ret_bool {a b : Bool} (h : a = b) : Ending.returned (.bool a) = .returned (.bool b) := by rw [h]

section row
variable {H : Type} {enc : TypeId × Value → H} {P : Program}

theorem trodAll_len {W : World} {base : Nat} {sp : Nat → Bool} {held : Bool} : ∀ {ts : List TypeId} {vs : List Value} {ds : List (DataW H)} {p : List MemPlace},
    DataW.TrodAll enc P W base sp held ts vs ds p → ds.length = ts.length
  | [], [], [], _, _ => rfl
  | _ :: _, _ :: _, _ :: _, _, ⟨_, _, _, h, _⟩ => by simp [trodAll_len h]
  | [], [], _ :: _, _, h => h.elim
  | [], _ :: _, _, _, h => by cases h
  | _ :: _, [], _, _, h => by cases h
  | _ :: _, _ :: _, [], _, h => by cases h

theorem trodAll_stays {W W' : World} (hl : laidOutB P = true) (hb : Below W.heap.size W W') :
    ∀ {ts : List TypeId} {vs : List Value} {ds : List (DataW H)} {p : List MemPlace}, (∀ t ∈ ts, P.readableRec t = true ∧ t < P.types.size) →
    DataW.TrodAll enc P W 0 (fun _ => true) true ts vs ds p → (∀ x ∈ p, x.block < W.heap.size) →
    DataW.TrodAll enc P W' 0 (fun b => decide (b < W.heap.size)) true ts vs ds p
  | [], [], [], _, _, h, _ => h
  | t :: ts, v :: vs, d :: ds, p, hts, ⟨a, b, h1, h2, e⟩, hlt => by
    subst e
    exact ⟨a, b, Below.trod hl (hts t (by simp)).1 (hts t (by simp)).2 h1 hb (fun x hx => hlt x (List.mem_append.2 (.inl hx))),
      trodAll_stays hl hb (fun t' ht => hts t' (by simp [ht])) h2 (fun x hx => hlt x (List.mem_append.2 (.inr hx))), rfl⟩
  | [], [], _ :: _, _, _, h, _ => h.elim
  | [], _ :: _, _, _, _, h, _ => by cases h
  | _ :: _, [], _, _, _, h, _ => by cases h
  | _ :: _, _ :: _, [], _, _, h, _ => by cases h

end row

/-! ### slices of numbers that are read -/
/-- The number at a place, kept whole from the walk's simp. -/
def nth (zs : List Int) (j : Nat) : Int := zs.getD j 0
/-- v reads, in w, as the numbers zs of kind k. -/
def Rd (k : IntKind) (w : World) (v : Value) (zs : List Int) : Prop :=
  ∃ a cap, v = .slice a zs.length cap ∧ zs.length * (k.bits / 8) ≤ 140737488351232 ∧ (∀ z ∈ zs, (Lit.int k z).wf = true) ∧
    (0 < zs.length → ∃ b off, a = some ⟨b, off, none⟩ ∧ b < w.heap.size ∧ ∀ j, j < zs.length → w.cell? ⟨b, off + j, none⟩ = some (.int k (nth zs j)))

theorem Rd.below {k : IntKind} {w w' : World} {v : Value} {zs : List Int} {B : Nat} (h : Rd k w v zs) (hb : Below B w w') (hB : w.heap.size ≤ B) : Rd k w' v zs := by
  obtain ⟨a, cap, h1, h2, h3, h4⟩ := h
  refine ⟨a, cap, h1, h2, h3, fun hp => ?_⟩
  obtain ⟨b, off, e, hbw, hc⟩ := h4 hp
  exact ⟨b, off, e, Nat.lt_of_lt_of_le hbw hb.size, fun j hj => (hb.cell (p := ⟨b, off + j, none⟩) (Nat.lt_of_lt_of_le hbw hB)).trans (hc j hj)⟩

theorem Rd.self {k : IntKind} {w w' : World} {v : Value} {zs : List Int} (h : Rd k w v zs) (hb : Below w.heap.size w w') : Rd k w' v zs := h.below hb (Nat.le_refl _)

/-! ### slices of numbers that the call owns -/
def Own (k : IntKind) (B : Nat) (E : TypeId) (w : World) (v : Value) (zs : List Int) : Prop := w.ownsRow B E 1 v zs.length (zs.map (Value.int k))

theorem nth_of {zs : List Int} {j : Nat} (h : j < zs.length) : nth zs j = zs[j] := by simp [nth, List.getD, h]

theorem Own.part {k : IntKind} {B : Nat} {E : TypeId} {w : World} {v : Value} {zs : List Int} (h : Own k B E w v zs) (hp : 0 < zs.length) :
    ∃ g cap, v = .slice (some ⟨g, 0, none⟩) zs.length cap ∧ B ≤ g ∧ g < w.heap.size ∧ (∀ j, j < zs.length → w.cell? ⟨g, j, none⟩ = some (.int k (nth zs j))) ∧
      (∀ o, w.frozen? ⟨g, o, none⟩ = false) ∧ (∀ j z, j < zs.length → Own k B E (w.setCell ⟨g, j, none⟩ (.int k z)) v (zs.set j z)) := by
  obtain ⟨h1, h2⟩ := h
  rcases h2 with ⟨_, h0⟩ | ⟨g, cap, cur, rfl, hb, hg, hn, hcap, hsz, htake⟩
  · omega
  · have hlt : g < w.heap.size := (Array.getElem?_eq_some_iff.1 hg).1
    have hcell : ∀ j, j < zs.length → cur[j]? = some (.int k (nth zs j)) := fun j hj => by
      have e := congrArg (fun l => l[j]?) htake
      simp only [Nat.mul_one, List.getElem?_take, hj, if_true, List.getElem?_map, List.getElem?_eq_getElem hj, Option.map_some] at e
      rw [nth_of hj, ← e]; simp
    refine ⟨g, cap, rfl, hb, hlt, fun j hj => ?_, fun o => ?_, fun j z hj => ?_⟩
    · simp [World.cell?, hg, hcell j hj]
    · simp [World.frozen?, hg]
    · refine ⟨by simp, .inr ⟨g, cap, cur.setIfInBounds j (.int k z), by simp, hb, ?_, by simpa using hn, hcap, by simpa using hsz, ?_⟩⟩
      · simp [World.setCell, Array.getElem?_modify, hg]
      · simp only [Nat.mul_one, List.length_set, Array.toList_setIfInBounds, List.map_set] at htake ⊢
        rw [List.take_set, htake]

theorem Own.rd {k : IntKind} {B : Nat} {E : TypeId} {w : World} {v : Value} {zs : List Int} (h : Own k B E w v zs) (hb : zs.length * (k.bits / 8) ≤ 140737488351232) (hw : ∀ z ∈ zs, (Lit.int k z).wf = true) : Rd k w v zs := by
  by_cases hp : 0 < zs.length
  · obtain ⟨g, cap, rfl, _, hg, hc, _⟩ := h.part hp
    exact ⟨_, cap, rfl, hb, hw, fun _ => ⟨g, 0, rfl, hg, fun j hj => by rw [Nat.zero_add]; exact hc j hj⟩⟩
  · obtain ⟨h1, h2⟩ := h
    rcases h2 with ⟨rfl, h0⟩ | ⟨g, cap, cur, rfl, _⟩
    · exact ⟨none, 0, by rw [h0], hb, hw, fun h => absurd h hp⟩
    · exact ⟨_, cap, rfl, hb, hw, fun h => absurd h hp⟩

theorem Own.alloc {k : IntKind} {B : Nat} {E : TypeId} {w : World} {v : Value} {zs : List Int} (h : Own k B E w v zs) (o : Obj) : Own k B E (w.alloc o) v zs := World.ownsRow.alloc h o
theorem Own.drew {k : IntKind} {B : Nat} {E : TypeId} {w : World} {v : Value} {zs : List Int} (h : Own k B E w v zs) : Own k B E w.drew v zs := h
theorem own_nil (k : IntKind) (B : Nat) (E : TypeId) (w : World) : Own k B E w (.slice none 0 0) [] := World.ownsRow_nil w B E 1

theorem own_made {k : IntKind} {B : Nat} {E : TypeId} (w : World) (n : Nat) (hB : B ≤ w.heap.size) (hn : n ≤ maxLen) :
    Own k B E (w.alloc (.cells (madeCells #[.int k 0] n) E)) (.slice (some ⟨w.heap.size, 0, none⟩) n n) (List.replicate n 0) := by
  refine ⟨by simp, .inr ⟨w.heap.size, n, madeCells #[.int k 0] n, by simp, hB, heap_alloc_new w _, by simp, hn, by simp [size_madeCells], ?_⟩⟩
  apply List.ext_getElem
  · simp [size_madeCells]
  · intro i h1 h2
    simp [madeCells, Nat.mod_one]

theorem run_make_ints {P : Program} (w : World) (k kl : IntKind) (t e : TypeId) (n : Nat) (ht : P.underlying t = some (.slice e))
    (hinfo : (P.info? e).map (fun i => (i.zero, i.size, i.bytes)) = some (some (.int k 0), 1, k.bits / 8)) (hn : n * (k.bits / 8) ≤ 140737488355328) (hk : 0 < k.bits / 8) :
    (Instr.makeSlice t (.int kl n) (.int kl n)).run P w = .ok (.slice (some ⟨w.heap.size, 0, none⟩) n n) (w.alloc (.cells (madeCells #[.int k 0] n) e)) := by
  obtain ⟨i0, hi, hz0, hz1, hz2⟩ := info_parts hinfo
  have hle : n ≤ n * (k.bits / 8) := Nat.le_mul_of_pos_right _ hk
  have := run_make (P := P) w t e i0 _ ht hi hz0 kl kl n n (by omega) (by omega) (by
    rw [hz2]
    have h1 : ((k.bits / 8 : Nat) : Int) * (n : Int) = ((n * (k.bits / 8) : Nat) : Int) := by rw [Int.natCast_mul, Int.mul_comm]
    rw [h1]; omega) (by omega)
  rw [this]
  simp [hz1, Value.cells]

/-! ### 'append' onto a slice that the call owns -/
theorem Own.lt {k : IntKind} {B : Nat} {E : TypeId} {w : World} {v : Value} {zs : List Int} (h : Own k B E w v zs) : ∀ j, v.ownBlock = some j → B ≤ j ∧ j < w.heap.size := World.ownsRow.lt h

theorem wp_append_ints {P : Program} {w : World} {o : Oper} {a : Act} {K : Act → World → Prop} {Q : Exit → Act → World → Prop} (s x : Operand) (t : TypeId)
    (ho : o.op = .call { callee := .builtin .append, args := #[s, x], argTypes := #[t, t] }) (k : IntKind) (B : Nat) (E : TypeId) (ht : P.underlying t = some (.slice E))
    (hinfo : (P.info? E).map (fun i => (i.zero, i.size, i.bytes)) = some (some (.int k 0), 1, k.bits / 8)) (hk : 0 < k.bits / 8)
    (sv : Value) (zs : List Int) (hs : a.eval s = sv) (hown : Own k B E w sv zs) (ad : Addr) (m c : Nat) (ns : List Int) (hx : a.eval x = .slice (some ad) m c) (hm : ns.length = m) (hns : ∀ j, j < m → w.cell? (ad.add j) = some (.int k (nth ns j)))
    (hlim : (zs.length + m) * (k.bits / 8) ≤ 140737488355328) (hB : B ≤ w.heap.size) (B0 : Nat) (w0 : World) (hb : Below B0 w0 w) (hBB : B0 ≤ B)
    (h : ∀ v' w', Own k B E w' v' (zs ++ ns) → Below B0 w0 w' → w.heap.size ≤ w'.heap.size → K (a.put o.dst v') w') : o.wp P a w K Q := by
  obtain ⟨i0, hi, hz0, hz1, hz2⟩ := info_parts hinfo
  have hle : zs.length + m ≤ (zs.length + m) * (k.bits / 8) := Nat.le_mul_of_pos_right _ hk
  refine wp_append_own w s x t ho B E i0 _ 1 (k.bits / 8) ht hi hz0 hz1 hz2 rfl (by decide) sv zs.length (zs.map (Value.int k)) hs hown ad m c (ns.map (Value.int k)) hx (by simp [hm]) ?_ (by intro u hu; obtain ⟨z, _, rfl⟩ := List.mem_map.1 hu; rfl) (by unfold maxLen; omega) hlim hB ?_
  · intro j u hj
    simp only [List.getElem?_map, Option.map_eq_some_iff] at hj
    obtain ⟨z, hz, rfl⟩ := hj
    obtain ⟨hj, rfl⟩ := List.getElem?_eq_some_iff.1 hz
    rw [hns j (by omega), nth_of hj]
  · intro v' w' h2 h3 _
    refine h v' w' ?_ (hb.grown h3 (by omega) (fun j hj => by have := (hown.lt j hj).1; omega)) h3.size
    unfold Own
    rw [List.length_append, List.map_append, hm]
    exact h2

theorem wpList_append_ints {P : Program} {w : World} {ops : Array Oper} {rest : List Oper} {o : Oper} {a : Act} {Q : Exit → Act → World → Prop} (hgd : o.guard = none) (s x : Operand) (t : TypeId)
    (ho : o.op = .call { callee := .builtin .append, args := #[s, x], argTypes := #[t, t] }) (k : IntKind) (B : Nat) (E : TypeId) (ht : P.underlying t = some (.slice E))
    (hinfo : (P.info? E).map (fun i => (i.zero, i.size, i.bytes)) = some (some (.int k 0), 1, k.bits / 8)) (hk : 0 < k.bits / 8)
    (sv : Value) (zs : List Int) (hs : a.eval s = sv) (hown : Own k B E w sv zs) (ad : Addr) (m c : Nat) (ns : List Int) (hx : a.eval x = .slice (some ad) m c) (hm : ns.length = m) (hns : ∀ j, j < m → w.cell? (ad.add j) = some (.int k (nth ns j)))
    (hlim : (zs.length + m) * (k.bits / 8) ≤ 140737488355328) (hB : B ≤ w.heap.size) (B0 : Nat) (w0 : World) (hb : Below B0 w0 w) (hBB : B0 ≤ B)
    (h : ∀ v' w', Own k B E w' v' (zs ++ ns) → Below B0 w0 w' → w.heap.size ≤ w'.heap.size → wpList P ops Q rest (a.put o.dst v') w') : wpList P ops Q (o :: rest) a w :=
  wpList_plain hgd fun _ hK => wp_append_ints s x t ho k B E ht hinfo hk sv zs hs hown ad m c ns hx hm hns hlim hB B0 w0 hb hBB fun v' w' h2 h3 h4 => hK _ _ (h v' w' h2 h3 h4)

theorem own_empty {k : IntKind} {B : Nat} {E : TypeId} (w : World) (hB : B ≤ w.heap.size) :
    Own k B E (w.alloc (.cells #[] E)) (.slice (some ⟨w.heap.size, 0, none⟩) 0 0) [] :=
  World.ownsRow_made w #[] 0 hB (Nat.zero_le _) rfl
theorem cell_new (w : World) (v : Value) (E : TypeId) : ∀ j, j < 1 → (w.alloc (.cells #[v] E)).cell? (Addr.add ⟨w.heap.size, 0, none⟩ j) = some v := by
  intro j hj
  obtain rfl : j = 0 := by omega
  have e := heap_alloc_new w (.cells #[v] E)
  simp only [World.cell?, Addr.add, if_true, e]
  rfl
theorem cell_new_int (w : World) (k : IntKind) (z : Int) (E : TypeId) : ∀ j, j < 1 → (w.alloc (.cells #[.int k z] E)).cell? (Addr.add ⟨w.heap.size, 0, none⟩ j) = some (.int k (nth [z] j)) := by
  intro j hj
  obtain rfl : j = 0 := by omega
  exact cell_new w _ E 0 hj

theorem run_append_zero {P : Program} (w : World) (t r : TypeId) (k : IntKind) (B : Nat) (E : TypeId) (ht : P.underlying t = some (.slice E)) (hsz : (P.info? E).map (·.size) = some 1)
    (sv : Value) (zs : List Int) (hown : Own k B E w sv zs) (p : Option Addr) (c : Nat) :
    (Builtin.append_ #[t, t] r #[sv, .slice p 0 c]).run P w = .ok sv w := by
  obtain ⟨i0, hi, _⟩ : ∃ i, P.info? E = some i ∧ i.size = 1 := by
    cases h : P.info? E with
    | none => simp [h] at hsz
    | some i => exact ⟨i, rfl, by simpa [h] using hsz⟩
  have key : ∀ (b : Option Addr) (n cap : Nat), n ≤ cap → (Builtin.append_ #[t, t] r #[.slice b n cap, .slice p 0 c]).run P w = .ok (.slice b n cap) w := by
    intro b n cap hn
    cases b <;> cases p <;> simp [Builtin.append_, run_underlying ht, sizeOf, typeInfo, hi, Builtin.lenOf, hn, Builtin.firstCells, loadCells, loadCellsFrom, storeCells]
  obtain ⟨_, h2⟩ := hown
  rcases h2 with ⟨rfl, _⟩ | ⟨g, cap, cur, rfl, _, _, hn, _⟩
  · exact key _ _ _ (Nat.le_refl _)
  · exact key _ _ _ (by simpa using hn)

theorem wp_append_rd {P : Program} {w : World} {o : Oper} {a : Act} {K : Act → World → Prop} {Q : Exit → Act → World → Prop} (s x : Operand) (t : TypeId)
    (ho : o.op = .call { callee := .builtin .append, args := #[s, x], argTypes := #[t, t] }) (k : IntKind) (B : Nat) (E : TypeId) (ht : P.underlying t = some (.slice E))
    (hinfo : (P.info? E).map (fun i => (i.zero, i.size, i.bytes)) = some (some (.int k 0), 1, k.bits / 8)) (hk : 0 < k.bits / 8)
    (sv : Value) (zs : List Int) (hs : a.eval s = sv) (hown : Own k B E w sv zs) (xv : Value) (ns : List Int) (hx : a.eval x = xv) (hrd : Rd k w xv ns)
    (hlim : (zs.length + ns.length) * (k.bits / 8) ≤ 140737488355328) (hB : B ≤ w.heap.size) (B0 : Nat) (w0 : World) (hb : Below B0 w0 w) (hBB : B0 ≤ B)
    (h : ∀ v' w', Own k B E w' v' (zs ++ ns) → Below B0 w0 w' → w.heap.size ≤ w'.heap.size → K (a.put o.dst v') w') : o.wp P a w K Q := by
  obtain ⟨sa, scap, rfl, hl, hwf, hc⟩ := hrd
  by_cases hp : 0 < ns.length
  · obtain ⟨b, off, rfl, hbw, hc⟩ := hc hp
    exact wp_append_ints s x t ho k B E ht hinfo hk sv zs hs hown ⟨b, off, none⟩ ns.length scap ns hx rfl (fun j hj => by rw [add_plain]; exact hc j hj) hlim hB B0 w0 hb hBB h
  · obtain rfl : ns = [] := List.eq_nil_of_length_eq_zero (by omega)
    obtain ⟨i0, hi, hz0, hz1, hz2⟩ := info_parts hinfo
    have hrun := run_append_zero (P := P) w t o.type k B E ht (by rw [hi]; simp [hz1]) sv zs hown sa scap
    unfold Oper.wp
    simp only [List.length_nil] at hx
    simp [execOp, ho, resolve, invoke, builtin, hs, hx, hrun, Result.andThen]
    exact h sv w (by simpa using hown) hb (Nat.le_refl _)

theorem wpList_append_rd {P : Program} {w : World} {ops : Array Oper} {rest : List Oper} {o : Oper} {a : Act} {Q : Exit → Act → World → Prop} (hgd : o.guard = none) (s x : Operand) (t : TypeId)
    (ho : o.op = .call { callee := .builtin .append, args := #[s, x], argTypes := #[t, t] }) (k : IntKind) (B : Nat) (E : TypeId) (ht : P.underlying t = some (.slice E))
    (hinfo : (P.info? E).map (fun i => (i.zero, i.size, i.bytes)) = some (some (.int k 0), 1, k.bits / 8)) (hk : 0 < k.bits / 8)
    (sv : Value) (zs : List Int) (hs : a.eval s = sv) (hown : Own k B E w sv zs) (xv : Value) (ns : List Int) (hx : a.eval x = xv) (hrd : Rd k w xv ns)
    (hlim : (zs.length + ns.length) * (k.bits / 8) ≤ 140737488355328) (hB : B ≤ w.heap.size) (B0 : Nat) (w0 : World) (hb : Below B0 w0 w) (hBB : B0 ≤ B)
    (h : ∀ v' w', Own k B E w' v' (zs ++ ns) → Below B0 w0 w' → w.heap.size ≤ w'.heap.size → wpList P ops Q rest (a.put o.dst v') w') : wpList P ops Q (o :: rest) a w :=
  wpList_plain hgd fun _ hK => wp_append_rd s x t ho k B E ht hinfo hk sv zs hs hown xv ns hx hrd hlim hB B0 w0 hb hBB fun v' w' h2 h3 h4 => hK _ _ (h v' w' h2 h3 h4)

theorem set_fill {l : List Int} {n j : Nat} (hl : l.length = j) (hj : j < n) (z : Int) : (l ++ List.replicate (n - j) 0).set j z = (l ++ [z]) ++ List.replicate (n - (j + 1)) 0 := by
  obtain ⟨m, hm⟩ : ∃ m, n - j = m + 1 := ⟨n - j - 1, by omega⟩
  rw [hm, show n - (j + 1) = m by omega, List.replicate_succ, List.set_append_right _ _ (by omega)]
  simp [hl]

theorem Own.slice {k : IntKind} {B : Nat} {E : TypeId} {w : World} {v : Value} {zs : List Int} (h : Own k B E w v zs) :
    ∃ p cap, v = .slice p zs.length cap ∧ zs.length ≤ cap ∧ (0 < zs.length → ∃ g, p = some ⟨g, 0, none⟩ ∧ B ≤ g ∧ g < w.heap.size) := by
  have hlt := h.lt
  obtain ⟨_, h2⟩ := h
  rcases h2 with ⟨rfl, h0⟩ | ⟨g, cap, cur, rfl, hg, _, hc, _⟩
  · exact ⟨none, 0, by rw [h0], by omega, by omega⟩
  · exact ⟨_, _, rfl, hc, fun _ => ⟨g, rfl, hg, (hlt g rfl).2⟩⟩

theorem wfs_of {k : IntKind} {w : World} {v : Value} {zs : List Int} (h : Rd k w v zs) : ∀ z ∈ zs, (Lit.int k z).wf = true := by
  obtain ⟨_, _, _, _, h, _⟩ := h
  exact h

theorem run_conv_rd {P : Program} {w : World} {v : Value} {zs : List Int} {src e : TypeId} (h : Rd .u8 w v zs) (hs : P.underlying src = some (.slice e)) (he : P.underlying e = some (.int .u8)) (dst : TypeId) (hd : P.underlying dst = some .string) :
    (convert src dst v).run P w = .ok (.string (strOfNums zs)) w := by
  obtain ⟨a, cap, rfl, _, _, hc⟩ := h
  by_cases hp : 0 < zs.length
  · obtain ⟨b, off, rfl, _, hc⟩ := hc hp
    exact run_convert_bytes_arg w src e hs he b off zs.length cap zs rfl (fun i hi => hc i hi) dst hd
  · obtain rfl : zs = [] := List.eq_nil_of_length_eq_zero (by omega)
    rw [run_convert_bytes_string w src dst e _ _ _ hs he hd]
    cases a with
    | none => simp [Conv.bytesToString, strOfNums]; rfl
    | some a =>
      have hl : (loadCells a 0).run P w = .ok (([] : List Int).map (Value.int .u8)).toArray w := by simp [loadCells, loadCellsFrom]
      exact run_bytesToString w a 0 cap [] hl

theorem toList_loop (b : ByteArray) : ∀ (n i : Nat) (r : List UInt8), b.size - i = n → ByteArray.toList.loop b i r = r.reverse ++ b.data.toList.drop i := by
  intro n
  induction n with
  | zero =>
    intro i r h
    unfold ByteArray.toList.loop
    rw [if_neg (by omega)]
    rw [List.drop_eq_nil_of_le (by have : b.data.toList.length = b.size := rfl; omega)]
    simp
  | succ n ih =>
    intro i r h
    unfold ByteArray.toList.loop
    have hi : i < b.data.toList.length := by have : b.data.toList.length = b.size := rfl; omega
    rw [if_pos (by omega), ih _ _ (by omega), List.drop_eq_getElem_cons hi]
    simp [ByteArray.get!]
    rw [getElem!_pos _ _ (by simpa using hi)]
theorem toList_data (b : ByteArray) : b.toList = b.data.toList := by
  unfold ByteArray.toList
  rw [toList_loop b _ 0 [] rfl]
  simp

theorem strOfNums_eq {xs ys : List Int} (hx : ∀ z ∈ xs, (Lit.int .u8 z).wf = true) (hy : ∀ z ∈ ys, (Lit.int .u8 z).wf = true) :
    ((strOfNums xs).toList == (strOfNums ys).toList) = decide (xs = ys) := by
  have key : strOfNums xs = strOfNums ys ↔ xs = ys := by
    constructor
    · intro h
      have h1 : xs.map (fun n => UInt8.ofNat n.toNat) = ys.map (fun n => UInt8.ofNat n.toNat) := by
        have := congrArg (fun s : ByteArray => s.data.toList) h
        simpa [strOfNums_data] using this
      have h2 : ∀ (zs : List Int), (∀ z ∈ zs, (Lit.int .u8 z).wf = true) → (zs.map (fun n => UInt8.ofNat n.toNat)).map (fun b => (b.toNat : Int)) = zs := by
        intro zs hz
        rw [List.map_map]
        conv => rhs; rw [← List.map_id zs]
        refine List.map_congr_left fun z hm => ?_
        have := bounds_u8 (hz z hm)
        simp only [Function.comp, UInt8.toNat_ofNat', id]
        omega
      rw [← h2 xs hx, ← h2 ys hy, h1]
    · rintro rfl; rfl
  have key2 : (strOfNums xs).toList = (strOfNums ys).toList ↔ xs = ys := by
    rw [toList_data, toList_data, ← key]
    exact ⟨fun h => WideShapes.bytes_inj h, fun h => by rw [h]⟩
  rw [Bool.eq_iff_iff]
  simp only [beq_iff_eq, decide_eq_true_eq, key2]
end Go.Proofs.YtpjgpiieminaoaaDoor

/- Plain facts on the numbers of the language: xor, and, tests ahead of a walk. No program is named. -/
namespace Go.Proofs.YtpjgpiieminaoaaDoor
open Go.RowKit

end Go.Proofs.YtpjgpiieminaoaaDoor

/- General: slices of structs of whole numbers that come in. No program is named. -/
namespace Go.Proofs.YtpjgpiieminaoaaDoor
open Go.ChangeShapes Go.WideShapes Go.ChangeAt Go.RowKit Go.Deep

end Go.Proofs.YtpjgpiieminaoaaDoor

/- General: what one block's turning leaves, slices that lie in a block of a kind, blocks of three cells. No program is named. -/
namespace Go.Proofs.YtpjgpiieminaoaaDoor
open Go.RowKit

/-! ### a slice whose cells lie in a block of a kind -/
/-- v reads, in w, as zs, and its cells (if there are any) lie in a block that S knows. -/
def RdS (k : IntKind) (w : World) (S : Nat → Prop) (v : Value) (zs : List Int) : Prop :=
  ∃ a cap, v = .slice a zs.length cap ∧ zs.length ≤ cap ∧ cap ≤ maxLen ∧ zs.length * (k.bits / 8) ≤ 140737488351232 ∧ (∀ z ∈ zs, (Lit.int k z).wf = true) ∧
    (0 < zs.length → ∃ g off, a = some ⟨g, off, none⟩ ∧ S g ∧ g < w.heap.size ∧ ∀ j, j < zs.length → w.cell? ⟨g, off + j, none⟩ = some (.int k (nth zs j)))

/-- But for block g (and new ones) w' is as w was. -/
structure Only (g : Nat) (w w' : World) : Prop where
  os : w'.os = w.os
  tape : w'.tape = w.tape
  output : w'.output = w.output
  size : w.heap.size ≤ w'.heap.size
  block : ∀ j, j < w.heap.size → j ≠ g → w'.heap[j]? = w.heap[j]?

theorem Only.below {g B : Nat} {w w' : World} (h : Only g w w') (hg : B ≤ g) (hB : B ≤ w.heap.size) : Below B w w' :=
  ⟨h.os, h.tape, h.output, h.size, fun j hj => h.block j (by omega) (by omega)⟩
theorem Only.of_below {g : Nat} {w w' : World} (h : Below w.heap.size w w') : Only g w w' := ⟨h.os, h.tape, h.output, h.size, fun j hj _ => h.block j hj⟩
theorem Only.refl (g : Nat) (w : World) : Only g w w := Only.of_below (Below.refl _ _)
theorem Only.trans {g : Nat} {a b c : World} (h : Only g a b) (k : Only g b c) : Only g a c :=
  ⟨k.os.trans h.os, k.tape.trans h.tape, k.output.trans h.output, Nat.le_trans h.size k.size, fun j hj hn => (k.block j (Nat.lt_of_lt_of_le hj h.size) hn).trans (h.block j hj hn)⟩
theorem Only.set {g : Nat} (w : World) {p : Addr} (hp : p.block = g) (u : Value) : Only g w (w.setCell p u) :=
  ⟨rfl, rfl, rfl, by simp [World.setCell], fun j _ hj => Below.heap_setCell _ _ _ _ (by omega)⟩
theorem Only.drew {g : Nat} {a w : World} (h : Only g a w) : Only g a w.drew := ⟨h.os, h.tape, h.output, h.size, h.block⟩
theorem Only.drewN (g : Nat) (w : World) (n : Nat) : Only g w (w.drewN n) := ⟨rfl, rfl, rfl, Nat.le_refl _, fun _ _ _ => rfl⟩
theorem Only.undrewN {g : Nat} {a w : World} {n : Nat} (h : Only g (a.drewN n) w) : Only g a w := ⟨h.os, h.tape, h.output, h.size, h.block⟩
theorem Only.cell {g : Nat} {w w' : World} (h : Only g w w') {p : Addr} (hp : p.block < w.heap.size) (hn : p.block ≠ g) : w'.cell? p = w.cell? p := World.cell?_of_block (w := w) (h.block p.block hp hn)
theorem RdS.same {k : IntKind} {w w' : World} {S : Nat → Prop} {v : Value} {zs : List Int} (h : RdS k w S v zs) (hs : w.heap.size ≤ w'.heap.size) (hg : ∀ g, S g → g < w.heap.size → w'.heap[g]? = w.heap[g]?) : RdS k w' S v zs := by
  obtain ⟨a, cap, h1, h2, h3, h4, h5, h7⟩ := h
  refine ⟨a, cap, h1, h2, h3, h4, h5, fun hp => ?_⟩
  obtain ⟨g, off, e, hS, hlt, hc⟩ := h7 hp
  exact ⟨g, off, e, hS, Nat.lt_of_lt_of_le hlt hs, fun j hj => (World.cell?_of_block (w := w) (hg g hS hlt)).trans (hc j hj)⟩
theorem RdS.imp {k : IntKind} {w : World} {S T : Nat → Prop} {v : Value} {zs : List Int} (h : RdS k w S v zs) (hT : ∀ g, S g → g < w.heap.size → T g) : RdS k w T v zs := by
  obtain ⟨a, cap, h1, h2, h3, h4, h5, h7⟩ := h
  refine ⟨a, cap, h1, h2, h3, h4, h5, fun hp => ?_⟩
  obtain ⟨g, off, e, hS, hlt, hc⟩ := h7 hp
  exact ⟨g, off, e, hT g hS hlt, hlt, hc⟩
theorem RdS.only {k : IntKind} {w w' : World} {S : Nat → Prop} {c : Nat} {v : Value} {zs : List Int} (h : RdS k w S v zs) (o : Only c w w') (hn : ∀ g, S g → g ≠ c) : RdS k w' S v zs :=
  h.same o.size fun g hg hlt => o.block g hlt (hn g hg)
theorem RdS.below {k : IntKind} {w w' : World} {S : Nat → Prop} {v : Value} {zs : List Int} (h : RdS k w S v zs) (o : Below w.heap.size w w') : RdS k w' S v zs :=
  h.same o.size fun g _ hlt => o.block g hlt
theorem RdS.rd {k : IntKind} {w : World} {S : Nat → Prop} {v : Value} {zs : List Int} (h : RdS k w S v zs) : Rd k w v zs := by
  obtain ⟨a, cap, h1, h2, h3, h4, h5, h7⟩ := h
  exact ⟨a, cap, h1, h4, h5, fun hp => by obtain ⟨g, off, e, _, h6, hc⟩ := h7 hp; exact ⟨g, off, e, h6, hc⟩⟩

/-- What the call owns. -/
theorem Own.rds {k : IntKind} {B : Nat} {E : TypeId} {w : World} {v : Value} {zs : List Int} (h : Own k B E w v zs) (hb : zs.length * (k.bits / 8) ≤ 140737488351232) (hw : ∀ z ∈ zs, (Lit.int k z).wf = true) :
    RdS k w (fun g => B ≤ g ∧ g < w.heap.size) v zs := by
  obtain ⟨p, c, e, hlc, _⟩ := h.slice
  have hcap : c ≤ maxLen := by
    obtain ⟨_, h2⟩ := h
    rcases h2 with ⟨h2, _⟩ | ⟨g, cap, cur, h2, _, _, _, hc, _⟩
    · rw [h2] at e; injection e with e1 e2 e3; subst e3; unfold maxLen; omega
    · rw [h2] at e; injection e with e1 e2 e3; subst e3; exact hc
  refine ⟨p, c, e, hlc, hcap, hb, hw, fun hp => ?_⟩
  obtain ⟨g, cap, e', hgB, hg, hcell, _⟩ := h.part hp
  rw [e] at e'
  injection e' with e1 e2 e3; subst e1
  exact ⟨g, 0, rfl, ⟨hgB, hg⟩, hg, fun j hj => by rw [Nat.zero_add]; exact hcell j hj⟩

theorem cells3 {w : World} {b : Nat} {x y z : Value} {t : TypeId} (h : w.heap[b]? = some (.cells #[x, y, z] t (0, 0))) :
    w.cell? ⟨b, 0, none⟩ = some x ∧ w.cell? ⟨b, 1, none⟩ = some y ∧ w.cell? ⟨b, 2, none⟩ = some z ∧ ∀ o, w.frozen? ⟨b, o, none⟩ = false := by
  refine ⟨?_, ?_, ?_, fun o => ?_⟩ <;> simp [World.cell?, World.frozen?, h]
theorem set3_1 {w : World} {b : Nat} {x y z u : Value} {t : TypeId} (h : w.heap[b]? = some (.cells #[x, y, z] t (0, 0))) : (w.setCell ⟨b, 1, none⟩ u).heap[b]? = some (.cells #[x, u, z] t (0, 0)) := by
  simp [World.setCell, Array.getElem?_modify, h]
theorem set3_2 {w : World} {b : Nat} {x y z u : Value} {t : TypeId} (h : w.heap[b]? = some (.cells #[x, y, z] t (0, 0))) : (w.setCell ⟨b, 2, none⟩ u).heap[b]? = some (.cells #[x, y, u] t (0, 0)) := by
  simp [World.setCell, Array.getElem?_modify, h]
theorem set3_0 {w : World} {b : Nat} {x y z u : Value} {t : TypeId} (h : w.heap[b]? = some (.cells #[x, y, z] t (0, 0))) : (w.setCell ⟨b, 0, none⟩ u).heap[b]? = some (.cells #[u, y, z] t (0, 0)) := by
  simp [World.setCell, Array.getElem?_modify, h]

theorem sz_al (w : World) (o : Obj) : (w.alloc o).heap.size = w.heap.size + 1 := Array.size_push _
end Go.Proofs.YtpjgpiieminaoaaDoor

/- General: arrays of bytes by value and in a block. No program is named. -/
namespace Go.Proofs.YtpjgpiieminaoaaDoor
open Go.ChangeShapes Go.WideShapes Go.ChangeAt Go.RowKit

/-- The n cells of an array of bytes. -/
def ba (n : Nat) (f : Nat → Nat) : Array Value := ((List.range n).map fun i => Value.int .u8 (f i : Int)).toArray
/-- One row turned. -/
def upd (f : Nat → Nat) (j z : Nat) : Nat → Nat := fun i => if i = j then z else f i
theorem upd_same (f : Nat → Nat) (j z : Nat) : upd f j z j = z := if_pos rfl
theorem upd_other (f : Nat → Nat) (j z i : Nat) (h : i ≠ j) : upd f j z i = f i := if_neg h

theorem ba_size (n : Nat) (f : Nat → Nat) : (ba n f).size = n := by simp [ba]
theorem ba_get {n : Nat} (f : Nat → Nat) {j : Nat} (h : j < n) : (ba n f)[j]? = some (.int .u8 (f j : Int)) := by simp [ba, h]
theorem ba_ext {n : Nat} {f g : Nat → Nat} (h : ∀ i, i < n → f i = g i) : ba n f = ba n g := by
  unfold ba
  congr 1
  refine List.map_congr_left fun i hi => ?_
  rw [h i (List.mem_range.1 hi)]
theorem ba_set {n : Nat} (f : Nat → Nat) (j z : Nat) : (ba n f).setIfInBounds j (.int .u8 (z : Int)) = ba n (upd f j z) := by
  apply Array.ext_getElem?
  intro i
  rw [Array.getElem?_setIfInBounds, ba_size]
  by_cases hi : i < n
  · rw [ba_get _ hi, ba_get _ hi]
    by_cases e : j = i
    · subst e; rw [if_pos rfl, if_pos hi, upd_same]
    · rw [if_neg e, upd_other _ _ _ _ (fun h => e h.symm)]
  · have h1 : (ba n f)[i]? = none := by simp [ba_size]; omega
    have h2 : (ba n (upd f j z))[i]? = none := by simp [ba_size]; omega
    rw [h1, h2]
    by_cases e : j = i
    · rw [if_pos e, if_neg (by omega)]
    · rw [if_neg e]
theorem ba_one (n : Nat) (f : Nat → Nat) : (ba n f).all (·.oneCell') = true := by
  refine Array.all_eq_true_iff_forall_mem.2 (fun v hv => ?_)
  simp [ba] at hv
  obtain ⟨i, _, rfl⟩ := hv
  rfl

section prog
variable {P : Program}

end prog
/-! ### an array in a block of its own -/
/-- Block b holds, whole, the n bytes of f, as a variable of type t. -/
def At (w : World) (b n : Nat) (t : TypeId) (f : Nat → Nat) : Prop := w.heap[b]? = some (.cells (ba n f) t (0, 0))
theorem At.lt {w : World} {b n : Nat} {t : TypeId} {f : Nat → Nat} (h : At w b n t f) : b < w.heap.size := (Array.getElem?_eq_some_iff.1 h).1
theorem At.cell {w : World} {b n : Nat} {t : TypeId} {f : Nat → Nat} (h : At w b n t f) {j : Nat} (hj : j < n) : w.cell? ⟨b, j, none⟩ = some (.int .u8 (f j : Int)) := by
  rw [cell_of_row w b j _ t (0, 0) h, ba_get f hj]
theorem At.free {w : World} {b n : Nat} {t : TypeId} {f : Nat → Nat} (h : At w b n t f) (o : Nat) : w.frozen? ⟨b, o, none⟩ = false := frozen_of_row w b o _ t h
theorem At.set {w : World} {b n : Nat} {t : TypeId} {f : Nat → Nat} (h : At w b n t f) (j z : Nat) : At (w.setCell ⟨b, j, none⟩ (.int .u8 (z : Int))) b n t (upd f j z) := by
  unfold At
  rw [heap_setCell_same w b j _ t _ h, ba_set]
theorem At.apart {w : World} {b n : Nat} {t : TypeId} {f : Nat → Nat} (h : At w b n t f) {a : Addr} (ha : b ≠ a.block) (v : Value) : At (w.setCell a v) b n t f := (heap_setCell_other w a b v ha).trans h
theorem At.row {w : World} {b n : Nat} {t : TypeId} {f : Nat → Nat} (h : At w b n t f) (g : Nat → Nat) : At (w.setRow b (ba n g)) b n t g := setRow_heap w b _ _ t _ h
theorem At.alloc {w : World} {b n : Nat} {t : TypeId} {f : Nat → Nat} (h : At w b n t f) (o : Obj) : At (w.alloc o) b n t f := (heap_alloc_old w o h.lt).trans h
theorem At.new (w : World) (n : Nat) (t : TypeId) (f : Nat → Nat) : At (w.alloc (.cells (ba n f) t)) w.heap.size n t f := heap_alloc_new w _
theorem At.drew {w : World} {b n : Nat} {t : TypeId} {f : Nat → Nat} (h : At w b n t f) : At w.drew b n t f := h
theorem At.below {w w' : World} {b n B : Nat} {t : TypeId} {f : Nat → Nat} (h : At w b n t f) (hb : Below B w w') (hB : b < B) : At w' b n t f := (hb.block b hB).trans h
theorem At.self {w w' : World} {b n : Nat} {t : TypeId} {f : Nat → Nat} (h : At w b n t f) (hb : Below w.heap.size w w') : At w' b n t f := h.below hb h.lt
theorem At.ext {w : World} {b n : Nat} {t : TypeId} {f g : Nat → Nat} (h : At w b n t f) (e : ∀ i, i < n → f i = g i) : At w b n t g := by
  unfold At at h ⊢; rw [h, ba_ext e]
theorem below_setRow {B b : Nat} {w0 w : World} (h : Below B w0 w) (hb : B ≤ b) (cs : Array Value) : Below B w0 (w.setRow b cs) :=
  ⟨h.os, h.tape, h.output, by simpa using h.size, fun j hj => (setRow_other w b j cs (by omega)).trans (h.block j hj)⟩

section prog2
variable {P : Program}
theorem At.load {w : World} {b n : Nat} {t : TypeId} {f : Nat → Nat} {e : TypeId} (h : At w b n t f) (ty : TypeId) (hu : P.underlying ty = some (.array n e)) (hi : (P.info? ty).map (·.size) = some n) :
    (loadVar ty ⟨b, 0, none⟩).run P w = .ok (.agg (ba n f)) w :=
  run_loadVar_row w b t ty _ (0, 0) _ h hu rfl (by rw [ba_size]; exact hi)
theorem At.store {w : World} {b n : Nat} {t : TypeId} {f : Nat → Nat} (h : At w b n t f) (ty : TypeId) (g : Nat → Nat) (hi : (P.info? ty).map (·.size) = some n) :
    (storeVar ty ⟨b, 0, none⟩ (.agg (ba n g))).run P w = .ok () (w.setRow b (ba n g)) :=
  run_storeVar_row w b t ty _ _ h (by rw [ba_size]; exact hi) (by rw [ba_size, ba_size]) (ba_one n g)
end prog2

/-! ### returns of arrays -/
/-! ### whole loads and stores, as arms of a walk -/
end Go.Proofs.YtpjgpiieminaoaaDoor

/- General: a region that draws its order, one operation after another by hand: what may be taken first, guarded operations that are passed over among it. No program is named. -/
namespace Go.Proofs.YtpjgpiieminaoaaDoor
open Go.RowKit

section
variable {P : Program} {ops : Array Oper} {S : World → Prop} {o : Oper} {a : Act}
end

section
variable {P : Program} {md : Region.Mode} {ops : Array Oper} {S : World → Prop} {Q : Exit → Act → World → Prop}
end
end Go.Proofs.YtpjgpiieminaoaaDoor

/- General: an array of bytes that comes in by value, read as numbers. No program is named. -/
namespace Go.Proofs.YtpjgpiieminaoaaDoor
open Go.ChangeShapes Go.WideShapes Go.ChangeAt Go.RowKit

theorem arr_open {H : Type} {enc : TypeId × Value → H} {P : Program} {W : World} {sp : Nat → Bool} {held : Bool} {k : IntKind} {n : Nat} {t e : TypeId} {base : Nat} {v : Value} {d : DataW H} {p : List MemPlace} {b0 : Nat}
    (ht : P.underlying t = some (.array n e)) (he : P.underlying e = some (.int k)) (hc : P.cellsOf e = 1) (hct : P.cellsOf t = n)
    (hv : Value.okWide P W .any b0 t v) (h : DataW.Trod enc P W base sp held t v d p) :
    ∃ zs : List Int, v = .agg (zs.map (Value.int k)).toArray ∧ zs.length = n ∧ ∀ z ∈ zs, (Lit.int k z).wf = true := by
  have hv' : ∃ cs, v = .agg cs ∧ cs.size = P.cellsOf t := by
    unfold Value.okWide at hv
    rw [ht] at hv
    obtain ⟨cs, h1, h2, _⟩ := hv
    exact ⟨cs, h1, h2⟩
  obtain ⟨cs, rfl, hcs⟩ := hv'
  obtain ⟨fuel, hf⟩ := h
  obtain ⟨xs, m, rfl, _, hl, hxl, hel⟩ := DataW.trod_array ht hf
  simp only [Value.cells, hc, Nat.mul_one, hct] at hl hel
  have each : ∀ i (h : i < cs.toList.length), ∃ z, cs.toList[i] = .int k z ∧ (Lit.int k z).wf = true := by
    intro i hi
    have h1 := hel i (by omega)
    rw [List.drop_eq_getElem_cons hi, List.take_succ_cons, List.take_zero, List.getElem?_eq_getElem (by omega)] at h1
    obtain ⟨z, hz, _, hw⟩ := DataW.trod_int he h1
    simp only [List.cons.injEq, and_true] at hz
    exact ⟨z, hz, hw⟩
  have lst : ∀ l : List Value, (∀ i (h : i < l.length), ∃ z, l[i] = .int k z ∧ (Lit.int k z).wf = true) → ∃ zs : List Int, l = zs.map (Value.int k) ∧ ∀ z ∈ zs, (Lit.int k z).wf = true := by
    intro l
    induction l with
    | nil => intro _; exact ⟨[], rfl, by simp⟩
    | cons a r ih =>
      intro h
      obtain ⟨z, hz, hw⟩ := h 0 (by simp)
      obtain ⟨zs, hr, hws⟩ := ih (fun i hi => h (i + 1) (by simp; omega))
      simp only [List.getElem_cons_zero] at hz
      exact ⟨z :: zs, by rw [hz, hr]; rfl, by intro y hy; rcases List.mem_cons.1 hy with rfl | hy; exact hw; exact hws y hy⟩
  obtain ⟨zs, hz, hws⟩ := lst _ each
  refine ⟨zs, by rw [← hz], ?_, hws⟩
  have := congrArg List.length hz
  simp at this hl; omega

end Go.Proofs.YtpjgpiieminaoaaDoor

/- General: rows of bytes as functions, words in blocks, lists of words that the call owns, append that leaves the old row. No program is named. -/
namespace Go.Proofs.YtpjgpiieminaoaaDoor
open Go.ChangeShapes Go.WideShapes Go.ChangeAt Go.RowKit

/-- The first n bytes of f as numbers. -/
def ns (n : Nat) (f : Nat → Nat) : List Int := (List.range n).map fun j => (f j : Int)
theorem ns_len (n : Nat) (f : Nat → Nat) : (ns n f).length = n := by simp [ns]
theorem ns_at {n : Nat} (f : Nat → Nat) {j : Nat} (h : j < n) : (ns n f)[j]? = some (f j : Int) := by simp [ns, h]
theorem ns_nth {n : Nat} (f : Nat → Nat) {j : Nat} (h : j < n) : nth (ns n f) j = (f j : Int) := by simp [nth, List.getD, ns_at f h]
theorem ns_ext {n : Nat} {f g : Nat → Nat} (h : ∀ j, j < n → f j = g j) : ns n f = ns n g :=
  List.map_congr_left fun i hi => by rw [h i (List.mem_range.1 hi)]
theorem ns_set (n : Nat) (f : Nat → Nat) (j z : Nat) : (ns n f).set j (z : Int) = ns n (upd f j z) := by
  apply List.ext_getElem?
  intro i
  rw [List.getElem?_set, ns_len]
  by_cases hi : i < n
  · rw [ns_at _ hi, ns_at _ hi]
    by_cases e : j = i
    · subst e; rw [if_pos rfl, if_pos hi, upd_same]
    · rw [if_neg e, upd_other _ _ _ _ (fun h => e h.symm)]
  · have h1 : (ns n f)[i]? = none := by rw [List.getElem?_eq_none_iff, ns_len]; omega
    have h2 : (ns n (upd f j z))[i]? = none := by rw [List.getElem?_eq_none_iff, ns_len]; omega
    rw [h1, h2]
    by_cases e : j = i
    · rw [if_pos e, if_neg (by omega)]
    · rw [if_neg e]
theorem ns_snoc (n : Nat) (f : Nat → Nat) : ns n f ++ [(f n : Int)] = ns (n + 1) f := by simp [ns, List.range_succ]
theorem ns_app (n m : Nat) (f : Nat → Nat) : ns n f ++ ns m (fun j => f (n + j)) = ns (n + m) f := by
  unfold ns
  rw [List.range_add, List.map_append, List.map_map]
  rfl
theorem wf_byte {z : Nat} (h : z < 256) : (Lit.int .u8 (z : Int)).wf = true := WalkArith.wf_u8 (by omega)
theorem ns_wf {n : Nat} {f : Nat → Nat} (h : ∀ j, j < n → f j < 256) : ∀ z ∈ ns n f, (Lit.int .u8 z).wf = true := by
  intro z hz
  obtain ⟨j, hj, rfl⟩ := List.mem_map.1 hz
  exact wf_byte (h j (List.mem_range.1 hj))
/-! ### bytes that lie in a block -/
/-- n bytes of block g, from off on, are f's. -/
structure Wd (w : World) (n g off : Nat) (f : Nat → Nat) : Prop where
  lt : g < w.heap.size
  cell : ∀ j, j < n → w.cell? ⟨g, off + j, none⟩ = some (.int .u8 (f j : Int))
  byte : ∀ j, j < n → f j < 256
section
variable {w w' : World} {n g off b B : Nat} {f : Nat → Nat}
theorem Wd.same (h : Wd w n g off f) (hs : w.heap.size ≤ w'.heap.size) (hb : w'.heap[g]? = w.heap[g]?) : Wd w' n g off f :=
  ⟨Nat.lt_of_lt_of_le h.lt hs, fun j hj => (World.cell?_of_block (w := w) hb).trans (h.cell j hj), h.byte⟩
theorem Wd.only (h : Wd w n g off f) (o : Only b w w') (hn : g ≠ b) : Wd w' n g off f := h.same o.size (o.block g h.lt hn)
theorem Wd.below (h : Wd w n g off f) (hb : Below B w w') (hB : g < B) : Wd w' n g off f := h.same hb.size (hb.block g hB)
theorem Wd.self (h : Wd w n g off f) (hb : Below w.heap.size w w') : Wd w' n g off f := h.below hb h.lt
theorem Wd.drew (h : Wd w n g off f) : Wd w.drew n g off f := ⟨h.lt, h.cell, h.byte⟩
theorem Wd.alloc (h : Wd w n g off f) (o : Obj) : Wd (w.alloc o) n g off f := h.same (by simp) (heap_alloc_old w o h.lt)
theorem Wd.ext {f' : Nat → Nat} (h : Wd w n g off f) (e : ∀ j, j < n → f j = f' j) : Wd w n g off f' :=
  ⟨h.lt, fun j hj => by rw [h.cell j hj, e j hj], fun j hj => by rw [← e j hj]; exact h.byte j hj⟩
theorem Wd.part (h : Wd w n g off f) {k m : Nat} (hk : k + m ≤ n) : Wd w m g (off + k) (fun j => f (k + j)) :=
  ⟨h.lt, fun j hj => by rw [Nat.add_assoc]; exact h.cell (k + j) (by omega), fun j hj => h.byte (k + j) (by omega)⟩
theorem Wd.rd (h : Wd w n g off f) (c : Nat) (hn : n ≤ 65536) : Rd .u8 w (.slice (some ⟨g, off, none⟩) n c) (ns n f) :=
  ⟨some ⟨g, off, none⟩, c, by rw [ns_len], by rw [ns_len]; show n * 1 ≤ _; omega, ns_wf h.byte, fun _ => ⟨g, off, rfl, h.lt, fun j hj => by rw [ns_len] at hj; rw [h.cell j hj, ns_nth f hj]⟩⟩
end

/-! ### append onto a row that the call owns: the old row's cells stand, wherever the new one lies -/
section
variable {P : Program} (w : World)
end

/-! ### lists of rows of bytes, owned by the call -/
/-- The values of the first m rows: n bytes each, at gs i from os i on, of capacity cs i. -/
def vs (m n : Nat) (gs os cs : Nat → Nat) : List Value := (List.range m).map fun i => .slice (some ⟨gs i, os i, none⟩) n (cs i)
theorem vs_at {m : Nat} (n : Nat) (gs os cs : Nat → Nat) {i : Nat} (h : i < m) : (vs m n gs os cs)[i]? = some (.slice (some ⟨gs i, os i, none⟩) n (cs i)) := by simp [vs, h]
theorem vs_snoc (m n : Nat) (gs os cs : Nat → Nat) (g o c : Nat) : vs m n gs os cs ++ [.slice (some ⟨g, o, none⟩) n c] = vs (m + 1) n (upd gs m g) (upd os m o) (upd cs m c) := by
  unfold vs
  rw [List.range_succ, List.map_append]
  congr 1
  · exact List.map_congr_left fun i hi => by
      have := List.mem_range.1 hi
      rw [upd_other _ _ _ _ (by omega), upd_other _ _ _ _ (by omega), upd_other _ _ _ _ (by omega)]
  · simp [upd_same]

/-- Block c is a list of m rows of n bytes each; what the rows hold is F; none of them lies in c. -/
structure LW (w : World) (B : Nat) (E : TypeId) (c m cap n : Nat) (gs os cs : Nat → Nat) (F : Nat → Nat → Nat) : Prop where
  own : w.ownsRow B E 1 (.slice (some ⟨c, 0, none⟩) m cap) m (vs m n gs os cs)
  each : ∀ i, i < m → Wd w n (gs i) (os i) (F i)
  apart : ∀ i, i < m → gs i ≠ c
/-- A row F of rows, with one more. -/
def updR (F : Nat → Nat → Nat) (m : Nat) (f : Nat → Nat) : Nat → Nat → Nat := fun i => if i = m then f else F i
section
variable {w w' : World} {B c m cap n b : Nat} {E : TypeId} {gs os cs : Nat → Nat} {F : Nat → Nat → Nat}
theorem LW.form (h : LW w B E c m cap n gs os cs F) : B ≤ c ∧ c < w.heap.size ∧ m ≤ cap ∧ cap ≤ maxLen := by
  rcases h.own.2 with ⟨e, _⟩ | ⟨g, cap', cur, e, h1, h2, h3, h4, _⟩
  · cases e
  · injection e with e1 e2 e3
    injection e1 with e1
    injection e1 with e1
    subst e1; subst e3
    exact ⟨h1, (Array.getElem?_eq_some_iff.1 h2).1, h3, h4⟩
theorem LW.lt (h : LW w B E c m cap n gs os cs F) : c < w.heap.size := h.form.2.1
theorem LW.cell (h : LW w B E c m cap n gs os cs F) {i : Nat} (hi : i < m) : w.cell? ⟨c, i, none⟩ = some (.slice (some ⟨gs i, os i, none⟩) n (cs i)) := by
  have := h.own.cells (g := c) rfl i _ (vs_at n gs os cs hi)
  rwa [Addr.add_mid, Nat.zero_add] at this
theorem LW.same (h : LW w B E c m cap n gs os cs F) (hs : w.heap.size ≤ w'.heap.size) (hc : w'.heap[c]? = w.heap[c]?) (hg : ∀ i, i < m → w'.heap[gs i]? = w.heap[gs i]?) : LW w' B E c m cap n gs os cs F := by
  refine ⟨⟨h.own.1, ?_⟩, fun i hi => (h.each i hi).same hs (hg i hi), h.apart⟩
  rcases h.own.2 with ⟨e, _⟩ | ⟨g, cap', cur, e, h1, h2, h3⟩
  · cases e
  · refine .inr ⟨g, cap', cur, e, h1, ?_, h3⟩
    injection e with e1 e2 e3
    injection e1 with e1
    injection e1 with e1
    subst e1
    rw [hc, h2]
theorem LW.only (h : LW w B E c m cap n gs os cs F) (o : Only b w w') (hc : c ≠ b) (hg : ∀ i, i < m → gs i ≠ b) : LW w' B E c m cap n gs os cs F :=
  h.same o.size (o.block c h.lt hc) (fun i hi => o.block _ (h.each i hi).lt (hg i hi))
theorem LW.self (h : LW w B E c m cap n gs os cs F) (hb : Below w.heap.size w w') : LW w' B E c m cap n gs os cs F :=
  h.same hb.size (hb.block c h.lt) (fun i hi => hb.block _ (h.each i hi).lt)
theorem LW.drew (h : LW w B E c m cap n gs os cs F) : LW w.drew B E c m cap n gs os cs F := ⟨h.own, fun i hi => (h.each i hi).drew, h.apart⟩
theorem LW.alloc (h : LW w B E c m cap n gs os cs F) (o : Obj) : LW (w.alloc o) B E c m cap n gs os cs F :=
  h.same (by simp) (heap_alloc_old w o h.lt) (fun i hi => heap_alloc_old w o (h.each i hi).lt)
theorem LW.ext {F' : Nat → Nat → Nat} (h : LW w B E c m cap n gs os cs F) (e : ∀ i, i < m → ∀ j, j < n → F i j = F' i j) : LW w B E c m cap n gs os cs F' :=
  ⟨h.own, fun i hi => (h.each i hi).ext (e i hi), h.apart⟩
/-- One row behind the others. -/
theorem LW.more (h : LW w B E c m cap n gs os cs F) {g o k c' cap' : Nat} {f : Nat → Nat} (hg : Wd w n g o f) (hn : g ≠ c) (hown : w'.ownsRow B E 1 (.slice (some ⟨c', 0, none⟩) (m + 1) cap') (m + 1) (vs m n gs os cs ++ [.slice (some ⟨g, o, none⟩) n k]))
    (hgr : w.grownBy w' (some c)) (hc : c' = c ∨ c' = w.heap.size) : LW w' B E c' (m + 1) cap' n (upd gs m g) (upd os m o) (upd cs m k) (updR F m f) := by
  have far : ∀ {x : Nat}, x < w.heap.size → x ≠ c → w'.heap[x]? = w.heap[x]? := fun {x} hx hxc => hgr.block x hx (by simpa using hxc)
  have hap : ∀ {x : Nat}, x < w.heap.size → x ≠ c → x ≠ c' := fun {x} hx hxc => by rcases hc with rfl | rfl <;> omega
  refine ⟨by rw [← vs_snoc]; exact hown, fun i hi => ?_, fun i hi => ?_⟩
  · by_cases e : i = m
    · subst e; simp only [upd_same, updR, if_pos]; exact hg.same hgr.size (far hg.lt hn)
    · have hi' : i < m := by omega
      simp only [updR, if_neg e, upd_other _ _ _ _ e]
      exact (h.each i hi').same hgr.size (far (h.each i hi').lt (h.apart i hi'))
  · by_cases e : i = m
    · subst e; rw [upd_same]; exact hap hg.lt hn
    · have hi' : i < m := by omega
      rw [upd_other _ _ _ _ e]
      exact hap (h.each i hi').lt (h.apart i hi')
end

theorem below_drewN (w : World) (n : Nat) : Below w.heap.size w (w.drewN n) := ⟨rfl, rfl, rfl, Nat.le_refl _, fun _ _ => rfl⟩
/-! ### append of one value to a row of values -/
section
variable {P : Program} {w : World} {o : Oper} {a : Act}
end

/-- A list of rows that is only read. -/
structure RL (w : World) (c m n : Nat) (gs os cs : Nat → Nat) (F : Nat → Nat → Nat) : Prop where
  lt : c < w.heap.size
  cell : ∀ i, i < m → w.cell? ⟨c, i, none⟩ = some (.slice (some ⟨gs i, os i, none⟩) n (cs i))
  each : ∀ i, i < m → Wd w n (gs i) (os i) (F i)
theorem RL.self {w w' : World} {c m n : Nat} {gs os cs : Nat → Nat} {F : Nat → Nat → Nat} (h : RL w c m n gs os cs F) (hb : Below w.heap.size w w') : RL w' c m n gs os cs F :=
  ⟨Nat.lt_of_lt_of_le h.lt hb.size, fun i hi => (World.cell?_of_block (w := w) (hb.block c h.lt)).trans (h.cell i hi), fun i hi => (h.each i hi).self hb⟩
theorem RL.drew {w : World} {c m n : Nat} {gs os cs : Nat → Nat} {F : Nat → Nat → Nat} (h : RL w c m n gs os cs F) : RL w.drew c m n gs os cs F := ⟨h.lt, h.cell, fun i hi => (h.each i hi).drew⟩
end Go.Proofs.YtpjgpiieminaoaaDoor

/- General: rows that read the same whatever is done apart from them; a law's world behind a box. No program is named. -/
namespace Go.Proofs.YtpjgpiieminaoaaDoor
open Go.RowKit
set_option maxRecDepth 100000
/-- v reads as xs, whatever is done that turns block b alone. -/
def Kept (b : Nat) (w : World) (v : Value) (xs : List Int) : Prop := ∀ W, Only b w W → Rd .u8 W v xs
section
variable {b : Nat} {w w' : World} {v : Value} {xs : List Int}
theorem Kept.rd (h : Kept b w v xs) : Rd .u8 w v xs := h w (Only.refl b w)
theorem Kept.later (h : Kept b w v xs) (o : Only b w w') : Kept b w' v xs := fun W hW => h W (o.trans hW)
theorem Kept.self (h : Kept b w v xs) (hb : Below w.heap.size w w') : Kept b w' v xs := h.later (Only.of_below hb)
end
/-- Several such rows. -/
def KL (b : Nat) (w : World) (l : List (Value × List Int)) : Prop := ∀ p ∈ l, Kept b w p.1 p.2
section
variable {b : Nat} {w w' : World} {v : Value} {xs : List Int} {l : List (Value × List Int)}
theorem KL.nil : KL b w [] := fun _ h => by cases h
theorem KL.cons (h : Kept b w v xs) (hl : KL b w l) : KL b w ((v, xs) :: l) := fun p hp => by
  rcases List.mem_cons.1 hp with rfl | hp
  · exact h
  · exact hl p hp
theorem KL.later (h : KL b w l) (o : Only b w w') : KL b w' l := fun p hp => (h p hp).later o
theorem KL.self (h : KL b w l) (hb : Below w.heap.size w w') : KL b w' l := h.later (Only.of_below hb)
theorem KL.all (h : KL b w l) (hp : (v, xs) ∈ l) : ∀ W, Only b w W → Rd .u8 W v xs := h (v, xs) hp
end
section
variable {α : Type} {a b c d e f g x : α} {l : List α}
theorem m1 : x ∈ a :: x :: l := .tail _ (.head _)
theorem m2 : x ∈ a :: b :: x :: l := .tail _ m1
end
/-- A law's world, behind New. -/
structure Lw (b : Nat) (w wr : World) : Prop where
  low : Below w.heap.size w wr
  le : w.heap.size ≤ b
  lt : b < wr.heap.size
theorem Lw.later {b : Nat} {w wr w' : World} (h : Lw b w wr) (o : Only b wr w') : Lw b w w' := ⟨h.low.trans (o.below h.le h.low.size), h.le, Nat.lt_of_lt_of_le h.lt o.size⟩
theorem Lw.self {b : Nat} {w wr w' : World} (h : Lw b w wr) (hb : Below wr.heap.size wr w') : Lw b w w' := h.later (Only.of_below hb)
end Go.Proofs.YtpjgpiieminaoaaDoor

/- General: zeros behind a row of bytes that is the call's own; numbers behind a row that is full and another's. No program is named. -/
namespace Go.Proofs.YtpjgpiieminaoaaDoor
open Go.ChangeShapes Go.WideShapes Go.ChangeAt Go.RowKit

section
variable {P : Program} (w : World)
end
end Go.Proofs.YtpjgpiieminaoaaDoor

/- General: a slice of slices of bytes that comes in. No program is named. -/
namespace Go.Proofs.YtpjgpiieminaoaaDoor
open Go.ChangeShapes Go.WideShapes Go.ChangeAt Go.RowKit Go.Deep

/-- n rows of bytes, at a: row i has Ls i bytes, Fs i. -/
structure Rws (w : World) (a : Option Addr) (n : Nat) (As : Nat → Option Addr) (Ls Cs : Nat → Nat) (Fs : Nat → Nat → Nat) : Prop where
  out : 0 < n → ∃ g off, a = some ⟨g, off, none⟩ ∧ g < w.heap.size ∧ ∀ i, i < n → w.cell? ⟨g, off + i, none⟩ = some (.slice (As i) (Ls i) (Cs i))
  row : ∀ i, i < n → (Ls i ≤ Cs i ∧ Ls i ≤ 140737488351232) ∧ (Ls i ≤ 60000 → Rd .u8 w (.slice (As i) (Ls i) (Cs i)) (ns (Ls i) (Fs i)) ∧ ∀ j, j < Ls i → Fs i j < 256)
theorem Rws.self {w w' : World} {a : Option Addr} {n : Nat} {As : Nat → Option Addr} {Ls Cs : Nat → Nat} {Fs : Nat → Nat → Nat} (h : Rws w a n As Ls Cs Fs) (hb : Below w.heap.size w w') : Rws w' a n As Ls Cs Fs := by
  refine ⟨fun h0 => ?_, fun i hi => ⟨(h.row i hi).1, fun hl => ⟨((h.row i hi).2 hl).1.self hb, ((h.row i hi).2 hl).2⟩⟩⟩
  obtain ⟨g, off, e, hg, hc⟩ := h.out h0
  exact ⟨g, off, e, Nat.lt_of_lt_of_le hg hb.size, fun i hi => (World.cell?_of_block (w := w) (hb.block g hg)).trans (hc i hi)⟩
end Go.Proofs.YtpjgpiieminaoaaDoor

/- General: blocks of a stretch that are turned; 'append' that says which block it turned. No program is named. -/
namespace Go.Proofs.YtpjgpiieminaoaaDoor
open Go.ChangeAt Go.RowKit
set_option maxRecDepth 100000

/-- But for blocks from B up to N (and new ones) w' is as w was. -/
structure Tn (B N : Nat) (w w' : World) : Prop where
  os : w'.os = w.os
  tape : w'.tape = w.tape
  output : w'.output = w.output
  size : w.heap.size ≤ w'.heap.size
  block : ∀ j, j < w.heap.size → (j < B ∨ N ≤ j) → w'.heap[j]? = w.heap[j]?
theorem Tn.trans {B N : Nat} {w w' w2 : World} (h : Tn B N w w') (k : Tn B N w' w2) : Tn B N w w2 :=
  ⟨k.os.trans h.os, k.tape.trans h.tape, k.output.trans h.output, Nat.le_trans h.size k.size, fun j hj hn => (k.block j (Nat.lt_of_lt_of_le hj h.size) hn).trans (h.block j hj hn)⟩
theorem Tn.mono {B B' N : Nat} {w w' : World} (h : Tn B N w w') (hB : B' ≤ B) : Tn B' N w w' := ⟨h.os, h.tape, h.output, h.size, fun j hj hn => h.block j hj (by omega)⟩
theorem Tn.refl (B N : Nat) (w : World) : Tn B N w w := ⟨rfl, rfl, rfl, Nat.le_refl _, fun _ _ _ => rfl⟩
theorem Tn.set {B N : Nat} (w : World) {p : Addr} (h1 : B ≤ p.block) (h2 : p.block < N) (u : Value) : Tn B N w (w.setCell p u) :=
  ⟨rfl, rfl, rfl, by simp [World.setCell], fun j _ hj => Below.heap_setCell _ _ _ _ (by omega)⟩
end Go.Proofs.YtpjgpiieminaoaaDoor

/- General: an array of three slices of bytes that comes in. No program is named. -/
namespace Go.Proofs.YtpjgpiieminaoaaDoor
open Go.ChangeShapes Go.WideShapes Go.ChangeAt Go.RowKit Go.Deep

end Go.Proofs.YtpjgpiieminaoaaDoor

/- General: a string out of an array of strings. No program is named. -/
namespace Go.Proofs.YtpjgpiieminaoaaDoor
open Go.RowKit
section
variable {P : Program}
theorem run_index_num (w : World) (t e : TypeId) (n : Nat) (cs : Array Value) (j : Nat) (z : Int) (hu : P.underlying t = some (.array n e)) (he : P.underlying e = some (.int .i64)) (hs : (P.info? e).map (·.size) = some 1) (hj : j < n) (hg : cs[j]? = some (.int .i64 z)) :
    (Instr.index t (.agg cs) (.int .i64 (j : Int))).run P w = .ok (.int .i64 z) w := by
  obtain ⟨i, hi, h1⟩ : ∃ i, P.info? e = some i ∧ i.size = 1 := by
    cases hq : P.info? e with
    | none => simp [hq] at hs
    | some i => exact ⟨i, rfl, by simpa [hq] using hs⟩
  have hb : 0 ≤ (j : Int) ∧ (j : Int) < (n : Int) := ⟨by omega, by omega⟩
  simp [Instr.index, asIntOf, run_underlying hu, run_underlying he, hj, isAgg, sizeOf, typeInfo, hi, h1, part, hg, go_sem]
end
end Go.Proofs.YtpjgpiieminaoaaDoor

/- General: rows of any lengths: a list of them that is read, a list that the call owns and puts behind. No program is named. -/
namespace Go.Proofs.YtpjgpiieminaoaaDoor
open Go.ChangeShapes Go.WideShapes Go.ChangeAt Go.RowKit

/-- A row of something lies in no block c. -/
def Apart (u : Value) (c : Nat) : Prop := ∀ b off s n cap, u = .slice (some ⟨b, off, s⟩) n cap → 0 < n → b ≠ c
theorem rd_block {k : IntKind} {w : World} {u : Value} {z : List Int} (h : Rd k w u z) : ∀ b off s n cap, u = .slice (some ⟨b, off, s⟩) n cap → 0 < n → b < w.heap.size := by
  rintro b off s n cap rfl hn
  obtain ⟨a, c, e, _, _, hc⟩ := h
  injection e with e1 e2 e3
  obtain ⟨b', off', e', hlt, _⟩ := hc (by omega)
  rw [e'] at e1
  injection e1 with e1
  injection e1 with e1
  subst e1
  exact hlt
theorem rd_same {k : IntKind} {w w' : World} {u : Value} {z : List Int} {o : Option Nat} (h : Rd k w u z) (hg : w.grownBy w' o) (ha : ∀ c, o = some c → Apart u c) : Rd k w' u z := by
  obtain ⟨a, cap, rfl, h2, h3, h4⟩ := h
  refine ⟨a, cap, rfl, h2, h3, fun hp => ?_⟩
  obtain ⟨b, off, rfl, hbw, hc⟩ := h4 hp
  exact ⟨b, off, rfl, Nat.lt_of_lt_of_le hbw hg.size, fun j hj => (hg.cell_far ⟨b, off + j, none⟩ hbw (fun e => ha b e.symm b off none _ cap rfl hp rfl)).trans (hc j hj)⟩
theorem apart_new {k : IntKind} {w : World} {u : Value} {z : List Int} (h : Rd k w u z) {c : Nat} (hc : w.heap.size ≤ c) : Apart u c :=
  fun b off s n cap e hn => by have := rd_block h b off s n cap e hn; omega
/-- Rows, the call's own list of them. -/
structure RwL (k : IntKind) (w : World) (B : Nat) (E : TypeId) (v : Value) (us : List Value) (Z : List (List Int)) : Prop where
  own : w.ownsRow B E 1 v us.length us
  len : us.length = Z.length
  each : ∀ (i : Nat) (u : Value) (z : List Int), us[i]? = some u → Z[i]? = some z → Rd k w u z ∧ ∀ c, v.ownBlock = some c → Apart u c
section
variable {k : IntKind} {w w' : World} {B : Nat} {E : TypeId} {v v' : Value} {us : List Value} {Z : List (List Int)}
theorem RwL.nil (k : IntKind) (w : World) (B : Nat) (E : TypeId) : RwL k w B E (.slice none 0 0) [] [] :=
  ⟨World.ownsRow_nil w B E 1, rfl, fun i u z h => by cases h⟩
theorem RwL.self (h : RwL k w B E v us Z) (hb : Below w.heap.size w w') : RwL k w' B E v us Z := by
  refine ⟨⟨h.own.1, ?_⟩, h.len, fun i u z h1 h2 => ⟨(h.each i u z h1 h2).1.self hb, (h.each i u z h1 h2).2⟩⟩
  rcases h.own.2 with ⟨e, e0⟩ | ⟨g, cap', cur, e, h1, h2, h3⟩
  · exact .inl ⟨e, e0⟩
  · exact .inr ⟨g, cap', cur, e, h1, (hb.block g (Array.getElem?_eq_some_iff.1 h2).1).trans h2, h3⟩
theorem RwL.lt (h : RwL k w B E v us Z) : ∀ j, v.ownBlock = some j → B ≤ j ∧ j < w.heap.size := World.ownsRow.lt h.own
/-- Rows behind the others. -/
theorem RwL.more {g cap n : Nat} (h : RwL k w B E v us Z) {xs : List Value} {Y : List (List Int)} (hl : xs.length = Y.length) (hn : us.length + xs.length = n)
    (he : ∀ (i : Nat) (u : Value) (z : List Int), xs[i]? = some u → Y[i]? = some z → Rd k w u z ∧ ∀ c, v.ownBlock = some c → Apart u c)
    (ho : w'.ownsRow B E 1 (.slice (some ⟨g, 0, none⟩) n cap) n (us ++ xs)) (hg : w.grownBy w' v.ownBlock) (hc : v.ownBlock = some g ∨ g = w.heap.size) :
    RwL k w' B E (.slice (some ⟨g, 0, none⟩) n cap) (us ++ xs) (Z ++ Y) := by
  refine ⟨by rw [List.length_append, hn]; exact ho, by rw [List.length_append, List.length_append, h.len, hl], fun i u z h1 h2 => ?_⟩
  have key : Rd k w u z ∧ ∀ c, v.ownBlock = some c → Apart u c := by
    by_cases hi : i < us.length
    · rw [List.getElem?_append_left hi] at h1
      rw [List.getElem?_append_left (by rw [← h.len]; exact hi)] at h2
      exact h.each i u z h1 h2
    · rw [List.getElem?_append_right (by omega)] at h1
      rw [List.getElem?_append_right (by rw [← h.len]; omega), ← h.len] at h2
      exact he _ u z h1 h2
  refine ⟨rd_same key.1 hg key.2, fun c e => ?_⟩
  simp only [Value.ownBlock, Option.some.injEq] at e
  subst e
  rcases hc with hc | hc
  · exact key.2 _ hc
  · exact apart_new key.1 (by omega)
end

/-- Rows that are read: m of them, from a on. -/
structure RdL (k : IntKind) (w : World) (a : Option Addr) (m : Nat) (us : Nat → Value) (zs : Nat → List Int) : Prop where
  out : 0 < m → ∃ g off, a = some ⟨g, off, none⟩ ∧ g < w.heap.size ∧ ∀ i, i < m → w.cell? ⟨g, off + i, none⟩ = some (us i)
  each : ∀ i, i < m → Rd k w (us i) (zs i)
theorem RdL.self {k : IntKind} {w w' : World} {a : Option Addr} {m : Nat} {us : Nat → Value} {zs : Nat → List Int} (h : RdL k w a m us zs) (hb : Below w.heap.size w w') : RdL k w' a m us zs := by
  refine ⟨fun h0 => ?_, fun i hi => (h.each i hi).self hb⟩
  obtain ⟨g, off, e, hg, hc⟩ := h.out h0
  exact ⟨g, off, e, Nat.lt_of_lt_of_le hg hb.size, fun i hi => (World.cell?_of_block (w := w) (hb.block g hg)).trans (hc i hi)⟩
end Go.Proofs.YtpjgpiieminaoaaDoor

/- General: rows as strings, in regions that draw: the condition that every world meets is made stronger on the way. No program is named. -/
namespace Go.Proofs.YtpjgpiieminaoaaDoor
open Go.ChangeShapes Go.WideShapes Go.ChangeAt Go.RowKit

/-- A row of bytes that is read, however long. -/
def Rw (w : World) (v : Value) (zs : List Int) : Prop := ∃ a cap, v = .slice a zs.length cap ∧ (0 < zs.length → ∃ b off, a = some ⟨b, off, none⟩ ∧ b < w.heap.size ∧ ∀ j, j < zs.length → w.cell? ⟨b, off + j, none⟩ = some (.int .u8 (nth zs j)))
theorem Rw.self {w w' : World} {v : Value} {zs : List Int} (h : Rw w v zs) (hb : Below w.heap.size w w') : Rw w' v zs := by
  obtain ⟨a, cap, h1, h2⟩ := h
  refine ⟨a, cap, h1, fun h0 => ?_⟩
  obtain ⟨b, off, e, hlt, hc⟩ := h2 h0
  exact ⟨b, off, e, Nat.lt_of_lt_of_le hlt hb.size, fun j hj => (World.cell?_of_block (w := w) (hb.block b hlt)).trans (hc j hj)⟩
section
variable {P : Program} {md : Region.Mode} {ops : Array Oper} {Q : Exit → Act → World → Prop} {S S' : World → Prop}
end
end Go.Proofs.YtpjgpiieminaoaaDoor

/- General: a law whose row lists package-level variables ('laid'): from what its core owes to the row. No program is named. -/
namespace Go.Proofs.YtpjgpiieminaoaaDoor
open Go.ChangeShapes Go.WideShapes Go.ChangeAt Go.WideMaps Go.WideElems Go.RowKit

/-- What such a law owes: from any world in which the variables read as listed. -/
def LawCoreL (H : Type) (enc : TypeId × Value → H) (P : Program) (laid : List (String × DataW Unit)) (f : FuncId) (ts : List TypeId) : Prop :=
  ∀ (W : World) (base : Nat) (args : Array Value) (ds : List (DataW H)) (p : List MemPlace),
    (∀ (j : Nat) t v, ts[j]? = some t → args[j]? = some v → Value.okWide P W .any base t v) →
    DataW.TrodAll enc P W 0 (fun _ => true) true ts args.toList ds p → (∀ x ∈ p, x.block < W.heap.size) → W.noneFrozen p →
    (DataW.weightsEach P ts ds).all (· ≤ reachBytes) = true → laidMetH P laid W → W.ShapedOpen P →
    Calls P f args W fun e W' => e = .returned (.bool true) ∧ Below W.heap.size W W'

theorem law_lifted_laid {H : Type} {enc : TypeId × Value → H} {C : Checked} {os : Os} {f : FuncId} {fn : Func} {s : ChangeSpec} {conds : List PathCond} {bt : TypeId} {laid : List (String × DataW Unit)}
    (own : ownKnob C.prog.godebug = none) (started : os.Started) (noInit : C.prog.inits.idxOf? f = none) (hfn : C.prog.funcs[f]? = some fn)
    (witness : ∃ (w : World) (tape : Tape) (i : Input), w.os = os ∧ (w.forCall tape i).Shaped C.prog ∧ i.vars = [] ∧ Input.okWide C.prog (w.forCall tape i) .any w.heap.size f i ∧
      ((s.pre enc C.prog fn conds false (w.forCall tape i).memory i.args ∧ laidMetH C.prog laid (w.forCall tape i).memory) ∧ sizedMet enc C.prog fn (OpenSpec.ofChange s) false (w.forCall tape i).memory i.args) ∧ ({} : Assume).holds C.prog (lone (Frame.enter C.prog f i.args .normal) [] (w.forCall tape i)))
    (hl : laidOutB C.prog = true) (hts : ∀ t ∈ fn.params.toList, C.prog.readableRec t = true ∧ t < C.prog.types.size)
    (hr : fn.resultTypes = #[bt]) (hbt : C.prog.underlying bt = some .bool) (hv : s.vars = [])
    (hs : ∀ ds : List (DataW H), ds.length = fn.params.size → s.fn H ds = { results := [.lit (.bool true)], args := ds })
    (core : LawCoreL H enc C.prog laid f fn.params.toList) :
    ReturnsInHanded {} C os f .any (fun w args => (s.pre enc C.prog fn conds false w args ∧ laidMetH C.prog laid w) ∧ sizedMet enc C.prog fn (OpenSpec.ofChange s) false w args) (s.post enc C.prog fn false true false false) := by
  refine returnsInHanded_of_calls own started noInit witness ?_
  intro w tape i _ hsh _ hok hpre _
  obtain ⟨_, _, _, fn', hfn', _, _, _, _, hval⟩ := hok
  obtain rfl : fn' = fn := Option.some.inj (hfn'.symm.trans hfn)
  obtain ⟨⟨⟨ds, gs, before, hw0, _⟩, hl0⟩, hz⟩ := hpre
  have hW := DataW.Whole.of_heap (w' := w.forCall tape i) (by rfl) hw0
  have hL : laidMetH C.prog laid (w.forCall tape i) := laidMetH.of_heap (w := (w.forCall tape i).memory) (w' := w.forCall tape i) rfl hl0
  have hsz : (DataW.weightsEach C.prog (fn'.params.toList ++ s.plain.varTypes C.prog) (ds ++ gs)).all (· ≤ reachBytes) = true := hz.weights hw0
  refine Calls.mono (R := fun e W' => ∃ v, e = .returned v ∧ s.post enc C.prog fn' false true false false (w.forCall tape i) i.args v W') ?_ (fun e W' ⟨v, he, hp⟩ => by subst he; exact ChangeSpec.post_blind hp)
  generalize w.forCall tape i = W at *
  generalize i.args = args at *
  have hW' := hW
  obtain ⟨p, q, hA, hV, rfl, hfz, hnd⟩ := hW
  rw [hv] at hV
  obtain ⟨rfl, rfl⟩ := trodVars_none hV
  have hvt : DataSpec.varTypes C.prog s.plain = [] := by simp [ChangeSpec.plain, DataSpec.varTypes, hv]
  rw [hvt, List.append_nil, List.append_nil] at hsz
  have hlt : ∀ x ∈ p, x.block < W.heap.size := fun x hx => by
    have := hW'.lt x (by simpa using hx); simpa using this
  have hlen : ds.length = fn'.params.size := by simpa using trodAll_len hA
  refine (core W w.heap.size args ds p (fun j t v h1 h2 => hval j t v (by simpa using h1) h2) hA hlt (by simpa using hfz) hsz hL hsh).mono fun e W' ⟨he, hb⟩ => ?_
  refine ⟨_, he, ds, [], p ++ [], [], p, [], hW', ?_, ?_, ?_, hb.frame _, fun h => by cases h⟩
  · simp only [List.append_nil, hs ds hlen, hr]
    exact trodAll_cons_mk (shut_bool hbt true) rfl
  · simp only [List.append_nil, hs ds hlen]
    exact trodAll_stays hl hb hts hA hlt
  · simp only [List.append_nil, hs ds hlen, hv]
    rfl
end Go.Proofs.YtpjgpiieminaoaaDoor

/- General: strings as lists of bytes; numbers in decimal digits; words with blanks between. No program is named. -/
namespace Go.Proofs.YtpjgpiieminaoaaDoor
open Go.Lib

/-- An op. -/
structure Op6 where
  K : Int
  D : Int
  A : Int
  B : Int
  E : Int
  C : Nat
theorem kindsL (K : Int) : K = 1 ∨ K = 2 ∨ K = 3 ∨ K = 4 ∨ K = 5 ∨ K = 6 ∨ K = 7 ∨ K = 8 ∨ K = 9 ∨ K = 10 ∨ K = 11 ∨ K = 12 ∨ (K < 1 ∨ 12 < K) := by omega
/-- May it be read? -/
def mayP (o : Op6) : Prop := (1 ≤ o.K ∧ o.K ≤ 12) ∧ (-4611686018427387904 ≤ o.D ∧ o.D ≤ 4611686018427387904) ∧ (-4611686018427387904 ≤ o.A ∧ o.A ≤ 4611686018427387904) ∧ (-4611686018427387904 ≤ o.B ∧ o.B ≤ 4611686018427387904) ∧ (-4611686018427387904 ≤ o.E ∧ o.E ≤ 4611686018427387904) ∧ o.C < 18446744073709551616
instance (o : Op6) : Decidable (mayP o) := by unfold mayP; infer_instance
end Go.Proofs.YtpjgpiieminaoaaDoor

/- General: a trace that comes in: an int, a slice of ops, a slice of spans. No program is named. -/
namespace Go.Proofs.YtpjgpiieminaoaaDoor
open Go.ChangeShapes Go.WideShapes Go.ChangeAt Go.RowKit Go.Deep

/-- May an op come in? (its numbers are ints, its constant a word) -/
def opwf (o : Op6) : Prop := (-9223372036854775808 ≤ o.K ∧ o.K ≤ 9223372036854775807) ∧ (-9223372036854775808 ≤ o.D ∧ o.D ≤ 9223372036854775807) ∧ (-9223372036854775808 ≤ o.A ∧ o.A ≤ 9223372036854775807) ∧ (-9223372036854775808 ≤ o.B ∧ o.B ≤ 9223372036854775807) ∧ (-9223372036854775808 ≤ o.E ∧ o.E ≤ 9223372036854775807) ∧ o.C < 18446744073709551616
/-- A span. -/
structure Sp3 where
  K : Int
  F : Int
  T : Int
def spwf (s : Sp3) : Prop := (-9223372036854775808 ≤ s.K ∧ s.K ≤ 9223372036854775807) ∧ (-9223372036854775808 ≤ s.F ∧ s.F ≤ 9223372036854775807) ∧ (-9223372036854775808 ≤ s.T ∧ s.T ≤ 9223372036854775807)
/-- The cells of an op from offset n of block b on. -/
structure Oc (w : World) (q n : Nat) (o : Op6) : Prop where
  k : w.cell? ⟨q, n, none⟩ = some (.int .i64 o.K)
  d : w.cell? ⟨q, n + 1, none⟩ = some (.int .i64 o.D)
  a : w.cell? ⟨q, n + 2, none⟩ = some (.int .i64 o.A)
  b : w.cell? ⟨q, n + 3, none⟩ = some (.int .i64 o.B)
  e : w.cell? ⟨q, n + 4, none⟩ = some (.int .i64 o.E)
  c : w.cell? ⟨q, n + 5, none⟩ = some (.int .u64 (o.C : Int))
structure Sc (w : World) (q n : Nat) (s : Sp3) : Prop where
  k : w.cell? ⟨q, n, none⟩ = some (.int .i64 s.K)
  f : w.cell? ⟨q, n + 1, none⟩ = some (.int .i64 s.F)
  t : w.cell? ⟨q, n + 2, none⟩ = some (.int .i64 s.T)
/-- v reads as the L ops f. -/
structure ROp (w : World) (v : Value) (L : Nat) (f : Nat → Op6) : Prop where
  lim : L ≤ 4000000000000
  wf : ∀ i, i < L → opwf (f i)
  at_ : ∃ a cap, v = .slice a L cap ∧ L ≤ cap ∧ cap ≤ maxLen ∧ (0 < L → ∃ b off, a = some ⟨b, off, none⟩ ∧ b < w.heap.size ∧ ∀ i, i < L → Oc w b (off + i * 6) (f i))
/-- v reads as the L spans g. -/
structure RSp (w : World) (v : Value) (L : Nat) (g : Nat → Sp3) : Prop where
  lim : L ≤ 10000000000000
  wf : ∀ i, i < L → spwf (g i)
  at_ : ∃ a cap, v = .slice a L cap ∧ L ≤ cap ∧ cap ≤ maxLen ∧ (0 < L → ∃ b off, a = some ⟨b, off, none⟩ ∧ b < w.heap.size ∧ ∀ i, i < L → Sc w b (off + i * 3) (g i))
theorem tcell_self {w w' : World} {a : Addr} {v : Value} (h : w.cell? a = some v) (hb : Below w.heap.size w w') : w'.cell? a = some v :=
  (hb.cell (World.block_lt_of_cell? w _ h)).trans h
theorem Oc.self {w w' : World} {b n : Nat} {o : Op6} (h : Oc w b n o) (hb : Below w.heap.size w w') : Oc w' b n o :=
  ⟨tcell_self h.k hb, tcell_self h.d hb, tcell_self h.a hb, tcell_self h.b hb, tcell_self h.e hb, tcell_self h.c hb⟩
theorem Sc.self {w w' : World} {b n : Nat} {s : Sp3} (h : Sc w b n s) (hb : Below w.heap.size w w') : Sc w' b n s :=
  ⟨tcell_self h.k hb, tcell_self h.f hb, tcell_self h.t hb⟩
theorem ROp.self {w w' : World} {v : Value} {L : Nat} {f : Nat → Op6} (h : ROp w v L f) (hb : Below w.heap.size w w') : ROp w' v L f := by
  obtain ⟨a, cap, h1, h2, h3, h4⟩ := h.at_
  refine ⟨h.lim, h.wf, a, cap, h1, h2, h3, fun h0 => ?_⟩
  obtain ⟨b, off, e1, e2, e3⟩ := h4 h0
  exact ⟨b, off, e1, Nat.lt_of_lt_of_le e2 hb.size, fun i hi => (e3 i hi).self hb⟩
theorem RSp.self {w w' : World} {v : Value} {L : Nat} {g : Nat → Sp3} (h : RSp w v L g) (hb : Below w.heap.size w w') : RSp w' v L g := by
  obtain ⟨a, cap, h1, h2, h3, h4⟩ := h.at_
  refine ⟨h.lim, h.wf, a, cap, h1, h2, h3, fun h0 => ?_⟩
  obtain ⟨b, off, e1, e2, e3⟩ := h4 h0
  exact ⟨b, off, e1, Nat.lt_of_lt_of_le e2 hb.size, fun i hi => (e3 i hi).self hb⟩
end Go.Proofs.YtpjgpiieminaoaaDoor
