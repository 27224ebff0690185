import Derived.WalkKit
import Derived.ProofKit
import Derived.OpenShut
import Derived.SizedLaws
import Derived.BigQuiet
import Derived.Deep.QuietTactic
import Derived.Deep.RegionLaw
import Derived.Laws.CopyOwn
import GoSem.ClaimJoined
import Derived.Deep.Slices
import Derived.Deep.Fields
import Derived.Laws.Rows
import Derived.Laws.Tables
import Derived.Laws.StructEq
import Derived.ChangeKeysEq
import Derived.Deep.WholeRow
import Derived.Deep.RegionHeld3
import Derived.BigRegion
import Derived.StillTailTactics
import Derived.ArgAppend
import Derived.Deep.AppendLies
import Derived.Deep.MidRow
import Derived.Lib.AppendZerosOnto
import Derived.Deep.Matrix
import Derived.Laws.IdiomArrays
import Derived.Deep.RegionHeld
import Derived.LaidMore
import Derived.HandedShaped
import Derived.Stop.Joined
import Derived.Lib.ItoaNum
import Derived.ChangeArms
import Derived.Laws.Bits64
namespace Go.Proofs.YthkijncnndoafaaGreatDoor
open Go.ChangeShapes Go.WideShapes Go.ChangeAt Go.RowKit

theorem lay_out {α : Type} : (∀ (l : List α) (i : Nat) (h : i < l.toArray.size), l.toArray[i]'h = l[i]'(by simpa using h)) ∧ (∀ (a : α) (l : List α) (h : 0 < (a :: l).length), (a :: l)[0]'h = a) ∧
  (∀ (a : α) (l : List α) (i : Nat) (h : i + 1 < (a :: l).length), (a :: l)[i + 1]'h = l[i]'(by simpa using h)) ∧ (∀ (l : List α) (i : Nat) (v : α), l.toArray.setIfInBounds i v = (l.set i v).toArray) ∧
  (∀ (a : α) (l : List α) (v : α), (a :: l).set 0 v = v :: l) ∧ (∀ (a : α) (l : List α) (i : Nat) (v : α), (a :: l).set (i + 1) v = a :: l.set i v) :=
 ⟨fun _ _ _ => by simp, fun _ _ _ => rfl, fun _ _ _ _ => rfl, fun _ _ _ => by simp, fun _ _ _ => rfl, fun _ _ _ _ => rfl⟩

theorem hid {p : Prop} (h : p) : Hid p := h
theorem ret_int {k : IntKind} {a b : Int} (h : a = b) : Ending.returned (.int k a) = .returned (.int k b) := by rw [h]
section row
variable {H : Type} {enc : TypeId × Value → H} {P : Program}

theorem trodAll_len {W : World} {base : Nat} {sp : Nat → Bool} {held : Bool} : ∀ {ts : List TypeId} {vs : List Value} {ds : List (DataW H)} {p : List MemPlace},
  DataW.TrodAll enc P W base sp held ts vs ds p → ds.length = ts.length
 | [], [], [], _, _ => rfl
 | _ :: _, _ :: _, _ :: _, _, ⟨_, _, _, h, _⟩ => by simp [trodAll_len h]
 | [], [], _ :: _, _, h => h.elim
 | [], _ :: _, _, _, h => by cases h
 | _ :: _, [], _, _, h => by cases h
 | _ :: _, _ :: _, [], _, h => by cases h

theorem trodAll_stays {W W' : World} (hl : laidOutB P = true) (hb : Below W.heap.size W W') :
  ∀ {ts : List TypeId} {vs : List Value} {ds : List (DataW H)} {p : List MemPlace}, (∀ t ∈ ts, P.readableRec t = true ∧ t < P.types.size) →
  DataW.TrodAll enc P W 0 (fun _ => true) true ts vs ds p → (∀ x ∈ p, x.block < W.heap.size) →
  DataW.TrodAll enc P W' 0 (fun b => decide (b < W.heap.size)) true ts vs ds p
 | [], [], [], _, _, h, _ => h
 | t :: ts, v :: vs, d :: ds, p, hts, ⟨a, b, h1, h2, e⟩, hlt => by
  subst e
  exact ⟨a, b, Below.trod hl (hts t (by simp)).1 (hts t (by simp)).2 h1 hb (fun x hx => hlt x (List.mem_append.2 (.inl hx))),
   trodAll_stays hl hb (fun t' ht => hts t' (by simp [ht])) h2 (fun x hx => hlt x (List.mem_append.2 (.inr hx))), rfl⟩
 | [], [], _ :: _, _, _, h, _ => h.elim
 | [], _ :: _, _, _, _, h, _ => by cases h
 | _ :: _, [], _, _, _, h, _ => by cases h
 | _ :: _, _ :: _, [], _, _, h, _ => by cases h

end row

def nth (zs : List Int) (j : Nat) : Int := zs.getD j 0
def Rd (k : IntKind) (w : World) (v : Value) (zs : List Int) : Prop :=
 ∃ a cap, v = .slice a zs.length cap ∧ zs.length * (k.bits / 8) ≤ 140737488351232 ∧ (∀ z ∈ zs, (Lit.int k z).wf = true) ∧
  (0 < zs.length → ∃ b off, a = some ⟨b, off, none⟩ ∧ b < w.heap.size ∧ ∀ j, j < zs.length → w.cell? ⟨b, off + j, none⟩ = some (.int k (nth zs j)))

theorem Rd.below {k : IntKind} {w w' : World} {v : Value} {zs : List Int} {B : Nat} (h : Rd k w v zs) (hb : Below B w w') (hB : w.heap.size ≤ B) : Rd k w' v zs := by
 obtain ⟨a, cap, h1, h2, h3, h4⟩ := h
 refine ⟨a, cap, h1, h2, h3, fun hp => ?_⟩
 obtain ⟨b, off, e, hbw, hc⟩ := h4 hp
 exact ⟨b, off, e, Nat.lt_of_lt_of_le hbw hb.size, fun j hj => (hb.cell (p := ⟨b, off + j, none⟩) (Nat.lt_of_lt_of_le hbw hB)).trans (hc j hj)⟩

theorem Rd.self {k : IntKind} {w w' : World} {v : Value} {zs : List Int} (h : Rd k w v zs) (hb : Below w.heap.size w w') : Rd k w' v zs := h.below hb (Nat.le_refl _)

def Own (k : IntKind) (B : Nat) (E : TypeId) (w : World) (v : Value) (zs : List Int) : Prop := w.ownsRow B E 1 v zs.length (zs.map (Value.int k))

theorem nth_of {zs : List Int} {j : Nat} (h : j < zs.length) : nth zs j = zs[j] := by simp [nth, List.getD, h]

theorem Own.part {k : IntKind} {B : Nat} {E : TypeId} {w : World} {v : Value} {zs : List Int} (h : Own k B E w v zs) (hp : 0 < zs.length) :
  ∃ g cap, v = .slice (some ⟨g, 0, none⟩) zs.length cap ∧ B ≤ g ∧ g < w.heap.size ∧ (∀ j, j < zs.length → w.cell? ⟨g, j, none⟩ = some (.int k (nth zs j))) ∧
   (∀ o, w.frozen? ⟨g, o, none⟩ = false) ∧ (∀ j z, j < zs.length → Own k B E (w.setCell ⟨g, j, none⟩ (.int k z)) v (zs.set j z)) := by
 obtain ⟨h1, h2⟩ := h
 rcases h2 with ⟨_, h0⟩ | ⟨g, cap, cur, rfl, hb, hg, hn, hcap, hsz, htake⟩
 · omega
 ·
  have hlt : g < w.heap.size := (Array.getElem?_eq_some_iff.1 hg).1
  have hcell : ∀ j, j < zs.length → cur[j]? = some (.int k (nth zs j)) := fun j hj => by
   have e := congrArg (fun l => l[j]?) htake
   simp only [Nat.mul_one, List.getElem?_take, hj, if_true, List.getElem?_map, List.getElem?_eq_getElem hj, Option.map_some] at e
   rw [nth_of hj, ← e]; simp
  refine ⟨g, cap, rfl, hb, hlt, fun j hj => ?_, fun o => ?_, fun j z hj => ?_⟩
  · simp [World.cell?, hg, hcell j hj]
  · simp [World.frozen?, hg]
  ·
   refine ⟨by simp, .inr ⟨g, cap, cur.setIfInBounds j (.int k z), by simp, hb, ?_, by simpa using hn, hcap, by simpa using hsz, ?_⟩⟩
   · simp [World.setCell, Array.getElem?_modify, hg]
   ·
    simp only [Nat.mul_one, List.length_set, Array.toList_setIfInBounds, List.map_set] at htake ⊢
    rw [List.take_set, htake]

theorem Own.rd {k : IntKind} {B : Nat} {E : TypeId} {w : World} {v : Value} {zs : List Int} (h : Own k B E w v zs) (hb : zs.length * (k.bits / 8) ≤ 140737488351232) (hw : ∀ z ∈ zs, (Lit.int k z).wf = true) : Rd k w v zs := by
 by_cases hp : 0 < zs.length
 ·
  obtain ⟨g, cap, rfl, _, hg, hc, _⟩ := h.part hp
  exact ⟨_, cap, rfl, hb, hw, fun _ => ⟨g, 0, rfl, hg, fun j hj => by rw [Nat.zero_add]; exact hc j hj⟩⟩
 ·
  obtain ⟨h1, h2⟩ := h
  rcases h2 with ⟨rfl, h0⟩ | ⟨g, cap, cur, rfl, _⟩
  · exact ⟨none, 0, by rw [h0], hb, hw, fun h => absurd h hp⟩
  · exact ⟨_, cap, rfl, hb, hw, fun h => absurd h hp⟩

theorem own_nil (k : IntKind) (B : Nat) (E : TypeId) (w : World) : Own k B E w (.slice none 0 0) [] := World.ownsRow_nil w B E 1

theorem Own.lt {k : IntKind} {B : Nat} {E : TypeId} {w : World} {v : Value} {zs : List Int} (h : Own k B E w v zs) : ∀ j, v.ownBlock = some j → B ≤ j ∧ j < w.heap.size := World.ownsRow.lt h

theorem wp_append_ints {P : Program} {w : World} {o : Oper} {a : Act} {K : Act → World → Prop} {Q : Exit → Act → World → Prop} (s x : Operand) (t : TypeId)
  (ho : o.op = .call { callee := .builtin .append, args := #[s, x], argTypes := #[t, t] }) (k : IntKind) (B : Nat) (E : TypeId) (ht : P.underlying t = some (.slice E))
  (hinfo : (P.info? E).map (fun i => (i.zero, i.size, i.bytes)) = some (some (.int k 0), 1, k.bits / 8)) (hk : 0 < k.bits / 8)
  (sv : Value) (zs : List Int) (hs : a.eval s = sv) (hown : Own k B E w sv zs) (ad : Addr) (m c : Nat) (ns : List Int) (hx : a.eval x = .slice (some ad) m c) (hm : ns.length = m) (hns : ∀ j, j < m → w.cell? (ad.add j) = some (.int k (nth ns j)))
  (hlim : (zs.length + m) * (k.bits / 8) ≤ 140737488355328) (hB : B ≤ w.heap.size) (B0 : Nat) (w0 : World) (hb : Below B0 w0 w) (hBB : B0 ≤ B)
  (h : ∀ v' w', Own k B E w' v' (zs ++ ns) → Below B0 w0 w' → w.heap.size ≤ w'.heap.size → K (a.put o.dst v') w') : o.wp P a w K Q := by
 obtain ⟨i0, hi, hz0, hz1, hz2⟩ := info_parts hinfo
 have hle : zs.length + m ≤ (zs.length + m) * (k.bits / 8) := Nat.le_mul_of_pos_right _ hk
 refine wp_append_own w s x t ho B E i0 _ 1 (k.bits / 8) ht hi hz0 hz1 hz2 rfl (by decide) sv zs.length (zs.map (Value.int k)) hs hown ad m c (ns.map (Value.int k)) hx (by simp [hm]) ?_ (by intro u hu; obtain ⟨z, _, rfl⟩ := List.mem_map.1 hu; rfl) (by unfold maxLen; omega) hlim hB ?_
 ·
  intro j u hj
  simp only [List.getElem?_map, Option.map_eq_some_iff] at hj
  obtain ⟨z, hz, rfl⟩ := hj
  obtain ⟨hj, rfl⟩ := List.getElem?_eq_some_iff.1 hz
  rw [hns j (by omega), nth_of hj]
 ·
  intro v' w' h2 h3 _
  refine h v' w' ?_ (hb.grown h3 (by omega) (fun j hj => by have := (hown.lt j hj).1; omega)) h3.size
  unfold Own
  rw [List.length_append, List.map_append, hm]
  exact h2

theorem own_empty {k : IntKind} {B : Nat} {E : TypeId} (w : World) (hB : B ≤ w.heap.size) :
  Own k B E (w.alloc (.cells #[] E)) (.slice (some ⟨w.heap.size, 0, none⟩) 0 0) [] :=
 World.ownsRow_made w #[] 0 hB (Nat.zero_le _) rfl
theorem run_append_zero {P : Program} (w : World) (t r : TypeId) (k : IntKind) (B : Nat) (E : TypeId) (ht : P.underlying t = some (.slice E)) (hsz : (P.info? E).map (·.size) = some 1)
  (sv : Value) (zs : List Int) (hown : Own k B E w sv zs) (p : Option Addr) (c : Nat) :
  (Builtin.append_ #[t, t] r #[sv, .slice p 0 c]).run P w = .ok sv w := by
 obtain ⟨i0, hi, _⟩ : ∃ i, P.info? E = some i ∧ i.size = 1 := by
  cases h : P.info? E with
  | none => simp [h] at hsz
  | some i => exact ⟨i, rfl, by simpa [h] using hsz⟩
 have key : ∀ (b : Option Addr) (n cap : Nat), n ≤ cap → (Builtin.append_ #[t, t] r #[.slice b n cap, .slice p 0 c]).run P w = .ok (.slice b n cap) w := by
  intro b n cap hn
  cases b <;> cases p <;> simp [Builtin.append_, run_underlying ht, sizeOf, typeInfo, hi, Builtin.lenOf, hn, Builtin.firstCells, loadCells, loadCellsFrom, storeCells]
 obtain ⟨_, h2⟩ := hown
 rcases h2 with ⟨rfl, _⟩ | ⟨g, cap, cur, rfl, _, _, hn, _⟩
 · exact key _ _ _ (Nat.le_refl _)
 · exact key _ _ _ (by simpa using hn)

theorem wp_append_rd {P : Program} {w : World} {o : Oper} {a : Act} {K : Act → World → Prop} {Q : Exit → Act → World → Prop} (s x : Operand) (t : TypeId)
  (ho : o.op = .call { callee := .builtin .append, args := #[s, x], argTypes := #[t, t] }) (k : IntKind) (B : Nat) (E : TypeId) (ht : P.underlying t = some (.slice E))
  (hinfo : (P.info? E).map (fun i => (i.zero, i.size, i.bytes)) = some (some (.int k 0), 1, k.bits / 8)) (hk : 0 < k.bits / 8)
  (sv : Value) (zs : List Int) (hs : a.eval s = sv) (hown : Own k B E w sv zs) (xv : Value) (ns : List Int) (hx : a.eval x = xv) (hrd : Rd k w xv ns)
  (hlim : (zs.length + ns.length) * (k.bits / 8) ≤ 140737488355328) (hB : B ≤ w.heap.size) (B0 : Nat) (w0 : World) (hb : Below B0 w0 w) (hBB : B0 ≤ B)
  (h : ∀ v' w', Own k B E w' v' (zs ++ ns) → Below B0 w0 w' → w.heap.size ≤ w'.heap.size → K (a.put o.dst v') w') : o.wp P a w K Q := by
 obtain ⟨sa, scap, rfl, hl, hwf, hc⟩ := hrd
 by_cases hp : 0 < ns.length
 ·
  obtain ⟨b, off, rfl, hbw, hc⟩ := hc hp
  exact wp_append_ints s x t ho k B E ht hinfo hk sv zs hs hown ⟨b, off, none⟩ ns.length scap ns hx rfl (fun j hj => by rw [add_plain]; exact hc j hj) hlim hB B0 w0 hb hBB h
 ·
  obtain rfl : ns = [] := List.eq_nil_of_length_eq_zero (by omega)
  obtain ⟨i0, hi, hz0, hz1, hz2⟩ := info_parts hinfo
  have hrun := run_append_zero (P := P) w t o.type k B E ht (by rw [hi]; simp [hz1]) sv zs hown sa scap
  unfold Oper.wp
  simp only [List.length_nil] at hx
  simp [execOp, ho, resolve, invoke, builtin, hs, hx, hrun, Result.andThen]
  exact h sv w (by simpa using hown) hb (Nat.le_refl _)

theorem wpList_append_rd {P : Program} {w : World} {ops : Array Oper} {rest : List Oper} {o : Oper} {a : Act} {Q : Exit → Act → World → Prop} (hgd : o.guard = none) (s x : Operand) (t : TypeId)
  (ho : o.op = .call { callee := .builtin .append, args := #[s, x], argTypes := #[t, t] }) (k : IntKind) (B : Nat) (E : TypeId) (ht : P.underlying t = some (.slice E))
  (hinfo : (P.info? E).map (fun i => (i.zero, i.size, i.bytes)) = some (some (.int k 0), 1, k.bits / 8)) (hk : 0 < k.bits / 8)
  (sv : Value) (zs : List Int) (hs : a.eval s = sv) (hown : Own k B E w sv zs) (xv : Value) (ns : List Int) (hx : a.eval x = xv) (hrd : Rd k w xv ns)
  (hlim : (zs.length + ns.length) * (k.bits / 8) ≤ 140737488355328) (hB : B ≤ w.heap.size) (B0 : Nat) (w0 : World) (hb : Below B0 w0 w) (hBB : B0 ≤ B)
  (h : ∀ v' w', Own k B E w' v' (zs ++ ns) → Below B0 w0 w' → w.heap.size ≤ w'.heap.size → wpList P ops Q rest (a.put o.dst v') w') : wpList P ops Q (o :: rest) a w :=
 wpList_plain hgd fun _ hK => wp_append_rd s x t ho k B E ht hinfo hk sv zs hs hown xv ns hx hrd hlim hB B0 w0 hb hBB fun v' w' h2 h3 h4 => hK _ _ (h v' w' h2 h3 h4)

theorem Own.slice {k : IntKind} {B : Nat} {E : TypeId} {w : World} {v : Value} {zs : List Int} (h : Own k B E w v zs) :
  ∃ p cap, v = .slice p zs.length cap ∧ zs.length ≤ cap ∧ (0 < zs.length → ∃ g, p = some ⟨g, 0, none⟩ ∧ B ≤ g ∧ g < w.heap.size) := by
 have hlt := h.lt
 obtain ⟨_, h2⟩ := h
 rcases h2 with ⟨rfl, h0⟩ | ⟨g, cap, cur, rfl, hg, _, hc, _⟩
 · exact ⟨none, 0, by rw [h0], by omega, by omega⟩
 · exact ⟨_, _, rfl, hc, fun _ => ⟨g, rfl, hg, (hlt g rfl).2⟩⟩

theorem wfs_of {k : IntKind} {w : World} {v : Value} {zs : List Int} (h : Rd k w v zs) : ∀ z ∈ zs, (Lit.int k z).wf = true := by
 obtain ⟨_, _, _, _, h, _⟩ := h
 exact h

open Go.RowKit

open Go.ChangeShapes Go.WideShapes Go.ChangeAt Go.RowKit Go.Deep

open Go.RowKit

def RdS (k : IntKind) (w : World) (S : Nat → Prop) (v : Value) (zs : List Int) : Prop :=
 ∃ a cap, v = .slice a zs.length cap ∧ zs.length ≤ cap ∧ cap ≤ maxLen ∧ zs.length * (k.bits / 8) ≤ 140737488351232 ∧ (∀ z ∈ zs, (Lit.int k z).wf = true) ∧
  (0 < zs.length → ∃ g off, a = some ⟨g, off, none⟩ ∧ S g ∧ g < w.heap.size ∧ ∀ j, j < zs.length → w.cell? ⟨g, off + j, none⟩ = some (.int k (nth zs j)))

structure Only (g : Nat) (w w' : World) : Prop where
 os : w'.os = w.os
 tape : w'.tape = w.tape
 output : w'.output = w.output
 size : w.heap.size ≤ w'.heap.size
 block : ∀ j, j < w.heap.size → j ≠ g → w'.heap[j]? = w.heap[j]?

theorem Only.below {g B : Nat} {w w' : World} (h : Only g w w') (hg : B ≤ g) (hB : B ≤ w.heap.size) : Below B w w' :=
 ⟨h.os, h.tape, h.output, h.size, fun j hj => h.block j (by omega) (by omega)⟩
theorem Only.trans {g : Nat} {a b c : World} (h : Only g a b) (k : Only g b c) : Only g a c :=
 ⟨k.os.trans h.os, k.tape.trans h.tape, k.output.trans h.output, Nat.le_trans h.size k.size, fun j hj hn => (k.block j (Nat.lt_of_lt_of_le hj h.size) hn).trans (h.block j hj hn)⟩
theorem Only.set {g : Nat} (w : World) {p : Addr} (hp : p.block = g) (u : Value) : Only g w (w.setCell p u) :=
 ⟨rfl, rfl, rfl, by simp [World.setCell], fun j _ hj => Below.heap_setCell _ _ _ _ (by omega)⟩
theorem Only.drewN (g : Nat) (w : World) (n : Nat) : Only g w (w.drewN n) := ⟨rfl, rfl, rfl, Nat.le_refl _, fun _ _ _ => rfl⟩
theorem Only.undrewN {g : Nat} {a w : World} {n : Nat} (h : Only g (a.drewN n) w) : Only g a w := ⟨h.os, h.tape, h.output, h.size, h.block⟩
theorem Only.cell {g : Nat} {w w' : World} (h : Only g w w') {p : Addr} (hp : p.block < w.heap.size) (hn : p.block ≠ g) : w'.cell? p = w.cell? p := World.cell?_of_block (w := w) (h.block p.block hp hn)
theorem RdS.same {k : IntKind} {w w' : World} {S : Nat → Prop} {v : Value} {zs : List Int} (h : RdS k w S v zs) (hs : w.heap.size ≤ w'.heap.size) (hg : ∀ g, S g → g < w.heap.size → w'.heap[g]? = w.heap[g]?) : RdS k w' S v zs := by
 obtain ⟨a, cap, h1, h2, h3, h4, h5, h7⟩ := h
 refine ⟨a, cap, h1, h2, h3, h4, h5, fun hp => ?_⟩
 obtain ⟨g, off, e, hS, hlt, hc⟩ := h7 hp
 exact ⟨g, off, e, hS, Nat.lt_of_lt_of_le hlt hs, fun j hj => (World.cell?_of_block (w := w) (hg g hS hlt)).trans (hc j hj)⟩
theorem RdS.imp {k : IntKind} {w : World} {S T : Nat → Prop} {v : Value} {zs : List Int} (h : RdS k w S v zs) (hT : ∀ g, S g → g < w.heap.size → T g) : RdS k w T v zs := by
 obtain ⟨a, cap, h1, h2, h3, h4, h5, h7⟩ := h
 refine ⟨a, cap, h1, h2, h3, h4, h5, fun hp => ?_⟩
 obtain ⟨g, off, e, hS, hlt, hc⟩ := h7 hp
 exact ⟨g, off, e, hT g hS hlt, hlt, hc⟩
theorem RdS.only {k : IntKind} {w w' : World} {S : Nat → Prop} {c : Nat} {v : Value} {zs : List Int} (h : RdS k w S v zs) (o : Only c w w') (hn : ∀ g, S g → g ≠ c) : RdS k w' S v zs :=
 h.same o.size fun g hg hlt => o.block g hlt (hn g hg)
theorem RdS.below {k : IntKind} {w w' : World} {S : Nat → Prop} {v : Value} {zs : List Int} (h : RdS k w S v zs) (o : Below w.heap.size w w') : RdS k w' S v zs :=
 h.same o.size fun g _ hlt => o.block g hlt
theorem RdS.rd {k : IntKind} {w : World} {S : Nat → Prop} {v : Value} {zs : List Int} (h : RdS k w S v zs) : Rd k w v zs := by
 obtain ⟨a, cap, h1, h2, h3, h4, h5, h7⟩ := h
 exact ⟨a, cap, h1, h4, h5, fun hp => by obtain ⟨g, off, e, _, h6, hc⟩ := h7 hp; exact ⟨g, off, e, h6, hc⟩⟩

theorem Own.rds {k : IntKind} {B : Nat} {E : TypeId} {w : World} {v : Value} {zs : List Int} (h : Own k B E w v zs) (hb : zs.length * (k.bits / 8) ≤ 140737488351232) (hw : ∀ z ∈ zs, (Lit.int k z).wf = true) :
  RdS k w (fun g => B ≤ g ∧ g < w.heap.size) v zs := by
 obtain ⟨p, c, e, hlc, _⟩ := h.slice
 have hcap : c ≤ maxLen := by
  obtain ⟨_, h2⟩ := h
  rcases h2 with ⟨h2, _⟩ | ⟨g, cap, cur, h2, _, _, _, hc, _⟩
  · rw [h2] at e; injection e with e1 e2 e3; subst e3; unfold maxLen; omega
  · rw [h2] at e; injection e with e1 e2 e3; subst e3; exact hc
 refine ⟨p, c, e, hlc, hcap, hb, hw, fun hp => ?_⟩
 obtain ⟨g, cap, e', hgB, hg, hcell, _⟩ := h.part hp
 rw [e] at e'
 injection e' with e1 e2 e3; subst e1
 exact ⟨g, 0, rfl, ⟨hgB, hg⟩, hg, fun j hj => by rw [Nat.zero_add]; exact hcell j hj⟩

theorem cells3 {w : World} {b : Nat} {x y z : Value} {t : TypeId} (h : w.heap[b]? = some (.cells #[x, y, z] t (0, 0))) :
  w.cell? ⟨b, 0, none⟩ = some x ∧ w.cell? ⟨b, 1, none⟩ = some y ∧ w.cell? ⟨b, 2, none⟩ = some z ∧ ∀ o, w.frozen? ⟨b, o, none⟩ = false := by
 refine ⟨?_, ?_, ?_, fun o => ?_⟩ <;> simp [World.cell?, World.frozen?, h]
theorem set3_1 {w : World} {b : Nat} {x y z u : Value} {t : TypeId} (h : w.heap[b]? = some (.cells #[x, y, z] t (0, 0))) : (w.setCell ⟨b, 1, none⟩ u).heap[b]? = some (.cells #[x, u, z] t (0, 0)) := by
 simp [World.setCell, Array.getElem?_modify, h]
theorem set3_2 {w : World} {b : Nat} {x y z u : Value} {t : TypeId} (h : w.heap[b]? = some (.cells #[x, y, z] t (0, 0))) : (w.setCell ⟨b, 2, none⟩ u).heap[b]? = some (.cells #[x, y, u] t (0, 0)) := by
 simp [World.setCell, Array.getElem?_modify, h]
theorem sz_al (w : World) (o : Obj) : (w.alloc o).heap.size = w.heap.size + 1 := Array.size_push _
open Go.ChangeShapes Go.WideShapes Go.ChangeAt Go.RowKit

def ba (n : Nat) (f : Nat → Nat) : Array Value := ((List.range n).map fun i => Value.int .u8 (f i : Int)).toArray
def upd (f : Nat → Nat) (j z : Nat) : Nat → Nat := fun i => if i = j then z else f i
section prog
variable {P : Program}

end prog
def At (w : World) (b n : Nat) (t : TypeId) (f : Nat → Nat) : Prop := w.heap[b]? = some (.cells (ba n f) t (0, 0))
theorem below_setRow {B b : Nat} {w0 w : World} (h : Below B w0 w) (hb : B ≤ b) (cs : Array Value) : Below B w0 (w.setRow b cs) :=
 ⟨h.os, h.tape, h.output, by simpa using h.size, fun j hj => (setRow_other w b j cs (by omega)).trans (h.block j hj)⟩

section prog2
variable {P : Program}
end prog2

open Go.RowKit

section
variable {P : Program} {ops : Array Oper} {S : World → Prop} {o : Oper} {a : Act}
theorem y_skip (hw : Region.wanted o (yielded ops a.tmps) = false) : YieldsIf P ops S o undef a := .inr ⟨hw, rfl⟩
end

open Go.ChangeShapes Go.WideShapes Go.ChangeAt Go.RowKit

open Go.ChangeShapes Go.WideShapes Go.ChangeAt Go.RowKit

def ns (n : Nat) (f : Nat → Nat) : List Int := (List.range n).map fun j => (f j : Int)
section
variable {w w' : World} {n g off b B : Nat} {f : Nat → Nat}
end

section
variable {P : Program} (w : World)
end

def vs (m n : Nat) (gs os cs : Nat → Nat) : List Value := (List.range m).map fun i => .slice (some ⟨gs i, os i, none⟩) n (cs i)
section
variable {w w' : World} {B c m cap n b : Nat} {E : TypeId} {gs os cs : Nat → Nat} {F : Nat → Nat → Nat}
end

theorem below_drewN (w : World) (n : Nat) : Below w.heap.size w (w.drewN n) := ⟨rfl, rfl, rfl, Nat.le_refl _, fun _ _ => rfl⟩
section
variable {P : Program} {w : World} {o : Oper} {a : Act}
end

open Go.RowKit
set_option maxRecDepth 100000
section
variable {b : Nat} {w w' : World} {v : Value} {xs : List Int}
end
section
variable {b : Nat} {w w' : World} {v : Value} {xs : List Int} {l : List (Value × List Int)}
end
section
variable {α : Type} {a b c d e f g x : α} {l : List α}
theorem m1 : x ∈ a :: x :: l := .tail _ (.head _)
theorem m2 : x ∈ a :: b :: x :: l := .tail _ m1
theorem m3 : x ∈ a :: b :: c :: x :: l := .tail _ m2
theorem m4 : x ∈ a :: b :: c :: d :: x :: l := .tail _ m3
end
open Go.ChangeShapes Go.WideShapes Go.ChangeAt Go.RowKit

section
variable {P : Program} (w : World)
end
open Go.ChangeShapes Go.WideShapes Go.ChangeAt Go.RowKit Go.Deep

open Go.ChangeAt Go.RowKit
set_option maxRecDepth 100000

open Go.ChangeShapes Go.WideShapes Go.ChangeAt Go.RowKit Go.Deep

open Go.RowKit
section
variable {P : Program}
theorem run_index_num (w : World) (t e : TypeId) (n : Nat) (cs : Array Value) (j : Nat) (z : Int) (hu : P.underlying t = some (.array n e)) (he : P.underlying e = some (.int .i64)) (hs : (P.info? e).map (·.size) = some 1) (hj : j < n) (hg : cs[j]? = some (.int .i64 z)) :
  (Instr.index t (.agg cs) (.int .i64 (j : Int))).run P w = .ok (.int .i64 z) w := by
 obtain ⟨i, hi, h1⟩ : ∃ i, P.info? e = some i ∧ i.size = 1 := by
  cases hq : P.info? e with
  | none => simp [hq] at hs
  | some i => exact ⟨i, rfl, by simpa [hq] using hs⟩
 have hb : 0 ≤ (j : Int) ∧ (j : Int) < (n : Int) := ⟨by omega, by omega⟩
 simp [Instr.index, asIntOf, run_underlying hu, run_underlying he, hj, isAgg, sizeOf, typeInfo, hi, h1, part, hg, go_sem]
end
open Go.ChangeShapes Go.WideShapes Go.ChangeAt Go.RowKit

section
variable {k : IntKind} {w w' : World} {B : Nat} {E : TypeId} {v v' : Value} {us : List Value} {Z : List (List Int)}
end

open Go.ChangeShapes Go.WideShapes Go.ChangeAt Go.RowKit

section
variable {P : Program} {md : Region.Mode} {ops : Array Oper} {Q : Exit → Act → World → Prop} {S S' : World → Prop}
end
section
variable {P : Program} {md : Region.Mode} {ops : Array Oper} {S : World → Prop} {Q : Exit → Act → World → Prop}
theorem tK (i : Nat) (v : Value) {oi : Oper} {fuel : Nat} {listed : Array Bool} {a : Act} {w : World} (hi : ops[i]? = some oi) (hy : YieldsIf P ops S oi v a) (hS : S w) (h : wpAnyH P md ops Q S fuel (listed.setIfInBounds i true) (a.put oi.dst v) w) (hs : Region.noSelect ops = true := by kernel_rfl) (hf : Region.free md ops listed i = true := by kernel_rfl) (hr : (Region.ready md ops listed).contains i = true := by kernel_rfl) (hQ : ∀ c a w, Q (.panic c) (a.put oi.dst v) w → Q (.panic c) a w := by exact fun _ _ _ h => h) : wpAnyH P md ops Q S (fuel + 1) listed a w := wpAnyH_take hi hs hf hr hQ hy hS h
end
open Go.ChangeShapes Go.WideShapes Go.ChangeAt Go.WideMaps Go.WideElems Go.RowKit

def LawCoreL (H : Type) (enc : TypeId × Value → H) (P : Program) (laid : List (String × DataW Unit)) (f : FuncId) (ts : List TypeId) : Prop :=
 ∀ (W : World) (base : Nat) (args : Array Value) (ds : List (DataW H)) (p : List MemPlace),
  (∀ (j : Nat) t v, ts[j]? = some t → args[j]? = some v → Value.okWide P W .any base t v) →
  DataW.TrodAll enc P W 0 (fun _ => true) true ts args.toList ds p → (∀ x ∈ p, x.block < W.heap.size) → W.noneFrozen p →
  (DataW.weightsEach P ts ds).all (· ≤ reachBytes) = true → laidMetH P laid W → W.ShapedOpen P →
  Calls P f args W fun e W' => e = .returned (.bool true) ∧ Below W.heap.size W W'

theorem law_lifted_laid {H : Type} {enc : TypeId × Value → H} {C : Checked} {os : Os} {f : FuncId} {fn : Func} {s : ChangeSpec} {conds : List PathCond} {bt : TypeId} {laid : List (String × DataW Unit)}
  (own : ownKnob C.prog.godebug = none) (started : os.Started) (noInit : C.prog.inits.idxOf? f = none) (hfn : C.prog.funcs[f]? = some fn)
  (witness : ∃ (w : World) (tape : Tape) (i : Input), w.os = os ∧ (w.forCall tape i).Shaped C.prog ∧ i.vars = [] ∧ Input.okWide C.prog (w.forCall tape i) .any w.heap.size f i ∧
   ((s.pre enc C.prog fn conds false (w.forCall tape i).memory i.args ∧ laidMetH C.prog laid (w.forCall tape i).memory) ∧ sizedMet enc C.prog fn (OpenSpec.ofChange s) false (w.forCall tape i).memory i.args) ∧ ({} : Assume).holds C.prog (lone (Frame.enter C.prog f i.args .normal) [] (w.forCall tape i)))
  (hl : laidOutB C.prog = true) (hts : ∀ t ∈ fn.params.toList, C.prog.readableRec t = true ∧ t < C.prog.types.size)
  (hr : fn.resultTypes = #[bt]) (hbt : C.prog.underlying bt = some .bool) (hv : s.vars = [])
  (hs : ∀ ds : List (DataW H), ds.length = fn.params.size → s.fn H ds = { results := [.lit (.bool true)], args := ds })
  (core : LawCoreL H enc C.prog laid f fn.params.toList) :
  ReturnsInHanded {} C os f .any (fun w args => (s.pre enc C.prog fn conds false w args ∧ laidMetH C.prog laid w) ∧ sizedMet enc C.prog fn (OpenSpec.ofChange s) false w args) (s.post enc C.prog fn false true false false) := by
 refine returnsInHanded_of_calls own started noInit witness ?_
 intro w tape i _ hsh _ hok hpre _
 obtain ⟨_, _, _, fn', hfn', _, _, _, _, hval⟩ := hok
 obtain rfl : fn' = fn := Option.some.inj (hfn'.symm.trans hfn)
 obtain ⟨⟨⟨ds, gs, before, hw0, _⟩, hl0⟩, hz⟩ := hpre
 have hW := DataW.Whole.of_heap (w' := w.forCall tape i) (by rfl) hw0
 have hL : laidMetH C.prog laid (w.forCall tape i) := laidMetH.of_heap (w := (w.forCall tape i).memory) (w' := w.forCall tape i) rfl hl0
 have hsz : (DataW.weightsEach C.prog (fn'.params.toList ++ s.plain.varTypes C.prog) (ds ++ gs)).all (· ≤ reachBytes) = true := hz.weights hw0
 refine Calls.mono (R := fun e W' => ∃ v, e = .returned v ∧ s.post enc C.prog fn' false true false false (w.forCall tape i) i.args v W') ?_ (fun e W' ⟨v, he, hp⟩ => by subst he; exact ChangeSpec.post_blind hp)
 generalize w.forCall tape i = W at *
 generalize i.args = args at *
 have hW' := hW
 obtain ⟨p, q, hA, hV, rfl, hfz, hnd⟩ := hW
 rw [hv] at hV
 obtain ⟨rfl, rfl⟩ := trodVars_none hV
 have hvt : DataSpec.varTypes C.prog s.plain = [] := by simp [ChangeSpec.plain, DataSpec.varTypes, hv]
 rw [hvt, List.append_nil, List.append_nil] at hsz
 have hlt : ∀ x ∈ p, x.block < W.heap.size := fun x hx => by
  have := hW'.lt x (by simpa using hx); simpa using this
 have hlen : ds.length = fn'.params.size := by simpa using trodAll_len hA
 refine (core W w.heap.size args ds p (fun j t v h1 h2 => hval j t v (by simpa using h1) h2) hA hlt (by simpa using hfz) hsz hL hsh).mono fun e W' ⟨he, hb⟩ => ?_
 refine ⟨_, he, ds, [], p ++ [], [], p, [], hW', ?_, ?_, ?_, hb.frame _, fun h => by cases h⟩
 ·
  simp only [List.append_nil, hs ds hlen, hr]
  exact trodAll_cons_mk (shut_bool hbt true) rfl
 ·
  simp only [List.append_nil, hs ds hlen]
  exact trodAll_stays hl hb hts hA hlt
 ·
  simp only [List.append_nil, hs ds hlen, hv]
  rfl
open Go.Lib

structure Op6 where
 K : Int
 D : Int
 A : Int
 B : Int
 E : Int
 C : Nat
theorem kindsL (K : Int) : K = 1 ∨ K = 2 ∨ K = 3 ∨ K = 4 ∨ K = 5 ∨ K = 6 ∨ K = 7 ∨ K = 8 ∨ K = 9 ∨ K = 10 ∨ K = 11 ∨ K = 12 ∨ (K < 1 ∨ 12 < K) := by omega
def mayP (o : Op6) : Prop := (1 ≤ o.K ∧ o.K ≤ 12) ∧ (-4611686018427387904 ≤ o.D ∧ o.D ≤ 4611686018427387904) ∧ (-4611686018427387904 ≤ o.A ∧ o.A ≤ 4611686018427387904) ∧ (-4611686018427387904 ≤ o.B ∧ o.B ≤ 4611686018427387904) ∧ (-4611686018427387904 ≤ o.E ∧ o.E ≤ 4611686018427387904) ∧ o.C < 18446744073709551616
instance (o : Op6) : Decidable (mayP o) := by unfold mayP; infer_instance
open Go.ChangeShapes Go.WideShapes Go.ChangeAt Go.RowKit Go.Deep

def opwf (o : Op6) : Prop := (-9223372036854775808 ≤ o.K ∧ o.K ≤ 9223372036854775807) ∧ (-9223372036854775808 ≤ o.D ∧ o.D ≤ 9223372036854775807) ∧ (-9223372036854775808 ≤ o.A ∧ o.A ≤ 9223372036854775807) ∧ (-9223372036854775808 ≤ o.B ∧ o.B ≤ 9223372036854775807) ∧ (-9223372036854775808 ≤ o.E ∧ o.E ≤ 9223372036854775807) ∧ o.C < 18446744073709551616
structure Sp3 where
 K : Int
 F : Int
 T : Int
def spwf (s : Sp3) : Prop := (-9223372036854775808 ≤ s.K ∧ s.K ≤ 9223372036854775807) ∧ (-9223372036854775808 ≤ s.F ∧ s.F ≤ 9223372036854775807) ∧ (-9223372036854775808 ≤ s.T ∧ s.T ≤ 9223372036854775807)
structure Oc (w : World) (q n : Nat) (o : Op6) : Prop where
 k : w.cell? ⟨q, n, none⟩ = some (.int .i64 o.K)
 d : w.cell? ⟨q, n + 1, none⟩ = some (.int .i64 o.D)
 a : w.cell? ⟨q, n + 2, none⟩ = some (.int .i64 o.A)
 b : w.cell? ⟨q, n + 3, none⟩ = some (.int .i64 o.B)
 e : w.cell? ⟨q, n + 4, none⟩ = some (.int .i64 o.E)
 c : w.cell? ⟨q, n + 5, none⟩ = some (.int .u64 (o.C : Int))
structure Sc (w : World) (q n : Nat) (s : Sp3) : Prop where
 k : w.cell? ⟨q, n, none⟩ = some (.int .i64 s.K)
 f : w.cell? ⟨q, n + 1, none⟩ = some (.int .i64 s.F)
 t : w.cell? ⟨q, n + 2, none⟩ = some (.int .i64 s.T)
structure ROp (w : World) (v : Value) (L : Nat) (f : Nat → Op6) : Prop where
 lim : L ≤ 4000000000000
 wf : ∀ i, i < L → opwf (f i)
 at_ : ∃ a cap, v = .slice a L cap ∧ L ≤ cap ∧ cap ≤ maxLen ∧ (0 < L → ∃ b off, a = some ⟨b, off, none⟩ ∧ b < w.heap.size ∧ ∀ i, i < L → Oc w b (off + i * 6) (f i))
structure RSp (w : World) (v : Value) (L : Nat) (g : Nat → Sp3) : Prop where
 lim : L ≤ 10000000000000
 wf : ∀ i, i < L → spwf (g i)
 at_ : ∃ a cap, v = .slice a L cap ∧ L ≤ cap ∧ cap ≤ maxLen ∧ (0 < L → ∃ b off, a = some ⟨b, off, none⟩ ∧ b < w.heap.size ∧ ∀ i, i < L → Sc w b (off + i * 3) (g i))
theorem tcell_self {w w' : World} {a : Addr} {v : Value} (h : w.cell? a = some v) (hb : Below w.heap.size w w') : w'.cell? a = some v :=
 (hb.cell (World.block_lt_of_cell? w _ h)).trans h
theorem Oc.self {w w' : World} {b n : Nat} {o : Op6} (h : Oc w b n o) (hb : Below w.heap.size w w') : Oc w' b n o :=
 ⟨tcell_self h.k hb, tcell_self h.d hb, tcell_self h.a hb, tcell_self h.b hb, tcell_self h.e hb, tcell_self h.c hb⟩
theorem Sc.self {w w' : World} {b n : Nat} {s : Sp3} (h : Sc w b n s) (hb : Below w.heap.size w w') : Sc w' b n s :=
 ⟨tcell_self h.k hb, tcell_self h.f hb, tcell_self h.t hb⟩
theorem ROp.self {w w' : World} {v : Value} {L : Nat} {f : Nat → Op6} (h : ROp w v L f) (hb : Below w.heap.size w w') : ROp w' v L f := by
 obtain ⟨a, cap, h1, h2, h3, h4⟩ := h.at_
 refine ⟨h.lim, h.wf, a, cap, h1, h2, h3, fun h0 => ?_⟩
 obtain ⟨b, off, e1, e2, e3⟩ := h4 h0
 exact ⟨b, off, e1, Nat.lt_of_lt_of_le e2 hb.size, fun i hi => (e3 i hi).self hb⟩
theorem RSp.self {w w' : World} {v : Value} {L : Nat} {g : Nat → Sp3} (h : RSp w v L g) (hb : Below w.heap.size w w') : RSp w' v L g := by
 obtain ⟨a, cap, h1, h2, h3, h4⟩ := h.at_
 refine ⟨h.lim, h.wf, a, cap, h1, h2, h3, fun h0 => ?_⟩
 obtain ⟨b, off, e1, e2, e3⟩ := h4 h0
 exact ⟨b, off, e1, Nat.lt_of_lt_of_le e2 hb.size, fun i hi => (e3 i hi).self hb⟩
open Go.RowKit

def recs (c : Nat → List Value) : Nat → List Value
 | 0 => []
 | n + 1 => recs c n ++ c n
theorem recs_len {c : Nat → List Value} {k : Nat} (hc : ∀ i, (c i).length = k) : ∀ n, (recs c n).length = n * k
 | 0 => by simp [recs]
 | n + 1 => by rw [recs, List.length_append, recs_len hc n, hc, Nat.add_mul, Nat.one_mul]
theorem recs_at {c : Nat → List Value} {k : Nat} (hc : ∀ i, (c i).length = k) {i j : Nat} (hj : j < k) : ∀ {n : Nat}, i < n → (recs c n)[i * k + j]? = (c i)[j]?
 | 0, h => by omega
 | n + 1, h => by
  rw [recs]
  have hl := recs_len hc n
  by_cases e : i = n
  ·
   subst e
   rw [List.getElem?_append_right (by omega), hl, Nat.add_sub_cancel_left]
  ·
   have hlt : i * k + j < n * k := by
    have h2 : (i + 1) * k ≤ n * k := Nat.mul_le_mul_right k (by omega)
    rw [Nat.add_mul, Nat.one_mul] at h2
    omega
   rw [List.getElem?_append_left (by omega)]
   exact recs_at hc hj (by omega)
theorem recs_ext {c d : Nat → List Value} : ∀ {n : Nat}, (∀ i, i < n → c i = d i) → recs c n = recs d n
 | 0, _ => rfl
 | n + 1, h => by rw [recs, recs, recs_ext (fun i hi => h i (by omega)), h n (by omega)]
def Orw (w : World) (B : Nat) (E : TypeId) (k : Nat) (v : Value) (n : Nat) (c : Nat → List Value) : Prop := w.ownsRow B E k v n (recs c n)
section
variable {w w' : World} {B k n : Nat} {E : TypeId} {v : Value} {c : Nat → List Value}
theorem Orw.lt (h : Orw w B E k v n c) : ∀ j, v.ownBlock = some j → B ≤ j ∧ j < w.heap.size := World.ownsRow.lt h
theorem row_stays {xs : List Value} (h : w.ownsRow B E k v n xs) (hs : ∀ j, v.ownBlock = some j → w'.heap[j]? = w.heap[j]?) : w'.ownsRow B E k v n xs := by
 obtain ⟨h1, h2⟩ := h
 refine ⟨h1, ?_⟩
 rcases h2 with h2 | ⟨g, cap, cur, rfl, hg, hh, r⟩
 · exact .inl h2
 · exact .inr ⟨g, cap, cur, rfl, hg, (hs g rfl).trans hh, r⟩
theorem Orw.stays (h : Orw w B E k v n c) (hs : ∀ j, v.ownBlock = some j → w'.heap[j]? = w.heap[j]?) : Orw w' B E k v n c := row_stays h hs
theorem Orw.ext {d : Nat → List Value} (h : Orw w B E k v n c) (e : ∀ i, i < n → c i = d i) : Orw w B E k v n d := by unfold Orw at h ⊢; rw [← recs_ext e]; exact h
theorem Orw.slice (h : Orw w B E k v n c) : ∃ a cap, v = .slice a n cap ∧ n ≤ cap ∧ cap ≤ maxLen ∧ (∀ g, a = some g → v.ownBlock = some g.block ∧ g.off = 0 ∧ g.spot = none) ∧ (0 < n → ∃ g, a = some ⟨g, 0, none⟩) := by
 obtain ⟨_, h2⟩ := h
 rcases h2 with ⟨rfl, rfl⟩ | ⟨g, cap, cur, rfl, hg, hh, hn, hc, _⟩
 ·
  refine ⟨none, 0, rfl, Nat.le_refl _, Nat.zero_le _, fun g e => ?_, fun h => by omega⟩
  cases e
 · exact ⟨some ⟨g, 0, none⟩, cap, rfl, hn, hc, fun a e => by injection e with e; subst e; exact ⟨rfl, rfl, rfl⟩, fun _ => ⟨g, rfl⟩⟩
theorem Orw.cell {g cap : Nat} (h : Orw w B E k (.slice (some ⟨g, 0, none⟩) n cap) n c) (hc : ∀ i, (c i).length = k) {i j : Nat} (hi : i < n) (hj : j < k) {u : Value} (hu : (c i)[j]? = some u) : w.cell? ⟨g, i * k + j, none⟩ = some u := by
 have := World.ownsRow.cells (g := g) h rfl (i * k + j) u (by rw [recs_at hc hj hi]; exact hu)
 simpa [Addr.add_lit] using this
end
theorem wp_append_rec {P : Program} {w : World} {o : Oper} {a : Act} {K : Act → World → Prop} {Q : Exit → Act → World → Prop} (s x : Operand) (t : TypeId)
  (ho : o.op = .call { callee := .builtin .append, args := #[s, x], argTypes := #[t, t] }) (B : Nat) (E : TypeId) (k by_ : Nat) (z : Value) (ht : P.underlying t = some (.slice E))
  (hinfo : (P.info? E).map (fun i => (i.zero, i.size, i.bytes)) = some (some z, k, by_)) (hz : z.cells.size = k) (hk : 0 < k)
  (sv : Value) (n : Nat) (c : Nat → List Value) (hs : a.eval s = sv) (hown : Orw w B E k sv n c) (ad : Addr) (cap : Nat) (hx : a.eval x = .slice (some ad) 1 cap) (hl : (c n).length = k) (hone : ∀ u ∈ c n, u.oneCell' = true)
  (hns : ∀ j u, (c n)[j]? = some u → w.cell? (ad.add j) = some u) (hm : n + 1 ≤ maxLen) (hlim : (n + 1) * by_ ≤ 140737488355328) (hB : B ≤ w.heap.size)
  (h : ∀ g cap' w', Orw w' B E k (.slice (some ⟨g, 0, none⟩) (n + 1) cap') (n + 1) c → w.grownBy w' sv.ownBlock → (sv.ownBlock = some g ∨ g = w.heap.size) → K (a.put o.dst (.slice (some ⟨g, 0, none⟩) (n + 1) cap')) w') : o.wp P a w K Q := by
 cases hq : P.info? E with
 | none => simp [hq] at hinfo
 | some i =>
  rw [hq] at hinfo
  simp only [Option.map_some, Option.some.injEq, Prod.mk.injEq] at hinfo
  obtain ⟨h1, h2, h3⟩ := hinfo
  exact wp_append_lies w s x t ho B E i z k by_ ht hq h1 h2 h3 hz hk sv n (recs c n) hs hown ad 1 cap (c n) hx (by omega) hns hone (by decide) hm hlim hB w.heap.size rfl (fun g cap' w' g1 g2 g3 _ => h g cap' w' g1 g2 g3)

structure Tch (F : Nat → Prop) (w w' : World) : Prop where
 os : w'.os = w.os
 tape : w'.tape = w.tape
 output : w'.output = w.output
 size : w.heap.size ≤ w'.heap.size
 block : ∀ k, k < w.heap.size → ¬ F k → w'.heap[k]? = w.heap[k]?
namespace Tch
variable {F G : Nat → Prop} {w w' w2 : World}
theorem refl (F : Nat → Prop) (w : World) : Tch F w w := ⟨rfl, rfl, rfl, Nat.le_refl _, fun _ _ _ => rfl⟩
theorem trans (h : Tch F w w') (k : Tch G w' w2) (hG : ∀ j, j < w.heap.size → G j → F j) : Tch F w w2 :=
 ⟨k.os.trans h.os, k.tape.trans h.tape, k.output.trans h.output, Nat.le_trans h.size k.size, fun j hj hF => (k.block j (Nat.lt_of_lt_of_le hj h.size) (fun g => hF (hG j hj g))).trans (h.block j hj hF)⟩
theorem mono (h : Tch F w w') (hF : ∀ j, j < w.heap.size → F j → G j) : Tch G w w' := ⟨h.os, h.tape, h.output, h.size, fun j hj hG => h.block j hj (fun f => hG (hF j hj f))⟩
theorem of_below (h : Below w.heap.size w w') : Tch F w w' := ⟨h.os, h.tape, h.output, h.size, fun k hk _ => h.block k hk⟩
theorem of_grown {r : Option Nat} (h : w.grownBy w' r) (hr : ∀ k, r = some k → F k) : Tch F w w' := ⟨h.os, h.tape, h.output, h.size, fun k hk hF => h.block k hk (fun e => hF (hr k e.symm))⟩
theorem below {B : Nat} (h : Tch F w w') (hF : ∀ k, F k → B ≤ k) (hB : B ≤ w.heap.size) : Below B w w' := ⟨h.os, h.tape, h.output, h.size, fun k hk => h.block k (by omega) (fun f => by have := hF k f; omega)⟩
theorem set (w : World) {b o : Nat} (v : Value) (hb : F b) : Tch F w (w.setCell ⟨b, o, none⟩ v) := ⟨rfl, rfl, rfl, by simp [World.setCell], fun k _ hF => heap_setCell_other w ⟨b, o, none⟩ k v (fun e => hF (e ▸ hb))⟩
end Tch

def allB (p : Nat → Bool) : Nat → Bool
 | 0 => true
 | n + 1 => allB p n && p n
theorem allB_all {p : Nat → Bool} : ∀ {n : Nat}, allB p n = true → ∀ i, i < n → p i = true
 | n + 1, h, i, hi => by
  rw [allB, Bool.and_eq_true] at h
  by_cases e : i = n
  · subst e; exact h.2
  · exact allB_all h.1 i (by omega)
theorem allB_of {p : Nat → Bool} : ∀ {n : Nat}, (∀ i, i < n → p i = true) → allB p n = true
 | 0, _ => rfl
 | n + 1, h => by rw [allB, allB_of (fun i hi => h i (by omega)), h n (by omega)]; rfl
theorem allB_no {p : Nat → Bool} {n i : Nat} (hi : i < n) (h : p i = false) : allB p n = false := by
 cases e : allB p n
 · rfl
 · have := allB_all e i hi; rw [h] at this; cases this
def rgN (K n : Int) : Int := if n ≠ 2 ∧ n ≠ 3 then 0 else if K = 2 then n - 1 else if K = 5 ∨ K = 7 then 2 else if K = 6 ∨ K = 8 ∨ K = 9 ∨ K = 10 ∨ K = 11 then 1 else if K = 12 then n else 0
def rgL (o : Op6) (j : Nat) : Int := if j = 0 then o.A else if j = 1 then o.B else o.E
def rgB (o : Op6) (at_ n : Int) (j : Nat) : Bool := if (j : Int) < rgN o.K n then decide (0 ≤ rgL o j ∧ rgL o j < at_) else decide (rgL o j = -1)
def okC (K : Int) (C : Nat) : Bool := if K = 9 ∨ K = 10 ∨ K = 11 then decide (C < 64) else if K = 2 then decide (C < 1048576) else if K = 3 ∨ K = 4 ∨ K = 8 then true else decide (C = 0)
def okH (o : Op6) (n : Int) : Bool := decide ((n = 2 ∨ n = 3) ∧ 1 ≤ o.K ∧ o.K ≤ 12 ∧ -1 ≤ o.D ∧ o.D < n ∧ (o.K = 12 → o.D = -1))
def okOp (o : Op6) (at_ n : Int) : Bool := okH o n && allB (rgB o at_ n) 3 && okC o.K o.C
def kd (o : Op6) : Nat := if o.K < 1 ∨ 12 < o.K then 0 else o.K.toNat

def rt (x m : Nat) : Nat := x * 2 ^ m % 2 ^ 64 ||| x / 2 ^ (64 - m)
theorem rt_lt {x m : Nat} (hx : x < 2 ^ 64) : rt x m < 2 ^ 64 := by
 unfold rt
 exact Nat.or_lt_two_pow (Nat.mod_lt _ (by decide)) (Nat.lt_of_le_of_lt (Nat.div_le_self _ _) hx)
theorem bit_none {x j : Nat} (hx : x < 2 ^ 64) (hj : 64 ≤ j) : x.testBit j = false :=
 Nat.testBit_lt_two_pow (Nat.lt_of_lt_of_le hx (Nat.pow_le_pow_right (by decide) hj))
theorem rt_bit {x m j : Nat} (hx : x < 2 ^ 64) (hm : m ≤ 64) (hj : j < 64) : (rt x m).testBit j = x.testBit ((j + (64 - m)) % 64) := by
 unfold rt
 rw [Nat.testBit_or, Nat.testBit_mod_two_pow, Nat.testBit_mul_two_pow, Nat.testBit_div_two_pow]
 simp only [hj, decide_true, Bool.true_and]
 by_cases h : m ≤ j
 ·
  rw [show (j + (64 - m)) % 64 = j - m by omega]
  by_cases h0 : m = 0
  ·
   subst h0
   rw [bit_none hx (show 64 ≤ j + (64 - 0) by omega)]
   simp
  ·
   rw [bit_none hx (show 64 ≤ j + (64 - m) by omega)]
   simp [h]
 ·
  rw [show (j + (64 - m)) % 64 = j + (64 - m) by omega]
  simp [h]
theorem word_ext {x y : Nat} (hx : x < 2 ^ 64) (hy : y < 2 ^ 64) (h : ∀ j, j < 64 → x.testBit j = y.testBit j) : x = y :=
 Nat.eq_of_testBit_eq fun j => by
  by_cases hj : j < 64
  · exact h j hj
  · rw [bit_none hx (by omega), bit_none hy (by omega)]
def sm (f g : Nat → Nat) : Nat → Nat := fun i => f i ^^^ g i
theorem xr_left (a b c : Nat) : a ^^^ (b ^^^ c) = b ^^^ (a ^^^ c) := by rw [← Nat.xor_assoc, Nat.xor_comm a b, Nat.xor_assoc]
def ek (k : Nat) (c : Nat → Nat) : Nat → Nat := fun x => c ((x + 4 * k) % 5) ^^^ rt (c ((x + k) % 5)) (k % 64)
def dst (i : Nat) : Nat := i / 5 + 5 * ((2 * (i % 5) + 3 * (i / 5)) % 5)
section
variable {t f g : Nat → Nat}
end
section
variable {t mk f g : Nat → Nat}
end

theorem wx64 {a b : Nat} (ha : a < 2 ^ 64) (hb : b < 2 ^ 64) : bits .xor .u64 (a : Int) (b : Int) = ((a ^^^ b : Nat) : Int) := bits_xor_u64_nat a b (by omega) (by omega)
theorem wn64 {a b : Nat} (ha : a < 2 ^ 64) (hb : b < 2 ^ 64) : bits .and .u64 (a : Int) (b : Int) = ((a &&& b : Nat) : Int) := by
 have h1 : (BitVec.ofInt 64 (a : Int)).toNat = a := by
  rw [BitVec.ofInt_natCast, BitVec.toNat_ofNat]; exact Nat.mod_eq_of_lt (by omega)
 have h2 : (BitVec.ofInt 64 (b : Int)).toNat = b := by
  rw [BitVec.ofInt_natCast, BitVec.toNat_ofNat]; exact Nat.mod_eq_of_lt (by omega)
 have hx : a &&& b < 2 ^ 64 := Nat.and_lt_two_pow _ hb
 show IntKind.u64.wrap ((BitVec.ofInt 64 (a : Int) &&& BitVec.ofInt 64 (b : Int)).toNat : Int) = _
 rw [BitVec.toNat_and, h1, h2, IntKind.wrap_u64]
 omega
theorem xr_lt {a b : Nat} (ha : a < 2 ^ 64) (hb : b < 2 ^ 64) : a ^^^ b < 2 ^ 64 := Nat.xor_lt_two_pow ha hb
theorem an_lt {a b : Nat} (ha : a < 2 ^ 64) : a &&& b < 2 ^ 64 := Nat.lt_of_le_of_lt Nat.and_le_left ha

def wnt (a : Nat) : Nat := 2 ^ 64 - 1 - a
theorem wnt_lt (a : Nat) : wnt a < 2 ^ 64 := by unfold wnt; omega
theorem wnt_bit {a j : Nat} (ha : a < 2 ^ 64) (hj : j < 64) : (wnt a).testBit j = !a.testBit j := by
 unfold wnt
 rw [show 2 ^ 64 - 1 - a = 2 ^ 64 - (a + 1) by omega, Nat.testBit_two_pow_sub_succ ha]
 simp [hj]
theorem wnt_max {a : Nat} (ha : a < 2 ^ 64) : (2 ^ 64 - 1) ^^^ a = wnt a :=
 word_ext (xr_lt (by decide) ha) (wnt_lt _) fun j hj => by
  rw [Nat.testBit_xor, wnt_bit ha hj, Nat.testBit_two_pow_sub_one, decide_eq_true hj]; cases a.testBit j <;> rfl
def wsl (a k : Nat) : Nat := a * 2 ^ k % 2 ^ 64
theorem wsl_lt (a k : Nat) : wsl a k < 2 ^ 64 := Nat.mod_lt _ (by decide)
theorem wsl_bit (a k : Nat) {j : Nat} (hj : j < 64) : (wsl a k).testBit j = (decide (k ≤ j) && a.testBit (j - k)) := by
 unfold wsl
 rw [Nat.testBit_mod_two_pow, ← Nat.shiftLeft_eq, Nat.testBit_shiftLeft]
 simp [hj]
def wsr (a k : Nat) : Nat := a / 2 ^ k
theorem wsr_lt {a : Nat} (ha : a < 2 ^ 64) (k : Nat) : wsr a k < 2 ^ 64 := Nat.lt_of_le_of_lt (Nat.div_le_self _ _) ha
theorem wsr_bit (a k j : Nat) : (wsr a k).testBit j = a.testBit (j + k) := by
 unfold wsr
 rw [← Nat.shiftRight_eq_div_pow, Nat.testBit_shiftRight, Nat.add_comm]
theorem low_bit (n j : Nat) : (2 ^ n - 1).testBit j = decide (j < n) := Nat.testBit_two_pow_sub_one n j
theorem low_lt {n : Nat} (h : n ≤ 64) : 2 ^ n - 1 < 2 ^ 64 := by
 have := Nat.pow_le_pow_right (n := 2) (by decide) h
 omega
theorem wsl_doc {a k : Nat} (ha : a < 2 ^ 64) (hk : k < 64) : rt (a &&& (2 ^ (64 - k) - 1)) k = wsl a k :=
 word_ext (rt_lt (an_lt ha)) (wsl_lt _ _) fun j hj => by
  rw [rt_bit (an_lt ha) (by omega) hj, wsl_bit _ _ hj, Nat.testBit_and, low_bit]
  by_cases h : k ≤ j
  · rw [show (j + (64 - k)) % 64 = j - k by omega, decide_eq_true (by omega : j - k < 64 - k), decide_eq_true h, Bool.and_true, Bool.true_and]
  · rw [decide_eq_false (by omega : ¬ (j + (64 - k)) % 64 < 64 - k), decide_eq_false h, Bool.and_false, Bool.false_and]
theorem wsr_doc {a k m : Nat} (ha : a < 2 ^ 64) (hk : k < 64) (hm : m = (64 - k) % 64) : rt a m &&& (2 ^ (64 - k) - 1) = wsr a k :=
 word_ext (an_lt (rt_lt ha)) (wsr_lt ha _) fun j hj => by
  rw [Nat.testBit_and, rt_bit ha (by omega) hj, low_bit, wsr_bit]
  by_cases h : j < 64 - k
  · rw [decide_eq_true h, Bool.and_true, show (j + (64 - m)) % 64 = j + k by omega]
  · rw [decide_eq_false h, Bool.and_false, bit_none ha (by omega)]
theorem x4 (a b c d : Nat) : (a ^^^ b) ^^^ (c ^^^ d) = (a ^^^ c) ^^^ (b ^^^ d) := by
 simp only [Nat.xor_assoc, xr_left b c d]

def evN (K : Int) (C a b d x : Nat) : Nat :=
 if K = 1 then x else if K = 2 then x ^^^ a ^^^ b else if K = 3 then C else if K = 4 then C else if K = 5 then a ^^^ b else if K = 6 then wnt a else if K = 7 then a &&& b else if K = 8 then a &&& C
 else if K = 9 then wsl a (C % 64) else if K = 10 then wsr a (C % 64) else if K = 11 then rt a (C % 64) else if K = 12 then a ^^^ b ^^^ d else 0
theorem ev1 (C a b d x : Nat) : evN 1 C a b d x = x := by simp [evN]
theorem ev2 (C a b d x : Nat) : evN 2 C a b d x = x ^^^ a ^^^ b := by simp [evN]
theorem ev3 (C a b d x : Nat) : evN 3 C a b d x = C := by simp [evN]
theorem ev4 (C a b d x : Nat) : evN 4 C a b d x = C := by simp [evN]
theorem ev5 (C a b d x : Nat) : evN 5 C a b d x = a ^^^ b := by simp [evN]
theorem ev6 (C a b d x : Nat) : evN 6 C a b d x = wnt a := by simp [evN]
theorem ev7 (C a b d x : Nat) : evN 7 C a b d x = a &&& b := by simp [evN]
theorem ev8 (C a b d x : Nat) : evN 8 C a b d x = a &&& C := by simp [evN]
theorem ev9 (C a b d x : Nat) : evN 9 C a b d x = wsl a (C % 64) := by simp [evN]
theorem ev10 (C a b d x : Nat) : evN 10 C a b d x = wsr a (C % 64) := by simp [evN]
theorem ev11 (C a b d x : Nat) : evN 11 C a b d x = rt a (C % 64) := by simp [evN]
theorem ev12 (C a b d x : Nat) : evN 12 C a b d x = a ^^^ b ^^^ d := by simp [evN]
theorem ev0 {K : Int} (h : K < 1 ∨ 12 < K) (C a b d x : Nat) : evN K C a b d x = 0 := by
 unfold evN
 rw [if_neg (by omega), if_neg (by omega), if_neg (by omega), if_neg (by omega), if_neg (by omega), if_neg (by omega), if_neg (by omega), if_neg (by omega), if_neg (by omega), if_neg (by omega), if_neg (by omega), if_neg (by omega)]
theorem kinds12 (K : Int) : K = 1 ∨ K = 2 ∨ K = 3 ∨ K = 4 ∨ K = 5 ∨ K = 6 ∨ K = 7 ∨ K = 8 ∨ K = 9 ∨ K = 10 ∨ K = 11 ∨ K = 12 ∨ (K < 1 ∨ 12 < K) := by omega
theorem evN_lt {K : Int} {C a b d x : Nat} (hC : C < 2 ^ 64) (ha : a < 2 ^ 64) (hb : b < 2 ^ 64) (hd : d < 2 ^ 64) (hx : x < 2 ^ 64) : evN K C a b d x < 2 ^ 64 := by
 rcases kinds12 K with rfl | rfl | rfl | rfl | rfl | rfl | rfl | rfl | rfl | rfl | rfl | rfl | h
 · rw [ev1]; exact hx
 · rw [ev2]; exact xr_lt (xr_lt hx ha) hb
 · rw [ev3]; exact hC
 · rw [ev4]; exact hC
 · rw [ev5]; exact xr_lt ha hb
 · rw [ev6]; exact wnt_lt _
 · rw [ev7]; exact an_lt ha
 · rw [ev8]; exact an_lt ha
 · rw [ev9]; exact wsl_lt _ _
 · rw [ev10]; exact wsr_lt ha _
 · rw [ev11]; exact rt_lt ha
 · rw [ev12]; exact xr_lt (xr_lt ha hb) hd
 · rw [ev0 h]; decide

def updO (f : Nat → Op6) (j : Nat) (o : Op6) : Nat → Op6 := fun i => if i = j then o else f i
def updS (g : Nat → Sp3) (j : Nat) (s : Sp3) : Nat → Sp3 := fun i => if i = j then s else g i
def updN (v : Nat → Nat) (j : Nat) (z : Nat) : Nat → Nat := fun i => if i = j then z else v i
theorem updO_at (f : Nat → Op6) (j : Nat) (o : Op6) : updO f j o j = o := by simp [updO]
theorem updO_no (f : Nat → Op6) {j i : Nat} (o : Op6) (h : i ≠ j) : updO f j o i = f i := by simp [updO, h]
theorem updS_at (g : Nat → Sp3) (j : Nat) (s : Sp3) : updS g j s j = s := by simp [updS]
theorem updS_no (g : Nat → Sp3) {j i : Nat} (s : Sp3) (h : i ≠ j) : updS g j s i = g i := by simp [updS, h]
theorem updN_at (v : Nat → Nat) (j z : Nat) : updN v j z j = z := by simp [updN]
theorem updN_no (v : Nat → Nat) {j i : Nat} (z : Nat) (h : i ≠ j) : updN v j z i = v i := by simp [updN, h]

structure Ms where
 n : Int
 most : Int
 words : Nat
 draws : Nat
 fr : Nat
 skip : Nat
 kind : Int
 e : Nat
 L : Nat
 f : Nat → Op6
 M : Nat
 g : Nat → Sp3
 v : Nat → Nat
 tw : Nat → Nat
 TN : Nat
 used : Nat
 free : Nat
 dry : Bool
def wordAt (v : Nat → Nat) (L : Nat) (r : Int) : Nat := if 0 ≤ r ∧ r < (L : Int) then v r.toNat else 0
namespace Ms
def len (S : Ms) : Nat := S.skip + S.L
def bad (S : Ms) (o : Op6) : Bool := !(okOp o (S.len : Int) S.n) || decide (o.K = 2 ∧ o.C ≠ S.words)
def full (S : Ms) : Bool := !S.dry && decide (S.most ≤ (S.len : Int))
def out (S : Ms) (o : Op6) : Bool := decide (o.K = 1) && !S.dry && decide (S.free < 1 ∨ S.TN ≤ S.used)
def word (S : Ms) (o : Op6) (x : Nat) : Nat := if o.K = 1 ∧ S.dry = false then S.tw S.used else x
def makes (S : Ms) (o : Op6) (x : Nat) : Nat := evN o.K o.C (wordAt S.v S.L o.A) (wordAt S.v S.L o.B) (wordAt S.v S.L o.E) (S.word o x)
def put (S : Ms) (o : Op6) (x : Nat) : Ms :=
 { S with
  draws := if o.K = 1 then S.draws + 1 else S.draws
  words := if o.K = 2 then S.words + 1 else S.words
  used := if o.K = 1 ∧ S.dry = false then S.used + 1 else S.used
  free := if o.K = 1 ∧ S.dry = false then S.free - 1 else S.free
  L := S.L + 1
  f := updO S.f S.L o
  v := updN S.v S.L (S.makes o x) }
def doS (S : Ms) (o : Op6) (x : Nat) : Ms := if S.e ≠ 0 then S else if S.bad o = true then { S with e := 1 } else if S.full = true then { S with e := 3 } else if S.out o = true then { S with e := 2 } else S.put o x
def doR (S : Ms) (o : Op6) : Int := if S.e ≠ 0 ∨ S.bad o = true ∨ S.full = true ∨ S.out o = true then -1 else (S.len : Int)
def beginS (S : Ms) (k : Int) : Ms := if S.e ≠ 0 then S else if S.kind ≠ 0 ∨ k < 1 ∨ 3 < k then { S with e := 1 } else { S with kind := k, fr := S.len }
def endS (S : Ms) : Ms :=
 if S.e ≠ 0 then S else if S.kind = 0 then { S with e := 1 }
 else if S.fr < S.len then { S with M := S.M + 1, g := updS S.g S.M ⟨S.kind, (S.fr : Int), (S.len : Int)⟩, kind := 0 } else { S with kind := 0 }
end Ms

theorem okOp_regs {o : Op6} {i : Nat} {n : Int} (h : okOp o (i : Int) n = true) : o.A < (i : Int) ∧ o.B < (i : Int) ∧ o.E < (i : Int) := by
 unfold okOp at h
 rw [Bool.and_eq_true, Bool.and_eq_true] at h
 have hr := allB_all h.1.2
 have key : ∀ j, j < 3 → rgL o j < (i : Int) := fun j hj => by
  have := hr j hj
  unfold rgB at this
  split at this
  · have := of_decide_eq_true this; exact this.2
  · have := of_decide_eq_true this; omega
 exact ⟨key 0 (by omega), key 1 (by omega), key 2 (by omega)⟩
end Go.Proofs.YthkijncnndoafaaGreatDoor
