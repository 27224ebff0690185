import Derived.Test.YteoiekooaokhaaaProg
import Derived.Test.YteoiekooaokhaaaCma
import Derived.Deep.MidRow
/- A tag at work: its block; New; two blocks that are turned. -/
namespace Go.Proofs.Yteoiekooaokhaaa
open Go.RowKit
set_option maxRecDepth 100000

/-- The nineteen cells of a tag at work: the cipher, what the blocks came to, the last one, the size. -/
def mcs (d : Nat) (x : Nat → Nat) (lv : Value) (n : Int) : Array Value := #[.pointer (some ⟨d, 0, none⟩)] ++ (ba 16 x ++ #[lv, .int .i64 n])
theorem mcs_size (d : Nat) (x : Nat → Nat) (lv : Value) (n : Int) : (mcs d x lv n).size = 19 := by simp [mcs, ba_size]
theorem mcs_d (d : Nat) (x : Nat → Nat) (lv : Value) (n : Int) : (mcs d x lv n)[0]? = some (.pointer (some ⟨d, 0, none⟩)) := by
  unfold mcs; rw [Array.getElem?_append_left (by simp)]; rfl
theorem mcs_x (d : Nat) (x : Nat → Nat) (lv : Value) (n : Int) {i : Nat} (hi : i < 16) : (mcs d x lv n)[1 + i]? = some (.int .u8 (x i : Int)) := by
  unfold mcs
  rw [Array.getElem?_append_right (by simp), Array.getElem?_append_left (by simp [ba_size] <;> omega), ← ba_get x hi]
  simp
theorem mcs_l (d : Nat) (x : Nat → Nat) (lv : Value) (n : Int) : (mcs d x lv n)[17]? = some lv := by
  unfold mcs
  rw [Array.getElem?_append_right (by simp), Array.getElem?_append_right (by simp [ba_size])]
  simp [ba_size]
theorem mcs_n (d : Nat) (x : Nat → Nat) (lv : Value) (n : Int) : (mcs d x lv n)[18]? = some (.int .i64 n) := by
  unfold mcs
  rw [Array.getElem?_append_right (by simp), Array.getElem?_append_right (by simp [ba_size])]
  simp [ba_size]
theorem mcs_setl (d : Nat) (x : Nat → Nat) (lv v : Value) (n : Int) : (mcs d x lv n).setIfInBounds 17 v = mcs d x v n := by
  unfold mcs
  rw [Array.setIfInBounds_append_right (by simp), Array.setIfInBounds_append_right (by simp [ba_size])]
  simp [ba_size]
theorem mcs_setn (d : Nat) (x : Nat → Nat) (lv : Value) (n m : Int) : (mcs d x lv n).setIfInBounds 18 (.int .i64 m) = mcs d x lv m := by
  unfold mcs
  rw [Array.setIfInBounds_append_right (by simp), Array.setIfInBounds_append_right (by simp [ba_size])]
  simp [ba_size]
/-- What cells hold that are set one by one. -/
theorem heap_setCells (b : Nat) (t : TypeId) : ∀ (vs : List Value) (o : Nat) (cur : Array Value) (w : World), w.heap[b]? = some (.cells cur t (0, 0)) →
    ∃ cur' : Array Value, (w.setCells b o vs).heap[b]? = some (.cells cur' t (0, 0)) ∧ cur'.size = cur.size ∧ ∀ j, j < cur.size → cur'[j]? = if o ≤ j ∧ j < o + vs.length then vs[j - o]? else cur[j]?
  | [], o, cur, w, h => ⟨cur, h, rfl, fun j _ => by rw [if_neg (by simp)]⟩
  | v :: r, o, cur, w, h => by
    obtain ⟨cur', h1, h2, h3⟩ := heap_setCells b t r (o + 1) _ _ (heap_setCell_same w b o cur t v h)
    refine ⟨cur', h1, by rw [h2, Array.size_setIfInBounds], fun j hj => ?_⟩
    rw [h3 j (by rw [Array.size_setIfInBounds]; exact hj)]
    by_cases e : j = o
    · subst e
      rw [if_neg (by omega), if_pos (by simp), Nat.sub_self]
      simp [hj]
    · by_cases e2 : o + 1 ≤ j ∧ j < o + 1 + r.length
      · rw [if_pos e2, if_pos (by simp; omega), show j - o = (j - (o + 1)) + 1 by omega]
        simp
      · rw [if_neg e2, if_neg (by simp; omega)]
        simp [Ne.symm e]
/-- Block m is a tag at work. -/
def MAt (w : World) (m d : Nat) (x : Nat → Nat) (lv : Value) (n : Int) : Prop := w.heap[m]? = some (.cells (mcs d x lv n) 63 (0, 0))
section
variable {w w' : World} {m d b B : Nat} {x : Nat → Nat} {lv : Value} {n : Int}
theorem MAt.lt (h : MAt w m d x lv n) : m < w.heap.size := (Array.getElem?_eq_some_iff.1 h).1
theorem MAt.free (h : MAt w m d x lv n) (o : Nat) : w.frozen? ⟨m, o, none⟩ = false := frozen_of_row w m o _ 63 h
theorem MAt.at (h : MAt w m d x lv n) (o : Nat) : w.cell? ⟨m, o, none⟩ = (mcs d x lv n)[o]? := cell_of_row w m o _ 63 _ h
theorem MAt.c0 (h : MAt w m d x lv n) : w.cell? ⟨m, 0, none⟩ = some (.pointer (some ⟨d, 0, none⟩)) := (h.at 0).trans (mcs_d d x lv n)
theorem MAt.cl (h : MAt w m d x lv n) : w.cell? ⟨m, 17, none⟩ = some lv := (h.at 17).trans (mcs_l d x lv n)
theorem MAt.cn (h : MAt w m d x lv n) : w.cell? ⟨m, 18, none⟩ = some (.int .i64 n) := (h.at 18).trans (mcs_n d x lv n)
theorem MAt.range (h : MAt w m d x lv n) : w.rangeAt m 1 (ba 16 x).toList := fun j v hv => by
  have hj : j < 16 := by have := (List.getElem?_eq_some_iff.1 hv).1; rwa [Array.length_toList, ba_size] at this
  rw [Array.getElem?_toList, ba_get _ hj] at hv
  injection hv with hv
  rw [← hv]; exact (h.at _).trans (mcs_x d x lv n hj)
theorem MAt.there (h : MAt w m d x lv n) : w.there m 1 16 := fun j hj => ⟨by rw [h.at, mcs_x d x lv n hj]; rfl, h.free _⟩
theorem MAt.setl (h : MAt w m d x lv n) (v : Value) : MAt (w.setCell ⟨m, 17, none⟩ v) m d x v n := by
  have := heap_setCell_same w m 17 _ 63 v h; rw [mcs_setl] at this; exact this
theorem MAt.setn (h : MAt w m d x lv n) (k : Int) : MAt (w.setCell ⟨m, 18, none⟩ (.int .i64 k)) m d x lv k := by
  have := heap_setCell_same w m 18 _ 63 (.int .i64 k) h; rw [mcs_setn] at this; exact this
theorem MAt.setx (h : MAt w m d x lv n) (y : Nat → Nat) : MAt (w.setCells m 1 (ba 16 y).toList) m d y lv n := by
  obtain ⟨cur, h1, h2, h3⟩ := heap_setCells m 63 (ba 16 y).toList 1 _ w h
  have hs := mcs_size d x lv n
  have hs' := mcs_size d y lv n
  have e : cur = mcs d y lv n := by
    apply Array.ext_getElem?
    intro j
    by_cases hj : j < 19
    · rw [h3 j (by omega), Array.length_toList, ba_size]
      by_cases h4 : 1 ≤ j ∧ j < 1 + 16
      · rw [if_pos h4, Array.getElem?_toList, ba_get _ (by omega)]
        have := mcs_x d y lv n (i := j - 1) (by omega)
        rw [← this, show 1 + (j - 1) = j by omega]
      · rw [if_neg h4]
        have : j = 0 ∨ j = 17 ∨ j = 18 := by omega
        rcases this with rfl | rfl | rfl
        · rw [mcs_d, mcs_d]
        · rw [mcs_l, mcs_l]
        · rw [mcs_n, mcs_n]
    · rw [Array.getElem?_eq_none (by omega), Array.getElem?_eq_none (by omega)]
  unfold MAt
  rw [h1, e]
theorem MAt.below (h : MAt w m d x lv n) (hb : Below B w w') (hB : m < B) : MAt w' m d x lv n := (hb.block m hB).trans h
theorem MAt.self (h : MAt w m d x lv n) (hb : Below w.heap.size w w') : MAt w' m d x lv n := h.below hb h.lt
theorem MAt.drew (h : MAt w m d x lv n) : MAt w.drew m d x lv n := h
theorem MAt.only (h : MAt w m d x lv n) (o : Only b w w') (hb : m ≠ b) : MAt w' m d x lv n := (o.block m h.lt hb).trans h
end
theorem MAt.new (w : World) (d : Nat) : MAt (w.alloc (.cells (mcs d (fun _ => 0) (.slice none 0 0) 0) 63)) w.heap.size d (fun _ => 0) (.slice none 0 0) 0 := heap_alloc_new w _
theorem only_setCells (b : Nat) : ∀ (vs : List Value) (o : Nat) (w : World), Only b w (w.setCells b o vs)
  | [], _, w => Only.refl b w
  | v :: r, o, w => (Only.set w (p := ⟨b, o, none⟩) rfl v).trans (only_setCells b r (o + 1) _)
/-- But for blocks b and m (and new ones) w' is as w was. -/
structure But (b m : Nat) (w w' : World) : Prop where
  os : w'.os = w.os
  tape : w'.tape = w.tape
  output : w'.output = w.output
  size : w.heap.size ≤ w'.heap.size
  block : ∀ j, j < w.heap.size → j ≠ b → j ≠ m → w'.heap[j]? = w.heap[j]?
section
variable {b m : Nat} {w w' w2 : World}
theorem But.trans (h : But b m w w') (k : But b m w' w2) : But b m w w2 :=
  ⟨k.os.trans h.os, k.tape.trans h.tape, k.output.trans h.output, Nat.le_trans h.size k.size, fun j hj h1 h2 => (k.block j (Nat.lt_of_lt_of_le hj h.size) h1 h2).trans (h.block j hj h1 h2)⟩
theorem But.of (o : Only b w w') : But b m w w' := ⟨o.os, o.tape, o.output, o.size, fun j hj h1 _ => o.block j hj h1⟩
theorem But.of2 (o : Only m w w') : But b m w w' := ⟨o.os, o.tape, o.output, o.size, fun j hj _ h2 => o.block j hj h2⟩
theorem But.self (h : Below w.heap.size w w') : But b m w w' := But.of (Only.of_below h)
theorem But.refl : But b m w w := But.self (Below.refl _ _)
theorem But.only (h : But b m w w') (hm : w.heap.size ≤ m) : Only b w w' := ⟨h.os, h.tape, h.output, h.size, fun j hj h1 => h.block j hj h1 (by omega)⟩
theorem But.below {B : Nat} (h : But b m w w') (hb : B ≤ b) (hm : B ≤ m) (hB : B ≤ w.heap.size) : Below B w w' := ⟨h.os, h.tape, h.output, h.size, fun j hj => h.block j (by omega) (by omega) (by omega)⟩
end
/-- v reads as xs, whatever is done that turns blocks b and m alone. -/
def Kb (b m : Nat) (w : World) (v : Value) (xs : List Int) : Prop := ∀ W, But b m w W → Rd .u8 W v xs
section
variable {b m : Nat} {w w' : World} {v : Value} {xs : List Int}
theorem Kb.rd (h : Kb b m w v xs) : Rd .u8 w v xs := h w But.refl
theorem Kb.later (h : Kb b m w v xs) (o : But b m w w') : Kb b m w' v xs := fun W hW => h W (o.trans hW)
theorem Kb.kept (h : Kb b m w v xs) : Kept b w v xs := fun W hW => h W (But.of hW)
theorem kb_wd {n g off c : Nat} {f : Nat → Nat} (h : Wd w n g off f) (h1 : g ≠ b) (h2 : g ≠ m) (hn : n ≤ 65536) : Kb b m w (.slice (some ⟨g, off, none⟩) n c) (ns n f) := fun _ hW => (h.same hW.size (hW.block g h.lt h1 h2)).rd c hn
theorem kb_zero (a : Option Addr) (c : Nat) (f : Nat → Nat) : Kb b m w (.slice a 0 c) (ns 0 f) := fun W _ => rd_zero a c f W
theorem kb_own {B n : Nat} {E : TypeId} {f : Nat → Nat} (h : Own .u8 B E w v (ns n f)) (hb : b < B) (hm : m < B) (hn : n ≤ 65536) (hf : ∀ j, j < n → f j < 256) : Kb b m w v (ns n f) := by
  by_cases h0 : 0 < n
  · obtain ⟨g, cap, rfl, hg, _⟩ := h.part (by rw [ns_len]; exact h0)
    rw [ns_len] at h ⊢
    exact kb_wd (wd_own h hf).1 (by omega) (by omega) hn
  · obtain rfl : n = 0 := by omega
    obtain ⟨p, cap, rfl⟩ := h.noRow
    exact kb_zero p cap f
theorem kb_rd (h : Rd .u8 w v xs) (hb : w.heap.size ≤ b) (hm : w.heap.size ≤ m) : Kb b m w v xs := fun _ hW => h.self (hW.below hb hm (Nat.le_refl _))
end

theorem mcs_new (d : Nat) : mcs d (fun _ => 0) (.slice none 0 0) 0 = #[.pointer (some ⟨d, 0, none⟩), .int .u8 0, .int .u8 0, .int .u8 0, .int .u8 0, .int .u8 0, .int .u8 0, .int .u8 0, .int .u8 0, .int .u8 0, .int .u8 0, .int .u8 0, .int .u8 0, .int .u8 0, .int .u8 0, .int .u8 0, .int .u8 0, .slice none 0 0, .int .i64 0] := by kernel_rfl
theorem mnew_any (d : Nat) (w : World) :
    Calls Try.prog 21 #[.pointer (some ⟨d, 0, none⟩)] w fun x w' => x = .returned (.pointer (some ⟨w.heap.size, 0, none⟩)) ∧ MAt w' w.heap.size d (fun _ => 0) (.slice none 0 0) 0 ∧ Below w.heap.size w w' := by
  have HM := MAt.new w d
  rw [mcs_new] at HM
  have HM := hid HM
  have HL : Hid (Below w.heap.size w (w.alloc (.cells (mcs d (fun _ => 0) (.slice none 0 0) 0) 63))) := hid ((Below.refl _ _).alloc (Nat.le_refl _) _)
  rw [mcs_new] at HL
  go_enter Try.func21, Try.ntmps21
  go_wp2
  go_ret
  exact ⟨rfl, HM.out, HL.out⟩
end Go.Proofs.Yteoiekooaokhaaa
