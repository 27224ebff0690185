import Derived.Test.YthhkhcacljgelaaProg
import Derived.Test.YthhkhcacljgelaaKey
import Derived.Test.YthhkhcacljgelaaGen
set_option maxRecDepth 100000
namespace Go.Proofs.Ythhkhcacljgelaa
open Go.RowKit

/-- The document's substitution, bit by bit. -/
def jx (i m : Nat) : Nat := if m = 4 then i else (i + m + 4) % 8
def dsum (y i : Nat) : Nat → Nat
  | 0 => 99 / 2 ^ i % 2
  | m + 1 => dsum y i m + y / 2 ^ jx i m
def dout (y : Nat) : Nat → Nat
  | 0 => 0
  | i + 1 => dout y i + dsum y i 5 % 2 * 2 ^ i
theorem dsum_le (y i : Nat) (hy : y < 256) : ∀ m, dsum y i m ≤ 1 + 255 * m
  | 0 => by unfold dsum; omega
  | m + 1 => by
    unfold dsum
    have := dsum_le y i hy m
    have h2 : y / 2 ^ jx i m ≤ y := Nat.div_le_self _ _
    omega
theorem dout_lt (y : Nat) : ∀ i, dout y i < 2 ^ i
  | 0 => Nat.one_pos
  | i + 1 => by
    unfold dout
    have := dout_lt y i
    have h2 : dsum y i 5 % 2 ≤ 1 := by omega
    have h3 : dsum y i 5 % 2 * 2 ^ i ≤ 1 * 2 ^ i := Nat.mul_le_mul_right _ h2
    rw [Nat.pow_succ]; omega
theorem dout_all : ∀ y < 256, dout y 8 = ap bend y ^^^ 99 := by decide +kernel

theorem dsum_zero (y j : Nat) : ((99 : Int) / 2 ^ j).tmod 2 = (dsum y j 0 : Nat) := by
  have e : ((99 : Int) / 2 ^ j) = ((99 / 2 ^ j : Nat) : Int) := by simp
  rw [e, Int.tmod_eq_emod_of_nonneg (Int.natCast_nonneg _)]; unfold dsum; omega

end Go.Proofs.Ythhkhcacljgelaa

namespace Go.Proofs.Ythhkhcacljgelaa
open Go.RowKit

/-- Four bytes. -/
def quad (a b c d : Nat) : Nat → Nat := fun i => if i = 0 then a else if i = 1 then b else if i = 2 then c else d
/-- Block c reads, from its beginning on, as rows of four bytes. -/
structure RA (w : World) (c m : Nat) (F : Nat → Nat → Nat) : Prop where
  lt : c < w.heap.size
  cell : ∀ i, i < m → ∀ j, j < 4 → w.cell? ⟨c, i * 4 + j, none⟩ = some (.int .u8 (F i j : Int))
  byte : ∀ i, i < m → ∀ j, j < 4 → F i j < 256
theorem RA.self {w w' : World} {c m : Nat} {F : Nat → Nat → Nat} (h : RA w c m F) (hb : Below w.heap.size w w') : RA w' c m F :=
  ⟨Nat.lt_of_lt_of_le h.lt hb.size, fun i hi j hj => (World.cell?_of_block (w := w) (hb.block c h.lt)).trans (h.cell i hi j hj), h.byte⟩
theorem RA.range {w : World} {c m : Nat} {F : Nat → Nat → Nat} (h : RA w c m F) {i : Nat} (hi : i < m) : w.rangeAt c (i * 4) (ba 4 (F i)).toList := by
  intro j v hv
  have hj : j < 4 := by have := (List.getElem?_eq_some_iff.1 hv).1; rwa [Array.length_toList, ba_size] at this
  rw [Array.getElem?_toList, ba_get _ hj] at hv
  injection hv with hv
  rw [← hv]; exact h.cell i hi j hj

theorem step_load_mid_ba {P : Program} {ops : Array Oper} {rest : List Oper} {op : Oper} {a : Act} {w : World} {Q : Exit → Act → World → Prop} (hgd : op.guard = none) (ty : TypeId) (x : Operand) (ho : op.op = .load ty x)
    (b o n : Nat) (f : Nat → Nat) (e : TypeId) (hx : a.eval x = .pointer (some ⟨b, o, none⟩)) (hc : w.rangeAt b o (ba n f).toList)
    (hu : P.underlying ty = some (.array n e)) (hi : (P.info? ty).map (·.size) = some n)
    (h : wpList P ops Q rest (a.put op.dst (.agg (ba n f))) w) : wpList P ops Q (op :: rest) a w :=
  wpList_load_mid hgd ty x ho b o hx _ _ hc hu rfl (by rw [Array.length_toList, ba_size]; exact hi) (by simpa using h)

end Go.Proofs.Ythhkhcacljgelaa

namespace Go.Proofs.Ythhkhcacljgelaa
open Go.RowKit

end Go.Proofs.Ythhkhcacljgelaa

namespace Go.Proofs.Ythhkhcacljgelaa
open Go.RowKit

/-- m rows of four bytes, one behind the other. -/
def flat (m : Nat) (F : Nat → Nat → Nat) : List Value := (ba (4 * m) (fun x => F (x / 4) (x % 4))).toList
theorem flat_len (m : Nat) (F : Nat → Nat → Nat) : (flat m F).length = m * 4 := by unfold flat; rw [Array.length_toList, ba_size, Nat.mul_comm]
theorem flat_at {m : Nat} (F : Nat → Nat → Nat) {x : Nat} (h : x < 4 * m) : (flat m F)[x]? = some (.int .u8 (F (x / 4) (x % 4) : Int)) := by
  unfold flat; rw [Array.getElem?_toList, ba_get _ h]
theorem flat_snoc (m : Nat) (F : Nat → Nat → Nat) (f : Nat → Nat) : flat m F ++ (ba 4 f).toList = flat (m + 1) (updR F m f) := by
  apply List.ext_getElem?
  intro x
  by_cases h1 : x < 4 * m
  · rw [List.getElem?_append_left (by rw [flat_len]; omega), flat_at _ h1, flat_at _ (by omega)]
    unfold updR
    rw [if_neg (by omega)]
  · rw [List.getElem?_append_right (by rw [flat_len]; omega), flat_len]
    by_cases h2 : x < 4 * (m + 1)
    · rw [flat_at _ h2, Array.getElem?_toList, ba_get _ (by omega)]
      unfold updR
      rw [if_pos (by omega), show x - m * 4 = x % 4 by omega]
    · rw [List.getElem?_eq_none (by rw [Array.length_toList, ba_size]; omega), List.getElem?_eq_none (by rw [flat_len]; omega)]
theorem flat_ext {m : Nat} {F G : Nat → Nat → Nat} (h : ∀ i, i < m → ∀ j, j < 4 → F i j = G i j) : flat m F = flat m G := by
  unfold flat
  rw [ba_ext (fun x hx => h (x / 4) (by omega) (x % 4) (by omega))]

theorem from_drew {B : Nat} {a w : World} (h : Below B a w) : Below B a.drew w := ⟨h.os, h.tape, h.output, h.size, h.block⟩
theorem cells_new4 (w : World) (f : Nat → Nat) (E : TypeId) : ∀ j, j < 4 → (w.alloc (.cells (ba 4 f) E)).cell? (Addr.add ⟨w.heap.size, 0, none⟩ j) = some (.int .u8 (f j : Int)) := by
  intro j hj
  rw [Addr.add_mid, Nat.zero_add]
  exact (At.new w 4 E f).cell hj

/-- The rows that are told, and the words that they are made of. -/
structure OInv (w wr : World) (c i : Nat) (X : Nat → Nat → Nat) (o cap r : Nat) (gs cs : Nat → Nat) (Y : Nat → Nat → Nat) : Prop where
  words : RA wr c i X
  list : LW wr w.heap.size 23 o r cap 16 gs (fun _ => 0) cs Y
  low : Below w.heap.size w wr
  ne : c ≠ o
  new : ∀ i, i < r → w.heap.size ≤ gs i
theorem OInv.self {w wr w1 : World} {c i o cap r : Nat} {X Y : Nat → Nat → Nat} {gs cs : Nat → Nat} (h : OInv w wr c i X o cap r gs cs Y) (hb : Below wr.heap.size wr w1) : OInv w w1 c i X o cap r gs cs Y :=
  ⟨h.words.self hb, h.list.self hb, h.low.trans (hb.mono h.low.size), h.ne, h.new⟩
theorem OInv.more {w wr w1 : World} {c i o cap r o' cap' g k : Nat} {X Y : Nat → Nat → Nat} {gs cs : Nat → Nat} (h : OInv w wr c i X o cap r gs cs Y)
    (hl : LW w1 w.heap.size 23 o' (r + 1) cap' 16 (upd gs r g) (upd (fun _ => 0) r 0) (upd cs r k) (updR Y r (Y r))) (hgr : wr.grownBy w1 (some o)) (ho : o' = o ∨ o' = wr.heap.size) (hg : w.heap.size ≤ g) : OInv w w1 c i X o' cap' (r + 1) (upd gs r g) (upd cs r k) Y := by
  refine ⟨⟨Nat.lt_of_lt_of_le h.words.lt hgr.size, fun i hi j hj => (World.cell?_of_block (w := wr) (hgr.block c h.words.lt (by simpa using h.ne))).trans (h.words.cell i hi j hj), h.words.byte⟩, ?_, h.low.grown hgr h.low.size (fun j hj => by injection hj with hj; subst hj; exact h.list.form.1), by have := h.ne; have := h.words.lt; rcases ho with rfl | rfl <;> omega, fun i hi => ?_⟩
  rotate_left
  · unfold upd; split
    · exact hg
    · exact h.new i (by omega)
  rw [upd_const] at hl
  exact hl.ext (fun i _ x _ => by unfold updR; split; (rename_i e; rw [e]); rfl)
/-- One row of 16 bytes on its way. -/
structure InInv (w wr : World) (v : Value) (f : Nat → Nat) (t : Nat) : Prop where
  own : Own .u8 w.heap.size 5 wr v (ns t f)
  low : Below w.heap.size w wr

end Go.Proofs.Ythhkhcacljgelaa
