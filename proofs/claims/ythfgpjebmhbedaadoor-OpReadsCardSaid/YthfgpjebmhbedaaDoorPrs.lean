/- General: what is split at blanks, and what digits are read as; in the kit's words. No program is named. -/
import Derived.Test.YthfgpjebmhbedaaDoorLin
import Derived.Lib.ParseIntB
import Derived.Lib.Split
import Derived.Lib.SplitLaws
namespace Go.Proofs.YthfgpjebmhbedaaDoor
open Go.Lib

/-- What digits behind acc spell. -/
def dval (acc : Nat) (l : List UInt8) : Nat := l.foldl (fun n c => n * 10 + (c.toNat - 48)) acc
theorem dval_nil (acc : Nat) : dval acc [] = acc := rfl
theorem dval_cons (acc : Nat) (c : UInt8) (r : List UInt8) : dval acc (c :: r) = dval (acc * 10 + (c.toNat - 48)) r := List.foldl_cons ..
theorem val_le (l : List UInt8) : ∀ acc : Nat, acc ≤ dval acc l := by
  induction l with
  | nil => intro acc; exact Nat.le_refl _
  | cons c r ih =>
    intro acc
    have h := ih (acc * 10 + (c.toNat - 48))
    rw [dval_cons]
    omega
theorem val_spell (l : List UInt8) : ∀ acc, dval acc l = l.foldl (fun n c => 10 * n + (c.toNat - 48)) acc := by
  induction l with
  | nil => intro acc; rfl
  | cons c r ih => intro acc; rw [dval_cons, ih, List.foldl_cons, Nat.mul_comm]
theorem val_dec (u : Nat) : dval 0 (decDigits u) = u := by rw [val_spell]; exact spell_dec u
theorem parse_val : ∀ (l : List UInt8) (acc : Nat), (∀ c ∈ l, 48 ≤ c.toNat ∧ c.toNat ≤ 57) → dval acc l ≤ 18446744073709551615 → parseUintM (2 ^ 64 - 1) acc l = .ok (dval acc l)
  | [], _, _, _ => rfl
  | c :: r, acc, h, hv => by
    have hc := h c List.mem_cons_self
    have hle := val_le r (acc * 10 + (c.toNat - 48))
    rw [dval_cons] at hv
    rw [dval_cons, parseUintM, if_pos hc, if_neg (by omega), if_neg (by omega)]
    exact parse_val r _ (fun d hd => h d (List.mem_cons_of_mem _ hd)) hv
theorem uint_dec {u : Nat} (h : u < 18446744073709551616) : parseUintB 64 (decDigits u) = .ok u := by
  rw [parseUintB, if_neg (dec_ne u), parse_val _ _ (dec_bytes u) (by rw [val_dec]; omega), val_dec]
theorem int_itoa {n : Int} (h0 : -9223372036854775808 ≤ n) (h1 : n ≤ 9223372036854775807) : parseIntB 64 (itoa n) = .ok n := by
  unfold itoa
  split
  · rename_i hn
    have e : parseUintB 64 (decDigits n.natAbs) = .ok n.natAbs := uint_dec (by omega)
    unfold parseIntB
    simp only [show (45 : UInt8).toNat = 45 from rfl, or_true, if_true, e]
    rw [if_neg (by simp), if_neg (by omega)]
    congr 1
    omega
  · rename_i hn
    have e : parseUintB 64 (decDigits n.toNat) = .ok n.toNat := uint_dec (by omega)
    have hne := dec_ne n.toNat
    have hb := dec_bytes n.toNat
    generalize decDigits n.toNat = l at *
    match l, hne with
    | c :: r, _ =>
      have hc := hb c List.mem_cons_self
      unfold parseIntB
      simp only
      rw [if_neg (by omega), e]
      simp only
      rw [if_neg (by omega), if_neg (by omega), if_neg (by omega)]
      congr 1
      omega
/-- Where the first blank is. -/
theorem index_blank {w r : List UInt8} (h : (32 : UInt8) ∉ w) : index (w ++ 32 :: r) [32] = (w.length : Int) := by
  induction w with
  | nil => simp [index]
  | cons c w ih =>
    have hc : ¬ (32 : UInt8) = c := fun e => h (by rw [← e]; exact List.mem_cons_self)
    have ih' := ih (fun hh => h (List.mem_cons_of_mem _ hh))
    rw [List.cons_append, index, if_neg (by simp [hc]), ih', if_neg (by simp)]
    simp
theorem index_none {w : List UInt8} (h : (32 : UInt8) ∉ w) : index w [32] = -1 := by
  induction w with
  | nil => rfl
  | cons c w ih =>
    have hc : ¬ (32 : UInt8) = c := fun e => h (by rw [← e]; exact List.mem_cons_self)
    rw [index, if_neg (by simp [hc]), ih (fun hh => h (List.mem_cons_of_mem _ hh)), if_pos (by rfl)]
theorem split_word {w r : List UInt8} (h : (32 : UInt8) ∉ w) (k : Nat) : splitK [32] 0 (k + 1) (w ++ 32 :: r) = w :: splitK [32] 0 k r := by
  rw [splitK, index_blank h, if_neg (by simp)]
  simp
theorem split_last {w : List UInt8} (h : (32 : UInt8) ∉ w) (k : Nat) : splitK [32] 0 k w = [w] := by
  cases k with
  | zero => rfl
  | succ k => rw [splitK, index_none h, if_pos (by rfl)]
theorem count_word {w r : List UInt8} (h : (32 : UInt8) ∉ w) : (w ++ 32 :: r).count 32 = r.count 32 + 1 := by
  rw [List.count_append, List.count_eq_zero.2 h, List.count_cons_self]; omega
/-- A line's words. -/
theorem split_line (o : Op6) : split (lnL o) [32] = [knL o.K, itoa o.D, itoa o.A, itoa o.B, itoa o.E, decDigits o.C] := by
  unfold split
  rw [count_one]
  unfold lnL
  simp only [List.append_assoc, List.cons_append, List.nil_append]
  rw [count_word (knL_blank _), count_word (itoa_blank _), count_word (itoa_blank _), count_word (itoa_blank _), count_word (itoa_blank _), List.count_eq_zero.2 (dec_blank _)]
  rw [split_word (knL_blank _), split_word (itoa_blank _), split_word (itoa_blank _), split_word (itoa_blank _), split_word (itoa_blank _), split_last (dec_blank _)]
end Go.Proofs.YthfgpjebmhbedaaDoor
