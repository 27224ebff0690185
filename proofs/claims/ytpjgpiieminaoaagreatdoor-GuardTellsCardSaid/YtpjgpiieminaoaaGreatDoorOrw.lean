import Derived.Test.YtpjgpiieminaoaaGreatDoorGen
import Derived.Deep.AppendLies
import Derived.Laws.Bits64
import Derived.Test.YtpjgpiieminaoaaGreatDoorProg
import Derived.Laws.CopyOwn
/- General: rows of records that an object owns; what an object owns, and what leaves it alone. No program is named. -/
namespace Go.Proofs.YtpjgpiieminaoaaGreatDoor
open Go.RowKit

/-- The cells of the first n records. -/
def recs (c : Nat → List Value) : Nat → List Value
  | 0 => []
  | n + 1 => recs c n ++ c n
theorem recs_len {c : Nat → List Value} {k : Nat} (hc : ∀ i, (c i).length = k) : ∀ n, (recs c n).length = n * k
  | 0 => by simp [recs]
  | n + 1 => by rw [recs, List.length_append, recs_len hc n, hc, Nat.add_mul, Nat.one_mul]
theorem recs_at {c : Nat → List Value} {k : Nat} (hc : ∀ i, (c i).length = k) {i j : Nat} (hj : j < k) : ∀ {n : Nat}, i < n → (recs c n)[i * k + j]? = (c i)[j]?
  | 0, h => by omega
  | n + 1, h => by
    rw [recs]
    have hl := recs_len hc n
    by_cases e : i = n
    · subst e
      rw [List.getElem?_append_right (by omega), hl, Nat.add_sub_cancel_left]
    · have hlt : i * k + j < n * k := by
        have h2 : (i + 1) * k ≤ n * k := Nat.mul_le_mul_right k (by omega)
        rw [Nat.add_mul, Nat.one_mul] at h2
        omega
      rw [List.getElem?_append_left (by omega)]
      exact recs_at hc hj (by omega)
theorem recs_ext {c d : Nat → List Value} : ∀ {n : Nat}, (∀ i, i < n → c i = d i) → recs c n = recs d n
  | 0, _ => rfl
  | n + 1, h => by rw [recs, recs, recs_ext (fun i hi => h i (by omega)), h n (by omega)]
/-- v is a row of n records c, of k cells each, that lies in a block from B on. -/
def Orw (w : World) (B : Nat) (E : TypeId) (k : Nat) (v : Value) (n : Nat) (c : Nat → List Value) : Prop := w.ownsRow B E k v n (recs c n)
section
variable {w w' : World} {B k n : Nat} {E : TypeId} {v : Value} {c : Nat → List Value}
theorem Orw.lt (h : Orw w B E k v n c) : ∀ j, v.ownBlock = some j → B ≤ j ∧ j < w.heap.size := World.ownsRow.lt h
theorem row_stays {xs : List Value} (h : w.ownsRow B E k v n xs) (hs : ∀ j, v.ownBlock = some j → w'.heap[j]? = w.heap[j]?) : w'.ownsRow B E k v n xs := by
  obtain ⟨h1, h2⟩ := h
  refine ⟨h1, ?_⟩
  rcases h2 with h2 | ⟨g, cap, cur, rfl, hg, hh, r⟩
  · exact .inl h2
  · exact .inr ⟨g, cap, cur, rfl, hg, (hs g rfl).trans hh, r⟩
theorem Orw.stays (h : Orw w B E k v n c) (hs : ∀ j, v.ownBlock = some j → w'.heap[j]? = w.heap[j]?) : Orw w' B E k v n c := row_stays h hs
theorem Orw.ext {d : Nat → List Value} (h : Orw w B E k v n c) (e : ∀ i, i < n → c i = d i) : Orw w B E k v n d := by unfold Orw at h ⊢; rw [← recs_ext e]; exact h
theorem Orw.slice (h : Orw w B E k v n c) : ∃ a cap, v = .slice a n cap ∧ n ≤ cap ∧ cap ≤ maxLen ∧ (∀ g, a = some g → v.ownBlock = some g.block ∧ g.off = 0 ∧ g.spot = none) ∧ (0 < n → ∃ g, a = some ⟨g, 0, none⟩) := by
  obtain ⟨_, h2⟩ := h
  rcases h2 with ⟨rfl, rfl⟩ | ⟨g, cap, cur, rfl, hg, hh, hn, hc, _⟩
  · refine ⟨none, 0, rfl, Nat.le_refl _, Nat.zero_le _, fun g e => ?_, fun h => by omega⟩
    cases e
  · exact ⟨some ⟨g, 0, none⟩, cap, rfl, hn, hc, fun a e => by injection e with e; subst e; exact ⟨rfl, rfl, rfl⟩, fun _ => ⟨g, rfl⟩⟩
theorem Orw.cell {g cap : Nat} (h : Orw w B E k (.slice (some ⟨g, 0, none⟩) n cap) n c) (hc : ∀ i, (c i).length = k) {i j : Nat} (hi : i < n) (hj : j < k) {u : Value} (hu : (c i)[j]? = some u) : w.cell? ⟨g, i * k + j, none⟩ = some u := by
  have := World.ownsRow.cells (g := g) h rfl (i * k + j) u (by rw [recs_at hc hj hi]; exact hu)
  simpa [Addr.add_lit] using this
end
/-- One record more; the row lies where it lay, or in the next new block. -/
theorem wp_append_rec {P : Program} {w : World} {o : Oper} {a : Act} {K : Act → World → Prop} {Q : Exit → Act → World → Prop} (s x : Operand) (t : TypeId)
    (ho : o.op = .call { callee := .builtin .append, args := #[s, x], argTypes := #[t, t] }) (B : Nat) (E : TypeId) (k by_ : Nat) (z : Value) (ht : P.underlying t = some (.slice E))
    (hinfo : (P.info? E).map (fun i => (i.zero, i.size, i.bytes)) = some (some z, k, by_)) (hz : z.cells.size = k) (hk : 0 < k)
    (sv : Value) (n : Nat) (c : Nat → List Value) (hs : a.eval s = sv) (hown : Orw w B E k sv n c) (ad : Addr) (cap : Nat) (hx : a.eval x = .slice (some ad) 1 cap) (hl : (c n).length = k) (hone : ∀ u ∈ c n, u.oneCell' = true)
    (hns : ∀ j u, (c n)[j]? = some u → w.cell? (ad.add j) = some u) (hm : n + 1 ≤ maxLen) (hlim : (n + 1) * by_ ≤ 140737488355328) (hB : B ≤ w.heap.size)
    (h : ∀ g cap' w', Orw w' B E k (.slice (some ⟨g, 0, none⟩) (n + 1) cap') (n + 1) c → w.grownBy w' sv.ownBlock → (sv.ownBlock = some g ∨ g = w.heap.size) → K (a.put o.dst (.slice (some ⟨g, 0, none⟩) (n + 1) cap')) w') : o.wp P a w K Q := by
  cases hq : P.info? E with
  | none => simp [hq] at hinfo
  | some i =>
    rw [hq] at hinfo
    simp only [Option.map_some, Option.some.injEq, Prod.mk.injEq] at hinfo
    obtain ⟨h1, h2, h3⟩ := hinfo
    exact wp_append_lies w s x t ho B E i z k by_ ht hq h1 h2 h3 hz hk sv n (recs c n) hs hown ad 1 cap (c n) hx (by omega) hns hone (by decide) hm hlim hB w.heap.size rfl (fun g cap' w' g1 g2 g3 _ => h g cap' w' g1 g2 g3)

/-- Nothing but what is in F, and new blocks, is touched. -/
structure Tch (F : Nat → Prop) (w w' : World) : Prop where
  os : w'.os = w.os
  tape : w'.tape = w.tape
  output : w'.output = w.output
  size : w.heap.size ≤ w'.heap.size
  block : ∀ k, k < w.heap.size → ¬ F k → w'.heap[k]? = w.heap[k]?
namespace Tch
variable {F G : Nat → Prop} {w w' w2 : World}
theorem refl (F : Nat → Prop) (w : World) : Tch F w w := ⟨rfl, rfl, rfl, Nat.le_refl _, fun _ _ _ => rfl⟩
theorem trans (h : Tch F w w') (k : Tch G w' w2) (hG : ∀ j, j < w.heap.size → G j → F j) : Tch F w w2 :=
  ⟨k.os.trans h.os, k.tape.trans h.tape, k.output.trans h.output, Nat.le_trans h.size k.size, fun j hj hF => (k.block j (Nat.lt_of_lt_of_le hj h.size) (fun g => hF (hG j hj g))).trans (h.block j hj hF)⟩
theorem mono (h : Tch F w w') (hF : ∀ j, j < w.heap.size → F j → G j) : Tch G w w' := ⟨h.os, h.tape, h.output, h.size, fun j hj hG => h.block j hj (fun f => hG (hF j hj f))⟩
theorem of_below (h : Below w.heap.size w w') : Tch F w w' := ⟨h.os, h.tape, h.output, h.size, fun k hk _ => h.block k hk⟩
theorem of_grown {r : Option Nat} (h : w.grownBy w' r) (hr : ∀ k, r = some k → F k) : Tch F w w' := ⟨h.os, h.tape, h.output, h.size, fun k hk hF => h.block k hk (fun e => hF (hr k e.symm))⟩
theorem below {B : Nat} (h : Tch F w w') (hF : ∀ k, F k → B ≤ k) (hB : B ≤ w.heap.size) : Below B w w' := ⟨h.os, h.tape, h.output, h.size, fun k hk => h.block k (by omega) (fun f => by have := hF k f; omega)⟩
theorem set (w : World) {b o : Nat} (v : Value) (hb : F b) : Tch F w (w.setCell ⟨b, o, none⟩ v) := ⟨rfl, rfl, rfl, by simp [World.setCell], fun k _ hF => heap_setCell_other w ⟨b, o, none⟩ k v (fun e => hF (e ▸ hb))⟩
end Tch
end Go.Proofs.YtpjgpiieminaoaaGreatDoor

/- General: traces: what may be, tallies, what is opened; as numbers. No program is named. -/
namespace Go.Proofs.YtpjgpiieminaoaaGreatDoor

/-- Do all of the first n have p? -/
def allB (p : Nat → Bool) : Nat → Bool
  | 0 => true
  | n + 1 => allB p n && p n
theorem allB_all {p : Nat → Bool} : ∀ {n : Nat}, allB p n = true → ∀ i, i < n → p i = true
  | n + 1, h, i, hi => by
    rw [allB, Bool.and_eq_true] at h
    by_cases e : i = n
    · subst e; exact h.2
    · exact allB_all h.1 i (by omega)
theorem allB_of {p : Nat → Bool} : ∀ {n : Nat}, (∀ i, i < n → p i = true) → allB p n = true
  | 0, _ => rfl
  | n + 1, h => by rw [allB, allB_of (fun i hi => h i (by omega)), h n (by omega)]; rfl
theorem allB_no {p : Nat → Bool} {n i : Nat} (hi : i < n) (h : p i = false) : allB p n = false := by
  cases e : allB p n
  · rfl
  · have := allB_all e i hi; rw [h] at this; cases this
/-- How many registers an op of kind K is of, in a machine of n shares. -/
def rgN (K n : Int) : Int := if n ≠ 2 ∧ n ≠ 3 then 0 else if K = 2 then n - 1 else if K = 5 ∨ K = 7 then 2 else if K = 6 ∨ K = 8 ∨ K = 9 ∨ K = 10 ∨ K = 11 then 1 else if K = 12 then n else 0
/-- The three registers of an op. -/
def rgL (o : Op6) (j : Nat) : Int := if j = 0 then o.A else if j = 1 then o.B else o.E
/-- Is the register of place j as it should be? -/
def rgB (o : Op6) (at_ n : Int) (j : Nat) : Bool := if (j : Int) < rgN o.K n then decide (0 ≤ rgL o j ∧ rgL o j < at_) else decide (rgL o j = -1)
def okC (K : Int) (C : Nat) : Bool := if K = 9 ∨ K = 10 ∨ K = 11 then decide (C < 64) else if K = 2 then decide (C < 1048576) else if K = 3 ∨ K = 4 ∨ K = 8 then true else decide (C = 0)
def okH (o : Op6) (n : Int) : Bool := decide ((n = 2 ∨ n = 3) ∧ 1 ≤ o.K ∧ o.K ≤ 12 ∧ -1 ≤ o.D ∧ o.D < n ∧ (o.K = 12 → o.D = -1))
/-- May an op stand at a place? -/
def okOp (o : Op6) (at_ n : Int) : Bool := okH o n && allB (rgB o at_ n) 3 && okC o.K o.C
/-- How many ops of the first i are of kind k. -/
def cnt (p : Op6 → Bool) (f : Nat → Op6) : Nat → Nat
  | 0 => 0
  | i + 1 => cnt p f i + (if p (f i) then 1 else 0)
/-- An op's class: its kind, or 0. -/
def kd (o : Op6) : Nat := if o.K < 1 ∨ 12 < o.K then 0 else o.K.toNat
/-- Is the op of place i as it should be, in a trace of N shares? -/
def okO (N : Int) (f : Nat → Op6) (i : Nat) : Bool := okOp (f i) (i : Int) N && decide ((f i).K = 2 → (f i).C = cnt (fun o => decide (o.K = 2)) f i)
/-- Where the block ahead ends. -/
def lastT (g : Nat → Sp3) (j : Nat) : Int := if j = 0 then 0 else (g (j - 1)).T
def okS (L : Nat) (g : Nat → Sp3) (j : Nat) : Bool := decide ((1 ≤ (g j).K ∧ (g j).K ≤ 3) ∧ lastT g j ≤ (g j).F ∧ (g j).F < (g j).T ∧ (g j).T ≤ (L : Int))
/-- May a trace be? -/
def trB (N : Int) (L M : Nat) (f : Nat → Op6) (g : Nat → Sp3) : Bool := decide ((N = 2 ∨ N = 3) ∧ L ≤ 1048576) && allB (okO N f) L && allB (okS L g) M
end Go.Proofs.YtpjgpiieminaoaaGreatDoor

/- Keccak's permutation, as numbers: words below 2^64 by place x + 5 y. No program is named. -/
namespace Go.Proofs.YtpjgpiieminaoaaGreatDoor

/-- A word, rotated to the left by m. -/
def rt (x m : Nat) : Nat := x * 2 ^ m % 2 ^ 64 ||| x / 2 ^ (64 - m)
theorem rt_lt {x m : Nat} (hx : x < 2 ^ 64) : rt x m < 2 ^ 64 := by
  unfold rt
  exact Nat.or_lt_two_pow (Nat.mod_lt _ (by decide)) (Nat.lt_of_le_of_lt (Nat.div_le_self _ _) hx)
theorem bit_none {x j : Nat} (hx : x < 2 ^ 64) (hj : 64 ≤ j) : x.testBit j = false :=
  Nat.testBit_lt_two_pow (Nat.lt_of_lt_of_le hx (Nat.pow_le_pow_right (by decide) hj))
theorem rt_bit {x m j : Nat} (hx : x < 2 ^ 64) (hm : m ≤ 64) (hj : j < 64) : (rt x m).testBit j = x.testBit ((j + (64 - m)) % 64) := by
  unfold rt
  rw [Nat.testBit_or, Nat.testBit_mod_two_pow, Nat.testBit_mul_two_pow, Nat.testBit_div_two_pow]
  simp only [hj, decide_true, Bool.true_and]
  by_cases h : m ≤ j
  · rw [show (j + (64 - m)) % 64 = j - m by omega]
    by_cases h0 : m = 0
    · subst h0
      rw [bit_none hx (show 64 ≤ j + (64 - 0) by omega)]
      simp
    · rw [bit_none hx (show 64 ≤ j + (64 - m) by omega)]
      simp [h]
  · rw [show (j + (64 - m)) % 64 = j + (64 - m) by omega]
    simp [h]
theorem word_ext {x y : Nat} (hx : x < 2 ^ 64) (hy : y < 2 ^ 64) (h : ∀ j, j < 64 → x.testBit j = y.testBit j) : x = y :=
  Nat.eq_of_testBit_eq fun j => by
    by_cases hj : j < 64
    · exact h j hj
    · rw [bit_none hx (by omega), bit_none hy (by omega)]
theorem rt_xor {x y m : Nat} (hx : x < 2 ^ 64) (hy : y < 2 ^ 64) (hm : m ≤ 64) : rt (x ^^^ y) m = rt x m ^^^ rt y m :=
  word_ext (rt_lt (Nat.xor_lt_two_pow hx hy)) (Nat.xor_lt_two_pow (rt_lt hx) (rt_lt hy)) fun j hj => by
    rw [Nat.testBit_xor, rt_bit (Nat.xor_lt_two_pow hx hy) hm hj, rt_bit hx hm hj, rt_bit hy hm hj, Nat.testBit_xor]

/-- Two states are one. -/
def Eq25 (f g : Nat → Nat) : Prop := ∀ i, i < 25 → f i = g i
theorem Eq25.refl (f : Nat → Nat) : Eq25 f f := fun _ _ => rfl
theorem Eq25.symm {f g : Nat → Nat} (h : Eq25 f g) : Eq25 g f := fun i hi => (h i hi).symm
theorem Eq25.trans {f g k : Nat → Nat} (h : Eq25 f g) (h' : Eq25 g k) : Eq25 f k := fun i hi => (h i hi).trans (h' i hi)
/-- Two states, put together. -/
def sm (f g : Nat → Nat) : Nat → Nat := fun i => f i ^^^ g i
theorem xr_left (a b c : Nat) : a ^^^ (b ^^^ c) = b ^^^ (a ^^^ c) := by rw [← Nat.xor_assoc, Nat.xor_comm a b, Nat.xor_assoc]
/-! ### theta -/
/-- The sum of a column. -/
def co (f : Nat → Nat) (x : Nat) : Nat := f x ^^^ f (x + 5) ^^^ f (x + 10) ^^^ f (x + 15) ^^^ f (x + 20)
/-- What theta lays: the columns k ahead, and k behind, that rotated by k. -/
def ek (k : Nat) (c : Nat → Nat) : Nat → Nat := fun x => c ((x + 4 * k) % 5) ^^^ rt (c ((x + k) % 5)) (k % 64)
/-! ### move -/
/-- Where the word at j comes from, and where the word at i goes to. -/
def src (j : Nat) : Nat := (j % 5 + 3 * (j / 5)) % 5 + 5 * (j % 5)
def dst (i : Nat) : Nat := i / 5 + 5 * ((2 * (i % 5) + 3 * (i / 5)) % 5)
def bm (t : Nat → Nat) (f : Nat → Nat) : Nat → Nat := fun i => rt (f (dst i)) ((64 - t i) % 64)
section
variable {t f g : Nat → Nat}
end
/-! ### chi -/
/-- .. bit by bit, of five bits. -/
def cb (q : Fin 5 → Bool) : Fin 5 → Bool := fun x => (q x).xor (q (x + 2) && !(q (x + 1)))
/-! ### rounds -/
section
variable {t mk f g : Nat → Nat}
end
end Go.Proofs.YtpjgpiieminaoaaGreatDoor

/- General: words of 64 bits, and what ops make of them, as numbers. No program is named. -/
namespace Go.Proofs.YtpjgpiieminaoaaGreatDoor

theorem wx64 {a b : Nat} (ha : a < 2 ^ 64) (hb : b < 2 ^ 64) : bits .xor .u64 (a : Int) (b : Int) = ((a ^^^ b : Nat) : Int) := bits_xor_u64_nat a b (by omega) (by omega)
theorem wn64 {a b : Nat} (ha : a < 2 ^ 64) (hb : b < 2 ^ 64) : bits .and .u64 (a : Int) (b : Int) = ((a &&& b : Nat) : Int) := by
  have h1 : (BitVec.ofInt 64 (a : Int)).toNat = a := by
    rw [BitVec.ofInt_natCast, BitVec.toNat_ofNat]; exact Nat.mod_eq_of_lt (by omega)
  have h2 : (BitVec.ofInt 64 (b : Int)).toNat = b := by
    rw [BitVec.ofInt_natCast, BitVec.toNat_ofNat]; exact Nat.mod_eq_of_lt (by omega)
  have hx : a &&& b < 2 ^ 64 := Nat.and_lt_two_pow _ hb
  show IntKind.u64.wrap ((BitVec.ofInt 64 (a : Int) &&& BitVec.ofInt 64 (b : Int)).toNat : Int) = _
  rw [BitVec.toNat_and, h1, h2, IntKind.wrap_u64]
  omega
theorem xr_lt {a b : Nat} (ha : a < 2 ^ 64) (hb : b < 2 ^ 64) : a ^^^ b < 2 ^ 64 := Nat.xor_lt_two_pow ha hb
theorem an_lt {a b : Nat} (ha : a < 2 ^ 64) : a &&& b < 2 ^ 64 := Nat.lt_of_le_of_lt Nat.and_le_left ha

/-- A word with each bit turned. -/
def wnt (a : Nat) : Nat := 2 ^ 64 - 1 - a
theorem wnt_lt (a : Nat) : wnt a < 2 ^ 64 := by unfold wnt; omega
theorem wnt_bit {a j : Nat} (ha : a < 2 ^ 64) (hj : j < 64) : (wnt a).testBit j = !a.testBit j := by
  unfold wnt
  rw [show 2 ^ 64 - 1 - a = 2 ^ 64 - (a + 1) by omega, Nat.testBit_two_pow_sub_succ ha]
  simp [hj]
theorem wnt_max {a : Nat} (ha : a < 2 ^ 64) : (2 ^ 64 - 1) ^^^ a = wnt a :=
  word_ext (xr_lt (by decide) ha) (wnt_lt _) fun j hj => by
    rw [Nat.testBit_xor, wnt_bit ha hj, Nat.testBit_two_pow_sub_one, decide_eq_true hj]; cases a.testBit j <;> rfl
/-- A word, moved up, 0s from below. -/
def wsl (a k : Nat) : Nat := a * 2 ^ k % 2 ^ 64
theorem wsl_lt (a k : Nat) : wsl a k < 2 ^ 64 := Nat.mod_lt _ (by decide)
theorem wsl_bit (a k : Nat) {j : Nat} (hj : j < 64) : (wsl a k).testBit j = (decide (k ≤ j) && a.testBit (j - k)) := by
  unfold wsl
  rw [Nat.testBit_mod_two_pow, ← Nat.shiftLeft_eq, Nat.testBit_shiftLeft]
  simp [hj]
/-- A word, moved down. -/
def wsr (a k : Nat) : Nat := a / 2 ^ k
theorem wsr_lt {a : Nat} (ha : a < 2 ^ 64) (k : Nat) : wsr a k < 2 ^ 64 := Nat.lt_of_le_of_lt (Nat.div_le_self _ _) ha
theorem wsr_bit (a k j : Nat) : (wsr a k).testBit j = a.testBit (j + k) := by
  unfold wsr
  rw [← Nat.shiftRight_eq_div_pow, Nat.testBit_shiftRight, Nat.add_comm]
theorem low_bit (n j : Nat) : (2 ^ n - 1).testBit j = decide (j < n) := Nat.testBit_two_pow_sub_one n j
theorem low_lt {n : Nat} (h : n ≤ 64) : 2 ^ n - 1 < 2 ^ 64 := by
  have := Nat.pow_le_pow_right (n := 2) (by decide) h
  omega
/-- The document's way: what is low enough, rotated. -/
theorem wsl_doc {a k : Nat} (ha : a < 2 ^ 64) (hk : k < 64) : rt (a &&& (2 ^ (64 - k) - 1)) k = wsl a k :=
  word_ext (rt_lt (an_lt ha)) (wsl_lt _ _) fun j hj => by
    rw [rt_bit (an_lt ha) (by omega) hj, wsl_bit _ _ hj, Nat.testBit_and, low_bit]
    by_cases h : k ≤ j
    · rw [show (j + (64 - k)) % 64 = j - k by omega, decide_eq_true (by omega : j - k < 64 - k), decide_eq_true h, Bool.and_true, Bool.true_and]
    · rw [decide_eq_false (by omega : ¬ (j + (64 - k)) % 64 < 64 - k), decide_eq_false h, Bool.and_false, Bool.false_and]
theorem wsr_doc {a k m : Nat} (ha : a < 2 ^ 64) (hk : k < 64) (hm : m = (64 - k) % 64) : rt a m &&& (2 ^ (64 - k) - 1) = wsr a k :=
  word_ext (an_lt (rt_lt ha)) (wsr_lt ha _) fun j hj => by
    rw [Nat.testBit_and, rt_bit ha (by omega) hj, low_bit, wsr_bit]
    by_cases h : j < 64 - k
    · rw [decide_eq_true h, Bool.and_true, show (j + (64 - m)) % 64 = j + k by omega]
    · rw [decide_eq_false h, Bool.and_false, bit_none ha (by omega)]
theorem wsl_xor (a b k : Nat) : wsl (a ^^^ b) k = wsl a k ^^^ wsl b k :=
  word_ext (wsl_lt _ _) (xr_lt (wsl_lt _ _) (wsl_lt _ _)) fun j hj => by
    rw [Nat.testBit_xor, wsl_bit _ _ hj, wsl_bit _ _ hj, wsl_bit _ _ hj, Nat.testBit_xor]
    cases decide (k ≤ j) <;> simp
theorem wsr_xor {a b : Nat} (ha : a < 2 ^ 64) (hb : b < 2 ^ 64) (k : Nat) : wsr (a ^^^ b) k = wsr a k ^^^ wsr b k :=
  word_ext (wsr_lt (xr_lt ha hb) _) (xr_lt (wsr_lt ha _) (wsr_lt hb _)) fun j _ => by
    rw [Nat.testBit_xor, wsr_bit, wsr_bit, wsr_bit, Nat.testBit_xor]
theorem wmk_xor {a a' c : Nat} : (a ^^^ a') &&& c = a &&& c ^^^ a' &&& c := by
  refine Nat.eq_of_testBit_eq fun j => ?_
  simp only [Nat.testBit_and, Nat.testBit_xor]
  cases a.testBit j <;> cases a'.testBit j <;> cases c.testBit j <;> rfl
theorem x4 (a b c d : Nat) : (a ^^^ b) ^^^ (c ^^^ d) = (a ^^^ c) ^^^ (b ^^^ d) := by
  simp only [Nat.xor_assoc, xr_left b c d]

/-- What an op of kind K with constant C makes of words. -/
def evN (K : Int) (C a b d x : Nat) : Nat :=
  if K = 1 then x else if K = 2 then x ^^^ a ^^^ b else if K = 3 then C else if K = 4 then C else if K = 5 then a ^^^ b else if K = 6 then wnt a else if K = 7 then a &&& b else if K = 8 then a &&& C
  else if K = 9 then wsl a (C % 64) else if K = 10 then wsr a (C % 64) else if K = 11 then rt a (C % 64) else if K = 12 then a ^^^ b ^^^ d else 0
theorem ev1 (C a b d x : Nat) : evN 1 C a b d x = x := by simp [evN]
theorem ev2 (C a b d x : Nat) : evN 2 C a b d x = x ^^^ a ^^^ b := by simp [evN]
theorem ev3 (C a b d x : Nat) : evN 3 C a b d x = C := by simp [evN]
theorem ev4 (C a b d x : Nat) : evN 4 C a b d x = C := by simp [evN]
theorem ev5 (C a b d x : Nat) : evN 5 C a b d x = a ^^^ b := by simp [evN]
theorem ev6 (C a b d x : Nat) : evN 6 C a b d x = wnt a := by simp [evN]
theorem ev7 (C a b d x : Nat) : evN 7 C a b d x = a &&& b := by simp [evN]
theorem ev8 (C a b d x : Nat) : evN 8 C a b d x = a &&& C := by simp [evN]
theorem ev9 (C a b d x : Nat) : evN 9 C a b d x = wsl a (C % 64) := by simp [evN]
theorem ev10 (C a b d x : Nat) : evN 10 C a b d x = wsr a (C % 64) := by simp [evN]
theorem ev11 (C a b d x : Nat) : evN 11 C a b d x = rt a (C % 64) := by simp [evN]
theorem ev12 (C a b d x : Nat) : evN 12 C a b d x = a ^^^ b ^^^ d := by simp [evN]
theorem ev0 {K : Int} (h : K < 1 ∨ 12 < K) (C a b d x : Nat) : evN K C a b d x = 0 := by
  unfold evN
  rw [if_neg (by omega), if_neg (by omega), if_neg (by omega), if_neg (by omega), if_neg (by omega), if_neg (by omega), if_neg (by omega), if_neg (by omega), if_neg (by omega), if_neg (by omega), if_neg (by omega), if_neg (by omega)]
theorem kinds12 (K : Int) : K = 1 ∨ K = 2 ∨ K = 3 ∨ K = 4 ∨ K = 5 ∨ K = 6 ∨ K = 7 ∨ K = 8 ∨ K = 9 ∨ K = 10 ∨ K = 11 ∨ K = 12 ∨ (K < 1 ∨ 12 < K) := by omega
theorem evN_lt {K : Int} {C a b d x : Nat} (hC : C < 2 ^ 64) (ha : a < 2 ^ 64) (hb : b < 2 ^ 64) (hd : d < 2 ^ 64) (hx : x < 2 ^ 64) : evN K C a b d x < 2 ^ 64 := by
  rcases kinds12 K with rfl | rfl | rfl | rfl | rfl | rfl | rfl | rfl | rfl | rfl | rfl | rfl | h
  · rw [ev1]; exact hx
  · rw [ev2]; exact xr_lt (xr_lt hx ha) hb
  · rw [ev3]; exact hC
  · rw [ev4]; exact hC
  · rw [ev5]; exact xr_lt ha hb
  · rw [ev6]; exact wnt_lt _
  · rw [ev7]; exact an_lt ha
  · rw [ev8]; exact an_lt ha
  · rw [ev9]; exact wsl_lt _ _
  · rw [ev10]; exact wsr_lt ha _
  · rw [ev11]; exact rt_lt ha
  · rw [ev12]; exact xr_lt (xr_lt ha hb) hd
  · rw [ev0 h]; decide
end Go.Proofs.YtpjgpiieminaoaaGreatDoor

/- General: the machine that has every word as shares, as numbers. No program is named. -/
namespace Go.Proofs.YtpjgpiieminaoaaGreatDoor

def updO (f : Nat → Op6) (j : Nat) (o : Op6) : Nat → Op6 := fun i => if i = j then o else f i
def updS (g : Nat → Sp3) (j : Nat) (s : Sp3) : Nat → Sp3 := fun i => if i = j then s else g i
def updN (v : Nat → Nat) (j : Nat) (z : Nat) : Nat → Nat := fun i => if i = j then z else v i
theorem updO_at (f : Nat → Op6) (j : Nat) (o : Op6) : updO f j o j = o := by simp [updO]
theorem updO_no (f : Nat → Op6) {j i : Nat} (o : Op6) (h : i ≠ j) : updO f j o i = f i := by simp [updO, h]
theorem updS_at (g : Nat → Sp3) (j : Nat) (s : Sp3) : updS g j s j = s := by simp [updS]
theorem updS_no (g : Nat → Sp3) {j i : Nat} (s : Sp3) (h : i ≠ j) : updS g j s i = g i := by simp [updS, h]
theorem updN_at (v : Nat → Nat) (j z : Nat) : updN v j z j = z := by simp [updN]
theorem updN_no (v : Nat → Nat) {j i : Nat} (z : Nat) (h : i ≠ j) : updN v j z i = v i := by simp [updN, h]

/-- A machine: shares, bound, words of keys, masks drawn, where the open block began, ops ahead (of a dry one), the open block's kind, the error, ops, blocks, words; the tape's words, how many there are, how many are used, how many may be drawn. -/
structure Ms where
  n : Int
  most : Int
  words : Nat
  draws : Nat
  fr : Nat
  skip : Nat
  kind : Int
  e : Nat
  L : Nat
  f : Nat → Op6
  M : Nat
  g : Nat → Sp3
  v : Nat → Nat
  tw : Nat → Nat
  TN : Nat
  used : Nat
  free : Nat
  dry : Bool
/-- A register's word; 0 of none. -/
def wordAt (v : Nat → Nat) (L : Nat) (r : Int) : Nat := if 0 ≤ r ∧ r < (L : Int) then v r.toNat else 0
namespace Ms
def len (S : Ms) : Nat := S.skip + S.L
def bad (S : Ms) (o : Op6) : Bool := !(okOp o (S.len : Int) S.n) || decide (o.K = 2 ∧ o.C ≠ S.words)
def full (S : Ms) : Bool := !S.dry && decide (S.most ≤ (S.len : Int))
def out (S : Ms) (o : Op6) : Bool := decide (o.K = 1) && !S.dry && decide (S.free < 1 ∨ S.TN ≤ S.used)
def word (S : Ms) (o : Op6) (x : Nat) : Nat := if o.K = 1 ∧ S.dry = false then S.tw S.used else x
def makes (S : Ms) (o : Op6) (x : Nat) : Nat := evN o.K o.C (wordAt S.v S.L o.A) (wordAt S.v S.L o.B) (wordAt S.v S.L o.E) (S.word o x)
def put (S : Ms) (o : Op6) (x : Nat) : Ms :=
  { S with
    draws := if o.K = 1 then S.draws + 1 else S.draws
    words := if o.K = 2 then S.words + 1 else S.words
    used := if o.K = 1 ∧ S.dry = false then S.used + 1 else S.used
    free := if o.K = 1 ∧ S.dry = false then S.free - 1 else S.free
    L := S.L + 1
    f := updO S.f S.L o
    v := updN S.v S.L (S.makes o x) }
/-- An op is done, or an error stays. -/
def doS (S : Ms) (o : Op6) (x : Nat) : Ms := if S.e ≠ 0 then S else if S.bad o = true then { S with e := 1 } else if S.full = true then { S with e := 3 } else if S.out o = true then { S with e := 2 } else S.put o x
def doR (S : Ms) (o : Op6) : Int := if S.e ≠ 0 ∨ S.bad o = true ∨ S.full = true ∨ S.out o = true then -1 else (S.len : Int)
def beginS (S : Ms) (k : Int) : Ms := if S.e ≠ 0 then S else if S.kind ≠ 0 ∨ k < 1 ∨ 3 < k then { S with e := 1 } else { S with kind := k, fr := S.len }
def endS (S : Ms) : Ms :=
  if S.e ≠ 0 then S else if S.kind = 0 then { S with e := 1 }
  else if S.fr < S.len then { S with M := S.M + 1, g := updS S.g S.M ⟨S.kind, (S.fr : Int), (S.len : Int)⟩, kind := 0 } else { S with kind := 0 }
end Ms

/-! ### what a wet machine did is a trace that may be -/
/-- The outside word of the op of place i. -/
def wdAt (f : Nat → Op6) (mk : Nat → Nat) (TN : Nat) (ks : Nat → Nat) (KN : Nat) (i : Nat) : Nat :=
  if (f i).K = 1 ∧ cnt (fun o => decide (o.K = 1)) f i < TN then mk (cnt (fun o => decide (o.K = 1)) f i) else if (f i).K = 2 ∧ (f i).C < KN then ks (f i).C else 0
/-- Is the word of place i what its op makes? -/
def okW (f : Nat → Op6) (v : Nat → Nat) (L : Nat) (mk : Nat → Nat) (TN : Nat) (ks : Nat → Nat) (KN : Nat) (i : Nat) : Prop :=
  v i = evN (f i).K (f i).C (wordAt v L (f i).A) (wordAt v L (f i).B) (wordAt v L (f i).E) (wdAt f mk TN ks KN i)
structure Wi (S : Ms) (ks : Nat → Nat) (KN : Nat) : Prop where
  wet : S.dry = false
  sk : S.skip = 0
  hn : S.n = 2 ∨ S.n = 3
  ops : ∀ i, i < S.L → okO S.n S.f i = true
  wk : S.words = cnt (fun o => decide (o.K = 2)) S.f S.L
  kn : KN = S.words
  us : S.used = cnt (fun o => decide (o.K = 1)) S.f S.L
  le : S.used ≤ S.TN
  blk : ∀ j, j < S.M → okS S.L S.g j = true
  open_ : S.kind ≠ 0 → (1 ≤ S.kind ∧ S.kind ≤ 3) ∧ lastT S.g S.M ≤ (S.fr : Int) ∧ S.fr ≤ S.L
  last : lastT S.g S.M ≤ (S.L : Int)
  word : ∀ i, i < S.L → okW S.f S.v S.L S.tw S.TN ks KN i
theorem cnt_upd {p : Op6 → Bool} {f : Nat → Op6} {L : Nat} {o : Op6} : ∀ {i : Nat}, i ≤ L → cnt p (updO f L o) i = cnt p f i
  | 0, _ => rfl
  | i + 1, h => by rw [cnt, cnt, cnt_upd (by omega), updO_no f o (by omega)]
theorem cnt_updN {p : Op6 → Bool} {f : Nat → Op6} {L : Nat} {o : Op6} : cnt p (updO f L o) (L + 1) = cnt p f L + (if p o = true then 1 else 0) := by
  rw [cnt, cnt_upd (Nat.le_refl _), updO_at]
theorem okO_upd {n : Int} {f : Nat → Op6} {L : Nat} {o : Op6} {i : Nat} (h : i < L) : okO n (updO f L o) i = okO n f i := by
  unfold okO
  rw [updO_no f o (by omega), cnt_upd (by omega)]
/-- Registers of an op that may stand. -/
theorem okOp_regs {o : Op6} {i : Nat} {n : Int} (h : okOp o (i : Int) n = true) : o.A < (i : Int) ∧ o.B < (i : Int) ∧ o.E < (i : Int) := by
  unfold okOp at h
  rw [Bool.and_eq_true, Bool.and_eq_true] at h
  have hr := allB_all h.1.2
  have key : ∀ j, j < 3 → rgL o j < (i : Int) := fun j hj => by
    have := hr j hj
    unfold rgB at this
    split at this
    · have := of_decide_eq_true this; exact this.2
    · have := of_decide_eq_true this; omega
  exact ⟨key 0 (by omega), key 1 (by omega), key 2 (by omega)⟩
theorem wordAt_upd {v : Nat → Nat} {L z : Nat} {r : Int} (h : r < (L : Int)) : wordAt (updN v L z) (L + 1) r = wordAt v L r := by
  unfold wordAt
  by_cases h0 : 0 ≤ r
  · rw [if_pos ⟨h0, by omega⟩, if_pos ⟨h0, h⟩, updN_no v z (by omega)]
  · rw [if_neg (fun e => h0 e.1), if_neg (fun e => h0 e.1)]
theorem okS_more {L : Nat} {g : Nat → Sp3} {j : Nat} (h : okS L g j = true) : okS (L + 1) g j = true := by
  unfold okS at h ⊢
  have := of_decide_eq_true h
  exact decide_eq_true ⟨this.1, this.2.1, this.2.2.1, by omega⟩
theorem lastT_upd {g : Nat → Sp3} {M : Nat} {s : Sp3} {j : Nat} (h : j ≤ M) : lastT (updS g M s) j = lastT g j := by
  unfold lastT
  split
  · rfl
  · rw [updS_no g s (by omega)]
theorem okS_upd {L : Nat} {g : Nat → Sp3} {M : Nat} {s : Sp3} {j : Nat} (h : j < M) : okS L (updS g M s) j = okS L g j := by
  unfold okS
  rw [lastT_upd (by omega), updS_no g s (by omega)]
theorem Wi.fails {S : Ms} {ks : Nat → Nat} {KN : Nat} (h : Wi S ks KN) (e : Nat) : Wi { S with e := e } ks KN := ⟨h.wet, h.sk, h.hn, h.ops, h.wk, h.kn, h.us, h.le, h.blk, h.open_, h.last, h.word⟩
theorem Wi.begins {S : Ms} {ks : Nat → Nat} {KN : Nat} (h : Wi S ks KN) (k : Int) : Wi (S.beginS k) ks KN := by
  unfold Ms.beginS
  split
  · exact h
  · split
    · exact h.fails 1
    · rename_i h2
      have hl : S.len = S.L := by unfold Ms.len; rw [h.sk]; omega
      exact ⟨h.wet, h.sk, h.hn, h.ops, h.wk, h.kn, h.us, h.le, h.blk, fun _ => ⟨by show 1 ≤ k ∧ k ≤ 3; omega, by show lastT S.g S.M ≤ (S.len : Int); rw [hl]; exact h.last, by show S.len ≤ S.L; omega⟩, h.last, h.word⟩
theorem Wi.ends {S : Ms} {ks : Nat → Nat} {KN : Nat} (h : Wi S ks KN) : Wi S.endS ks KN := by
  have hl : S.len = S.L := by unfold Ms.len; rw [h.sk]; omega
  unfold Ms.endS
  split
  · exact h
  · split
    · exact h.fails 1
    · rename_i hk
      obtain ⟨o1, o2, o3⟩ := h.open_ hk
      split
      · rename_i hlt
        refine ⟨h.wet, h.sk, h.hn, h.ops, h.wk, h.kn, h.us, h.le, fun j hj => ?_, fun e => absurd rfl e, ?_, h.word⟩
        · show okS S.L (updS S.g S.M ⟨S.kind, (S.fr : Int), (S.len : Int)⟩) j = true
          have hj' : j < S.M + 1 := hj
          by_cases e : j = S.M
          · subst e
            unfold okS
            rw [lastT_upd (Nat.le_refl _), updS_at]
            exact decide_eq_true ⟨o1, o2, by show (S.fr : Int) < (S.len : Int); omega, by show (S.len : Int) ≤ (S.L : Int); omega⟩
          · rw [okS_upd (by omega)]; exact h.blk j (by omega)
        · show lastT (updS S.g S.M ⟨S.kind, (S.fr : Int), (S.len : Int)⟩) (S.M + 1) ≤ (S.L : Int)
          unfold lastT
          rw [if_neg (by omega), Nat.add_sub_cancel, updS_at]
          show (S.len : Int) ≤ (S.L : Int)
          omega
      · exact ⟨h.wet, h.sk, h.hn, h.ops, h.wk, h.kn, h.us, h.le, h.blk, fun e => absurd rfl e, h.last, h.word⟩
theorem cnt_lt {p : Op6 → Bool} {f : Nat → Op6} {i : Nat} (hp : p (f i) = true) : ∀ {L : Nat}, i < L → cnt p f i < cnt p f L
  | 0, h => by omega
  | L + 1, h => by
    rw [cnt]
    by_cases e : i = L
    · subst e; rw [if_pos hp]; omega
    · have := cnt_lt (L := L) hp (by omega); omega
theorem ev_x {K : Int} {C a b d x y : Nat} (h1 : K ≠ 1) (h2 : K ≠ 2) : evN K C a b d x = evN K C a b d y := by
  unfold evN
  rw [if_neg h1, if_neg h1, if_neg h2, if_neg h2]
theorem Wi.puts {S : Ms} {ks : Nat → Nat} {KN : Nat} (h : Wi S ks KN) (o : Op6) (x : Nat) (hb : S.bad o = false) (ho : S.out o = false) (ks' : Nat → Nat) (KN' : Nat)
    (hk : o.K = 2 → KN' = KN + 1 ∧ ks' = updN ks KN x) (hk' : o.K ≠ 2 → KN' = KN ∧ ks' = ks) : Wi (S.put o x) ks' KN' := by
  have hl : S.len = S.L := by unfold Ms.len; rw [h.sk]; omega
  unfold Ms.bad at hb
  rw [Bool.or_eq_false_iff, Bool.not_eq_false', hl] at hb
  obtain ⟨hb1, hb2⟩ := hb
  have hc : o.K = 2 → o.C = S.words := fun e => by
    by_cases hc : o.C = S.words
    · exact hc
    · rw [decide_eq_true ⟨e, hc⟩] at hb2; cases hb2
  obtain ⟨rA, rB, rE⟩ := okOp_regs hb1
  have hout : o.K = 1 → S.used < S.TN ∧ 1 ≤ S.free := fun e => by
    unfold Ms.out at ho
    rw [decide_eq_true e, h.wet, Bool.not_false, Bool.true_and, Bool.true_and] at ho
    have := of_decide_eq_false ho
    omega
  have hws : (if o.K = 2 then S.words + 1 else S.words) = cnt (fun o => decide (o.K = 2)) (updO S.f S.L o) (S.L + 1) := by
    rw [cnt_updN, ← h.wk]
    by_cases e : o.K = 2
    · rw [if_pos e, if_pos (by simpa using e)]
    · rw [if_neg e, if_neg (by simpa using e)]; rfl
  have hus : (if o.K = 1 ∧ S.dry = false then S.used + 1 else S.used) = cnt (fun o => decide (o.K = 1)) (updO S.f S.L o) (S.L + 1) := by
    rw [cnt_updN, ← h.us]
    by_cases e : o.K = 1
    · rw [if_pos ⟨e, h.wet⟩, if_pos (by simpa using e)]
    · rw [if_neg (fun q => e q.1), if_neg (by simpa using e)]; rfl
  have hkw : KN' = (if o.K = 2 then S.words + 1 else S.words) := by
    by_cases e : o.K = 2
    · rw [(hk e).1, if_pos e, h.kn]
    · rw [(hk' e).1, if_neg e, h.kn]
  refine ⟨h.wet, h.sk, h.hn, fun i hi => ?_, hws, hkw, hus, ?_, fun j hj => okS_more (h.blk j hj), fun e => ?_, ?_, fun i hi => ?_⟩
  · show okO S.n (updO S.f S.L o) i = true
    have hi' : i < S.L + 1 := hi
    by_cases e : i = S.L
    · subst e
      unfold okO
      rw [updO_at, cnt_upd (Nat.le_refl _), hb1, Bool.true_and]
      exact decide_eq_true (fun e2 => by rw [hc e2, h.wk])
    · rw [okO_upd (by omega)]; exact h.ops i (by omega)
  · show (if o.K = 1 ∧ S.dry = false then S.used + 1 else S.used) ≤ S.TN
    split
    · rename_i e; have := (hout e.1).1; omega
    · exact h.le
  · obtain ⟨o1, o2, o3⟩ := h.open_ e
    exact ⟨o1, o2, by show S.fr ≤ S.L + 1; omega⟩
  · have := h.last
    show lastT S.g S.M ≤ ((S.L + 1 : Nat) : Int)
    omega
  · show okW (updO S.f S.L o) (updN S.v S.L (S.makes o x)) (S.L + 1) S.tw S.TN ks' KN' i
    have hi' : i < S.L + 1 := hi
    by_cases e : i = S.L
    · subst e
      unfold okW
      rw [updN_at, updO_at, wordAt_upd rA, wordAt_upd rB, wordAt_upd rE]
      unfold Ms.makes
      by_cases e1 : o.K = 1
      · have hw : wdAt (updO S.f S.L o) S.tw S.TN ks' KN' S.L = S.word o x := by
          unfold wdAt Ms.word
          rw [updO_at, cnt_upd (Nat.le_refl _), ← h.us, if_pos ⟨e1, (hout e1).1⟩, if_pos ⟨e1, h.wet⟩]
        rw [hw]
      · by_cases e2 : o.K = 2
        · have a1 : wdAt (updO S.f S.L o) S.tw S.TN ks' KN' S.L = x := by
            have hkn := h.kn
            unfold wdAt
            rw [updO_at, if_neg (fun q => e1 q.1), if_pos ⟨e2, by rw [(hk e2).1, hc e2]; omega⟩, (hk e2).2, hc e2, ← h.kn, updN_at]
          have a2 : S.word o x = x := by
            unfold Ms.word
            rw [if_neg (fun q => e1 q.1)]
          rw [a1, a2]
        · exact ev_x e1 e2
    · have hi2 : i < S.L := by omega
      have h0 := h.word i hi2
      have hr : okOp (S.f i) (i : Int) S.n = true := by
        have := h.ops i hi2
        unfold okO at this
        rw [Bool.and_eq_true] at this
        exact this.1
      have hkey : (S.f i).K = 2 → (S.f i).C < KN := fun e2 => by
        have := h.ops i hi2
        unfold okO at this
        rw [Bool.and_eq_true] at this
        have hcc := of_decide_eq_true this.2 e2
        have := cnt_lt (p := fun o => decide (o.K = 2)) (f := S.f) (i := i) (by simpa using e2) hi2
        rw [h.kn, h.wk, hcc]
        exact this
      obtain ⟨qA, qB, qE⟩ := okOp_regs hr
      unfold okW at h0 ⊢
      have hw : wdAt (updO S.f S.L o) S.tw S.TN ks' KN' i = wdAt S.f S.tw S.TN ks KN i := by
        unfold wdAt
        rw [updO_no S.f o e, cnt_upd (by omega)]
        by_cases e2 : (S.f i).K = 2
        · have hlt := hkey e2
          have h1 : ¬ ((S.f i).K = 1 ∧ cnt (fun o => decide (o.K = 1)) S.f i < S.TN) := fun q => by omega
          have r1 : (if (S.f i).K = 2 ∧ (S.f i).C < KN then ks (S.f i).C else 0) = ks (S.f i).C := if_pos ⟨e2, hlt⟩
          have r2 : (if (S.f i).K = 2 ∧ (S.f i).C < KN' then ks' (S.f i).C else 0) = ks (S.f i).C := by
            by_cases e3 : o.K = 2
            · rw [(hk e3).1, (hk e3).2, if_pos ⟨e2, by omega⟩, updN_no ks x (by omega)]
            · rw [(hk' e3).1, (hk' e3).2, if_pos ⟨e2, hlt⟩]
          rw [r1, r2]
        · rw [if_neg (fun (q : (S.f i).K = 2 ∧ (S.f i).C < KN') => e2 q.1), if_neg (fun (q : (S.f i).K = 2 ∧ (S.f i).C < KN) => e2 q.1)]
      rw [hw, updO_no S.f o e, updN_no S.v _ e, wordAt_upd (by omega), wordAt_upd (by omega), wordAt_upd (by omega)]
      exact h0
/-- An op is done or not; a key's word is told besides if it is. -/
theorem Wi.does {S : Ms} {ks : Nat → Nat} {KN : Nat} (h : Wi S ks KN) (o : Op6) (x : Nat) :
    if o.K = 2 ∧ S.doR o ≠ -1 then Wi (S.doS o x) (updN ks KN x) (KN + 1) else Wi (S.doS o x) ks KN := by
  unfold Ms.doS Ms.doR
  by_cases h0 : S.e ≠ 0
  · rw [if_pos h0, if_neg (by rw [if_pos (.inl h0)]; simp)]; exact h
  · rw [if_neg h0]
    by_cases h1 : S.bad o = true
    · rw [if_pos h1, if_neg (by rw [if_pos (.inr (.inl h1))]; simp)]; exact h.fails 1
    · rw [if_neg h1]
      by_cases h2 : S.full = true
      · rw [if_pos h2, if_neg (by rw [if_pos (.inr (.inr (.inl h2)))]; simp)]; exact h.fails 3
      · rw [if_neg h2]
        by_cases h3 : S.out o = true
        · rw [if_pos h3, if_neg (by rw [if_pos (.inr (.inr (.inr h3)))]; simp)]; exact h.fails 2
        · rw [if_neg h3]
          have hd : (if S.e ≠ 0 ∨ S.bad o = true ∨ S.full = true ∨ S.out o = true then (-1 : Int) else (S.len : Int)) = (S.len : Int) := if_neg (by rintro (q | q | q | q) <;> contradiction)
          rw [hd]
          by_cases hk : o.K = 2
          · rw [if_pos ⟨hk, by omega⟩]
            exact h.puts o x (by simpa using h1) (by simpa using h3) _ _ (fun _ => ⟨rfl, rfl⟩) (fun q => absurd hk q)
          · rw [if_neg (fun q => hk q.1)]
            exact h.puts o x (by simpa using h1) (by simpa using h3) _ _ (fun q => absurd q hk) (fun _ => ⟨rfl, rfl⟩)
/-- What the law asks at its end. -/
theorem Wi.trace {S : Ms} {ks : Nat → Nat} {KN : Nat} (h : Wi S ks KN) (hL : S.L ≤ 1048576) : trB S.n S.L S.M S.f S.g = true := by
  unfold trB
  rw [decide_eq_true ⟨h.hn, hL⟩, allB_of h.ops, allB_of h.blk]
  rfl
end Go.Proofs.YtpjgpiieminaoaaGreatDoor

set_option maxRecDepth 100000
namespace Go.Proofs.YtpjgpiieminaoaaGreatDoor
open Go.RowKit

def byteAt (zs : List Int) (p : Int) : Int := if 0 ≤ p ∧ p < zs.length then nth zs p.toNat else 0
theorem wf_u8 {z : Int} (h : (Lit.int .u8 z).wf = true) : 0 ≤ z ∧ z ≤ 255 := bounds_u8 h
set_option maxHeartbeats 400000 in
theorem clamp_any (n t : Int) (w : World) :
    Calls Tryz.prog 67 #[.int .i64 n, .int .i64 t] w fun e w' => e = .returned (.int .i64 (min (max n 0) t)) ∧ w' = w := by
  go_enter Tryz.func67, Tryz.ntmps67
  go_wp2
  all_goals (go_ret; exact ⟨ret_int (by omega), rfl⟩)

def rlTo (zs : List Int) (a : Int) : Nat → Int
  | 0 => 0
  | k + 1 => IntKind.u64.wrap (IntKind.u64.wrap (rlTo zs a k * 256) + IntKind.u64.wrap (byteAt zs (a + (7 - k))))
def rl (zs : List Int) (a : Int) : Int := if a < -8 ∨ zs.length ≤ a then 0 else rlTo zs a 8

end Go.Proofs.YtpjgpiieminaoaaGreatDoor

namespace Go.Proofs.YtpjgpiieminaoaaGreatDoor
open Go.RowKit

def rrTo (x : Int) : Nat → Int
  | 0 => x
  | k + 1 => IntKind.u64.wrap (IntKind.u64.wrap (rrTo x k * 2) + rrTo x k / 9223372036854775808)

set_option maxHeartbeats 400000 in
theorem mod_any (k : Int) (w : World) :
    Calls Tryz.prog 84 #[.int .i64 k, .int .i64 64] w fun e w' => e = .returned (.int .i64 (k % 64)) ∧ w' = w := by
  have hm : k.tmod 64 = if k % 64 ≠ 0 ∧ k < 0 then k % 64 - 64 else k % 64 := by
    rw [Int.tmod_eq_emod]; split <;> split <;> simp_all <;> omega
  by_cases hc : k % 64 ≠ 0 ∧ k < 0
  · rw [if_pos hc] at hm
    obtain ⟨q, hq⟩ : ∃ q, k.tmod 64 = q := ⟨_, rfl⟩
    have h1 : q < 0 := by omega
    have h2 : -64 ≤ q := by omega
    have HQ := hid (show q + 64 = k % 64 by omega)
    clear hm hc
    go_enter Tryz.func84, Tryz.ntmps84
    go_wp2
    go_ret
    exact ⟨ret_int HQ.out, rfl⟩
  · rw [if_neg hc] at hm
    obtain ⟨q, hq⟩ : ∃ q, k.tmod 64 = q := ⟨_, rfl⟩
    have h1 : 0 ≤ q := by omega
    have HQ := hid (show q = k % 64 by omega)
    clear hm hc
    go_enter Tryz.func84, Tryz.ntmps84
    go_wp2
    go_ret
    exact ⟨ret_int HQ.out, rfl⟩

set_option maxHeartbeats 400000 in
theorem refrot_any (x k : Int) (w : World) (hx : 0 ≤ x ∧ x ≤ 18446744073709551615) :
    Calls Tryz.prog 74 #[.int .u64 x, .int .i64 k] w fun e w' => e = .returned (.int .u64 (rrTo x (k % 64).toNat)) ∧ w' = w := by
  obtain ⟨n, hn, hn2⟩ : ∃ n : Nat, k % 64 = n ∧ n < 64 := ⟨(k % 64).toNat, by omega, by omega⟩
  have HN := hid hn
  clear hn
  have hbd : ∀ k, 0 ≤ rrTo x k ∧ rrTo x k ≤ 18446744073709551615 := by
    intro k
    cases k with
    | zero => exact hx
    | succ k => simp only [rrTo, IntKind.wrap_u64]; omega
  have HB := hid hbd
  clear hbd hx
  go_enter Tryz.func74, Tryz.ntmps74
  go_wp2
  go_loop [0, 5] (fun y i => ∃ j : Nat, j ≤ n ∧ i = .int .i64 j ∧ y = .int .u64 (rrTo x j)) (fun _ i => n - (intOf i).toNat)
  case atStart => exact ⟨0, by omega, rfl, rfl⟩
  case round =>
    obtain ⟨j, hj, rfl, rfl⟩ := hrel
    have hb1 := (HB.out j).1
    have hb2 := (HB.out j).2
    have HS := hid (show rrTo x (j + 1) = _ from rfl)
    obtain ⟨m, hm⟩ : ∃ m, k % 64 = m := ⟨_, rfl⟩
    have HM := hid (show m = n by rw [← hm]; exact HN.out)
    have hmn : (m : Int) ≤ n := by rw [HM.out]; omega
    have hmn' : (n : Int) ≤ m := by rw [HM.out]; omega
    by_cases hlt : j < n
    · go_wp2_with (go_at_call 84; refine (mod_any _ _).mono ?_; rintro e w' ⟨rfl, rfl⟩)
      go_round
      case rel => exact ⟨j + 1, by omega, by go_num, rfl⟩
      case measure => simp [intOf]; omega
    · go_wp2_with (go_at_call 84; refine (mod_any _ _).mono ?_; rintro e w' ⟨rfl, rfl⟩)
      go_ret
      obtain rfl : j = n := by omega
      exact ⟨by rw [HN.out]; simp, rfl⟩

theorem and63 (k : Int) : bits .and .u64 (IntKind.u64.wrap k) 63 = k % 64 := by
  rw [u64_and _ _ (by rw [IntKind.wrap_u64]; omega) (by rw [IntKind.wrap_u64]; omega) (by omega) (by omega), IntKind.wrap_u64]
  have h : (63 : Int).toNat = 2 ^ 6 - 1 := rfl
  rw [h, Nat.and_two_pow_sub_one_eq_mod]
  omega
def rotl (x : Int) (m : Nat) : Int := bits .or .u64 (IntKind.u64.wrap (x * 2 ^ m)) (x / 2 ^ (64 - m))
set_option maxHeartbeats 400000 in
theorem rot64_any (x k : Int) (w : World) (hx : 0 ≤ x ∧ x ≤ 18446744073709551615) :
    Calls Tryz.prog 107 #[.int .u64 x, .int .i64 k] w fun e w' => e = .returned (.int .u64 (rotl x (k % 64).toNat)) ∧ w' = w := by
  obtain ⟨hx1, hx2⟩ := hx
  have hb := and63 k
  obtain ⟨m, hm, hm64⟩ : ∃ m : Nat, k % 64 = m ∧ m < 64 := ⟨(k % 64).toNat, by omega, by omega⟩
  rw [hm] at hb ⊢
  clear hm
  go_enter Tryz.func107, Tryz.ntmps107
  go_wp2
  go_ret
  exact ⟨rfl, rfl⟩
set_option maxHeartbeats 400000 in
theorem orot_any (x k : Int) (w : World) (hx : 0 ≤ x ∧ x ≤ 18446744073709551615) :
    Calls Tryz.prog 103 #[.int .u64 x, .int .i64 k] w fun e w' => e = .returned (.int .u64 (rotl x (k % 64).toNat)) ∧ w' = w := by
  go_enter Tryz.func103, Tryz.ntmps103
  go_wp2_with (go_at_call 107; refine (rot64_any _ _ _ hx).mono ?_; rintro e w' ⟨rfl, rfl⟩)
  go_ret
  exact ⟨rfl, rfl⟩
def lowL (m : Nat) : Int := IntKind.u64.wrap (IntKind.u64.wrap (2 ^ m) - 1)
set_option maxHeartbeats 400000 in
theorem low_any (n : Int) (w : World) :
    Calls Tryz.prog 65 #[.int .i64 n] w fun e w' => e = .returned (.int .u64 (lowL (min (max n 0) 64).toNat)) ∧ w' = w := by
  have hc := clamp_any n 64 w
  obtain ⟨m, hm, hm64⟩ : ∃ m : Nat, min (max n 0) 64 = m ∧ m ≤ 64 := ⟨(min (max n 0) 64).toNat, by omega, by omega⟩
  rw [hm] at hc ⊢
  clear hm
  go_enter Tryz.func65, Tryz.ntmps65
  go_wp2_with (go_at_call 67; refine hc.mono ?_; rintro e w' ⟨rfl, rfl⟩)
  go_ret
  exact ⟨rfl, rfl⟩
def rlow : Nat → Int
  | 0 => 0
  | k + 1 => IntKind.u64.wrap (IntKind.u64.wrap (rlow k * 2) + 1)
set_option maxHeartbeats 400000 in
theorem reflow_any (n : Int) (w : World) :
    Calls Tryz.prog 40 #[.int .i64 n] w fun e w' => e = .returned (.int .u64 (rlow (min (max n 0) 64).toNat)) ∧ w' = w := by
  obtain ⟨m, hm, hm64⟩ : ∃ m : Nat, min (max n 0) 64 = m ∧ m ≤ 64 := ⟨(min (max n 0) 64).toNat, by omega, by omega⟩
  have HM := hid hm
  clear hm
  go_enter Tryz.func40, Tryz.ntmps40
  go_wp2
  go_loop [3, 4] (fun y i => ∃ j : Nat, j ≤ m ∧ i = .int .i64 j ∧ y = .int .u64 (rlow j)) (fun _ i => m - (intOf i).toNat)
  case atStart => exact ⟨0, by omega, rfl, rfl⟩
  case round =>
    obtain ⟨j, hj, rfl, rfl⟩ := hrel
    by_cases hlt : j < m
    · have h1 : (j : Int) < n := by have := HM.out; omega
      go_wp2
      go_round
      case rel => exact ⟨j + 1, by omega, by go_num, rfl⟩
      case measure => simp [intOf]; omega
    · have h0 : j = m := by omega
      by_cases h1 : (j : Int) < n
      · have h2 : ¬ (j : Int) < 64 := by have := HM.out; omega
        clear h0
        go_wp2
        go_ret
        obtain rfl : j = m := by omega
        exact ⟨by rw [HM.out]; simp, rfl⟩
      · clear h0
        go_wp2
        go_ret
        obtain rfl : j = m := by omega
        exact ⟨by rw [HM.out]; simp, rfl⟩
end Go.Proofs.YtpjgpiieminaoaaGreatDoor

namespace Go.Proofs.YtpjgpiieminaoaaGreatDoor
open Go.RowKit
theorem info8 : (Tryz.prog.info? 5).map (fun i => (i.zero, i.size, i.bytes)) = some (some (.int .u8 0), 1, 1) := by kernel_rfl

def rsTo (x : Int) : Nat → Int
  | 0 => x
  | k + 1 => rsTo x k / 256
def rsL (x : Int) : Nat → List Int
  | 0 => []
  | k + 1 => rsL x k ++ [rsTo x k % 256]
theorem rsL_len (x : Int) : ∀ k, (rsL x k).length = k
  | 0 => rfl
  | k + 1 => by simp [rsL, rsL_len x k]

set_option maxHeartbeats 400000 in
theorem refstore_any (x n : Int) (w : World) (hx : 0 ≤ x ∧ x ≤ 18446744073709551615) :
    Calls Tryz.prog 39 #[.int .u64 x, .int .i64 n] w fun e w' => ∃ v', e = .returned v' ∧ Own .u8 w.heap.size 5 w' v' (rsL x (min (max n 0) 8).toNat) ∧ Below w.heap.size w w' := by
  obtain ⟨m, hm, hm64⟩ : ∃ m : Nat, min (max n 0) 8 = m ∧ m ≤ 8 := ⟨(min (max n 0) 8).toNat, by omega, by omega⟩
  have HM := hid hm
  have hbd : ∀ k, 0 ≤ rsTo x k ∧ rsTo x k ≤ 18446744073709551615 := by
    intro k
    induction k with
    | zero => exact hx
    | succ k ih => simp only [rsTo]; omega
  have HB := hid hbd
  clear hm hbd hx
  go_enter Tryz.func39, Tryz.ntmps39
  go_wp2
  go_loopw [0, 5, 6] (fun y v i wr => ∃ j : Nat, j ≤ m ∧ i = .int .i64 j ∧ y = .int .u64 (rsTo x j) ∧ Own .u8 w.heap.size 5 wr v (rsL x j) ∧ Below w.heap.size w wr) (fun _ _ i _ => m - (intOf i).toNat)
  case atStart => exact ⟨0, by omega, rfl, rfl, own_empty w (Nat.le_refl _), (Below.refl _ _).alloc (Nat.le_refl _) _⟩
  case round =>
    obtain ⟨j, hj, rfl, rfl, hown, hlow⟩ := hrel
    have hb1 := (HB.out j).1
    have hb2 := (HB.out j).2
    have HO := hid hown; have HL := hid hlow
    have hsz := hlow.size
    have hlen := rsL_len x j
    clear hown hlow
    by_cases hlt : j < m
    · have h1 : (j : Int) < n := by have := HM.out; omega
      have hlim : ((rsL x j).length + 1) * (IntKind.u8.bits / 8) ≤ 140737488355328 := by simp [IntKind.bits]; omega
      have HLI := hid hlim; clear hlim; have HLE := hid hlen; clear hlen
      go_wp2_with (refine wpList_append_ints rfl (.tmp 17) (.tmp 21) 47 rfl .u8 w.heap.size 5 Tryz.underlying47 info8 (by decide) _ _ rfl (HO.out.alloc _) _ _ _ _ rfl rfl (cell_new_int _ _ _ _) HLI.out (by simp; omega) _ _ (HL.out.alloc (by omega) _) (Nat.le_refl _) ?_; intro v2 w2 hO2 hL2 _)
      go_roundw
      case rel => exact ⟨j + 1, by omega, by go_num, rfl, hO2, hL2⟩
      case measure => simp [intOf]; omega
    · have h0 : j = m := by omega
      by_cases h1 : (j : Int) < n
      · have h2 : ¬ (j : Int) < 8 := by have := HM.out; omega
        clear h0
        go_wp2
        go_ret
        obtain rfl : j = m := by omega
        exact ⟨_, rfl, by rw [HM.out]; exact HO.out, HL.out⟩
      · clear h0
        go_wp2
        go_ret
        obtain rfl : j = m := by omega
        exact ⟨_, rfl, by rw [HM.out]; exact HO.out, HL.out⟩
end Go.Proofs.YtpjgpiieminaoaaGreatDoor

namespace Go.Proofs.YtpjgpiieminaoaaGreatDoor
open Go.RowKit

/-! ### octet.Store -/
def stL (x : Int) : Nat → List Int
  | 0 => []
  | k + 1 => stL x k ++ [x / 2 ^ (8 * k) % 256]
theorem stL_len (x : Int) : ∀ k, (stL x k).length = k
  | 0 => rfl
  | k + 1 => by simp [stL, stL_len x k]

set_option maxHeartbeats 400000 in
theorem store_any (x n : Int) (w : World) (hx : 0 ≤ x ∧ x ≤ 18446744073709551615) :
    Calls Tryz.prog 38 #[.int .u64 x, .int .i64 n] w fun e w' => ∃ v', e = .returned v' ∧ Own .u8 w.heap.size 5 w' v' (stL x (min (max n 0) 8).toNat) ∧ Below w.heap.size w w' := by
  have hc := clamp_any n 8 w
  obtain ⟨hx1, hx2⟩ := hx
  obtain ⟨m, hm, hm64⟩ : ∃ m : Nat, min (max n 0) 8 = m ∧ m ≤ 8 := ⟨(min (max n 0) 8).toNat, by omega, by omega⟩
  rw [hm] at hc ⊢
  clear hm
  have hmk := run_make_ints (P := Tryz.prog) w .u8 .i64 47 5 m Tryz.underlying47 info8 (by simp [IntKind.bits]; omega) (by decide)
  have HO := hid (own_made (k := .u8) (B := w.heap.size) (E := 5) w m (Nat.le_refl _) (by unfold maxLen; omega))
  go_enter Tryz.func38, Tryz.ntmps38
  go_wp2_with (go_at_call 67; refine hc.mono ?_; rintro e w' ⟨rfl, rfl⟩)
  go_loopw [12] (fun i wr => ∃ j : Nat, j ≤ m ∧ i = .int .i64 j ∧ Own .u8 w'.heap.size 5 wr (.slice (some ⟨w'.heap.size, 0, none⟩) m m) (stL x j ++ List.replicate (m - j) 0) ∧ Below w'.heap.size w' wr) (fun i _ => m - (intOf i).toNat)
  case atStart => exact ⟨0, by omega, rfl, by simpa [stL] using HO.out, (Below.refl _ _).alloc (Nat.le_refl _) _⟩
  case round =>
    obtain ⟨j, hj, rfl, hown, hlow⟩ := hrel
    by_cases hlt : j < m
    · have hlen := stL_len x j
      have hlen2 : (stL x j ++ List.replicate (m - j) 0).length = m := by simp [hlen]; omega
      obtain ⟨g, cap, hv, hg1, hg2, hcell, hfr, hset⟩ := hown.part (by omega)
      rw [hlen2] at hcell hset hv
      simp only [Value.slice.injEq, Option.some.injEq, Addr.mk.injEq] at hv
      obtain ⟨⟨rfl, _, _⟩, _, rfl⟩ := hv
      have c1 := hcell j hlt
      have c2 := hfr j
      have HS := hid (hset j (x / 2 ^ (8 * j) % 256) hlt)
      have HF := hid (set_fill (l := stL x j) hlen hlt (x / 2 ^ (8 * j) % 256))
      have HL := hid hlow
      clear hcell hfr hset hown hlen hlen2 hlow
      go_wp2
      go_roundw
      case rel => exact ⟨j + 1, by omega, by go_num, by rw [show stL x (j + 1) = stL x j ++ [x / 2 ^ (8 * j) % 256] from rfl, ← HF.out]; exact HS.out, HL.out.setCell (Nat.le_refl _) _⟩
      case measure => simp [intOf]; omega
    · go_wp2
      go_ret
      obtain rfl : j = m := by omega
      exact ⟨_, rfl, by simpa using hown, hlow⟩

/-! ### octet.Xor and the reference's -/
end Go.Proofs.YtpjgpiieminaoaaGreatDoor

namespace Go.Proofs.YtpjgpiieminaoaaGreatDoor
open Go.RowKit

/-! ### Inc -/
def Bs (L : List Int) : Prop := ∀ z ∈ L, 0 ≤ z ∧ z ≤ 255
theorem Bs.set {L : List Int} (h : Bs L) (j : Nat) {z : Int} (hz : 0 ≤ z ∧ z ≤ 255) : Bs (L.set j z) := by
  intro x hx
  rcases List.mem_or_eq_of_mem_set hx with hx | rfl
  · exact h x hx
  · exact hz
end Go.Proofs.YtpjgpiieminaoaaGreatDoor

namespace Go.Proofs.YtpjgpiieminaoaaGreatDoor
open Go.RowKit

/-! ### Double -/
end Go.Proofs.YtpjgpiieminaoaaGreatDoor

namespace Go.Proofs.YtpjgpiieminaoaaGreatDoor
open Go.RowKit

set_option maxHeartbeats 400000 in
theorem refsame_any (v v' : Value) (xs ys : List Int) (w : World) (h : Rd .u8 w v xs) (h' : Rd .u8 w v' ys) :
    Calls Tryz.prog 13 #[v, v'] w fun e w' => e = .returned (.bool (decide (xs = ys))) ∧ w' = w := by
  have k1 := run_conv_rd (P := Tryz.prog) h Tryz.underlying47 Tryz.underlying5 9 Tryz.underlying9
  have k2 := run_conv_rd (P := Tryz.prog) h' Tryz.underlying47 Tryz.underlying5 9 Tryz.underlying9
  have HQ := hid (strOfNums_eq (wfs_of h) (wfs_of h'))
  obtain ⟨a, cap, rfl, _, _, _⟩ := h
  obtain ⟨a', cap', rfl, _, _, _⟩ := h'
  go_enter Tryz.func13, Tryz.ntmps13
  go_wp2
  go_ret
  exact ⟨ret_bool HQ.out, rfl⟩
end Go.Proofs.YtpjgpiieminaoaaGreatDoor

/- The octet layer's plain mathematics: what the program computes is what the reference computes. No walk. -/
namespace Go.Proofs.YtpjgpiieminaoaaGreatDoor
open Go.RowKit

theorem wu64 (n : Int) : IntKind.u64.wrap n = n % 18446744073709551616 := IntKind.wrap_u64 n

/-! Load -/
theorem or_add (x b k : Nat) (hx : x < 2 ^ k) : x ||| b * 2 ^ k = x + b * 2 ^ k := by
  rw [Nat.or_comm, ← Nat.shiftLeft_eq, ← Nat.shiftLeft_add_eq_or_of_lt hx]
  omega
/-! Store -/
theorem rsTo_div (x : Int) : ∀ k, rsTo x k = x / 2 ^ (8 * k)
  | 0 => by simp [rsTo]
  | k + 1 => by
    rw [rsTo, rsTo_div x k, Int.ediv_ediv_of_nonneg (Int.le_of_lt (Int.pow_pos (by decide)))]
    congr 1
    rw [show 8 * (k + 1) = 8 * k + 8 by omega, Int.pow_add]; rfl
theorem store_math (x : Int) : ∀ k, stL x k = rsL x k
  | 0 => rfl
  | k + 1 => by rw [stL, rsL, store_math x k, rsTo_div]

/-! Low -/
theorem low_math : ∀ m, m ≤ 64 → lowL m = rlow m := by
  have h : ∀ m, m < 65 → lowL m = rlow m := by decide +kernel
  exact fun m hm => h m (by omega)

/-! Rot -/
theorem rrTo_step (q t h c : Nat) (ht : t + q ≤ 9223372036854775808) (hh : h < q) (hc : c ≤ 1) :
    IntKind.u64.wrap (IntKind.u64.wrap (((c * 9223372036854775808 + t + h : Nat) : Int) * 2) + ((c * 9223372036854775808 + t + h : Nat) : Int) / 9223372036854775808) = ((t * 2 + h * 2 + c : Nat) : Int) := by
  obtain ⟨u, hu⟩ : ∃ u : Nat, u = t + h := ⟨_, rfl⟩
  have hu2 : u < 9223372036854775808 := by omega
  have e0 : c * 9223372036854775808 + t + h = c * 9223372036854775808 + u := by omega
  have hc' : c = 0 ∨ c = 1 := by omega
  rw [e0]
  have e1 : ((c * 9223372036854775808 + u : Nat) : Int) / 9223372036854775808 = (c : Int) := by omega
  have e2 : IntKind.u64.wrap (((c * 9223372036854775808 + u : Nat) : Int) * 2) = ((2 * u : Nat) : Int) := by
    rw [wu64]; rcases hc' with rfl | rfl <;> omega
  rw [e1, e2, wu64]
  rcases hc' with rfl | rfl <;> omega
/-- after m steps: the low 64-m bits lie m higher, the high m bits lie below. -/
theorem rrTo_form (X : Nat) (hX : X < 18446744073709551616) : ∀ m, m < 64 → rrTo (X : Int) m = (((X % 2 ^ (64 - m)) * 2 ^ m + X / 2 ^ (64 - m) : Nat) : Int)
  | 0, _ => by simp [rrTo]; omega
  | m + 1, hm => by
    have ih := rrTo_form X hX m (by omega)
    rw [rrTo, ih]
    obtain ⟨p, hp⟩ : ∃ p, 2 ^ (64 - (m + 1)) = p := ⟨_, rfl⟩
    obtain ⟨q, hq⟩ : ∃ q, 2 ^ m = q := ⟨_, rfl⟩
    have hp2 : 2 ^ (64 - m) = 2 * p := by rw [← hp, show 64 - m = (64 - (m + 1)) + 1 by omega, Nat.pow_succ, Nat.mul_comm]
    have hpq : p * q = 9223372036854775808 := by
      rw [← hp, ← hq, ← Nat.pow_add, show 64 - (m + 1) + m = 63 by omega]
    have hp0 : 0 < p := by rw [← hp]; exact Nat.two_pow_pos _
    have hq0 : 0 < q := by rw [← hq]; exact Nat.two_pow_pos _
    have hX2 : X < 2 * p * q * 1 * 1 := by rw [Nat.mul_one, Nat.mul_one, Nat.mul_assoc, hpq]; omega
    rw [Nat.pow_succ, hp, hp2, hq]
    have hH : X / (2 * p) < q := by
      rw [Nat.div_lt_iff_lt_mul (by omega)]
      calc X < 2 * p * q * 1 * 1 := hX2
        _ = q * (2 * p) := by rw [Nat.mul_one, Nat.mul_one, Nat.mul_comm]
    have hc : X / p % 2 ≤ 1 := by omega
    have e1 : X / p = 2 * (X / (2 * p)) + X / p % 2 := by
      have : X / (2 * p) = X / p / 2 := by rw [Nat.mul_comm, Nat.div_div_eq_div_mul]
      omega
    have e2 : X % (2 * p) = (X / p % 2) * p + X % p := by
      have h1 := Nat.div_add_mod X (2 * p)
      have h2 := Nat.div_add_mod X p
      have h3 : p * (X / p) = 2 * p * (X / (2 * p)) + (X / p % 2) * p := by
        conv => lhs; rw [e1]
        rw [Nat.mul_add]
        congr 1
        · rw [Nat.mul_comm 2 p, Nat.mul_assoc]
        · rw [Nat.mul_comm]
      omega
    have hL : X % p < p := Nat.mod_lt _ hp0
    have e3 : (X % (2 * p)) * q = (X / p % 2) * 9223372036854775808 + X % p * q := by
      rw [e2, Nat.add_mul, Nat.mul_assoc, hpq]
    have hLt : X % p * q + q ≤ 9223372036854775808 := by
      rw [← hpq, ← Nat.succ_mul]
      exact Nat.mul_le_mul_right _ hL
    rw [e3]
    have := rrTo_step q (X % p * q) (X / (2 * p)) (X / p % 2) hLt hH hc
    rw [this]
    have e4 : X % p * (q * 2) = X % p * q * 2 := by rw [Nat.mul_assoc]
    rw [e4]
    congr 1
    omega
theorem rot_math (x : Int) (hx : 0 ≤ x ∧ x ≤ 18446744073709551615) (m : Nat) (hm : m < 64) : rotl x m = rrTo x m := by
  obtain ⟨X, rfl⟩ := Int.eq_ofNat_of_zero_le hx.1
  have hX : X < 18446744073709551616 := by omega
  show rotl (X : Int) m = rrTo (X : Int) m
  rw [rrTo_form X hX m hm]
  unfold rotl
  have d : ((X : Int) / 2 ^ (64 - m)) = ((X / 2 ^ (64 - m) : Nat) : Int) := by simp
  have hsplit : 2 ^ (64 - m) * 2 ^ m = 18446744073709551616 := by rw [← Nat.pow_add, show 64 - m + m = 64 by omega]
  have hA : X * 2 ^ m % 18446744073709551616 = X % 2 ^ (64 - m) * 2 ^ m := by
    rw [← hsplit, Nat.mul_mod_mul_right]
  have e : IntKind.u64.wrap ((X : Int) * 2 ^ m) = ((X % 2 ^ (64 - m) * 2 ^ m : Nat) : Int) := by
    rw [wu64, ← hA]; simp
  have hB : X / 2 ^ (64 - m) < 2 ^ m := by
    rw [Nat.div_lt_iff_lt_mul (Nat.two_pow_pos _), Nat.mul_comm, hsplit]; exact hX
  have hM : X % 2 ^ (64 - m) * 2 ^ m < 18446744073709551616 := by rw [← hA]; exact Nat.mod_lt _ (by decide)
  rw [e, d, bits_or_u64_nat _ _ hM (by have := Nat.div_le_self X (2 ^ (64 - m)); omega), Nat.or_comm, or_add _ _ _ hB, Nat.add_comm]

/-! Same -/
end Go.Proofs.YtpjgpiieminaoaaGreatDoor

/- The octet layer's plain mathematics, more: doubling. No walk. -/
namespace Go.Proofs.YtpjgpiieminaoaaGreatDoor
open Go.RowKit

end Go.Proofs.YtpjgpiieminaoaaGreatDoor

/- Arrays of numbers that come in by value; more plain mathematics of the octet layer. -/
namespace Go.Proofs.YtpjgpiieminaoaaGreatDoor
open Go.ChangeShapes Go.WideShapes Go.ChangeAt Go.RowKit

/-! what is stored is loaded -/
/-! what is rotated comes back -/
/-! doubling is linear -/
end Go.Proofs.YtpjgpiieminaoaaGreatDoor

/- octet's rows put together, and held against others, as rows of numbers. -/
namespace Go.Proofs.YtpjgpiieminaoaaGreatDoor
open Go.RowKit
set_option maxRecDepth 100000
/-! ### Data and a stream -/
theorem same_ns (v v' : Value) (xs ys : List Int) (w : World) (h : Rd .u8 w v xs) (h' : Rd .u8 w v' ys) (e : xs = ys) : Calls Tryz.prog 13 #[v, v'] w fun e w' => e = .returned (.bool true) ∧ w' = w := by
  have := refsame_any v v' xs ys w h h'
  rwa [decide_eq_true e] at this
end Go.Proofs.YtpjgpiieminaoaaGreatDoor

/- Op: how many registers an op is of, and whether it may stand at a place, by the document. -/
namespace Go.Proofs.YtpjgpiieminaoaaGreatDoor
open Go.RowKit
set_option maxRecDepth 100000

theorem rgN_no {K n : Int} (h2 : ¬ n = 2) (h3 : ¬ n = 3) : rgN K n = 0 := by unfold rgN; rw [if_pos ⟨h2, h3⟩]
theorem rgN_zero {K n : Int} (h : K < 1 ∨ 12 < K) : rgN K n = 0 := by
  unfold rgN
  split
  · rfl
  · rw [if_neg (by omega), if_neg (by omega), if_neg (by omega), if_neg (by omega)]
set_option maxHeartbeats 3200000 in
theorem refregs_any (K n : Int) (w : World) : Calls Tryz.prog 73 #[.int .i64 K, .int .i64 n] w fun e w' => e = .returned (.int .i64 (rgN K n)) ∧ w' = w := by
  by_cases h2 : n = 2
  · subst h2
    rcases kindsL K with rfl | rfl | rfl | rfl | rfl | rfl | rfl | rfl | rfl | rfl | rfl | rfl | h
    rotate_right
    · rw [rgN_zero h]
      have q2 : ¬ K = 2 := by omega
      have q5 : ¬ K = 5 := by omega
      have q6 : ¬ K = 6 := by omega
      have q7 : ¬ K = 7 := by omega
      have q8 : ¬ K = 8 := by omega
      have q9 : ¬ K = 9 := by omega
      have q10 : ¬ K = 10 := by omega
      have q11 : ¬ K = 11 := by omega
      have q12 : ¬ K = 12 := by omega
      go_enter Tryz.func73, Tryz.ntmps73
      go_wp2
      go_ret
      exact ⟨rfl, rfl⟩
    all_goals
      simp only [rgN, reduceIte, Int.reduceEq]
      go_enter Tryz.func73, Tryz.ntmps73
      go_wp2
      go_ret
      exact ⟨rfl, rfl⟩
  · by_cases h3 : n = 3
    · subst h3
      rcases kindsL K with rfl | rfl | rfl | rfl | rfl | rfl | rfl | rfl | rfl | rfl | rfl | rfl | h
      rotate_right
      · rw [rgN_zero h]
        have q2 : ¬ K = 2 := by omega
        have q5 : ¬ K = 5 := by omega
        have q6 : ¬ K = 6 := by omega
        have q7 : ¬ K = 7 := by omega
        have q8 : ¬ K = 8 := by omega
        have q9 : ¬ K = 9 := by omega
        have q10 : ¬ K = 10 := by omega
        have q11 : ¬ K = 11 := by omega
        have q12 : ¬ K = 12 := by omega
        go_enter Tryz.func73, Tryz.ntmps73
        go_wp2
        go_ret
        exact ⟨rfl, rfl⟩
      all_goals
        simp only [rgN, reduceIte, Int.reduceEq]
        go_enter Tryz.func73, Tryz.ntmps73
        go_wp2
        go_ret
        exact ⟨rfl, rfl⟩
    · rw [rgN_no h2 h3]
      have g2 : (n != 2) = true := by simpa using h2
      have g3 : (n != 3) = true := by simpa using h3
      clear h2 h3
      go_enter Tryz.func73, Tryz.ntmps73
      go_wp2
      go_ret
      exact ⟨rfl, rfl⟩
/-- What stands in an op's box, in every later world. -/
theorem oc_box {w w' : World} (o : Op6) (h : Below (w.alloc (.cells #[.int .i64 o.K, .int .i64 o.D, .int .i64 o.A, .int .i64 o.B, .int .i64 o.E, .int .u64 (o.C : Int)] 66)).heap.size (w.alloc (.cells #[.int .i64 o.K, .int .i64 o.D, .int .i64 o.A, .int .i64 o.B, .int .i64 o.E, .int .u64 (o.C : Int)] 66)) w') : Oc w' w.heap.size 0 o := by
  have e : w'.heap[w.heap.size]? = some (.cells #[.int .i64 o.K, .int .i64 o.D, .int .i64 o.A, .int .i64 o.B, .int .i64 o.E, .int .u64 (o.C : Int)] 66 (0, 0)) := by rw [h.block _ (by simp)]; exact heap_alloc_new w _
  exact ⟨by rw [cell_of_row w' _ 0 _ _ _ e]; rfl, by rw [cell_of_row w' _ (0 + 1) _ _ _ e]; rfl, by rw [cell_of_row w' _ (0 + 2) _ _ _ e]; rfl, by rw [cell_of_row w' _ (0 + 3) _ _ _ e]; rfl, by rw [cell_of_row w' _ (0 + 4) _ _ _ e]; rfl, by rw [cell_of_row w' _ (0 + 5) _ _ _ e]; rfl⟩
theorem rgL_cell {w : World} {n : Nat} {o : Op6} {T : TypeId} (h : w.heap[n]? = some (.cells #[.int .i64 o.A, .int .i64 o.B, .int .i64 o.E] T (0, 0))) (j : Nat) (hj : j < 3) : w.cell? ⟨n, j, none⟩ = some (.int .i64 (rgL o j)) := by
  rw [cell_of_row w _ j _ _ _ h]
  rcases (by omega : j = 0 ∨ j = 1 ∨ j = 2) with rfl | rfl | rfl <;> rfl
theorem okH_no {o : Op6} {n : Int} (h : ¬ ((n = 2 ∨ n = 3) ∧ 1 ≤ o.K ∧ o.K ≤ 12 ∧ -1 ≤ o.D ∧ o.D < n ∧ (o.K = 12 → o.D = -1))) (at_ : Int) : okOp o at_ n = false := by
  unfold okOp okH; rw [decide_eq_false h]; rfl
theorem okH_yes {o : Op6} {n : Int} (h : (n = 2 ∨ n = 3) ∧ 1 ≤ o.K ∧ o.K ≤ 12 ∧ -1 ≤ o.D ∧ o.D < n ∧ (o.K = 12 → o.D = -1)) (at_ : Int) : okOp o at_ n = (allB (rgB o at_ n) 3 && okC o.K o.C) := by
  unfold okOp okH; rw [decide_eq_true h]; rfl
set_option maxHeartbeats 3200000 in
theorem refopright_head (o : Op6) (at_ n : Int) (w : World) (h : ¬ ((n = 2 ∨ n = 3) ∧ 1 ≤ o.K ∧ o.K ≤ 12 ∧ -1 ≤ o.D ∧ o.D < n ∧ (o.K = 12 → o.D = -1))) :
    Calls Tryz.prog 53 #[.agg #[.int .i64 o.K, .int .i64 o.D, .int .i64 o.A, .int .i64 o.B, .int .i64 o.E, .int .u64 (o.C : Int)], .int .i64 at_, .int .i64 n] w fun e w' => e = .returned (.bool false) ∧ Below w.heap.size w w' := by
  have HB : Hid (Below w.heap.size w (w.alloc (.cells #[.int .i64 o.K, .int .i64 o.D, .int .i64 o.A, .int .i64 o.B, .int .i64 o.E, .int .u64 (o.C : Int)] 66))) := hid ((Below.refl _ _).alloc (Nat.le_refl _) _)
  obtain ⟨K, D, A, B, E, C⟩ := o
  simp only at *
  by_cases h1 : n = 2 ∨ n = 3
  · have g0 : ((n != 2) && (n != 3)) = false := by rcases h1 with rfl | rfl <;> rfl
    have g1 : (n != 2) = false ∨ (n != 3) = false := by rcases h1 with rfl | rfl <;> simp
    by_cases h2 : K < 1
    · rcases h1 with rfl | rfl
      all_goals
        clear h g0 g1
        go_enter Tryz.func53, Tryz.ntmps53
        go_wp2
        go_ret
        exact ⟨rfl, HB.out⟩
    · by_cases h3 : 12 < K
      · rcases h1 with rfl | rfl
        all_goals
          clear h g0 g1
          go_enter Tryz.func53, Tryz.ntmps53
          go_wp2
          go_ret
          exact ⟨rfl, HB.out⟩
      · by_cases h4 : D < -1
        · rcases h1 with rfl | rfl
          all_goals
            clear h g0 g1
            go_enter Tryz.func53, Tryz.ntmps53
            go_wp2
            go_ret
            exact ⟨rfl, HB.out⟩
        · by_cases h5 : n ≤ D
          · rcases h1 with rfl | rfl
            all_goals
              clear h g0 g1
              go_enter Tryz.func53, Tryz.ntmps53
              go_wp2
              go_ret
              exact ⟨rfl, HB.out⟩
          · obtain ⟨rfl, h6⟩ : K = 12 ∧ ¬ D = -1 := by
              refine ⟨?_, fun e => h ⟨h1, by omega, by omega, by omega, by omega, fun _ => e⟩⟩
              refine Classical.byContradiction fun e => h ⟨h1, by omega, by omega, by omega, by omega, fun e' => absurd e' e⟩
            have g6 : (D != -1) = true := by simpa using h6
            rcases h1 with rfl | rfl
            all_goals
              clear h g0 g1 h6 h2 h3
              go_enter Tryz.func53, Tryz.ntmps53
              go_wp2
              go_ret
              exact ⟨rfl, HB.out⟩
  · have g2 : (n != 2) = true := by simp; omega
    have g3 : (n != 3) = true := by simp; omega
    clear h h1
    go_enter Tryz.func53, Tryz.ntmps53
    go_wp2
    go_ret
    exact ⟨rfl, HB.out⟩
end Go.Proofs.YtpjgpiieminaoaaGreatDoor
