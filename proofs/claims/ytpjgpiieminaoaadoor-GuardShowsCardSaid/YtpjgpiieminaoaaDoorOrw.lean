import Derived.Test.YtpjgpiieminaoaaDoorGen
import Derived.Deep.AppendLies
import Derived.Laws.Bits64
import Derived.Test.YtpjgpiieminaoaaDoorProg
import Derived.Laws.CopyOwn
/- General: rows of records that an object owns; what an object owns, and what leaves it alone. No program is named. -/
namespace Go.Proofs.YtpjgpiieminaoaaDoor
open Go.RowKit

/-- The cells of the first n records. -/
def recs (c : Nat → List Value) : Nat → List Value
  | 0 => []
  | n + 1 => recs c n ++ c n
theorem recs_len {c : Nat → List Value} {k : Nat} (hc : ∀ i, (c i).length = k) : ∀ n, (recs c n).length = n * k
  | 0 => by simp [recs]
  | n + 1 => by rw [recs, List.length_append, recs_len hc n, hc, Nat.add_mul, Nat.one_mul]
theorem recs_at {c : Nat → List Value} {k : Nat} (hc : ∀ i, (c i).length = k) {i j : Nat} (hj : j < k) : ∀ {n : Nat}, i < n → (recs c n)[i * k + j]? = (c i)[j]?
  | 0, h => by omega
  | n + 1, h => by
    rw [recs]
    have hl := recs_len hc n
    by_cases e : i = n
    · subst e
      rw [List.getElem?_append_right (by omega), hl, Nat.add_sub_cancel_left]
    · have hlt : i * k + j < n * k := by
        have h2 : (i + 1) * k ≤ n * k := Nat.mul_le_mul_right k (by omega)
        rw [Nat.add_mul, Nat.one_mul] at h2
        omega
      rw [List.getElem?_append_left (by omega)]
      exact recs_at hc hj (by omega)
theorem recs_ext {c d : Nat → List Value} : ∀ {n : Nat}, (∀ i, i < n → c i = d i) → recs c n = recs d n
  | 0, _ => rfl
  | n + 1, h => by rw [recs, recs, recs_ext (fun i hi => h i (by omega)), h n (by omega)]
/-- v is a row of n records c, of k cells each, that lies in a block from B on. -/
def Orw (w : World) (B : Nat) (E : TypeId) (k : Nat) (v : Value) (n : Nat) (c : Nat → List Value) : Prop := w.ownsRow B E k v n (recs c n)
section
variable {w w' : World} {B k n : Nat} {E : TypeId} {v : Value} {c : Nat → List Value}
theorem Orw.lt (h : Orw w B E k v n c) : ∀ j, v.ownBlock = some j → B ≤ j ∧ j < w.heap.size := World.ownsRow.lt h
theorem row_stays {xs : List Value} (h : w.ownsRow B E k v n xs) (hs : ∀ j, v.ownBlock = some j → w'.heap[j]? = w.heap[j]?) : w'.ownsRow B E k v n xs := by
  obtain ⟨h1, h2⟩ := h
  refine ⟨h1, ?_⟩
  rcases h2 with h2 | ⟨g, cap, cur, rfl, hg, hh, r⟩
  · exact .inl h2
  · exact .inr ⟨g, cap, cur, rfl, hg, (hs g rfl).trans hh, r⟩
theorem Orw.stays (h : Orw w B E k v n c) (hs : ∀ j, v.ownBlock = some j → w'.heap[j]? = w.heap[j]?) : Orw w' B E k v n c := row_stays h hs
theorem Orw.ext {d : Nat → List Value} (h : Orw w B E k v n c) (e : ∀ i, i < n → c i = d i) : Orw w B E k v n d := by unfold Orw at h ⊢; rw [← recs_ext e]; exact h
theorem Orw.slice (h : Orw w B E k v n c) : ∃ a cap, v = .slice a n cap ∧ n ≤ cap ∧ cap ≤ maxLen ∧ (∀ g, a = some g → v.ownBlock = some g.block ∧ g.off = 0 ∧ g.spot = none) ∧ (0 < n → ∃ g, a = some ⟨g, 0, none⟩) := by
  obtain ⟨_, h2⟩ := h
  rcases h2 with ⟨rfl, rfl⟩ | ⟨g, cap, cur, rfl, hg, hh, hn, hc, _⟩
  · refine ⟨none, 0, rfl, Nat.le_refl _, Nat.zero_le _, fun g e => ?_, fun h => by omega⟩
    cases e
  · exact ⟨some ⟨g, 0, none⟩, cap, rfl, hn, hc, fun a e => by injection e with e; subst e; exact ⟨rfl, rfl, rfl⟩, fun _ => ⟨g, rfl⟩⟩
theorem Orw.cell {g cap : Nat} (h : Orw w B E k (.slice (some ⟨g, 0, none⟩) n cap) n c) (hc : ∀ i, (c i).length = k) {i j : Nat} (hi : i < n) (hj : j < k) {u : Value} (hu : (c i)[j]? = some u) : w.cell? ⟨g, i * k + j, none⟩ = some u := by
  have := World.ownsRow.cells (g := g) h rfl (i * k + j) u (by rw [recs_at hc hj hi]; exact hu)
  simpa [Addr.add_lit] using this
end
/-- One record more; the row lies where it lay, or in the next new block. -/
theorem wp_append_rec {P : Program} {w : World} {o : Oper} {a : Act} {K : Act → World → Prop} {Q : Exit → Act → World → Prop} (s x : Operand) (t : TypeId)
    (ho : o.op = .call { callee := .builtin .append, args := #[s, x], argTypes := #[t, t] }) (B : Nat) (E : TypeId) (k by_ : Nat) (z : Value) (ht : P.underlying t = some (.slice E))
    (hinfo : (P.info? E).map (fun i => (i.zero, i.size, i.bytes)) = some (some z, k, by_)) (hz : z.cells.size = k) (hk : 0 < k)
    (sv : Value) (n : Nat) (c : Nat → List Value) (hs : a.eval s = sv) (hown : Orw w B E k sv n c) (ad : Addr) (cap : Nat) (hx : a.eval x = .slice (some ad) 1 cap) (hl : (c n).length = k) (hone : ∀ u ∈ c n, u.oneCell' = true)
    (hns : ∀ j u, (c n)[j]? = some u → w.cell? (ad.add j) = some u) (hm : n + 1 ≤ maxLen) (hlim : (n + 1) * by_ ≤ 140737488355328) (hB : B ≤ w.heap.size)
    (h : ∀ g cap' w', Orw w' B E k (.slice (some ⟨g, 0, none⟩) (n + 1) cap') (n + 1) c → w.grownBy w' sv.ownBlock → (sv.ownBlock = some g ∨ g = w.heap.size) → K (a.put o.dst (.slice (some ⟨g, 0, none⟩) (n + 1) cap')) w') : o.wp P a w K Q := by
  cases hq : P.info? E with
  | none => simp [hq] at hinfo
  | some i =>
    rw [hq] at hinfo
    simp only [Option.map_some, Option.some.injEq, Prod.mk.injEq] at hinfo
    obtain ⟨h1, h2, h3⟩ := hinfo
    exact wp_append_lies w s x t ho B E i z k by_ ht hq h1 h2 h3 hz hk sv n (recs c n) hs hown ad 1 cap (c n) hx (by omega) hns hone (by decide) hm hlim hB w.heap.size rfl (fun g cap' w' g1 g2 g3 _ => h g cap' w' g1 g2 g3)

/-- Nothing but what is in F, and new blocks, is touched. -/
structure Tch (F : Nat → Prop) (w w' : World) : Prop where
  os : w'.os = w.os
  tape : w'.tape = w.tape
  output : w'.output = w.output
  size : w.heap.size ≤ w'.heap.size
  block : ∀ k, k < w.heap.size → ¬ F k → w'.heap[k]? = w.heap[k]?
namespace Tch
variable {F G : Nat → Prop} {w w' w2 : World}
theorem refl (F : Nat → Prop) (w : World) : Tch F w w := ⟨rfl, rfl, rfl, Nat.le_refl _, fun _ _ _ => rfl⟩
theorem trans (h : Tch F w w') (k : Tch G w' w2) (hG : ∀ j, j < w.heap.size → G j → F j) : Tch F w w2 :=
  ⟨k.os.trans h.os, k.tape.trans h.tape, k.output.trans h.output, Nat.le_trans h.size k.size, fun j hj hF => (k.block j (Nat.lt_of_lt_of_le hj h.size) (fun g => hF (hG j hj g))).trans (h.block j hj hF)⟩
theorem mono (h : Tch F w w') (hF : ∀ j, j < w.heap.size → F j → G j) : Tch G w w' := ⟨h.os, h.tape, h.output, h.size, fun j hj hG => h.block j hj (fun f => hG (hF j hj f))⟩
theorem of_below (h : Below w.heap.size w w') : Tch F w w' := ⟨h.os, h.tape, h.output, h.size, fun k hk _ => h.block k hk⟩
theorem of_grown {r : Option Nat} (h : w.grownBy w' r) (hr : ∀ k, r = some k → F k) : Tch F w w' := ⟨h.os, h.tape, h.output, h.size, fun k hk hF => h.block k hk (fun e => hF (hr k e.symm))⟩
theorem below {B : Nat} (h : Tch F w w') (hF : ∀ k, F k → B ≤ k) (hB : B ≤ w.heap.size) : Below B w w' := ⟨h.os, h.tape, h.output, h.size, fun k hk => h.block k (by omega) (fun f => by have := hF k f; omega)⟩
theorem set (w : World) {b o : Nat} (v : Value) (hb : F b) : Tch F w (w.setCell ⟨b, o, none⟩ v) := ⟨rfl, rfl, rfl, by simp [World.setCell], fun k _ hF => heap_setCell_other w ⟨b, o, none⟩ k v (fun e => hF (e ▸ hb))⟩
end Tch
end Go.Proofs.YtpjgpiieminaoaaDoor

/- General: traces: what may be, tallies, what is opened; as numbers. No program is named. -/
namespace Go.Proofs.YtpjgpiieminaoaaDoor

/-- Do all of the first n have p? -/
def allB (p : Nat → Bool) : Nat → Bool
  | 0 => true
  | n + 1 => allB p n && p n
theorem allB_all {p : Nat → Bool} : ∀ {n : Nat}, allB p n = true → ∀ i, i < n → p i = true
  | n + 1, h, i, hi => by
    rw [allB, Bool.and_eq_true] at h
    by_cases e : i = n
    · subst e; exact h.2
    · exact allB_all h.1 i (by omega)
theorem allB_of {p : Nat → Bool} : ∀ {n : Nat}, (∀ i, i < n → p i = true) → allB p n = true
  | 0, _ => rfl
  | n + 1, h => by rw [allB, allB_of (fun i hi => h i (by omega)), h n (by omega)]; rfl
theorem allB_no {p : Nat → Bool} {n i : Nat} (hi : i < n) (h : p i = false) : allB p n = false := by
  cases e : allB p n
  · rfl
  · have := allB_all e i hi; rw [h] at this; cases this
/-- How many registers an op of kind K is of, in a machine of n shares. -/
def rgN (K n : Int) : Int := if n ≠ 2 ∧ n ≠ 3 then 0 else if K = 2 then n - 1 else if K = 5 ∨ K = 7 then 2 else if K = 6 ∨ K = 8 ∨ K = 9 ∨ K = 10 ∨ K = 11 then 1 else if K = 12 then n else 0
/-- The three registers of an op. -/
def rgL (o : Op6) (j : Nat) : Int := if j = 0 then o.A else if j = 1 then o.B else o.E
/-- Is the register of place j as it should be? -/
def rgB (o : Op6) (at_ n : Int) (j : Nat) : Bool := if (j : Int) < rgN o.K n then decide (0 ≤ rgL o j ∧ rgL o j < at_) else decide (rgL o j = -1)
def okC (K : Int) (C : Nat) : Bool := if K = 9 ∨ K = 10 ∨ K = 11 then decide (C < 64) else if K = 2 then decide (C < 1048576) else if K = 3 ∨ K = 4 ∨ K = 8 then true else decide (C = 0)
def okH (o : Op6) (n : Int) : Bool := decide ((n = 2 ∨ n = 3) ∧ 1 ≤ o.K ∧ o.K ≤ 12 ∧ -1 ≤ o.D ∧ o.D < n ∧ (o.K = 12 → o.D = -1))
/-- May an op stand at a place? -/
def okOp (o : Op6) (at_ n : Int) : Bool := okH o n && allB (rgB o at_ n) 3 && okC o.K o.C
/-- How many ops of the first i are of kind k. -/
def cnt (p : Op6 → Bool) (f : Nat → Op6) : Nat → Nat
  | 0 => 0
  | i + 1 => cnt p f i + (if p (f i) then 1 else 0)
/-- An op's class: its kind, or 0. -/
def kd (o : Op6) : Nat := if o.K < 1 ∨ 12 < o.K then 0 else o.K.toNat
/-- Is the op of place i as it should be, in a trace of N shares? -/
def okO (N : Int) (f : Nat → Op6) (i : Nat) : Bool := okOp (f i) (i : Int) N && decide ((f i).K = 2 → (f i).C = cnt (fun o => decide (o.K = 2)) f i)
/-- Where the block ahead ends. -/
def lastT (g : Nat → Sp3) (j : Nat) : Int := if j = 0 then 0 else (g (j - 1)).T
def okS (L : Nat) (g : Nat → Sp3) (j : Nat) : Bool := decide ((1 ≤ (g j).K ∧ (g j).K ≤ 3) ∧ lastT g j ≤ (g j).F ∧ (g j).F < (g j).T ∧ (g j).T ≤ (L : Int))
/-- May a trace be? -/
def trB (N : Int) (L M : Nat) (f : Nat → Op6) (g : Nat → Sp3) : Bool := decide ((N = 2 ∨ N = 3) ∧ L ≤ 1048576) && allB (okO N f) L && allB (okS L g) M
end Go.Proofs.YtpjgpiieminaoaaDoor

/- Keccak's permutation, as numbers: words below 2^64 by place x + 5 y. No program is named. -/
namespace Go.Proofs.YtpjgpiieminaoaaDoor

/-- A word, rotated to the left by m. -/
def rt (x m : Nat) : Nat := x * 2 ^ m % 2 ^ 64 ||| x / 2 ^ (64 - m)
theorem rt_lt {x m : Nat} (hx : x < 2 ^ 64) : rt x m < 2 ^ 64 := by
  unfold rt
  exact Nat.or_lt_two_pow (Nat.mod_lt _ (by decide)) (Nat.lt_of_le_of_lt (Nat.div_le_self _ _) hx)
theorem bit_none {x j : Nat} (hx : x < 2 ^ 64) (hj : 64 ≤ j) : x.testBit j = false :=
  Nat.testBit_lt_two_pow (Nat.lt_of_lt_of_le hx (Nat.pow_le_pow_right (by decide) hj))
theorem rt_bit {x m j : Nat} (hx : x < 2 ^ 64) (hm : m ≤ 64) (hj : j < 64) : (rt x m).testBit j = x.testBit ((j + (64 - m)) % 64) := by
  unfold rt
  rw [Nat.testBit_or, Nat.testBit_mod_two_pow, Nat.testBit_mul_two_pow, Nat.testBit_div_two_pow]
  simp only [hj, decide_true, Bool.true_and]
  by_cases h : m ≤ j
  · rw [show (j + (64 - m)) % 64 = j - m by omega]
    by_cases h0 : m = 0
    · subst h0
      rw [bit_none hx (show 64 ≤ j + (64 - 0) by omega)]
      simp
    · rw [bit_none hx (show 64 ≤ j + (64 - m) by omega)]
      simp [h]
  · rw [show (j + (64 - m)) % 64 = j + (64 - m) by omega]
    simp [h]
theorem word_ext {x y : Nat} (hx : x < 2 ^ 64) (hy : y < 2 ^ 64) (h : ∀ j, j < 64 → x.testBit j = y.testBit j) : x = y :=
  Nat.eq_of_testBit_eq fun j => by
    by_cases hj : j < 64
    · exact h j hj
    · rw [bit_none hx (by omega), bit_none hy (by omega)]
theorem rt_xor {x y m : Nat} (hx : x < 2 ^ 64) (hy : y < 2 ^ 64) (hm : m ≤ 64) : rt (x ^^^ y) m = rt x m ^^^ rt y m :=
  word_ext (rt_lt (Nat.xor_lt_two_pow hx hy)) (Nat.xor_lt_two_pow (rt_lt hx) (rt_lt hy)) fun j hj => by
    rw [Nat.testBit_xor, rt_bit (Nat.xor_lt_two_pow hx hy) hm hj, rt_bit hx hm hj, rt_bit hy hm hj, Nat.testBit_xor]

/-- Two states are one. -/
def Eq25 (f g : Nat → Nat) : Prop := ∀ i, i < 25 → f i = g i
theorem Eq25.refl (f : Nat → Nat) : Eq25 f f := fun _ _ => rfl
theorem Eq25.symm {f g : Nat → Nat} (h : Eq25 f g) : Eq25 g f := fun i hi => (h i hi).symm
theorem Eq25.trans {f g k : Nat → Nat} (h : Eq25 f g) (h' : Eq25 g k) : Eq25 f k := fun i hi => (h i hi).trans (h' i hi)
/-- Two states, put together. -/
def sm (f g : Nat → Nat) : Nat → Nat := fun i => f i ^^^ g i
theorem xr_left (a b c : Nat) : a ^^^ (b ^^^ c) = b ^^^ (a ^^^ c) := by rw [← Nat.xor_assoc, Nat.xor_comm a b, Nat.xor_assoc]
/-! ### theta -/
/-- The sum of a column. -/
def co (f : Nat → Nat) (x : Nat) : Nat := f x ^^^ f (x + 5) ^^^ f (x + 10) ^^^ f (x + 15) ^^^ f (x + 20)
/-- A map of the columns' sums c, laid onto each word of its column. -/
def ly (f : Nat → Nat) (c : Nat → Nat) : Nat → Nat := fun i => f i ^^^ c (i % 5)
/-! ### move -/
/-- Where the word at j comes from, and where the word at i goes to. -/
def src (j : Nat) : Nat := (j % 5 + 3 * (j / 5)) % 5 + 5 * (j % 5)
def dst (i : Nat) : Nat := i / 5 + 5 * ((2 * (i % 5) + 3 * (i / 5)) % 5)
def bm (t : Nat → Nat) (f : Nat → Nat) : Nat → Nat := fun i => rt (f (dst i)) ((64 - t i) % 64)
section
variable {t f g : Nat → Nat}
end
/-! ### chi -/
/-! ### rounds -/
section
variable {t mk f g : Nat → Nat}
end
end Go.Proofs.YtpjgpiieminaoaaDoor

/- General: words of 64 bits, and what ops make of them, as numbers. No program is named. -/
namespace Go.Proofs.YtpjgpiieminaoaaDoor

theorem wx64 {a b : Nat} (ha : a < 2 ^ 64) (hb : b < 2 ^ 64) : bits .xor .u64 (a : Int) (b : Int) = ((a ^^^ b : Nat) : Int) := bits_xor_u64_nat a b (by omega) (by omega)
theorem wn64 {a b : Nat} (ha : a < 2 ^ 64) (hb : b < 2 ^ 64) : bits .and .u64 (a : Int) (b : Int) = ((a &&& b : Nat) : Int) := by
  have h1 : (BitVec.ofInt 64 (a : Int)).toNat = a := by
    rw [BitVec.ofInt_natCast, BitVec.toNat_ofNat]; exact Nat.mod_eq_of_lt (by omega)
  have h2 : (BitVec.ofInt 64 (b : Int)).toNat = b := by
    rw [BitVec.ofInt_natCast, BitVec.toNat_ofNat]; exact Nat.mod_eq_of_lt (by omega)
  have hx : a &&& b < 2 ^ 64 := Nat.and_lt_two_pow _ hb
  show IntKind.u64.wrap ((BitVec.ofInt 64 (a : Int) &&& BitVec.ofInt 64 (b : Int)).toNat : Int) = _
  rw [BitVec.toNat_and, h1, h2, IntKind.wrap_u64]
  omega
theorem xr_lt {a b : Nat} (ha : a < 2 ^ 64) (hb : b < 2 ^ 64) : a ^^^ b < 2 ^ 64 := Nat.xor_lt_two_pow ha hb
theorem an_lt {a b : Nat} (ha : a < 2 ^ 64) : a &&& b < 2 ^ 64 := Nat.lt_of_le_of_lt Nat.and_le_left ha

/-- A word with each bit turned. -/
def wnt (a : Nat) : Nat := 2 ^ 64 - 1 - a
theorem wnt_lt (a : Nat) : wnt a < 2 ^ 64 := by unfold wnt; omega
theorem wnt_bit {a j : Nat} (ha : a < 2 ^ 64) (hj : j < 64) : (wnt a).testBit j = !a.testBit j := by
  unfold wnt
  rw [show 2 ^ 64 - 1 - a = 2 ^ 64 - (a + 1) by omega, Nat.testBit_two_pow_sub_succ ha]
  simp [hj]
theorem wnt_max {a : Nat} (ha : a < 2 ^ 64) : (2 ^ 64 - 1) ^^^ a = wnt a :=
  word_ext (xr_lt (by decide) ha) (wnt_lt _) fun j hj => by
    rw [Nat.testBit_xor, wnt_bit ha hj, Nat.testBit_two_pow_sub_one, decide_eq_true hj]; cases a.testBit j <;> rfl
/-- A word, moved up, 0s from below. -/
def wsl (a k : Nat) : Nat := a * 2 ^ k % 2 ^ 64
theorem wsl_lt (a k : Nat) : wsl a k < 2 ^ 64 := Nat.mod_lt _ (by decide)
theorem wsl_bit (a k : Nat) {j : Nat} (hj : j < 64) : (wsl a k).testBit j = (decide (k ≤ j) && a.testBit (j - k)) := by
  unfold wsl
  rw [Nat.testBit_mod_two_pow, ← Nat.shiftLeft_eq, Nat.testBit_shiftLeft]
  simp [hj]
/-- A word, moved down. -/
def wsr (a k : Nat) : Nat := a / 2 ^ k
theorem wsr_lt {a : Nat} (ha : a < 2 ^ 64) (k : Nat) : wsr a k < 2 ^ 64 := Nat.lt_of_le_of_lt (Nat.div_le_self _ _) ha
theorem wsr_bit (a k j : Nat) : (wsr a k).testBit j = a.testBit (j + k) := by
  unfold wsr
  rw [← Nat.shiftRight_eq_div_pow, Nat.testBit_shiftRight, Nat.add_comm]
theorem wsl_xor (a b k : Nat) : wsl (a ^^^ b) k = wsl a k ^^^ wsl b k :=
  word_ext (wsl_lt _ _) (xr_lt (wsl_lt _ _) (wsl_lt _ _)) fun j hj => by
    rw [Nat.testBit_xor, wsl_bit _ _ hj, wsl_bit _ _ hj, wsl_bit _ _ hj, Nat.testBit_xor]
    cases decide (k ≤ j) <;> simp
theorem wsr_xor {a b : Nat} (ha : a < 2 ^ 64) (hb : b < 2 ^ 64) (k : Nat) : wsr (a ^^^ b) k = wsr a k ^^^ wsr b k :=
  word_ext (wsr_lt (xr_lt ha hb) _) (xr_lt (wsr_lt ha _) (wsr_lt hb _)) fun j _ => by
    rw [Nat.testBit_xor, wsr_bit, wsr_bit, wsr_bit, Nat.testBit_xor]
theorem wmk_xor {a a' c : Nat} : (a ^^^ a') &&& c = a &&& c ^^^ a' &&& c := by
  refine Nat.eq_of_testBit_eq fun j => ?_
  simp only [Nat.testBit_and, Nat.testBit_xor]
  cases a.testBit j <;> cases a'.testBit j <;> cases c.testBit j <;> rfl
theorem x4 (a b c d : Nat) : (a ^^^ b) ^^^ (c ^^^ d) = (a ^^^ c) ^^^ (b ^^^ d) := by
  simp only [Nat.xor_assoc, xr_left b c d]

/-- What an op of kind K with constant C makes of words. -/
def evN (K : Int) (C a b d x : Nat) : Nat :=
  if K = 1 then x else if K = 2 then x ^^^ a ^^^ b else if K = 3 then C else if K = 4 then C else if K = 5 then a ^^^ b else if K = 6 then wnt a else if K = 7 then a &&& b else if K = 8 then a &&& C
  else if K = 9 then wsl a (C % 64) else if K = 10 then wsr a (C % 64) else if K = 11 then rt a (C % 64) else if K = 12 then a ^^^ b ^^^ d else 0
theorem ev1 (C a b d x : Nat) : evN 1 C a b d x = x := by simp [evN]
theorem ev2 (C a b d x : Nat) : evN 2 C a b d x = x ^^^ a ^^^ b := by simp [evN]
theorem ev3 (C a b d x : Nat) : evN 3 C a b d x = C := by simp [evN]
theorem ev4 (C a b d x : Nat) : evN 4 C a b d x = C := by simp [evN]
theorem ev5 (C a b d x : Nat) : evN 5 C a b d x = a ^^^ b := by simp [evN]
theorem ev6 (C a b d x : Nat) : evN 6 C a b d x = wnt a := by simp [evN]
theorem ev7 (C a b d x : Nat) : evN 7 C a b d x = a &&& b := by simp [evN]
theorem ev8 (C a b d x : Nat) : evN 8 C a b d x = a &&& C := by simp [evN]
theorem ev9 (C a b d x : Nat) : evN 9 C a b d x = wsl a (C % 64) := by simp [evN]
theorem ev10 (C a b d x : Nat) : evN 10 C a b d x = wsr a (C % 64) := by simp [evN]
theorem ev11 (C a b d x : Nat) : evN 11 C a b d x = rt a (C % 64) := by simp [evN]
theorem ev12 (C a b d x : Nat) : evN 12 C a b d x = a ^^^ b ^^^ d := by simp [evN]
theorem ev0 {K : Int} (h : K < 1 ∨ 12 < K) (C a b d x : Nat) : evN K C a b d x = 0 := by
  unfold evN
  rw [if_neg (by omega), if_neg (by omega), if_neg (by omega), if_neg (by omega), if_neg (by omega), if_neg (by omega), if_neg (by omega), if_neg (by omega), if_neg (by omega), if_neg (by omega), if_neg (by omega), if_neg (by omega)]
theorem kinds12 (K : Int) : K = 1 ∨ K = 2 ∨ K = 3 ∨ K = 4 ∨ K = 5 ∨ K = 6 ∨ K = 7 ∨ K = 8 ∨ K = 9 ∨ K = 10 ∨ K = 11 ∨ K = 12 ∨ (K < 1 ∨ 12 < K) := by omega
theorem evN_lt {K : Int} {C a b d x : Nat} (hC : C < 2 ^ 64) (ha : a < 2 ^ 64) (hb : b < 2 ^ 64) (hd : d < 2 ^ 64) (hx : x < 2 ^ 64) : evN K C a b d x < 2 ^ 64 := by
  rcases kinds12 K with rfl | rfl | rfl | rfl | rfl | rfl | rfl | rfl | rfl | rfl | rfl | rfl | h
  · rw [ev1]; exact hx
  · rw [ev2]; exact xr_lt (xr_lt hx ha) hb
  · rw [ev3]; exact hC
  · rw [ev4]; exact hC
  · rw [ev5]; exact xr_lt ha hb
  · rw [ev6]; exact wnt_lt _
  · rw [ev7]; exact an_lt ha
  · rw [ev8]; exact an_lt ha
  · rw [ev9]; exact wsl_lt _ _
  · rw [ev10]; exact wsr_lt ha _
  · rw [ev11]; exact rt_lt ha
  · rw [ev12]; exact xr_lt (xr_lt ha hb) hd
  · rw [ev0 h]; decide
end Go.Proofs.YtpjgpiieminaoaaDoor

/- General: the machine that has every word as shares, as numbers. No program is named. -/
namespace Go.Proofs.YtpjgpiieminaoaaDoor

def updO (f : Nat → Op6) (j : Nat) (o : Op6) : Nat → Op6 := fun i => if i = j then o else f i
def updS (g : Nat → Sp3) (j : Nat) (s : Sp3) : Nat → Sp3 := fun i => if i = j then s else g i
def updN (v : Nat → Nat) (j : Nat) (z : Nat) : Nat → Nat := fun i => if i = j then z else v i
theorem updO_at (f : Nat → Op6) (j : Nat) (o : Op6) : updO f j o j = o := by simp [updO]
theorem updO_no (f : Nat → Op6) {j i : Nat} (o : Op6) (h : i ≠ j) : updO f j o i = f i := by simp [updO, h]
theorem updS_at (g : Nat → Sp3) (j : Nat) (s : Sp3) : updS g j s j = s := by simp [updS]
theorem updS_no (g : Nat → Sp3) {j i : Nat} (s : Sp3) (h : i ≠ j) : updS g j s i = g i := by simp [updS, h]
theorem updN_at (v : Nat → Nat) (j z : Nat) : updN v j z j = z := by simp [updN]
theorem updN_no (v : Nat → Nat) {j i : Nat} (z : Nat) (h : i ≠ j) : updN v j z i = v i := by simp [updN, h]

/-- A machine: shares, bound, words of keys, masks drawn, where the open block began, ops ahead (of a dry one), the open block's kind, the error, ops, blocks, words; the tape's words, how many there are, how many are used, how many may be drawn. -/
structure Ms where
  n : Int
  most : Int
  words : Nat
  draws : Nat
  fr : Nat
  skip : Nat
  kind : Int
  e : Nat
  L : Nat
  f : Nat → Op6
  M : Nat
  g : Nat → Sp3
  v : Nat → Nat
  tw : Nat → Nat
  TN : Nat
  used : Nat
  free : Nat
  dry : Bool
/-- A register's word; 0 of none. -/
def wordAt (v : Nat → Nat) (L : Nat) (r : Int) : Nat := if 0 ≤ r ∧ r < (L : Int) then v r.toNat else 0
namespace Ms
def len (S : Ms) : Nat := S.skip + S.L
def bad (S : Ms) (o : Op6) : Bool := !(okOp o (S.len : Int) S.n) || decide (o.K = 2 ∧ o.C ≠ S.words)
def full (S : Ms) : Bool := !S.dry && decide (S.most ≤ (S.len : Int))
def out (S : Ms) (o : Op6) : Bool := decide (o.K = 1) && !S.dry && decide (S.free < 1 ∨ S.TN ≤ S.used)
def word (S : Ms) (o : Op6) (x : Nat) : Nat := if o.K = 1 ∧ S.dry = false then S.tw S.used else x
def makes (S : Ms) (o : Op6) (x : Nat) : Nat := evN o.K o.C (wordAt S.v S.L o.A) (wordAt S.v S.L o.B) (wordAt S.v S.L o.E) (S.word o x)
def put (S : Ms) (o : Op6) (x : Nat) : Ms :=
  { S with
    draws := if o.K = 1 then S.draws + 1 else S.draws
    words := if o.K = 2 then S.words + 1 else S.words
    used := if o.K = 1 ∧ S.dry = false then S.used + 1 else S.used
    free := if o.K = 1 ∧ S.dry = false then S.free - 1 else S.free
    L := S.L + 1
    f := updO S.f S.L o
    v := updN S.v S.L (S.makes o x) }
/-- An op is done, or an error stays. -/
def doS (S : Ms) (o : Op6) (x : Nat) : Ms := if S.e ≠ 0 then S else if S.bad o = true then { S with e := 1 } else if S.full = true then { S with e := 3 } else if S.out o = true then { S with e := 2 } else S.put o x
def doR (S : Ms) (o : Op6) : Int := if S.e ≠ 0 ∨ S.bad o = true ∨ S.full = true ∨ S.out o = true then -1 else (S.len : Int)
def beginS (S : Ms) (k : Int) : Ms := if S.e ≠ 0 then S else if S.kind ≠ 0 ∨ k < 1 ∨ 3 < k then { S with e := 1 } else { S with kind := k, fr := S.len }
def endS (S : Ms) : Ms :=
  if S.e ≠ 0 then S else if S.kind = 0 then { S with e := 1 }
  else if S.fr < S.len then { S with M := S.M + 1, g := updS S.g S.M ⟨S.kind, (S.fr : Int), (S.len : Int)⟩, kind := 0 } else { S with kind := 0 }
end Ms

/-! ### what a wet machine did is a trace that may be -/
/-- The outside word of the op of place i. -/
def wdAt (f : Nat → Op6) (mk : Nat → Nat) (TN : Nat) (ks : Nat → Nat) (KN : Nat) (i : Nat) : Nat :=
  if (f i).K = 1 ∧ cnt (fun o => decide (o.K = 1)) f i < TN then mk (cnt (fun o => decide (o.K = 1)) f i) else if (f i).K = 2 ∧ (f i).C < KN then ks (f i).C else 0
/-- Is the word of place i what its op makes? -/
def okW (f : Nat → Op6) (v : Nat → Nat) (L : Nat) (mk : Nat → Nat) (TN : Nat) (ks : Nat → Nat) (KN : Nat) (i : Nat) : Prop :=
  v i = evN (f i).K (f i).C (wordAt v L (f i).A) (wordAt v L (f i).B) (wordAt v L (f i).E) (wdAt f mk TN ks KN i)
structure Wi (S : Ms) (ks : Nat → Nat) (KN : Nat) : Prop where
  wet : S.dry = false
  sk : S.skip = 0
  hn : S.n = 2 ∨ S.n = 3
  ops : ∀ i, i < S.L → okO S.n S.f i = true
  wk : S.words = cnt (fun o => decide (o.K = 2)) S.f S.L
  kn : KN = S.words
  us : S.used = cnt (fun o => decide (o.K = 1)) S.f S.L
  le : S.used ≤ S.TN
  blk : ∀ j, j < S.M → okS S.L S.g j = true
  open_ : S.kind ≠ 0 → (1 ≤ S.kind ∧ S.kind ≤ 3) ∧ lastT S.g S.M ≤ (S.fr : Int) ∧ S.fr ≤ S.L
  last : lastT S.g S.M ≤ (S.L : Int)
  word : ∀ i, i < S.L → okW S.f S.v S.L S.tw S.TN ks KN i
theorem cnt_upd {p : Op6 → Bool} {f : Nat → Op6} {L : Nat} {o : Op6} : ∀ {i : Nat}, i ≤ L → cnt p (updO f L o) i = cnt p f i
  | 0, _ => rfl
  | i + 1, h => by rw [cnt, cnt, cnt_upd (by omega), updO_no f o (by omega)]
theorem cnt_updN {p : Op6 → Bool} {f : Nat → Op6} {L : Nat} {o : Op6} : cnt p (updO f L o) (L + 1) = cnt p f L + (if p o = true then 1 else 0) := by
  rw [cnt, cnt_upd (Nat.le_refl _), updO_at]
theorem okO_upd {n : Int} {f : Nat → Op6} {L : Nat} {o : Op6} {i : Nat} (h : i < L) : okO n (updO f L o) i = okO n f i := by
  unfold okO
  rw [updO_no f o (by omega), cnt_upd (by omega)]
/-- Registers of an op that may stand. -/
theorem okOp_regs {o : Op6} {i : Nat} {n : Int} (h : okOp o (i : Int) n = true) : o.A < (i : Int) ∧ o.B < (i : Int) ∧ o.E < (i : Int) := by
  unfold okOp at h
  rw [Bool.and_eq_true, Bool.and_eq_true] at h
  have hr := allB_all h.1.2
  have key : ∀ j, j < 3 → rgL o j < (i : Int) := fun j hj => by
    have := hr j hj
    unfold rgB at this
    split at this
    · have := of_decide_eq_true this; exact this.2
    · have := of_decide_eq_true this; omega
  exact ⟨key 0 (by omega), key 1 (by omega), key 2 (by omega)⟩
theorem wordAt_upd {v : Nat → Nat} {L z : Nat} {r : Int} (h : r < (L : Int)) : wordAt (updN v L z) (L + 1) r = wordAt v L r := by
  unfold wordAt
  by_cases h0 : 0 ≤ r
  · rw [if_pos ⟨h0, by omega⟩, if_pos ⟨h0, h⟩, updN_no v z (by omega)]
  · rw [if_neg (fun e => h0 e.1), if_neg (fun e => h0 e.1)]
theorem okS_more {L : Nat} {g : Nat → Sp3} {j : Nat} (h : okS L g j = true) : okS (L + 1) g j = true := by
  unfold okS at h ⊢
  have := of_decide_eq_true h
  exact decide_eq_true ⟨this.1, this.2.1, this.2.2.1, by omega⟩
theorem lastT_upd {g : Nat → Sp3} {M : Nat} {s : Sp3} {j : Nat} (h : j ≤ M) : lastT (updS g M s) j = lastT g j := by
  unfold lastT
  split
  · rfl
  · rw [updS_no g s (by omega)]
theorem okS_upd {L : Nat} {g : Nat → Sp3} {M : Nat} {s : Sp3} {j : Nat} (h : j < M) : okS L (updS g M s) j = okS L g j := by
  unfold okS
  rw [lastT_upd (by omega), updS_no g s (by omega)]
theorem Wi.fails {S : Ms} {ks : Nat → Nat} {KN : Nat} (h : Wi S ks KN) (e : Nat) : Wi { S with e := e } ks KN := ⟨h.wet, h.sk, h.hn, h.ops, h.wk, h.kn, h.us, h.le, h.blk, h.open_, h.last, h.word⟩
theorem Wi.begins {S : Ms} {ks : Nat → Nat} {KN : Nat} (h : Wi S ks KN) (k : Int) : Wi (S.beginS k) ks KN := by
  unfold Ms.beginS
  split
  · exact h
  · split
    · exact h.fails 1
    · rename_i h2
      have hl : S.len = S.L := by unfold Ms.len; rw [h.sk]; omega
      exact ⟨h.wet, h.sk, h.hn, h.ops, h.wk, h.kn, h.us, h.le, h.blk, fun _ => ⟨by show 1 ≤ k ∧ k ≤ 3; omega, by show lastT S.g S.M ≤ (S.len : Int); rw [hl]; exact h.last, by show S.len ≤ S.L; omega⟩, h.last, h.word⟩
theorem Wi.ends {S : Ms} {ks : Nat → Nat} {KN : Nat} (h : Wi S ks KN) : Wi S.endS ks KN := by
  have hl : S.len = S.L := by unfold Ms.len; rw [h.sk]; omega
  unfold Ms.endS
  split
  · exact h
  · split
    · exact h.fails 1
    · rename_i hk
      obtain ⟨o1, o2, o3⟩ := h.open_ hk
      split
      · rename_i hlt
        refine ⟨h.wet, h.sk, h.hn, h.ops, h.wk, h.kn, h.us, h.le, fun j hj => ?_, fun e => absurd rfl e, ?_, h.word⟩
        · show okS S.L (updS S.g S.M ⟨S.kind, (S.fr : Int), (S.len : Int)⟩) j = true
          have hj' : j < S.M + 1 := hj
          by_cases e : j = S.M
          · subst e
            unfold okS
            rw [lastT_upd (Nat.le_refl _), updS_at]
            exact decide_eq_true ⟨o1, o2, by show (S.fr : Int) < (S.len : Int); omega, by show (S.len : Int) ≤ (S.L : Int); omega⟩
          · rw [okS_upd (by omega)]; exact h.blk j (by omega)
        · show lastT (updS S.g S.M ⟨S.kind, (S.fr : Int), (S.len : Int)⟩) (S.M + 1) ≤ (S.L : Int)
          unfold lastT
          rw [if_neg (by omega), Nat.add_sub_cancel, updS_at]
          show (S.len : Int) ≤ (S.L : Int)
          omega
      · exact ⟨h.wet, h.sk, h.hn, h.ops, h.wk, h.kn, h.us, h.le, h.blk, fun e => absurd rfl e, h.last, h.word⟩
theorem cnt_lt {p : Op6 → Bool} {f : Nat → Op6} {i : Nat} (hp : p (f i) = true) : ∀ {L : Nat}, i < L → cnt p f i < cnt p f L
  | 0, h => by omega
  | L + 1, h => by
    rw [cnt]
    by_cases e : i = L
    · subst e; rw [if_pos hp]; omega
    · have := cnt_lt (L := L) hp (by omega); omega
theorem ev_x {K : Int} {C a b d x y : Nat} (h1 : K ≠ 1) (h2 : K ≠ 2) : evN K C a b d x = evN K C a b d y := by
  unfold evN
  rw [if_neg h1, if_neg h1, if_neg h2, if_neg h2]
theorem Wi.puts {S : Ms} {ks : Nat → Nat} {KN : Nat} (h : Wi S ks KN) (o : Op6) (x : Nat) (hb : S.bad o = false) (ho : S.out o = false) (ks' : Nat → Nat) (KN' : Nat)
    (hk : o.K = 2 → KN' = KN + 1 ∧ ks' = updN ks KN x) (hk' : o.K ≠ 2 → KN' = KN ∧ ks' = ks) : Wi (S.put o x) ks' KN' := by
  have hl : S.len = S.L := by unfold Ms.len; rw [h.sk]; omega
  unfold Ms.bad at hb
  rw [Bool.or_eq_false_iff, Bool.not_eq_false', hl] at hb
  obtain ⟨hb1, hb2⟩ := hb
  have hc : o.K = 2 → o.C = S.words := fun e => by
    by_cases hc : o.C = S.words
    · exact hc
    · rw [decide_eq_true ⟨e, hc⟩] at hb2; cases hb2
  obtain ⟨rA, rB, rE⟩ := okOp_regs hb1
  have hout : o.K = 1 → S.used < S.TN ∧ 1 ≤ S.free := fun e => by
    unfold Ms.out at ho
    rw [decide_eq_true e, h.wet, Bool.not_false, Bool.true_and, Bool.true_and] at ho
    have := of_decide_eq_false ho
    omega
  have hws : (if o.K = 2 then S.words + 1 else S.words) = cnt (fun o => decide (o.K = 2)) (updO S.f S.L o) (S.L + 1) := by
    rw [cnt_updN, ← h.wk]
    by_cases e : o.K = 2
    · rw [if_pos e, if_pos (by simpa using e)]
    · rw [if_neg e, if_neg (by simpa using e)]; rfl
  have hus : (if o.K = 1 ∧ S.dry = false then S.used + 1 else S.used) = cnt (fun o => decide (o.K = 1)) (updO S.f S.L o) (S.L + 1) := by
    rw [cnt_updN, ← h.us]
    by_cases e : o.K = 1
    · rw [if_pos ⟨e, h.wet⟩, if_pos (by simpa using e)]
    · rw [if_neg (fun q => e q.1), if_neg (by simpa using e)]; rfl
  have hkw : KN' = (if o.K = 2 then S.words + 1 else S.words) := by
    by_cases e : o.K = 2
    · rw [(hk e).1, if_pos e, h.kn]
    · rw [(hk' e).1, if_neg e, h.kn]
  refine ⟨h.wet, h.sk, h.hn, fun i hi => ?_, hws, hkw, hus, ?_, fun j hj => okS_more (h.blk j hj), fun e => ?_, ?_, fun i hi => ?_⟩
  · show okO S.n (updO S.f S.L o) i = true
    have hi' : i < S.L + 1 := hi
    by_cases e : i = S.L
    · subst e
      unfold okO
      rw [updO_at, cnt_upd (Nat.le_refl _), hb1, Bool.true_and]
      exact decide_eq_true (fun e2 => by rw [hc e2, h.wk])
    · rw [okO_upd (by omega)]; exact h.ops i (by omega)
  · show (if o.K = 1 ∧ S.dry = false then S.used + 1 else S.used) ≤ S.TN
    split
    · rename_i e; have := (hout e.1).1; omega
    · exact h.le
  · obtain ⟨o1, o2, o3⟩ := h.open_ e
    exact ⟨o1, o2, by show S.fr ≤ S.L + 1; omega⟩
  · have := h.last
    show lastT S.g S.M ≤ ((S.L + 1 : Nat) : Int)
    omega
  · show okW (updO S.f S.L o) (updN S.v S.L (S.makes o x)) (S.L + 1) S.tw S.TN ks' KN' i
    have hi' : i < S.L + 1 := hi
    by_cases e : i = S.L
    · subst e
      unfold okW
      rw [updN_at, updO_at, wordAt_upd rA, wordAt_upd rB, wordAt_upd rE]
      unfold Ms.makes
      by_cases e1 : o.K = 1
      · have hw : wdAt (updO S.f S.L o) S.tw S.TN ks' KN' S.L = S.word o x := by
          unfold wdAt Ms.word
          rw [updO_at, cnt_upd (Nat.le_refl _), ← h.us, if_pos ⟨e1, (hout e1).1⟩, if_pos ⟨e1, h.wet⟩]
        rw [hw]
      · by_cases e2 : o.K = 2
        · have a1 : wdAt (updO S.f S.L o) S.tw S.TN ks' KN' S.L = x := by
            have hkn := h.kn
            unfold wdAt
            rw [updO_at, if_neg (fun q => e1 q.1), if_pos ⟨e2, by rw [(hk e2).1, hc e2]; omega⟩, (hk e2).2, hc e2, ← h.kn, updN_at]
          have a2 : S.word o x = x := by
            unfold Ms.word
            rw [if_neg (fun q => e1 q.1)]
          rw [a1, a2]
        · exact ev_x e1 e2
    · have hi2 : i < S.L := by omega
      have h0 := h.word i hi2
      have hr : okOp (S.f i) (i : Int) S.n = true := by
        have := h.ops i hi2
        unfold okO at this
        rw [Bool.and_eq_true] at this
        exact this.1
      have hkey : (S.f i).K = 2 → (S.f i).C < KN := fun e2 => by
        have := h.ops i hi2
        unfold okO at this
        rw [Bool.and_eq_true] at this
        have hcc := of_decide_eq_true this.2 e2
        have := cnt_lt (p := fun o => decide (o.K = 2)) (f := S.f) (i := i) (by simpa using e2) hi2
        rw [h.kn, h.wk, hcc]
        exact this
      obtain ⟨qA, qB, qE⟩ := okOp_regs hr
      unfold okW at h0 ⊢
      have hw : wdAt (updO S.f S.L o) S.tw S.TN ks' KN' i = wdAt S.f S.tw S.TN ks KN i := by
        unfold wdAt
        rw [updO_no S.f o e, cnt_upd (by omega)]
        by_cases e2 : (S.f i).K = 2
        · have hlt := hkey e2
          have h1 : ¬ ((S.f i).K = 1 ∧ cnt (fun o => decide (o.K = 1)) S.f i < S.TN) := fun q => by omega
          have r1 : (if (S.f i).K = 2 ∧ (S.f i).C < KN then ks (S.f i).C else 0) = ks (S.f i).C := if_pos ⟨e2, hlt⟩
          have r2 : (if (S.f i).K = 2 ∧ (S.f i).C < KN' then ks' (S.f i).C else 0) = ks (S.f i).C := by
            by_cases e3 : o.K = 2
            · rw [(hk e3).1, (hk e3).2, if_pos ⟨e2, by omega⟩, updN_no ks x (by omega)]
            · rw [(hk' e3).1, (hk' e3).2, if_pos ⟨e2, hlt⟩]
          rw [r1, r2]
        · rw [if_neg (fun (q : (S.f i).K = 2 ∧ (S.f i).C < KN') => e2 q.1), if_neg (fun (q : (S.f i).K = 2 ∧ (S.f i).C < KN) => e2 q.1)]
      rw [hw, updO_no S.f o e, updN_no S.v _ e, wordAt_upd (by omega), wordAt_upd (by omega), wordAt_upd (by omega)]
      exact h0
/-- An op is done or not; a key's word is told besides if it is. -/
theorem Wi.does {S : Ms} {ks : Nat → Nat} {KN : Nat} (h : Wi S ks KN) (o : Op6) (x : Nat) :
    if o.K = 2 ∧ S.doR o ≠ -1 then Wi (S.doS o x) (updN ks KN x) (KN + 1) else Wi (S.doS o x) ks KN := by
  unfold Ms.doS Ms.doR
  by_cases h0 : S.e ≠ 0
  · rw [if_pos h0, if_neg (by rw [if_pos (.inl h0)]; simp)]; exact h
  · rw [if_neg h0]
    by_cases h1 : S.bad o = true
    · rw [if_pos h1, if_neg (by rw [if_pos (.inr (.inl h1))]; simp)]; exact h.fails 1
    · rw [if_neg h1]
      by_cases h2 : S.full = true
      · rw [if_pos h2, if_neg (by rw [if_pos (.inr (.inr (.inl h2)))]; simp)]; exact h.fails 3
      · rw [if_neg h2]
        by_cases h3 : S.out o = true
        · rw [if_pos h3, if_neg (by rw [if_pos (.inr (.inr (.inr h3)))]; simp)]; exact h.fails 2
        · rw [if_neg h3]
          have hd : (if S.e ≠ 0 ∨ S.bad o = true ∨ S.full = true ∨ S.out o = true then (-1 : Int) else (S.len : Int)) = (S.len : Int) := if_neg (by rintro (q | q | q | q) <;> contradiction)
          rw [hd]
          by_cases hk : o.K = 2
          · rw [if_pos ⟨hk, by omega⟩]
            exact h.puts o x (by simpa using h1) (by simpa using h3) _ _ (fun _ => ⟨rfl, rfl⟩) (fun q => absurd hk q)
          · rw [if_neg (fun q => hk q.1)]
            exact h.puts o x (by simpa using h1) (by simpa using h3) _ _ (fun q => absurd q hk) (fun _ => ⟨rfl, rfl⟩)
/-- What the law asks at its end. -/
theorem Wi.trace {S : Ms} {ks : Nat → Nat} {KN : Nat} (h : Wi S ks KN) (hL : S.L ≤ 1048576) : trB S.n S.L S.M S.f S.g = true := by
  unfold trB
  rw [decide_eq_true ⟨h.hn, hL⟩, allB_of h.ops, allB_of h.blk]
  rfl
end Go.Proofs.YtpjgpiieminaoaaDoor

set_option maxRecDepth 100000
namespace Go.Proofs.YtpjgpiieminaoaaDoor
open Go.RowKit

theorem wf_u8 {z : Int} (h : (Lit.int .u8 z).wf = true) : 0 ≤ z ∧ z ≤ 255 := bounds_u8 h
set_option maxHeartbeats 400000 in
theorem clamp_any (n t : Int) (w : World) :
    Calls Tryd.prog 47 #[.int .i64 n, .int .i64 t] w fun e w' => e = .returned (.int .i64 (min (max n 0) t)) ∧ w' = w := by
  go_enter Tryd.func47, Tryd.ntmps47
  go_wp2
  all_goals (go_ret; exact ⟨ret_int (by omega), rfl⟩)

end Go.Proofs.YtpjgpiieminaoaaDoor

namespace Go.Proofs.YtpjgpiieminaoaaDoor
open Go.RowKit

theorem and63 (k : Int) : bits .and .u64 (IntKind.u64.wrap k) 63 = k % 64 := by
  rw [u64_and _ _ (by rw [IntKind.wrap_u64]; omega) (by rw [IntKind.wrap_u64]; omega) (by omega) (by omega), IntKind.wrap_u64]
  have h : (63 : Int).toNat = 2 ^ 6 - 1 := rfl
  rw [h, Nat.and_two_pow_sub_one_eq_mod]
  omega
def rotl (x : Int) (m : Nat) : Int := bits .or .u64 (IntKind.u64.wrap (x * 2 ^ m)) (x / 2 ^ (64 - m))
set_option maxHeartbeats 400000 in
theorem rot64_any (x k : Int) (w : World) (hx : 0 ≤ x ∧ x ≤ 18446744073709551615) :
    Calls Tryd.prog 80 #[.int .u64 x, .int .i64 k] w fun e w' => e = .returned (.int .u64 (rotl x (k % 64).toNat)) ∧ w' = w := by
  obtain ⟨hx1, hx2⟩ := hx
  have hb := and63 k
  obtain ⟨m, hm, hm64⟩ : ∃ m : Nat, k % 64 = m ∧ m < 64 := ⟨(k % 64).toNat, by omega, by omega⟩
  rw [hm] at hb ⊢
  clear hm
  go_enter Tryd.func80, Tryd.ntmps80
  go_wp2
  go_ret
  exact ⟨rfl, rfl⟩
set_option maxHeartbeats 400000 in
theorem orot_any (x k : Int) (w : World) (hx : 0 ≤ x ∧ x ≤ 18446744073709551615) :
    Calls Tryd.prog 74 #[.int .u64 x, .int .i64 k] w fun e w' => e = .returned (.int .u64 (rotl x (k % 64).toNat)) ∧ w' = w := by
  go_enter Tryd.func74, Tryd.ntmps74
  go_wp2_with (go_at_call 80; refine (rot64_any _ _ _ hx).mono ?_; rintro e w' ⟨rfl, rfl⟩)
  go_ret
  exact ⟨rfl, rfl⟩
def lowL (m : Nat) : Int := IntKind.u64.wrap (IntKind.u64.wrap (2 ^ m) - 1)
set_option maxHeartbeats 400000 in
theorem low_any (n : Int) (w : World) :
    Calls Tryd.prog 54 #[.int .i64 n] w fun e w' => e = .returned (.int .u64 (lowL (min (max n 0) 64).toNat)) ∧ w' = w := by
  have hc := clamp_any n 64 w
  obtain ⟨m, hm, hm64⟩ : ∃ m : Nat, min (max n 0) 64 = m ∧ m ≤ 64 := ⟨(min (max n 0) 64).toNat, by omega, by omega⟩
  rw [hm] at hc ⊢
  clear hm
  go_enter Tryd.func54, Tryd.ntmps54
  go_wp2_with (go_at_call 47; refine hc.mono ?_; rintro e w' ⟨rfl, rfl⟩)
  go_ret
  exact ⟨rfl, rfl⟩
def rlow : Nat → Int
  | 0 => 0
  | k + 1 => IntKind.u64.wrap (IntKind.u64.wrap (rlow k * 2) + 1)
set_option maxHeartbeats 400000 in
theorem reflow_any (n : Int) (w : World) :
    Calls Tryd.prog 13 #[.int .i64 n] w fun e w' => e = .returned (.int .u64 (rlow (min (max n 0) 64).toNat)) ∧ w' = w := by
  obtain ⟨m, hm, hm64⟩ : ∃ m : Nat, min (max n 0) 64 = m ∧ m ≤ 64 := ⟨(min (max n 0) 64).toNat, by omega, by omega⟩
  have HM := hid hm
  clear hm
  go_enter Tryd.func13, Tryd.ntmps13
  go_wp2
  go_loop [3, 4] (fun y i => ∃ j : Nat, j ≤ m ∧ i = .int .i64 j ∧ y = .int .u64 (rlow j)) (fun _ i => m - (intOf i).toNat)
  case atStart => exact ⟨0, by omega, rfl, rfl⟩
  case round =>
    obtain ⟨j, hj, rfl, rfl⟩ := hrel
    by_cases hlt : j < m
    · have h1 : (j : Int) < n := by have := HM.out; omega
      go_wp2
      go_round
      case rel => exact ⟨j + 1, by omega, by go_num, rfl⟩
      case measure => simp [intOf]; omega
    · have h0 : j = m := by omega
      by_cases h1 : (j : Int) < n
      · have h2 : ¬ (j : Int) < 64 := by have := HM.out; omega
        clear h0
        go_wp2
        go_ret
        obtain rfl : j = m := by omega
        exact ⟨by rw [HM.out]; simp, rfl⟩
      · clear h0
        go_wp2
        go_ret
        obtain rfl : j = m := by omega
        exact ⟨by rw [HM.out]; simp, rfl⟩
end Go.Proofs.YtpjgpiieminaoaaDoor

namespace Go.Proofs.YtpjgpiieminaoaaDoor
open Go.RowKit
theorem info8 : (Tryd.prog.info? 5).map (fun i => (i.zero, i.size, i.bytes)) = some (some (.int .u8 0), 1, 1) := by kernel_rfl

def rsTo (x : Int) : Nat → Int
  | 0 => x
  | k + 1 => rsTo x k / 256
def rsL (x : Int) : Nat → List Int
  | 0 => []
  | k + 1 => rsL x k ++ [rsTo x k % 256]
theorem rsL_len (x : Int) : ∀ k, (rsL x k).length = k
  | 0 => rfl
  | k + 1 => by simp [rsL, rsL_len x k]

set_option maxHeartbeats 400000 in
theorem refstore_any (x n : Int) (w : World) (hx : 0 ≤ x ∧ x ≤ 18446744073709551615) :
    Calls Tryd.prog 7 #[.int .u64 x, .int .i64 n] w fun e w' => ∃ v', e = .returned v' ∧ Own .u8 w.heap.size 5 w' v' (rsL x (min (max n 0) 8).toNat) ∧ Below w.heap.size w w' := by
  obtain ⟨m, hm, hm64⟩ : ∃ m : Nat, min (max n 0) 8 = m ∧ m ≤ 8 := ⟨(min (max n 0) 8).toNat, by omega, by omega⟩
  have HM := hid hm
  have hbd : ∀ k, 0 ≤ rsTo x k ∧ rsTo x k ≤ 18446744073709551615 := by
    intro k
    induction k with
    | zero => exact hx
    | succ k ih => simp only [rsTo]; omega
  have HB := hid hbd
  clear hm hbd hx
  go_enter Tryd.func7, Tryd.ntmps7
  go_wp2
  go_loopw [0, 5, 6] (fun y v i wr => ∃ j : Nat, j ≤ m ∧ i = .int .i64 j ∧ y = .int .u64 (rsTo x j) ∧ Own .u8 w.heap.size 5 wr v (rsL x j) ∧ Below w.heap.size w wr) (fun _ _ i _ => m - (intOf i).toNat)
  case atStart => exact ⟨0, by omega, rfl, rfl, own_empty w (Nat.le_refl _), (Below.refl _ _).alloc (Nat.le_refl _) _⟩
  case round =>
    obtain ⟨j, hj, rfl, rfl, hown, hlow⟩ := hrel
    have hb1 := (HB.out j).1
    have hb2 := (HB.out j).2
    have HO := hid hown; have HL := hid hlow
    have hsz := hlow.size
    have hlen := rsL_len x j
    clear hown hlow
    by_cases hlt : j < m
    · have h1 : (j : Int) < n := by have := HM.out; omega
      have hlim : ((rsL x j).length + 1) * (IntKind.u8.bits / 8) ≤ 140737488355328 := by simp [IntKind.bits]; omega
      have HLI := hid hlim; clear hlim; have HLE := hid hlen; clear hlen
      go_wp2_with (refine wpList_append_ints rfl (.tmp 17) (.tmp 21) 38 rfl .u8 w.heap.size 5 Tryd.underlying38 info8 (by decide) _ _ rfl (HO.out.alloc _) _ _ _ _ rfl rfl (cell_new_int _ _ _ _) HLI.out (by simp; omega) _ _ (HL.out.alloc (by omega) _) (Nat.le_refl _) ?_; intro v2 w2 hO2 hL2 _)
      go_roundw
      case rel => exact ⟨j + 1, by omega, by go_num, rfl, hO2, hL2⟩
      case measure => simp [intOf]; omega
    · have h0 : j = m := by omega
      by_cases h1 : (j : Int) < n
      · have h2 : ¬ (j : Int) < 8 := by have := HM.out; omega
        clear h0
        go_wp2
        go_ret
        obtain rfl : j = m := by omega
        exact ⟨_, rfl, by rw [HM.out]; exact HO.out, HL.out⟩
      · clear h0
        go_wp2
        go_ret
        obtain rfl : j = m := by omega
        exact ⟨_, rfl, by rw [HM.out]; exact HO.out, HL.out⟩
end Go.Proofs.YtpjgpiieminaoaaDoor

namespace Go.Proofs.YtpjgpiieminaoaaDoor
open Go.RowKit

/-! ### octet.Store -/
def stL (x : Int) : Nat → List Int
  | 0 => []
  | k + 1 => stL x k ++ [x / 2 ^ (8 * k) % 256]
theorem stL_len (x : Int) : ∀ k, (stL x k).length = k
  | 0 => rfl
  | k + 1 => by simp [stL, stL_len x k]

set_option maxHeartbeats 400000 in
theorem store_any (x n : Int) (w : World) (hx : 0 ≤ x ∧ x ≤ 18446744073709551615) :
    Calls Tryd.prog 31 #[.int .u64 x, .int .i64 n] w fun e w' => ∃ v', e = .returned v' ∧ Own .u8 w.heap.size 5 w' v' (stL x (min (max n 0) 8).toNat) ∧ Below w.heap.size w w' := by
  have hc := clamp_any n 8 w
  obtain ⟨hx1, hx2⟩ := hx
  obtain ⟨m, hm, hm64⟩ : ∃ m : Nat, min (max n 0) 8 = m ∧ m ≤ 8 := ⟨(min (max n 0) 8).toNat, by omega, by omega⟩
  rw [hm] at hc ⊢
  clear hm
  have hmk := run_make_ints (P := Tryd.prog) w .u8 .i64 38 5 m Tryd.underlying38 info8 (by simp [IntKind.bits]; omega) (by decide)
  have HO := hid (own_made (k := .u8) (B := w.heap.size) (E := 5) w m (Nat.le_refl _) (by unfold maxLen; omega))
  go_enter Tryd.func31, Tryd.ntmps31
  go_wp2_with (go_at_call 47; refine hc.mono ?_; rintro e w' ⟨rfl, rfl⟩)
  go_loopw [12] (fun i wr => ∃ j : Nat, j ≤ m ∧ i = .int .i64 j ∧ Own .u8 w'.heap.size 5 wr (.slice (some ⟨w'.heap.size, 0, none⟩) m m) (stL x j ++ List.replicate (m - j) 0) ∧ Below w'.heap.size w' wr) (fun i _ => m - (intOf i).toNat)
  case atStart => exact ⟨0, by omega, rfl, by simpa [stL] using HO.out, (Below.refl _ _).alloc (Nat.le_refl _) _⟩
  case round =>
    obtain ⟨j, hj, rfl, hown, hlow⟩ := hrel
    by_cases hlt : j < m
    · have hlen := stL_len x j
      have hlen2 : (stL x j ++ List.replicate (m - j) 0).length = m := by simp [hlen]; omega
      obtain ⟨g, cap, hv, hg1, hg2, hcell, hfr, hset⟩ := hown.part (by omega)
      rw [hlen2] at hcell hset hv
      simp only [Value.slice.injEq, Option.some.injEq, Addr.mk.injEq] at hv
      obtain ⟨⟨rfl, _, _⟩, _, rfl⟩ := hv
      have c1 := hcell j hlt
      have c2 := hfr j
      have HS := hid (hset j (x / 2 ^ (8 * j) % 256) hlt)
      have HF := hid (set_fill (l := stL x j) hlen hlt (x / 2 ^ (8 * j) % 256))
      have HL := hid hlow
      clear hcell hfr hset hown hlen hlen2 hlow
      go_wp2
      go_roundw
      case rel => exact ⟨j + 1, by omega, by go_num, by rw [show stL x (j + 1) = stL x j ++ [x / 2 ^ (8 * j) % 256] from rfl, ← HF.out]; exact HS.out, HL.out.setCell (Nat.le_refl _) _⟩
      case measure => simp [intOf]; omega
    · go_wp2
      go_ret
      obtain rfl : j = m := by omega
      exact ⟨_, rfl, by simpa using hown, hlow⟩

/-! ### octet.Xor and the reference's -/
end Go.Proofs.YtpjgpiieminaoaaDoor

namespace Go.Proofs.YtpjgpiieminaoaaDoor
open Go.RowKit

/-! ### Inc -/
def Bs (L : List Int) : Prop := ∀ z ∈ L, 0 ≤ z ∧ z ≤ 255
theorem Bs.set {L : List Int} (h : Bs L) (j : Nat) {z : Int} (hz : 0 ≤ z ∧ z ≤ 255) : Bs (L.set j z) := by
  intro x hx
  rcases List.mem_or_eq_of_mem_set hx with hx | rfl
  · exact h x hx
  · exact hz
end Go.Proofs.YtpjgpiieminaoaaDoor

namespace Go.Proofs.YtpjgpiieminaoaaDoor
open Go.RowKit

/-! ### Double -/
end Go.Proofs.YtpjgpiieminaoaaDoor

namespace Go.Proofs.YtpjgpiieminaoaaDoor
open Go.RowKit

set_option maxHeartbeats 400000 in
theorem refsame_any (v v' : Value) (xs ys : List Int) (w : World) (h : Rd .u8 w v xs) (h' : Rd .u8 w v' ys) :
    Calls Tryd.prog 11 #[v, v'] w fun e w' => e = .returned (.bool (decide (xs = ys))) ∧ w' = w := by
  have k1 := run_conv_rd (P := Tryd.prog) h Tryd.underlying38 Tryd.underlying5 9 Tryd.underlying9
  have k2 := run_conv_rd (P := Tryd.prog) h' Tryd.underlying38 Tryd.underlying5 9 Tryd.underlying9
  have HQ := hid (strOfNums_eq (wfs_of h) (wfs_of h'))
  obtain ⟨a, cap, rfl, _, _, _⟩ := h
  obtain ⟨a', cap', rfl, _, _, _⟩ := h'
  go_enter Tryd.func11, Tryd.ntmps11
  go_wp2
  go_ret
  exact ⟨ret_bool HQ.out, rfl⟩
end Go.Proofs.YtpjgpiieminaoaaDoor

/- The octet layer's plain mathematics: what the program computes is what the reference computes. No walk. -/
namespace Go.Proofs.YtpjgpiieminaoaaDoor
open Go.RowKit

/-! Load -/
/-! Store -/
theorem rsTo_div (x : Int) : ∀ k, rsTo x k = x / 2 ^ (8 * k)
  | 0 => by simp [rsTo]
  | k + 1 => by
    rw [rsTo, rsTo_div x k, Int.ediv_ediv_of_nonneg (Int.le_of_lt (Int.pow_pos (by decide)))]
    congr 1
    rw [show 8 * (k + 1) = 8 * k + 8 by omega, Int.pow_add]; rfl
theorem store_math (x : Int) : ∀ k, stL x k = rsL x k
  | 0 => rfl
  | k + 1 => by rw [stL, rsL, store_math x k, rsTo_div]

/-! Low -/
theorem low_math : ∀ m, m ≤ 64 → lowL m = rlow m := by
  have h : ∀ m, m < 65 → lowL m = rlow m := by decide +kernel
  exact fun m hm => h m (by omega)

/-! Rot -/
/-! Same -/
end Go.Proofs.YtpjgpiieminaoaaDoor

/- The octet layer's plain mathematics, more: doubling. No walk. -/
namespace Go.Proofs.YtpjgpiieminaoaaDoor
open Go.RowKit

end Go.Proofs.YtpjgpiieminaoaaDoor

/- Arrays of numbers that come in by value; more plain mathematics of the octet layer. -/
namespace Go.Proofs.YtpjgpiieminaoaaDoor
open Go.ChangeShapes Go.WideShapes Go.ChangeAt Go.RowKit

/-! what is stored is loaded -/
/-! what is rotated comes back -/
/-! doubling is linear -/
end Go.Proofs.YtpjgpiieminaoaaDoor

/- octet's rows put together, and held against others, as rows of numbers. -/
namespace Go.Proofs.YtpjgpiieminaoaaDoor
open Go.RowKit
set_option maxRecDepth 100000
/-! ### Data and a stream -/
theorem same_ns (v v' : Value) (xs ys : List Int) (w : World) (h : Rd .u8 w v xs) (h' : Rd .u8 w v' ys) (e : xs = ys) : Calls Tryd.prog 11 #[v, v'] w fun e w' => e = .returned (.bool true) ∧ w' = w := by
  have := refsame_any v v' xs ys w h h'
  rwa [decide_eq_true e] at this
end Go.Proofs.YtpjgpiieminaoaaDoor

/- Op: how many registers an op is of, and whether it may stand at a place, by the document. -/
namespace Go.Proofs.YtpjgpiieminaoaaDoor
open Go.RowKit
set_option maxRecDepth 100000

theorem rgN_zero {K n : Int} (h : K < 1 ∨ 12 < K) : rgN K n = 0 := by
  unfold rgN
  split
  · rfl
  · rw [if_neg (by omega), if_neg (by omega), if_neg (by omega), if_neg (by omega)]
theorem okH_no {o : Op6} {n : Int} (h : ¬ ((n = 2 ∨ n = 3) ∧ 1 ≤ o.K ∧ o.K ≤ 12 ∧ -1 ≤ o.D ∧ o.D < n ∧ (o.K = 12 → o.D = -1))) (at_ : Int) : okOp o at_ n = false := by
  unfold okOp okH; rw [decide_eq_false h]; rfl
end Go.Proofs.YtpjgpiieminaoaaDoor

/- Wire: the document's machine. -/
namespace Go.Proofs.YtpjgpiieminaoaaDoor
open Go.RowKit
set_option maxRecDepth 100000
abbrev opCs (o : Op6) : Array Value := #[.int .i64 o.K, .int .i64 o.D, .int .i64 o.A, .int .i64 o.B, .int .i64 o.E, .int .u64 (o.C : Int)]
abbrev spCs (s : Sp3) : Array Value := #[.int .i64 s.K, .int .i64 s.F, .int .i64 s.T]
/-- Numbers of words. -/
def wdL (v : Nat → Nat) (L : Nat) : List Int := (List.range L).map (fun i => (v i : Int))
theorem wdL_len (v : Nat → Nat) (L : Nat) : (wdL v L).length = L := by simp [wdL]
theorem wdL_nth (v : Nat → Nat) {L i : Nat} (h : i < L) : nth (wdL v L) i = (v i : Int) := by simp [wdL, nth, List.getD, h]
/-- The machine's cells. -/
def dmC (S : Ms) (ov bv vv tv : Value) : Array Value :=
  #[.int .i64 S.n, .int .i64 S.most, .int .i64 (S.words : Int), .int .i64 (S.draws : Int), .int .i64 (S.fr : Int), .int .i64 (S.skip : Int), .int .i64 S.kind, .int .i64 (S.e : Int), ov, bv, vv, tv, .int .i64 (S.used : Int), .int .i64 (S.free : Int), .bool S.dry]
/-- From where on an object's blocks lie; where what it only reads lies. -/
structure LoG where
  lo : Nat
  G : Nat → Prop
/-- The document's machine lies in block b. -/
structure Dm2 (lo : LoG) (w : World) (b : Nat) (S : Ms) (LV : Nat) (ov bv vv tv : Value) : Prop where
  blk : w.heap[b]? = some (.cells (dmC S ov bv vv tv) 90 (0, 0))
  lob : lo.lo ≤ b
  ops : Orw w lo.lo 52 6 ov S.L (fun i => (opCs (S.f i)).toList)
  bls : Orw w lo.lo 69 3 bv S.M (fun i => (spCs (S.g i)).toList)
  val : Orw w lo.lo 22 1 vv LV (fun i => [.int .u64 (S.v i : Int)])
  hob : ov.ownBlock ≠ some b
  hbb : bv.ownBlock ≠ some b
  hvb : vv.ownBlock ≠ some b
  hobv : ∀ k, ov.ownBlock = some k → bv.ownBlock ≠ some k
  hov : ∀ k, ov.ownBlock = some k → vv.ownBlock ≠ some k
  hbv : ∀ k, bv.ownBlock = some k → vv.ownBlock ≠ some k
  tap : RdS .u64 w (fun g => g ≠ b ∧ ov.ownBlock ≠ some g ∧ bv.ownBlock ≠ some g ∧ vv.ownBlock ≠ some g ∧ lo.G g) tv (wdL (fun i => S.tw (S.used + i)) (S.TN - S.used))
abbrev Dm (lo : LoG) (w : World) (b : Nat) (S : Ms) (ov bv vv tv : Value) : Prop := Dm2 lo w b S S.L ov bv vv tv
/-- What it owns. -/
def Ft (b : Nat) (ov bv vv : Value) (k : Nat) : Prop := k = b ∨ ov.ownBlock = some k ∨ bv.ownBlock = some k ∨ vv.ownBlock = some k
section
variable {lo : LoG} {b : Nat} {w w' : World} {S : Ms} {ov bv vv tv : Value}
theorem Dm.lt (h : Dm lo w b S ov bv vv tv) : b < w.heap.size := (Array.getElem?_eq_some_iff.1 h.blk).1
theorem rds_self {k : IntKind} {F : Nat → Prop} {v : Value} {zs : List Int} (h : RdS k w F v zs) (hb : Below w.heap.size w w') : RdS k w' F v zs := by
  obtain ⟨a, cap, e, h1, h2, h3, h4, h5⟩ := h
  refine ⟨a, cap, e, h1, h2, h3, h4, fun h0 => ?_⟩
  obtain ⟨g, off, ea, hF, hg, hc⟩ := h5 h0
  exact ⟨g, off, ea, hF, Nat.lt_of_lt_of_le hg hb.size, fun j hj => by rw [World.cell?_of_block (hb.block g hg)]; exact hc j hj⟩
theorem Dm.self (h : Dm lo w b S ov bv vv tv) (hb : Below w.heap.size w w') : Dm lo w' b S ov bv vv tv :=
  ⟨(hb.block b h.lt).trans h.blk, h.lob, h.ops.stays fun k hk => hb.block k (h.ops.lt k hk).2, h.bls.stays fun k hk => hb.block k (h.bls.lt k hk).2,
   h.val.stays fun k hk => hb.block k (h.val.lt k hk).2, h.hob, h.hbb, h.hvb, h.hobv, h.hov, h.hbv, rds_self h.tap hb⟩
theorem Dm.drew (h : Dm lo w b S ov bv vv tv) : Dm lo w.drew b S ov bv vv tv := h.self ((Below.refl _ w).drew)
/-- The cells of a machine, one by one. -/
theorem Dm.c (h : Dm lo w b S ov bv vv tv) (i : Nat) {u : Value} (hu : (dmC S ov bv vv tv)[i]? = some u) : w.cell? ⟨b, i, none⟩ = some u := by
  rw [cell_of_row w b i _ _ _ h.blk]; exact hu
theorem Dm.c_n (h : Dm lo w b S ov bv vv tv) : w.cell? ⟨b, 0, none⟩ = some (Value.int .i64 S.n) := h.c 0 rfl
theorem Dm.c_most (h : Dm lo w b S ov bv vv tv) : w.cell? ⟨b, 1, none⟩ = some (Value.int .i64 S.most) := h.c 1 rfl
theorem Dm.c_words (h : Dm lo w b S ov bv vv tv) : w.cell? ⟨b, 2, none⟩ = some (Value.int .i64 (S.words : Int)) := h.c 2 rfl
theorem Dm.c_draws (h : Dm lo w b S ov bv vv tv) : w.cell? ⟨b, 3, none⟩ = some (Value.int .i64 (S.draws : Int)) := h.c 3 rfl
theorem Dm.c_fr (h : Dm lo w b S ov bv vv tv) : w.cell? ⟨b, 4, none⟩ = some (Value.int .i64 (S.fr : Int)) := h.c 4 rfl
theorem Dm.c_kind (h : Dm lo w b S ov bv vv tv) : w.cell? ⟨b, 6, none⟩ = some (Value.int .i64 S.kind) := h.c 6 rfl
theorem Dm.c_e (h : Dm lo w b S ov bv vv tv) : w.cell? ⟨b, 7, none⟩ = some (Value.int .i64 (S.e : Int)) := h.c 7 rfl
theorem Dm.c_ov (h : Dm lo w b S ov bv vv tv) : w.cell? ⟨b, 8, none⟩ = some (ov) := h.c 8 rfl
theorem Dm.c_bv (h : Dm lo w b S ov bv vv tv) : w.cell? ⟨b, 9, none⟩ = some (bv) := h.c 9 rfl
theorem Dm.c_vv (h : Dm lo w b S ov bv vv tv) : w.cell? ⟨b, 10, none⟩ = some (vv) := h.c 10 rfl
theorem Dm.c_tv (h : Dm lo w b S ov bv vv tv) : w.cell? ⟨b, 11, none⟩ = some (tv) := h.c 11 rfl
theorem Dm.c_dry (h : Dm lo w b S ov bv vv tv) : w.cell? ⟨b, 14, none⟩ = some (Value.bool S.dry) := h.c 14 rfl
theorem Dm.fz (h : Dm lo w b S ov bv vv tv) (i : Nat) : w.frozen? ⟨b, i, none⟩ = false := frozen_of_row w b i _ _ h.blk
theorem Dm.vals (h : Dm lo w b S ov bv vv tv) : ∃ a cap, vv = .slice a S.L cap ∧ (0 < S.L → ∃ g, a = some ⟨g, 0, none⟩ ∧ ∀ i, i < S.L → w.cell? ⟨g, i, none⟩ = some (.int .u64 (S.v i : Int))) := by
  obtain ⟨a, cap, rfl, _, _, _, hp⟩ := h.val.slice
  refine ⟨a, cap, rfl, fun h0 => ?_⟩
  obtain ⟨g, rfl⟩ := hp h0
  refine ⟨g, rfl, fun i hi => ?_⟩
  have := Orw.cell h.val (fun _ => rfl) hi (by decide : 0 < 1) (u := .int .u64 (S.v i : Int)) rfl
  simpa using this
end
end Go.Proofs.YtpjgpiieminaoaaDoor

/- Wire: the document's machine: errors that stay, blocks that begin. -/
namespace Go.Proofs.YtpjgpiieminaoaaDoor
open Go.RowKit
set_option maxRecDepth 100000
section
variable {lo : LoG} {b : Nat} {w w' : World} {S S' : Ms} {ov bv vv tv : Value}
theorem rds_stays {k : IntKind} {F : Nat → Prop} {v : Value} {zs : List Int} (h : RdS k w F v zs) (hs : w.heap.size ≤ w'.heap.size) (hF : ∀ g, F g → g < w.heap.size → w'.heap[g]? = w.heap[g]?) : RdS k w' F v zs := by
  obtain ⟨a, cap, e, h1, h2, h3, h4, h5⟩ := h
  refine ⟨a, cap, e, h1, h2, h3, h4, fun h0 => ?_⟩
  obtain ⟨g, off, ea, hf, hg, hc⟩ := h5 h0
  exact ⟨g, off, ea, hf, Nat.lt_of_lt_of_le hg hs, fun j hj => by rw [World.cell?_of_block (hF g hf hg)]; exact hc j hj⟩
/-- The machine's own block alone is turned. -/
theorem Dm.turn (h : Dm lo w b S ov bv vv tv) (hblk : w'.heap[b]? = some (.cells (dmC S' ov bv vv tv) 90 (0, 0))) (hs : w.heap.size ≤ w'.heap.size) (ho : ∀ k, k ≠ b → k < w.heap.size → w'.heap[k]? = w.heap[k]?)
    (hL : S'.L = S.L) (hf : S'.f = S.f) (hM : S'.M = S.M) (hg : S'.g = S.g) (hv : S'.v = S.v) (htw : S'.tw = S.tw) (hu : S'.used = S.used) (hTN : S'.TN = S.TN) : Dm lo w' b S' ov bv vv tv := by
  refine ⟨hblk, h.lob, ?_, ?_, ?_, h.hob, h.hbb, h.hvb, h.hobv, h.hov, h.hbv, ?_⟩
  · rw [hL, hf]; exact h.ops.stays fun k hk => ho k (fun e => h.hob (e ▸ hk)) (h.ops.lt k hk).2
  · rw [hM, hg]; exact h.bls.stays fun k hk => ho k (fun e => h.hbb (e ▸ hk)) (h.bls.lt k hk).2
  · rw [hL, hv]; exact h.val.stays fun k hk => ho k (fun e => h.hvb (e ▸ hk)) (h.val.lt k hk).2
  · rw [htw, hu, hTN]; exact rds_stays h.tap hs fun g hg hlt => ho g hg.1 hlt
theorem Dm.cellSet (h : Dm lo w b S ov bv vv tv) (i : Nat) (u : Value) (e : (dmC S ov bv vv tv).setIfInBounds i u = dmC S' ov bv vv tv)
    (hL : S'.L = S.L) (hf : S'.f = S.f) (hM : S'.M = S.M) (hg : S'.g = S.g) (hv : S'.v = S.v) (htw : S'.tw = S.tw) (hu : S'.used = S.used) (hTN : S'.TN = S.TN) : Dm lo (w.setCell ⟨b, i, none⟩ u) b S' ov bv vv tv :=
  h.turn (by rw [heap_setCell_same w b i _ 90 u h.blk, e]) (by simp [World.setCell]) (fun k hk _ => heap_setCell_other w ⟨b, i, none⟩ k u hk) hL hf hM hg hv htw hu hTN
theorem tch_set (b i : Nat) (u : Value) (w : World) : Tch (Ft b ov bv vv) w (w.setCell ⟨b, i, none⟩ u) := Tch.set w u (.inl rfl)
end
/-- What a method of the machine leaves. -/
def DmR (lo : LoG) (b : Nat) (ov bv vv : Value) (S' : Ms) (w w' : World) : Prop := ∃ ov' bv' vv' tv', Dm lo w' b S' ov' bv' vv' tv' ∧ Tch (Ft b ov bv vv) w w' ∧ (∀ k, Ft b ov' bv' vv' k → Ft b ov bv vv k ∨ w.heap.size ≤ k)
end Go.Proofs.YtpjgpiieminaoaaDoor

/- Wire: the document's machine: a row grows; blocks that end. -/
namespace Go.Proofs.YtpjgpiieminaoaaDoor
open Go.RowKit
set_option maxRecDepth 100000
section
variable {lo : LoG} {b : Nat} {w w' : World} {S : Ms} {ov bv vv tv : Value}
theorem grown_at {r : Option Nat} (h : w.grownBy w' r) (b i : Nat) (u : Value) {k : Nat} (hk : k < w.heap.size) (hr : some k ≠ r) (hb : k ≠ b) : (w'.setCell ⟨b, i, none⟩ u).heap[k]? = w.heap[k]? := by
  rw [heap_setCell_other w' ⟨b, i, none⟩ k u hb]; exact h.block k hk hr
theorem row_in {B k n b : Nat} {E : TypeId} {v : Value} {c : Nat → List Value} (h : Orw w B E k v n c) (hb : v.ownBlock ≠ some b) (i : Nat) (u : Value) : Orw (w.setCell ⟨b, i, none⟩ u) B E k v n c :=
  h.stays fun j hj => heap_setCell_other w ⟨b, i, none⟩ j u (fun e => hb (by subst e; exact hj))
theorem Dm2.addBl (h : Dm2 lo w b S S.L ov bv vv tv) {g cap : Nat} {sp : Sp3} (hrow : Orw w' lo.lo 69 3 (.slice (some ⟨g, 0, none⟩) (S.M + 1) cap) (S.M + 1) (fun i => (spCs (updS S.g S.M sp i)).toList)) (hg : w.grownBy w' bv.ownBlock) (hp : bv.ownBlock = some g ∨ g = w.heap.size) :
    Dm2 lo (w'.setCell ⟨b, 9, none⟩ (.slice (some ⟨g, 0, none⟩) (S.M + 1) cap)) b { S with M := S.M + 1, g := updS S.g S.M sp } S.L ov (.slice (some ⟨g, 0, none⟩) (S.M + 1) cap) vv tv ∧ Tch (Ft b ov bv vv) w (w'.setCell ⟨b, 9, none⟩ (.slice (some ⟨g, 0, none⟩) (S.M + 1) cap)) ∧ (∀ k, Ft b ov (.slice (some ⟨g, 0, none⟩) (S.M + 1) cap) vv k → Ft b ov bv vv k ∨ w.heap.size ≤ k) := by
  have hgb : ((.slice (some ⟨g, 0, none⟩) (S.M + 1) cap) : Value).ownBlock ≠ some b := by
    intro e
    have e' : g = b := Option.some.inj e
    subst e'
    rcases hp with hp | hp
    · exact h.hbb hp
    · have := (Array.getElem?_eq_some_iff.1 h.blk).1; omega
  have hga_ov : ∀ k, g = k → ov.ownBlock ≠ some k := fun k e hk => by
    subst e
    rcases hp with hp | hp
    · exact (h.hobv g hk) hp
    · have := (h.ops.lt g hk).2; omega
  have hga_vv : ∀ k, g = k → vv.ownBlock ≠ some k := fun k e hk => by
    subst e
    rcases hp with hp | hp
    · exact (fun e => h.hbv g e hk) hp
    · have := (h.val.lt g hk).2; omega
  have hbl : w'.heap[b]? = w.heap[b]? := hg.block b (Array.getElem?_eq_some_iff.1 h.blk).1 (fun e => h.hbb e.symm)
  refine ⟨⟨?_, h.lob, ?_, ?_, ?_, h.hob, hgb, h.hvb, fun k hk e => hga_ov k (Option.some.inj e) hk, h.hov, fun k hk e => hga_vv k (Option.some.inj hk) e, ?_⟩, ?_, ?_⟩
  · rw [heap_setCell_same w' b 9 _ 90 _ (hbl.trans h.blk)]; rfl
  · exact h.ops.stays fun k hk => grown_at hg b 9 _ (h.ops.lt k hk).2 (fun e => (h.hobv k hk) e.symm) (fun e => h.hob (e ▸ hk))
  · exact row_in hrow hgb 9 _
  · exact h.val.stays fun k hk => grown_at hg b 9 _ (h.val.lt k hk).2 (fun e => (fun e => h.hbv k e hk) e.symm) (fun e => h.hvb (e ▸ hk))
  · obtain ⟨a, cp, e, h1, h2, h3, h4, h5⟩ := h.tap
    refine ⟨a, cp, e, h1, h2, h3, h4, fun h0 => ?_⟩
    obtain ⟨q, off, ea, ⟨f1, f2, f3, f4, f5⟩, hq, hc⟩ := h5 h0
    have hgq : g ≠ q := fun e => by
      subst e
      rcases hp with hp | hp
      · exact f3 hp
      · omega
    refine ⟨q, off, ea, ⟨f1, f2, fun e => hgq (Option.some.inj e), f4, f5⟩, by have := hg.size; simp [World.setCell]; omega, fun j hj => ?_⟩
    rw [World.cell?_of_block (grown_at hg b 9 _ hq (fun e => f3 e.symm) f1)]
    exact hc j hj
  · exact (Tch.of_grown hg (fun k e => .inr (.inr (.inl e)))).trans (tch_set b 9 _ w') (fun _ _ f => f)
  · rintro k (rfl | e | e | e)
    · exact .inl (.inl rfl)
    · exact .inl (.inr (.inl e))
    · have e' : g = k := Option.some.inj e
      subst e'
      rcases hp with hp | hp
      · exact .inl (.inr (.inr (.inl hp)))
      · exact .inr (by omega)
    · exact .inl (.inr (.inr (.inr e)))
theorem Dm2.addVal (h : Dm2 lo w b S S.L ov bv vv tv) {g cap : Nat} {x : Nat} (hrow : Orw w' lo.lo 22 1 (.slice (some ⟨g, 0, none⟩) (S.L + 1) cap) (S.L + 1) (fun i => [.int .u64 ((updN S.v S.L x i : Nat) : Int)])) (hg : w.grownBy w' vv.ownBlock) (hp : vv.ownBlock = some g ∨ g = w.heap.size) :
    Dm2 lo (w'.setCell ⟨b, 10, none⟩ (.slice (some ⟨g, 0, none⟩) (S.L + 1) cap)) b { S with v := updN S.v S.L x } (S.L + 1) ov bv (.slice (some ⟨g, 0, none⟩) (S.L + 1) cap) tv ∧ Tch (Ft b ov bv vv) w (w'.setCell ⟨b, 10, none⟩ (.slice (some ⟨g, 0, none⟩) (S.L + 1) cap)) ∧ (∀ k, Ft b ov bv (.slice (some ⟨g, 0, none⟩) (S.L + 1) cap) k → Ft b ov bv vv k ∨ w.heap.size ≤ k) := by
  have hgb : ((.slice (some ⟨g, 0, none⟩) (S.L + 1) cap) : Value).ownBlock ≠ some b := by
    intro e
    have e' : g = b := Option.some.inj e
    subst e'
    rcases hp with hp | hp
    · exact h.hvb hp
    · have := (Array.getElem?_eq_some_iff.1 h.blk).1; omega
  have hga_ov : ∀ k, g = k → ov.ownBlock ≠ some k := fun k e hk => by
    subst e
    rcases hp with hp | hp
    · exact (h.hov g hk) hp
    · have := (h.ops.lt g hk).2; omega
  have hga_bv : ∀ k, g = k → bv.ownBlock ≠ some k := fun k e hk => by
    subst e
    rcases hp with hp | hp
    · exact (h.hbv g hk) hp
    · have := (h.bls.lt g hk).2; omega
  have hbl : w'.heap[b]? = w.heap[b]? := hg.block b (Array.getElem?_eq_some_iff.1 h.blk).1 (fun e => h.hvb e.symm)
  refine ⟨⟨?_, h.lob, ?_, ?_, ?_, h.hob, h.hbb, hgb, h.hobv, fun k hk e => hga_ov k (Option.some.inj e) hk, fun k hk e => hga_bv k (Option.some.inj e) hk, ?_⟩, ?_, ?_⟩
  · rw [heap_setCell_same w' b 10 _ 90 _ (hbl.trans h.blk)]; rfl
  · exact h.ops.stays fun k hk => grown_at hg b 10 _ (h.ops.lt k hk).2 (fun e => (h.hov k hk) e.symm) (fun e => h.hob (e ▸ hk))
  · exact h.bls.stays fun k hk => grown_at hg b 10 _ (h.bls.lt k hk).2 (fun e => (h.hbv k hk) e.symm) (fun e => h.hbb (e ▸ hk))
  · exact row_in hrow hgb 10 _
  · obtain ⟨a, cp, e, h1, h2, h3, h4, h5⟩ := h.tap
    refine ⟨a, cp, e, h1, h2, h3, h4, fun h0 => ?_⟩
    obtain ⟨q, off, ea, ⟨f1, f2, f3, f4, f5⟩, hq, hc⟩ := h5 h0
    have hgq : g ≠ q := fun e => by
      subst e
      rcases hp with hp | hp
      · exact f4 hp
      · omega
    refine ⟨q, off, ea, ⟨f1, f2, f3, fun e => hgq (Option.some.inj e), f5⟩, by have := hg.size; simp [World.setCell]; omega, fun j hj => ?_⟩
    rw [World.cell?_of_block (grown_at hg b 10 _ hq (fun e => f4 e.symm) f1)]
    exact hc j hj
  · exact (Tch.of_grown hg (fun k e => .inr (.inr (.inr e)))).trans (tch_set b 10 _ w') (fun _ _ f => f)
  · rintro k (rfl | e | e | e)
    · exact .inl (.inl rfl)
    · exact .inl (.inr (.inl e))
    · exact .inl (.inr (.inr (.inl e)))
    · have e' : g = k := Option.some.inj e
      subst e'
      rcases hp with hp | hp
      · exact .inl (.inr (.inr (.inr hp)))
      · exact .inr (by omega)
end
end Go.Proofs.YtpjgpiieminaoaaDoor

/- Wire: the document's machine: a block ends. -/
namespace Go.Proofs.YtpjgpiieminaoaaDoor
open Go.RowKit
set_option maxRecDepth 100000
theorem Dm.drewN {lo : LoG} {b : Nat} {w : World} {S : Ms} {ov bv vv tv : Value} (h : Dm lo w b S ov bv vv tv) (n : Nat) : Dm lo (w.drewN n) b S ov bv vv tv := h.self (below_drewN w n)
end Go.Proofs.YtpjgpiieminaoaaDoor

/- Wire: the document's machine: a mask is drawn. -/
namespace Go.Proofs.YtpjgpiieminaoaaDoor
open Go.RowKit
set_option maxRecDepth 100000
section
variable {lo : LoG} {b : Nat} {w : World} {S : Ms} {ov bv vv tv : Value}
theorem Dm.drawn (h : Dm lo w b S ov bv vv tv) {v' : Value} {f' u' : Int} (hr : RdS .u64 w (fun g => g ≠ b ∧ ov.ownBlock ≠ some g ∧ bv.ownBlock ≠ some g ∧ vv.ownBlock ≠ some g ∧ lo.G g) v' (wdL (fun i => S.tw (S.used + 1 + i)) (S.TN - (S.used + 1)))) (hf : f' = ((S.free - 1 : Nat) : Int)) (hu : u' = ((S.used + 1 : Nat) : Int)) :
    Dm lo (((w.setCell ⟨b, 11, none⟩ v').setCell ⟨b, 13, none⟩ (.int .i64 f')).setCell ⟨b, 12, none⟩ (.int .i64 u')) b { S with used := S.used + 1, free := S.free - 1 } ov bv vv v' ∧ Tch (Ft b ov bv vv) w (((w.setCell ⟨b, 11, none⟩ v').setCell ⟨b, 13, none⟩ (.int .i64 f')).setCell ⟨b, 12, none⟩ (.int .i64 u')) := by
  subst hf; subst hu
  have ho : ∀ k, k ≠ b → (((w.setCell ⟨b, 11, none⟩ v').setCell ⟨b, 13, none⟩ (.int .i64 ((S.free - 1 : Nat) : Int))).setCell ⟨b, 12, none⟩ (.int .i64 ((S.used + 1 : Nat) : Int))).heap[k]? = w.heap[k]? := fun k hk => by
    rw [heap_setCell_other _ ⟨b, 12, none⟩ k _ hk, heap_setCell_other _ ⟨b, 13, none⟩ k _ hk, heap_setCell_other _ ⟨b, 11, none⟩ k _ hk]
  refine ⟨⟨?_, h.lob, ?_, ?_, ?_, h.hob, h.hbb, h.hvb, h.hobv, h.hov, h.hbv, ?_⟩, ?_⟩
  · rw [heap_setCell_same _ b 12 _ 90 _ (heap_setCell_same _ b 13 _ 90 _ (heap_setCell_same w b 11 _ 90 v' h.blk))]; rfl
  · exact h.ops.stays fun k hk => ho k (fun e => h.hob (by subst e; exact hk))
  · exact h.bls.stays fun k hk => ho k (fun e => h.hbb (by subst e; exact hk))
  · exact h.val.stays fun k hk => ho k (fun e => h.hvb (by subst e; exact hk))
  · exact rds_stays hr (by simp [World.setCell]) fun g hg _ => ho g hg.1
  · exact ((tch_set b 11 _ _).trans (tch_set b 13 _ _) (fun _ _ f => f)).trans (tch_set b 12 _ _) (fun _ _ f => f)
end
end Go.Proofs.YtpjgpiieminaoaaDoor

/- Op: what an op makes, by the document. -/
namespace Go.Proofs.YtpjgpiieminaoaaDoor
open Go.RowKit

theorem rotl_rtw {x m : Nat} (hx : x < 2 ^ 64) : rotl (x : Int) m = (rt x m : Nat) := by
  unfold rotl rt
  have d : ((x : Int) / 2 ^ (64 - m)) = ((x / 2 ^ (64 - m) : Nat) : Int) := by simp
  have e : IntKind.u64.wrap ((x : Int) * 2 ^ m) = ((x * 2 ^ m % 2 ^ 64 : Nat) : Int) := by rw [IntKind.wrap_u64]; simp
  rw [e, d, bits_or_u64_nat _ _ (Nat.mod_lt _ (by decide)) (by have := Nat.div_le_self x (2 ^ (64 - m)); omega)]
theorem orot_n {x m : Nat} {k : Int} (hx : x < 2 ^ 64) (hk : k % 64 = m) (w : World) :
    Calls Tryd.prog 74 #[.int .u64 (x : Int), .int .i64 k] w fun e w' => e = .returned (.int .u64 (rt x m : Nat)) ∧ w' = w := by
  have h := orot_any (x : Int) k w (by omega)
  rw [show (k % 64).toNat = m by omega, rotl_rtw hx] at h
  exact h
/-- An op, as it comes in. -/
abbrev opV (K D A B E : Int) (C : Nat) : Value := .agg #[.int .i64 K, .int .i64 D, .int .i64 A, .int .i64 B, .int .i64 E, .int .u64 (C : Int)]
end Go.Proofs.YtpjgpiieminaoaaDoor

/- General: whole stores and results of any row of cells (arrays, structs). No program is named. -/
namespace Go.Proofs.YtpjgpiieminaoaaDoor
open Go.RowKit
theorem step_store_row {P : Program} {w : World} {ops : Array Oper} {rest : List Oper} {o : Oper} {a : Act} {Q : Exit → Act → World → Prop} (hgd : o.guard = none) (ty : TypeId) (x y : Operand) (ho : o.op = .store ty x y)
    (b : Nat) (t : TypeId) (cs cs' : Array Value) (hx : a.eval x = .pointer (some ⟨b, 0, none⟩)) (hy : a.eval y = .agg cs') (hA : w.heap[b]? = some (.cells cs t (0, 0))) (hi : (P.info? ty).map (·.size) = some cs'.size) (hs : cs.size = cs'.size) (h1 : cs'.all (·.oneCell') = true)
    (k : wpList P ops Q rest (a.put o.dst undef) (w.setRow b cs')) : wpList P ops Q (o :: rest) a w :=
  wpList_plain hgd fun _ hK => wp_store_row ty x y ho b _ hx hy t _ hA hi hs h1 (hK _ _ k)
theorem ret_row_tmp {P : Program} {fn : Func} {p u : Tmp} {ty : TypeId} {R : Ending → World → Prop} {a : Act} {w : World} {b : Nat} {t : TypeId} {cs : Array Value} {d : TypeDesc} (h : fn.results = #[.cell p ty, .tmp u])
    (hp : a.tmps.getD p undef = .pointer (some ⟨b, 0, none⟩)) (hA : w.heap[b]? = some (.cells cs t (0, 0))) (hu : P.underlying ty = some d) (hag : (match d with | .struct _ | .array _ _ => true | _ => false) = true) (hi : (P.info? ty).map (·.size) = some cs.size) (hd : a.defers = [])
    (k : R (.returned (.tuple #[.agg cs, a.tmps.getD u undef])) w) : bodyPost P fn R .ret a w := by
  refine bodyPost_ret ?_ hd k
  rw [results_cell_tmp h, hp]
  simp only [asAddr, Sem.run_pure, Result.andThen_ok, run_loadVar_row w b t ty cs (0, 0) d hA hu hag hi]
theorem yields_load_row {P : Program} {ops : Array Oper} {S : World → Prop} {o : Oper} {a : Act} (hw : Region.wanted o (yielded ops a.tmps) = true) (ty : TypeId) (x : Operand) (ho : o.op = .load ty x) (b : Nat) (t : TypeId) (cs : Array Value) (d : TypeDesc)
    (hx : a.eval x = .pointer (some ⟨b, 0, none⟩)) (hS : ∀ w, S w → w.heap[b]? = some (.cells cs t (0, 0))) (hu : P.underlying ty = some d) (hag : (match d with | .struct _ | .array _ _ => true | _ => false) = true) (hi : (P.info? ty).map (·.size) = some cs.size) : YieldsIf P ops S o (.agg cs) a :=
  .inl ⟨hw, fun w h => by
    unfold execOp
    simp only [ho, hx, Instr.loadAt, Instr.sureAddr, Sem.run_bind, Sem.run_pure, Result.andThen_ok, run_loadVar_row w b t ty cs (0, 0) d (hS w h) hu hag hi]⟩
end Go.Proofs.YtpjgpiieminaoaaDoor
