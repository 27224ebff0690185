import Derived.Test.YthhkhcacljgelaaSbk
import Derived.Test.YthhkhcacljgelaaGen
import Derived.Test.YthhkhcacljgelaaProg
import Derived.Deep.RegionLaw
import Derived.Lib.AppendZerosOnto
set_option maxRecDepth 100000
/- The words of a key, as the document tells them. -/
namespace Go.Proofs.Ythhkhcacljgelaa
open Go.RowKit

/-- A round's mark. -/
def mkb (i : Nat) : Nat := if i < 1 then 0 else pw 2 (i - 1)
theorem mkb_lt (i : Nat) : mkb i < 256 := by
  unfold mkb
  split
  · decide
  · exact pw_lt (by decide) _
/-- What is made of the word ahead. -/
def mkw (K i : Nat) (a : Nat → Nat) (j : Nat) : Nat :=
  if i % K = 0 then sb (a ((j + 1) % 4)) ^^^ (if j = 0 then mkb (i / K) else 0) else if K = 8 ∧ i % 8 = 4 then sb (a j) else a j
theorem mkw_lt {K i : Nat} {a : Nat → Nat} (ha : ∀ j, j < 4 → a j < 256) : ∀ j, j < 4 → mkw K i a j < 256 := fun j hj => by
  unfold mkw
  split
  · refine xor_lt (sb_lt _) ?_
    split
    · exact mkb_lt _
    · decide
  · split
    · exact sb_lt _
    · exact ha j hj
theorem mkw_ext {K i : Nat} {a b : Nat → Nat} (h : ∀ j, j < 4 → a j = b j) : ∀ j, j < 4 → mkw K i a j = mkw K i b j := fun j hj => by
  unfold mkw
  rw [h _ (Nat.mod_lt _ (by decide)), h j hj]
/-- The key's words and n more. -/
def exps (K : Nat) (k : Nat → Nat) : Nat → Nat → Nat → Nat
  | 0 => fun i j => k (4 * i + j)
  | n + 1 => updR (exps K k n) (K + n) fun j => exps K k n n j ^^^ mkw K (K + n) (exps K k n (K + n - 1)) j
theorem exps_new (K : Nat) (k : Nat → Nat) (n : Nat) : exps K k (n + 1) = updR (exps K k n) (K + n) fun j => exps K k n n j ^^^ mkw K (K + n) (exps K k n (K + n - 1)) j := rfl
theorem exps_stay (K : Nat) (k : Nat → Nat) {n i : Nat} (h : i < K + n) : ∀ d, exps K k (n + d) i = exps K k n i
  | 0 => rfl
  | d + 1 => by
    show exps K k (n + d + 1) i = _
    rw [exps_new]
    unfold updR
    rw [if_neg (by omega)]
    exact exps_stay K k h d
theorem exps_at (K : Nat) (k : Nat → Nat) {N i : Nat} (hK : 0 < K) (h : K ≤ i) (hN : i < K + N) (j : Nat) : exps K k N i j = exps K k N (i - K) j ^^^ mkw K i (exps K k N (i - 1)) j := by
  obtain ⟨n, rfl⟩ : ∃ n, i = K + n := ⟨i - K, by omega⟩
  obtain ⟨d, rfl⟩ : ∃ d, N = n + 1 + d := ⟨N - n - 1, by omega⟩
  rw [exps_stay K k (n := n + 1) (by omega) d, exps_new]
  simp only [updR, if_pos]
  rw [show n + 1 + d = n + (1 + d) by omega, exps_stay K k (n := n) (by omega) (1 + d), exps_stay K k (n := n) (by omega) (1 + d), show K + n - K = n by omega]
theorem exps_key (K : Nat) (k : Nat → Nat) {N i : Nat} (h : i < K) (j : Nat) : exps K k N i j = k (4 * i + j) := by
  have := exps_stay K k (n := 0) (i := i) (by omega) N
  rw [Nat.zero_add] at this
  rw [this]; rfl
theorem exps_lt {K : Nat} {k : Nat → Nat} (hk : ∀ x, k x < 256) : ∀ n i j, j < 4 → exps K k n i j < 256
  | 0, _, _, _ => hk _
  | n + 1, i, j, hj => by
    rw [exps_new]
    unfold updR
    split
    · exact xor_lt (exps_lt hk n _ j hj) (mkw_lt (exps_lt hk n _) j hj)
    · exact exps_lt hk n i j hj
/-- Round key r. -/
def rkey (K : Nat) (k : Nat → Nat) (N r m : Nat) : Nat := exps K k N (4 * r + m / 4) (m % 4)

/-- How many rounds. -/
def rnd (n : Int) : Nat := if n = 16 then 10 else if n = 24 then 12 else if n = 32 then 14 else 0

theorem rounds_any (n : Int) (w : World) : Calls Try.prog 17 #[.int .i64 n] w fun e w' => e = .returned (.int .i64 (rnd n : Nat)) ∧ w' = w := by
  unfold rnd
  by_cases h1 : n = 16
  · subst h1; go_enter Try.func17, Try.ntmps17; go_wp2; go_ret; exact ⟨rfl, rfl⟩
  by_cases h2 : n = 24
  · subst h2; go_enter Try.func17, Try.ntmps17; go_wp2; go_ret; exact ⟨rfl, rfl⟩
  by_cases h3 : n = 32
  · subst h3; go_enter Try.func17, Try.ntmps17; go_wp2; go_ret; exact ⟨rfl, rfl⟩
  rw [if_neg h1, if_neg h2, if_neg h3]
  have e1 : (n == 16) = false := by rw [beq_eq_false_iff_ne]; exact h1
  have e2 : (n == 24) = false := by rw [beq_eq_false_iff_ne]; exact h2
  have e3 : (n == 32) = false := by rw [beq_eq_false_iff_ne]; exact h3
  clear h1 h2 h3
  go_enter Try.func17, Try.ntmps17
  go_wp2
  go_ret
  exact ⟨rfl, rfl⟩
/-- The mark of any number. -/
def mki (n : Int) : Nat := if n < 1 then 0 else pwi 2 (n - 1)
theorem mki_nat (n : Nat) : mki (n : Int) = mkb n := by
  unfold mki mkb
  by_cases h : n < 1
  · rw [if_pos (by omega), if_pos h]
  · rw [if_neg (by omega), if_neg h, show ((n : Int) - 1) = ((n - 1 : Nat) : Int) by omega, pwi_nat]
theorem mark_any (n : Int) (w : World) (h : n ≤ 9223372036854775807) : Calls Try.prog 42 #[.int .i64 n] w fun e w' => e = .returned (.int .u8 (mki n : Nat)) ∧ w' = w := by
  unfold mki
  by_cases h1 : n < 1
  · rw [if_pos h1]
    go_enter Try.func42, Try.ntmps42
    go_wp2
    go_ret
    exact ⟨rfl, rfl⟩
  · rw [if_neg h1]
    have HP : Hid (∀ w, Calls Try.prog 49 #[.int .u8 2, .int .i64 (n - 1)] w fun e w' => e = .returned (.int .u8 (pwi 2 (n - 1) : Nat)) ∧ w' = w) := hid (fun w => pow_any 2 (n - 1) w (by decide) (by omega))
    generalize pwi 2 (n - 1) = p at HP ⊢
    go_enter Try.func42, Try.ntmps42
    go_wp2_with (first | (go_at_call 49; (with_reducible refine (HP.out _).mono ?_); rintro e w1 ⟨rfl, rfl⟩))
    go_ret
    exact ⟨rfl, rfl⟩
theorem marks_nat (n : Nat) (w : World) (h : n ≤ 9223372036854775807) : Calls Try.prog 42 #[.int .i64 (n : Int)] w fun e w' => e = .returned (.int .u8 (mkb n : Nat)) ∧ w' = w := by
  have := mark_any n w (by omega)
  rwa [mki_nat] at this
/-! ### a box, asked or not -/
def Box (w : World) (b : Nat) : Prop := ∃ s p, BAt w b 0 0 s zt zt p ∨ BAt w b 1 0 s sb bk p
theorem Box.lt {w : World} {b : Nat} (h : Box w b) : b < w.heap.size := by
  obtain ⟨s, p, h | h⟩ := h <;> exact h.lt
theorem Box.self {w w' : World} {b : Nat} (h : Box w b) (hb : Below w.heap.size w w') : Box w' b := by
  obtain ⟨s, p, h | h⟩ := h
  · exact ⟨s, p, .inl (h.self hb)⟩
  · exact ⟨s, p, .inr (h.self hb)⟩
theorem Box.only {w w' : World} {b c : Nat} (h : Box w b) (o : Only c w w') (hc : b ≠ c) : Box w' b := by
  obtain ⟨s, p, h | h⟩ := h
  · exact ⟨s, p, .inl (h.only o hc)⟩
  · exact ⟨s, p, .inr (h.only o hc)⟩
theorem Box.drew {w : World} {b : Nat} (h : Box w b) : Box w.drew b := h
theorem Box.set {w : World} {b : Nat} (h : Box w b) {a : Addr} (ha : b ≠ a.block) (v : Value) : Box (w.setCell a v) b := by
  obtain ⟨s, p, h | h⟩ := h
  · exact ⟨s, p, .inl ((heap_setCell_other w a b v ha).trans h)⟩
  · exact ⟨s, p, .inr ((heap_setCell_other w a b v ha).trans h)⟩
theorem sub_box (b x : Nat) (w : World) (hx : x < 256) (h : Box w b) :
    Calls Try.prog 48 #[.pointer (some ⟨b, 0, none⟩), .int .u8 (x : Int)] w fun e w' => e = .returned (.int .u8 (sb x : Nat)) ∧ Box w' b ∧ Only b w w' := by
  obtain ⟨s, p, h | h⟩ := h
  · exact (sub_first b x s p w hx h).mono fun e w' ⟨h1, h2, h3⟩ => ⟨h1, ⟨s, p, .inr h2⟩, h3⟩
  · exact (sub_done b x s p w hx h).mono fun e w' ⟨h1, h2⟩ => ⟨h1, by rw [h2]; exact ⟨s, p, .inr h⟩, by rw [h2]; exact Only.refl b w⟩
end Go.Proofs.Ythhkhcacljgelaa

namespace Go.Proofs.Ythhkhcacljgelaa
open Go.RowKit

theorem infob : (Try.prog.info? 5).map (fun i => (i.zero, i.size, i.bytes)) = some (some (.int .u8 0), 1, IntKind.u8.bits / 8) := by kernel_rfl
theorem make_bytes (n : Nat) (h : n ≤ 65536) (w : World) : (Instr.makeSlice 23 (.int .i64 n) (.int .i64 n)).run Try.prog w = .ok (.slice (some ⟨w.heap.size, 0, none⟩) n n) (w.alloc (.cells (ba n (fun _ => 0)) 5)) := by
  have := run_make_ints (P := Try.prog) w .u8 .i64 23 5 n Try.underlying23 infob (by show n * 1 ≤ _; omega) (by decide)
  rw [this]
  congr 3
  apply Array.ext_getElem?
  intro i
  by_cases hi : i < n
  · rw [ba_get _ hi]; simp [madeCells, hi, Nat.mod_one]
  · rw [Array.getElem?_eq_none (by simp [size_madeCells]; omega), Array.getElem?_eq_none (by rw [ba_size]; omega)]

/-- A row of n bytes that is being filled by f, in block b. -/
structure Fill (w wr : World) (b n : Nat) (f : Nat → Nat) (j : Nat) : Prop where
  row : At wr b n 5 (upTo f j)
  low : Below w.heap.size w wr
theorem Fill.step {w wr : World} {b n : Nat} {f : Nat → Nat} {j : Nat} (h : Fill w wr b n f j) (hb : w.heap.size ≤ b) {z : Nat} (hz : z = f j) : Fill w (wr.setCell ⟨b, j, none⟩ (.int .u8 (z : Int))) b n f (j + 1) := by
  refine ⟨(h.row.set j z).ext (fun i _ => ?_), h.low.setCell hb _⟩
  unfold upd upTo
  by_cases e : i = j
  · subst e; simp [hz]
  · rw [if_neg e]
    by_cases h1 : i < j
    · rw [if_pos h1, if_pos (by omega)]
    · rw [if_neg h1, if_neg (by omega)]
theorem Fill.start (w : World) (n : Nat) (f : Nat → Nat) : Fill w (w.alloc (.cells (ba n (fun _ => 0)) 5)) w.heap.size n f 0 :=
  ⟨(At.new w n 5 (fun _ => 0)).ext (fun i _ => (if_neg (by omega)).symm), (Below.refl _ _).alloc (Nat.le_refl _) _⟩
theorem Fill.drew {w wr : World} {b n : Nat} {f : Nat → Nat} {j : Nat} (h : Fill w wr b n f j) : Fill w wr.drew b n f j := ⟨h.row.drew, h.low.drew⟩
theorem upTo_all {n : Nat} (f : Nat → Nat) : ∀ i, i < n → upTo f n i = f i := fun _ h => if_pos h

set_option maxRecDepth 100000 in
theorem sum_any (ga oa ca gb ob cb : Nat) (f g : Nat → Nat) (w : World) (hA : Wd w 4 ga oa f) (hB : Wd w 4 gb ob g) :
    Calls Try.prog 27 #[.slice (some ⟨ga, oa, none⟩) 4 ca, .slice (some ⟨gb, ob, none⟩) 4 cb] w fun e w' =>
      e = .returned (.slice (some ⟨w.heap.size, 0, none⟩) 4 4) ∧ Wd w' 4 w.heap.size 0 (fun j => f j ^^^ g j) ∧ Below w.heap.size w w' := by
  have HMK := hid (make_bytes 4 (by decide))
  have HS := hid (Fill.start w 4 (fun j => f j ^^^ g j))
  have HA := hid hA
  have HB := hid hB
  have hmk : ∀ w : World, (Instr.makeSlice 23 (.int .i64 4) (.int .i64 4)).run Try.prog w = .ok (.slice (some ⟨w.heap.size, 0, none⟩) 4 4) (w.alloc (.cells (ba 4 (fun _ => 0)) 5)) := HMK.out
  clear hA hB
  go_enter Try.func27, Try.ntmps27
  go_wp2
  go_loopw [12] (fun i wr => ∃ j : Nat, j ≤ 4 ∧ i = .int .i64 j ∧ Fill w wr w.heap.size 4 (fun j => f j ^^^ g j) j) (fun i _ => 4 - (intOf i).toNat)
  case atStart => exact ⟨0, by omega, rfl, HS.out⟩
  case round =>
    obtain ⟨j, hj, rfl, hI⟩ := hrel
    have HI := hid hI
    clear hI
    clear hmk
    by_cases hlt : j < 4
    · have hx := HA.out.byte j hlt
      have hy := HB.out.byte j hlt
      have HX := hid (xor8 hx hy)
      have HT := hid (HI.out.drew.step (Nat.le_refl _) (z := f j ^^^ g j) rfl)
      have HA1 := hid (HA.out.self HI.out.low)
      have HB1 := hid (HB.out.self HI.out.low)
      have hc1 := HA1.out.drew.cell j hlt
      have hc2 := HB1.out.drew.cell j hlt
      have hc3 := HI.out.drew.row.cell hlt
      have hf3 := HI.out.drew.row.free j
      have h0 : (0 : Int) ≤ (j : Int) := by omega
      have h4 : (j : Int) < 4 := by omega
      generalize upTo (fun j => f j ^^^ g j) j j = x0 at hc3
      clear hx hy
      go_wp2
      go_region
      go_wp2
      go_roundw
      case rel => exact ⟨j + 1, by omega, by go_num, by rw [HX.out]; exact HT.out⟩
      case measure => simp [intOf]; omega
    · obtain rfl : j = 4 := by omega
      go_wp2
      go_ret
      exact ⟨rfl, (Wd.of_at HI.out.row (fun j hj => by rw [upTo_all _ j hj]; exact xor_lt (HA.out.byte j hj) (HB.out.byte j hj))).ext (upTo_all _), HI.out.low⟩
end Go.Proofs.Ythhkhcacljgelaa

namespace Go.Proofs.Ythhkhcacljgelaa
open Go.RowKit

/-- A row that is being filled while a box b is asked. -/
structure FillB (b : Nat) (w wr : World) (n : Nat) (f : Nat → Nat) (j : Nat) : Prop where
  row : At wr w.heap.size n 5 (upTo f j)
  box : Box wr b
  low : Only b w wr
theorem FillB.start {b : Nat} {w : World} (h : Box w b) (n : Nat) (f : Nat → Nat) : FillB b w (w.alloc (.cells (ba n (fun _ => 0)) 5)) n f 0 :=
  ⟨(At.new w n 5 (fun _ => 0)).ext (fun i _ => (if_neg (by omega)).symm), h.self ((Below.refl _ _).alloc (Nat.le_refl _) _), Only.of_below ((Below.refl _ _).alloc (Nat.le_refl _) _)⟩
theorem FillB.asked {b : Nat} {w wr w1 : World} {n : Nat} {f : Nat → Nat} {j : Nat} (h : FillB b w wr n f j) (hb : b < w.heap.size) (hx : Box w1 b) (ho : Only b wr w1) : FillB b w w1 n f j :=
  ⟨(ho.block _ h.row.lt (Nat.ne_of_gt hb)).trans h.row, hx, h.low.trans ho⟩
theorem below_only {b : Nat} {w wr : World} (h : Only b w wr) (a : Addr) (v : Value) (ha : w.heap.size ≤ a.block) : Only b w (wr.setCell a v) :=
  ⟨h.os, h.tape, h.output, by simpa [World.setCell] using h.size, fun j hj hn => (heap_setCell_other wr a j v (by omega)).trans (h.block j hj hn)⟩
theorem FillB.step {b : Nat} {w wr : World} {n : Nat} {f : Nat → Nat} {j : Nat} (h : FillB b w wr n f j) (hb : b < w.heap.size) {z : Nat} (hz : z = f j) : FillB b w (wr.setCell ⟨w.heap.size, j, none⟩ (.int .u8 (z : Int))) n f (j + 1) := by
  refine ⟨(h.row.set j z).ext (fun i _ => ?_), h.box.set (Nat.ne_of_lt hb) _, below_only h.low _ _ (Nat.le_refl _)⟩
  unfold upd upTo
  by_cases e : i = j
  · subst e; simp [hz]
  · rw [if_neg e]
    by_cases h1 : i < j
    · rw [if_pos h1, if_pos (by omega)]
    · rw [if_neg h1, if_neg (by omega)]

set_option maxRecDepth 100000 in
theorem substituted_any (b g o c : Nat) (f : Nat → Nat) (w : World) (hB : Box w b) (hA : Wd w 4 g o f) (hn : g ≠ b) :
    Calls Try.prog 40 #[.pointer (some ⟨b, 0, none⟩), .slice (some ⟨g, o, none⟩) 4 c] w fun e w' =>
      e = .returned (.slice (some ⟨w.heap.size, 0, none⟩) 4 4) ∧ At w' w.heap.size 4 5 (fun j => sb (f j)) ∧ Box w' b ∧ Only b w w' := by
  have HMK := hid (make_bytes 4 (by decide))
  have HS := hid (FillB.start hB 4 (fun j => sb (f j)))
  have HA := hid hA
  have hlb := hB.lt
  have hmk : ∀ w : World, (Instr.makeSlice 23 (.int .i64 4) (.int .i64 4)).run Try.prog w = .ok (.slice (some ⟨w.heap.size, 0, none⟩) 4 4) (w.alloc (.cells (ba 4 (fun _ => 0)) 5)) := HMK.out
  clear hA hB
  go_enter Try.func40, Try.ntmps40
  go_wp2
  go_loopw [13] (fun i wr => ∃ j : Nat, j ≤ 4 ∧ i = .int .i64 j ∧ FillB b w wr 4 (fun j => sb (f j)) j) (fun i _ => 4 - (intOf i).toNat)
  case atStart => exact ⟨0, by omega, rfl, HS.out⟩
  case round =>
    obtain ⟨j, hj, rfl, hI⟩ := hrel
    have HI := hid hI
    clear hI hmk
    by_cases hlt : j < 4
    · have hx := HA.out.byte j hlt
      have HC := hid (fun w h => sub_box b (f j) w hx h)
      have HA1 := hid (HA.out.only HI.out.low hn)
      have hc1 := HA1.out.cell j hlt
      have h0 : (0 : Int) ≤ (j : Int) := by omega
      have h4 : (j : Int) < 4 := by omega
      obtain ⟨y, hy⟩ : ∃ y, sb (f j) = y := ⟨_, rfl⟩
      rw [hy] at HC
      have HY := hid hy
      clear hx hy
      generalize hxx : f j = x at *
      have HXX := hid hxx
      clear hxx
      go_wp2_with (first | (go_at_call 48; (with_reducible refine (HC.out _ HI.out.box).mono ?_); rintro e w1 ⟨rfl, hbx, ho⟩; have HJ := hid (HI.out.asked hlb hbx ho); have hc2 := HJ.out.row.cell hlt; have hf2 := HJ.out.row.free j; clear hbx ho))
      go_roundw
      case rel => exact ⟨j + 1, by omega, by go_num, HJ.out.step hlb (by rw [HXX.out]; exact HY.out.symm)⟩
      case measure => simp [intOf]; omega
    · obtain rfl : j = 4 := by omega
      go_wp2
      go_ret
      exact ⟨rfl, HI.out.row.ext (upTo_all _), HI.out.box, HI.out.low⟩

set_option maxRecDepth 100000 in
theorem turned_any (g o : Nat) (f : Nat → Nat) (w : World) (hA : Wd w 4 g o f) :
    Calls Try.prog 41 #[.slice (some ⟨g, o, none⟩) 4 4] w fun e w' =>
      ∃ g' c', e = .returned (.slice (some ⟨g', 0, none⟩) 4 c') ∧ w.heap.size ≤ g' ∧ Wd w' 4 g' 0 (fun j => f ((j + 1) % 4)) ∧ Below w.heap.size w w' := by
  have hc0 : w.drew.cell? ⟨g, o, none⟩ = some (.int .u8 (f 0 : Int)) := hA.drew.cell 0 (by omega)
  have HA := hid hA
  clear hA
  go_enter Try.func41, Try.ntmps41
  go_wp2
  go_region_law (refine step_append_new rfl (.tmp 4) (.tmp 8) 23 rfl .u8 5 Try.underlying23 infob (by decide) ⟨g, o + 1, none⟩ 3 3 (ns 3 (fun j => f (j + 1))) (by simp [Act.eval]) (ns_len _ _) (fun j hj => by rw [ns_nth _ hj, Addr.add_mid, Nat.add_assoc, Nat.add_comm 1 j]; exact (HA.out.drew.alloc _).cell (j + 1) (by omega)) ⟨w.heap.size, 0, none⟩ 1 1 [(f 0 : Int)] (by simp [Act.eval]) rfl (cell_new_int_drew w .u8 _ 5) (by decide) (by decide) ?_; intro g' c' w' hown hg hlow)
  have HO := hid hown
  have HG := hid hg
  have HL := hid hlow
  clear hown hg hlow
  go_wp2
  go_ret
  have e4 : ns 3 (fun j => f (j + 1)) ++ [(f 0 : Int)] = ns 4 (fun j => f ((j + 1) % 4)) := rfl
  refine ⟨g', c', rfl, Nat.le_trans (by simp) HG.out, Wd.of_own (by rw [← e4]; exact HO.out) (by decide) (fun j hj => HA.out.byte _ (Nat.mod_lt _ (by decide))), (((Below.refl w.heap.size w).drew).alloc (by simp) _).trans (HL.out.mono (by simp))⟩
end Go.Proofs.Ythhkhcacljgelaa

namespace Go.Proofs.Ythhkhcacljgelaa
open Go.RowKit

theorem tmod_nat (a b : Nat) : ((a : Int).tmod (b : Int)) = ((a % b : Nat) : Int) := by rw [Int.tmod_eq_emod_of_nonneg (by omega)]; omega
theorem tdiv_nat (a b : Nat) : ((a : Int).tdiv (b : Int)) = ((a / b : Nat) : Int) := by rw [Int.tdiv_eq_ediv_of_nonneg (by omega)]; omega

/-- What made promises. -/
def MadeP (b K i : Nat) (f : Nat → Nat) (w : World) (e : Ending) (w' : World) : Prop :=
  ∃ g o c, e = .returned (.slice (some ⟨g, o, none⟩) 4 c) ∧ g ≠ b ∧ Wd w' 4 g o (mkw K i f) ∧ Box w' b ∧ Only b w w'

set_option maxRecDepth 100000 in
set_option maxHeartbeats 1600000 in
theorem made_mark (b g o i K : Nat) (f : Nat → Nat) (w : World) (hB : Box w b) (hA : Wd w 4 g o f) (_hn : g ≠ b) (hK : 0 < K) (hK8 : K ≤ 8) (hi : i ≤ 1000) (hr : i % K = 0) :
    Calls Try.prog 28 #[.pointer (some ⟨b, 0, none⟩), .slice (some ⟨g, o, none⟩) 4 4, .int .i64 (i : Int), .int .i64 (K : Int)] w fun e w' => MadeP b K i f w e w' := by
  have HT := hid (turned_any g o f w hA)
  have HSB := hid (fun g w c hb ha hn => substituted_any b g 0 c (fun j => f ((j + 1) % 4)) w hb ha hn)
  have hlb := hB.lt
  have HB := hid hB
  have HM := hid (fun w => marks_nat (i / K) w (Nat.le_trans (Nat.div_le_self _ _) (by omega)))
  have hmod : ((i : Int) % (K : Int) == 0) = true := by rw [beq_iff_eq]; omega
  have hdiv : (i : Int) / (K : Int) = ((i / K : Nat) : Int) := by omega
  have h0 : ¬ (K : Int) = 0 := by omega
  have h00 : ¬ K = 0 := by omega
  have hwr : IntKind.i64.wrap ((i / K : Nat) : Int) = ((i / K : Nat) : Int) := by rw [IntKind.wrap_i64]; have := Nat.div_le_self i K; generalize i / K = q at *; omega
  have HE := hid (show mkw K i f = fun j => sb (f ((j + 1) % 4)) ^^^ (if j = 0 then mkb (i / K) else 0) by funext j; unfold mkw; rw [if_pos hr])
  have HML := hid (mkb_lt (i / K))
  generalize mkb (i / K) = mk at HM HE HML
  generalize i / K = q at *
  clear hB hA hr
  go_enter Try.func28, Try.ntmps28
  go_wp2_with (first
    | (go_at_call 41; (with_reducible refine (HT.out).mono ?_); rintro e w1 ⟨g1, c1, rfl, hg1, hw1, hl1⟩; have HB1 := hid (HB.out.self hl1); have HW1 := hid hw1; have HL1 := hid hl1; have HN1 := hid (show g1 ≠ b by omega); clear hw1 hl1 hg1)
    | (go_at_call 40; (with_reducible refine (HSB.out _ _ _ HB1.out HW1.out HN1.out).mono ?_); rintro e w2 ⟨rfl, ha2, hb2, ho2⟩; have HA2 := hid ha2; have HB2 := hid hb2; have HO2 := hid ((Only.of_below HL1.out).trans ho2); clear ha2 hb2 ho2))
  have hsz : w.heap.size ≤ w1.heap.size := HL1.out.size
  generalize w1.heap.size = g2 at *
  have hc0 := HA2.out.drew.cell (show 0 < 4 by decide)
  have hf0 := HA2.out.drew.free 0
  have HSET := hid (HA2.out.drew.set 0 (sb (f 1) ^^^ mk))
  have hx1 : sb (f ((0 + 1) % 4)) = sb (f 1) := rfl
  rw [hx1] at hc0
  have HX := hid (xor8 (sb_lt (f 1)) HML.out)
  have HSL := hid (sb_lt (f 1))
  have HAll := hid (fun (j : Nat) => show sb (f ((j + 1) % 4)) < 256 from sb_lt _)
  have HB3 := hid (HB2.out.drew)
  have HO3 := hid (HO2.out.drew)
  have hgb : b ≠ g2 := by omega
  have HF := hid (show ∀ j, j < 4 → upd (fun j => sb (f ((j + 1) % 4))) 0 (sb (f 1) ^^^ mk) j = sb (f ((j + 1) % 4)) ^^^ (if j = 0 then mk else 0) by
    intro j hj
    unfold upd
    by_cases e : j = 0
    · subst e; rfl
    · rw [if_neg e, if_neg e, Nat.xor_zero])
  generalize sb (f 1) = x at *
  refine region_tail 9 (by kernel_rfl) (by kernel_rfl) ?_
  simp only [List.take_succ_cons, List.take_zero, List.drop_succ_cons, List.drop_zero]
  generalize w2.drew = w3 at *
  repeat still_step
  still_call (HM.out _)
  repeat still_step
  refine wpStill_nil ?_
  go_wp2
  go_ret
  refine ⟨g2, 0, 4, rfl, Ne.symm hgb, ?_, HB3.out.set (a := ⟨g2, 0, none⟩) hgb _, below_only HO3.out _ _ hsz⟩
  rw [HE.out, HX.out]
  exact (Wd.of_at HSET.out (fun j hj => by rw [HF.out j hj]; exact xor_lt (HAll.out j) (by split; exact HML.out; decide))).ext HF.out

set_option maxRecDepth 100000 in
set_option maxHeartbeats 1600000 in
theorem made_sub (b g o i : Nat) (f : Nat → Nat) (w : World) (hB : Box w b) (hA : Wd w 4 g o f) (hn : g ≠ b) (hi : i ≤ 1000) (hr : i % 8 = 4) :
    Calls Try.prog 28 #[.pointer (some ⟨b, 0, none⟩), .slice (some ⟨g, o, none⟩) 4 4, .int .i64 (i : Int), .int .i64 8] w fun e w' => MadeP b 8 i f w e w' := by
  have HSB := hid (substituted_any b g o 4 f w hB hA hn)
  have hlb := hB.lt
  have h1 : ((i : Int) % 8 == 0) = false := by rw [beq_eq_false_iff_ne]; omega
  have h2 : (((i : Int) - 4).tmod 8 == 0) = true := by rw [Int.tmod_eq_emod_of_nonneg (by omega), beq_iff_eq]; omega
  have HE := hid (show mkw 8 i f = fun j => sb (f j) by funext j; unfold mkw; rw [if_neg (by omega), if_pos ⟨rfl, hr⟩])
  clear hB hA hr
  go_enter Try.func28, Try.ntmps28
  go_wp2_with (first
    | (go_at_call 40; (with_reducible refine (HSB.out).mono ?_); rintro e w2 ⟨rfl, ha2, hb2, ho2⟩; have HA2 := hid ha2; have HB2 := hid hb2; have HO2 := hid ho2; clear ha2 hb2 ho2))
  go_ret
  exact ⟨_, 0, 4, rfl, Nat.ne_of_gt hlb, by rw [HE.out]; exact Wd.of_at HA2.out (fun j _ => sb_lt _), HB2.out, HO2.out⟩

set_option maxRecDepth 100000 in
set_option maxHeartbeats 1600000 in
theorem made_plain (b g o i K : Nat) (f : Nat → Nat) (w : World) (hB : Box w b) (hA : Wd w 4 g o f) (hn : g ≠ b) (hK : 0 < K) (hi : i ≤ 1000) (hi4 : 4 ≤ i) (hr : i % K ≠ 0) (h8 : ¬(K = 8 ∧ i % 8 = 4)) :
    Calls Try.prog 28 #[.pointer (some ⟨b, 0, none⟩), .slice (some ⟨g, o, none⟩) 4 4, .int .i64 (i : Int), .int .i64 (K : Int)] w fun e w' => MadeP b K i f w e w' := by
  have HE := hid (show mkw K i f = f by funext j; unfold mkw; rw [if_neg hr, if_neg h8])
  have h1 : ((i : Int) % (K : Int) == 0) = false := by rw [beq_eq_false_iff_ne]; omega
  have h0 : ¬ (K : Int) = 0 := by omega
  have h00 : ¬ K = 0 := by omega
  have HA := hid hA
  have HB := hid hB
  by_cases h : K = 8
  · subst h
    have h2 : (((i : Int) - 4) % 8 == 0) = false := by rw [beq_eq_false_iff_ne]; omega
    clear hA hB hr h8
    go_enter Try.func28, Try.ntmps28
    go_wp2
    go_ret
    exact ⟨g, o, 4, rfl, hn, by rw [HE.out]; exact HA.out, HB.out, Only.refl b w⟩
  · have h2 : ((K : Int) == 8) = false := by rw [beq_eq_false_iff_ne]; omega
    clear hA hB hr h8
    go_enter Try.func28, Try.ntmps28
    go_wp2
    go_ret
    exact ⟨g, o, 4, rfl, hn, by rw [HE.out]; exact HA.out, HB.out, Only.refl b w⟩

theorem made_any (b g o i K : Nat) (f : Nat → Nat) (w : World) (hB : Box w b) (hA : Wd w 4 g o f) (hn : g ≠ b) (hK : 4 ≤ K) (hK8 : K ≤ 8) (hi : i ≤ 1000) (hKi : K ≤ i) :
    Calls Try.prog 28 #[.pointer (some ⟨b, 0, none⟩), .slice (some ⟨g, o, none⟩) 4 4, .int .i64 (i : Int), .int .i64 (K : Int)] w fun e w' => MadeP b K i f w e w' := by
  by_cases h1 : i % K = 0
  · exact made_mark b g o i K f w hB hA hn (by omega) hK8 hi h1
  · by_cases h2 : K = 8 ∧ i % 8 = 4
    · obtain ⟨rfl, h2⟩ := h2
      exact made_sub b g o i f w hB hA hn hi h2
    · exact made_plain b g o i K f w hB hA hn (by omega) hi (by omega) h1 h2
end Go.Proofs.Ythhkhcacljgelaa

namespace Go.Proofs.Ythhkhcacljgelaa
open Go.RowKit

theorem infor : (Try.prog.info? 23).map (fun i => (i.zero, i.size, i.bytes)) = some (some (.slice none 0 0), 1, 24) := by kernel_rfl

/-- A key's words, cut out of it. -/
structure CutInv (w wr : World) (v : Value) (kb ko i : Nat) : Prop where
  own : wr.ownsRow w.heap.size 23 1 v i (vs i 4 (fun _ => kb) (fun i => ko + 4 * i) (fun _ => 4))
  low : Below w.heap.size w wr
theorem CutInv.next (kb ko i : Nat) : vs i 4 (fun _ => kb) (fun i => ko + 4 * i) (fun _ => 4) ++ [.slice (some ⟨kb, ko + 4 * i, none⟩) 4 4] = vs (i + 1) 4 (fun _ => kb) (fun i => ko + 4 * i) (fun _ => 4) := by
  simp [vs, List.range_succ]

set_option maxRecDepth 100000 in
set_option maxHeartbeats 1600000 in
theorem cut_any (kb ko kc K : Nat) (k : Nat → Nat) (w : World) (hK : 4 ≤ K) (hK8 : K ≤ 8) (hc : 4 * K ≤ kc) (hkc : kc ≤ maxLen) (hA : Wd w (4 * K) kb ko k) :
    Calls Try.prog 26 #[.slice (some ⟨kb, ko, none⟩) (4 * K) kc] w fun e w' =>
      ∃ c cap, e = .returned (.slice (some ⟨c, 0, none⟩) K cap) ∧ LW w' w.heap.size 23 c K cap 4 (fun _ => kb) (fun i => ko + 4 * i) (fun _ => 4) (fun i j => k (4 * i + j)) ∧ Below w.heap.size w w' := by
  have HA := hid hA
  have HS : Hid (CutInv w w (.slice none 0 0) kb ko 0) := hid ⟨World.ownsRow_nil w w.heap.size 23 1, Below.refl _ _⟩
  clear hA
  have hc' : (4 * K : Nat) ≤ kc := hc
  unfold maxLen at hkc
  go_enter Try.func26, Try.ntmps26
  go_wp2
  go_loopw [3, 4] (fun v i wr => ∃ j : Nat, j ≤ K ∧ i = .int .i64 (4 * j : Nat) ∧ CutInv w wr v kb ko j) (fun _ i _ => 4 * K - (intOf i).toNat)
  case atStart => exact ⟨0, by omega, rfl, HS.out⟩
  case round =>
    obtain ⟨j, hj, rfl, hI⟩ := hrel
    have HI := hid hI
    clear hI
    by_cases hlt : j < K
    · have h1 : (0 : Int) ≤ ((4 * j : Nat) : Int) := by omega
      have h2 : ((4 * j : Nat) : Int) < ((4 * K : Nat) : Int) := by omega
      have h3 : ((4 * j : Nat) : Int) + 4 ≤ (kc : Int) := by omega
      go_wp2_with (first
        | (refine wpList_append_val rfl (.tmp 14) (.tmp 20) 36 rfl (.slice none 0 0) 24 w.heap.size 23 Try.underlying36 infor rfl (by decide) _ j _ rfl (HI.out.own.alloc _) ⟨wr.heap.size, 0, none⟩ 1 (.slice (some ⟨kb, ko + 4 * j, none⟩) 4 4) rfl (cell_new0 wr _ 23) rfl (by omega) (by have := HI.out.low.size; simp; omega) w.heap.size w (HI.out.low.alloc HI.out.low.size _) (Nat.le_refl _) ?_; intro v' w' hown' hlow' hsz'; rw [CutInv.next] at hown'; have HN := hid (CutInv.mk hown' hlow'); clear hown' hlow' hsz'))
      go_roundw
      case rel => exact ⟨j + 1, by omega, by go_num, HN.out⟩
      case measure => simp [intOf]; omega
    · obtain rfl : j = K := by omega
      obtain ⟨c, cap, hv, _, _⟩ := HI.out.own.form (by omega)
      subst hv
      go_wp2
      go_ret
      refine ⟨c, cap, rfl, ⟨HI.out.own, fun i hi => ?_, fun i hi => ?_⟩, HI.out.low⟩
      · exact ((HA.out.self HI.out.low).part (k := 4 * i) (m := 4) (by omega))
      · have := HI.out.own.form (by omega)
        have h1 := HA.out.lt
        obtain ⟨c', cap', e, hb, _⟩ := this
        injection e with e1 _ _
        injection e1 with e1
        injection e1 with e1
        omega
end Go.Proofs.Ythhkhcacljgelaa

namespace Go.Proofs.Ythhkhcacljgelaa
open Go.RowKit

theorem upd_const (c m : Nat) : upd (fun _ => c) m c = fun _ => c := by
  funext i
  unfold upd
  split <;> rfl

/-- The words so far. -/
structure WInv (w wr : World) (b c cap K n : Nat) (gs os : Nat → Nat) (k : Nat → Nat) : Prop where
  list : LW wr w.heap.size 23 c (K + n) cap 4 gs os (fun _ => 4) (exps K k n)
  box : Box wr b
  low : Below w.heap.size w wr
  new : w.heap.size ≤ b
  apart : c ≠ b
  each : ∀ i, i < K + n → gs i ≠ b
/-- Behind made, sum and the new row's own block. -/
theorem WInv.cellA {w wr : World} {b c cap K n : Nat} {gs os : Nat → Nat} {k : Nat → Nat} (h : WInv w wr b c cap K n gs os k) (hK : 0 < K) :
    wr.cell? ⟨c, K + n - 1, none⟩ = some (.slice (some ⟨gs (K + n - 1), os (K + n - 1), none⟩) 4 4) := h.list.cell (by omega)
theorem WInv.cellP {w wr : World} {b c cap K n : Nat} {gs os : Nat → Nat} {k : Nat → Nat} (h : WInv w wr b c cap K n gs os k) (hK : 0 < K) :
    wr.cell? ⟨c, n, none⟩ = some (.slice (some ⟨gs n, os n, none⟩) 4 4) := h.list.cell (by omega)
theorem WInv.next {w wr w' : World} {b c cap K n c' cap' g : Nat} {gs os : Nat → Nat} {k : Nat → Nat} (h : WInv w wr b c cap K n gs os k)
    (hl : LW w' w.heap.size 23 c' (K + n + 1) cap' 4 (upd gs (K + n) g) (upd os (K + n) 0) (upd (fun _ => 4) (K + n) 4) (updR (exps K k n) (K + n) fun j => exps K k n n j ^^^ mkw K (K + n) (exps K k n (K + n - 1)) j))
    (hb : Box w' b) (hlow : Below w.heap.size w w') (hg : g ≠ b) (hc : c' ≠ b) : WInv w w' b c' cap' K (n + 1) (upd gs (K + n) g) (upd os (K + n) 0) k := by
  refine ⟨by rw [upd_const] at hl; exact hl, hb, hlow, h.new, hc, fun i hi => ?_⟩
  unfold upd
  split
  · exact hg
  · exact h.each i (by omega)

theorem Box.same {w w' : World} {b : Nat} (h : Box w b) (e : w'.heap[b]? = w.heap[b]?) : Box w' b := by
  obtain ⟨s, p, h | h⟩ := h
  · exact ⟨s, p, .inl (e.trans h)⟩
  · exact ⟨s, p, .inr (e.trans h)⟩
theorem cell_only {w w' : World} {b c j : Nat} {v : Value} (h : w.cell? ⟨c, j, none⟩ = some v) (o : Only b w.drew w') (hn : c ≠ b) (hc : c < w.heap.size) : w'.cell? ⟨c, j, none⟩ = some v :=
  (World.cell?_of_block (w := w.drew) (o.block c hc hn)).trans h
theorem cell_self {w w' : World} {a : Addr} {v : Value} (h : w.cell? a = some v) (hb : Below w.heap.size w w') : w'.cell? a = some v :=
  (hb.cell (World.block_lt_of_cell? w _ h)).trans h
section
variable {w wr w1 : World} {b c cap K n : Nat} {gs os : Nat → Nat} {k : Nat → Nat}
theorem WInv.drew (h : WInv w wr b c cap K n gs os k) : WInv w wr.drew b c cap K n gs os k := ⟨h.list.drew, h.box, h.low.drew, h.new, h.apart, h.each⟩
theorem WInv.on (h : WInv w wr b c cap K n gs os k) (hb : Box w1 b) (ho : Only b wr w1) : WInv w w1 b c cap K n gs os k :=
  ⟨h.list.only ho h.apart h.each, hb, h.low.trans (ho.below h.new h.low.size), h.new, h.apart, h.each⟩
theorem WInv.self (h : WInv w wr b c cap K n gs os k) (hb : Below wr.heap.size wr w1) : WInv w w1 b c cap K n gs os k :=
  ⟨h.list.self hb, h.box.self hb, h.low.trans (hb.mono h.low.size), h.new, h.apart, h.each⟩
theorem WInv.alloc (h : WInv w wr b c cap K n gs os k) (o : Obj) : WInv w (wr.alloc o) b c cap K n gs os k := h.self ((Below.refl _ _).alloc (Nat.le_refl _) _)
theorem WInv.fresh (h : WInv w wr b c cap K n gs os k) : wr.heap.size ≠ c ∧ wr.heap.size ≠ b := ⟨Nat.ne_of_gt h.list.lt, Nat.ne_of_gt h.box.lt⟩
theorem WInv.lists (h : WInv w wr b c cap K n gs os k) {i : Nat} (e : K + n = i) : LW wr w.heap.size 23 c i cap 4 gs os (fun _ => 4) (exps K k n) := e ▸ h.list
theorem WInv.grew (h : WInv w wr b c cap K n gs os k) {c' cap' g : Nat} (hn : g ≠ b)
    (hl : LW w1 w.heap.size 23 c' (K + n + 1) cap' 4 (upd gs (K + n) g) (upd os (K + n) 0) (upd (fun _ => 4) (K + n) 4) (updR (exps K k n) (K + n) fun j => exps K k n n j ^^^ mkw K (K + n) (exps K k n (K + n - 1)) j))
    (hgr : wr.grownBy w1 (some c)) (hc : c' = c ∨ c' = wr.heap.size) : WInv w w1 b c' cap' K (n + 1) (upd gs (K + n) g) (upd os (K + n) 0) k :=
  h.next hl (h.box.same (hgr.block b h.box.lt (by have := h.apart; simp; omega))) (h.low.grown hgr h.low.size (fun j hj => by injection hj with hj; subst hj; exact h.list.form.1)) hn
    (by have := h.apart; have := h.box.lt; rcases hc with rfl | rfl <;> omega)
theorem WInv.grew2 (h : WInv w wr b c cap K n gs os k) {i c' cap' g : Nat} {f : Nat → Nat} (e : K + n = i) (hf : f = fun j => exps K k n n j ^^^ mkw K (K + n) (exps K k n (K + n - 1)) j) (hn : g ≠ b)
    (hl : LW w1 w.heap.size 23 c' (i + 1) cap' 4 (upd gs i g) (upd os i 0) (upd (fun _ => 4) i 4) (updR (exps K k n) i f))
    (hgr : wr.grownBy w1 (some c)) (hc : c' = c ∨ c' = wr.heap.size) : WInv w w1 b c' cap' K (n + 1) (upd gs i g) (upd os i 0) k := by
  subst e; subst hf; exact h.grew hn hl hgr hc
end

set_option maxRecDepth 100000 in
set_option maxHeartbeats 3200000 in
theorem words_any (kb ko kc K N : Nat) (k : Nat → Nat) (w : World) (hK : 4 ≤ K) (hK8 : K ≤ 8) (hN : N ≤ 900) (hc : 4 * K ≤ kc) (hkc : kc ≤ maxLen) (_hk : ∀ x, k x < 256) (hA : Wd w (4 * K) kb ko k) :
    Calls Try.prog 18 #[.slice (some ⟨kb, ko, none⟩) (4 * K) kc, .int .i64 ((K + N : Nat) : Int)] w fun e w' =>
      ∃ c cap gs os, e = .returned (.slice (some ⟨c, 0, none⟩) (K + N) cap) ∧ LW w' w.heap.size 23 c (K + N) cap 4 gs os (fun _ => 4) (exps K k N) ∧ Below w.heap.size w w' := by
  have HC := hid (cut_any kb ko kc K k w hK hK8 hc hkc hA)
  have HBX := hid box_made
  have hkb := hA.lt
  clear hA
  go_enter Try.func18, Try.ntmps18
  go_wp2_with (first
    | (go_at_call 26; (with_reducible refine (HC.out).mono ?_); rintro e w1 ⟨c0, cap0, rfl, hl1, hlow1⟩; have HL1 := hid hl1; have HLow1 := hid hlow1; clear hl1 hlow1)
    | (go_at_call 10; (with_reducible refine (HBX.out _).mono ?_); rintro e w2 ⟨b, rfl, hb, hbox, hlow2⟩; have HLow2 := hid hlow2; have HB2 := hid hb; have HBX2 : Hid (Box w2 b) := hid (by obtain ⟨p, hp⟩ := hbox; exact ⟨0, p, .inl hp⟩); clear hb hbox hlow2))
  have HS : Hid (WInv w w2 b c0 cap0 K 0 (fun _ => kb) (fun i => ko + 4 * i) k) := hid ⟨HL1.out.self HLow2.out, HBX2.out, HLow1.out.trans (HLow2.out.mono HLow1.out.size), Nat.le_trans HLow1.out.size HB2.out, by have := HL1.out.lt; have := HB2.out; omega, fun i _ => by have := HB2.out; have := HLow1.out.size; omega⟩
  clear HL1 HLow1 HLow2 HB2 HBX2 HC HBX
  go_loopw [5, 8] (fun v i wr => ∃ n c cap gs os, n ≤ N ∧ i = .int .i64 (K + n : Nat) ∧ v = .slice (some ⟨c, 0, none⟩) (K + n) cap ∧ WInv w wr b c cap K n gs os k) (fun _ i _ => K + N - (intOf i).toNat)
  case atStart => exact ⟨0, c0, cap0, _, _, by omega, rfl, rfl, HS.out⟩
  case round =>
    obtain ⟨n, c, cap, gs, os, hn, rfl, rfl, hI⟩ := hrel
    have HI := hid hI
    clear hI
    by_cases hlt : n < N
    · have hcP := hid (HI.out.cellP (by omega))
      have hcA := hid (HI.out.cellA (by omega))
      have HX := hid (HI.out)
      obtain ⟨i, hi⟩ : ∃ i, K + n = i := ⟨_, rfl⟩
      obtain ⟨p, hp⟩ : ∃ p, K + n - 1 = p := ⟨_, rfl⟩
      rw [hp] at hcA
      rw [hi]
      obtain ⟨ga, hga⟩ : ∃ x, gs p = x := ⟨_, rfl⟩
      obtain ⟨oa, hoa⟩ : ∃ x, os p = x := ⟨_, rfl⟩
      obtain ⟨gp, hgp⟩ : ∃ x, gs n = x := ⟨_, rfl⟩
      obtain ⟨op, hop⟩ : ∃ x, os n = x := ⟨_, rfl⟩
      rw [hga, hoa] at hcA
      rw [hgp, hop] at hcP
      have e1 : (i : Int) - (K : Int) = (n : Int) := by omega
      have e2 : (i : Int) - 1 = (p : Int) := by omega
      have wn : IntKind.i64.wrap (n : Int) = n := by rw [IntKind.wrap_i64]; omega
      have wp : IntKind.i64.wrap (p : Int) = p := by rw [IntKind.wrap_i64]; omega
      have b1 : (0 : Int) ≤ (n : Int) := by omega
      have b2 : (n : Int) < (i : Int) := by omega
      have b3 : (0 : Int) ≤ (p : Int) := by omega
      have b4 : (p : Int) < (i : Int) := by omega
      have b5 : (i : Int) < ((K + N : Nat) : Int) := by omega
      have HA0 := hid (HX.out.list.each p (by omega))
      have HP0 := hid (HX.out.list.each n (by omega))
      have hga' := HX.out.each p (by omega)
      rw [hga] at hga'
      have HM : Hid (Calls Try.prog 28 #[.pointer (some ⟨b, 0, none⟩), .slice (some ⟨ga, oa, none⟩) 4 4, .int .i64 (i : Int), .int .i64 (K : Int)] wr.drew fun e w' => MadeP b K i (exps K k n p) wr.drew e w') :=
        hid (made_any b ga oa i K (exps K k n p) wr.drew HX.out.box.drew (by have := HA0.out.drew; rw [hga, hoa] at this; exact this) hga' hK hK8 (by omega) (by omega))
      have hfx : (fun j => exps K k n n j ^^^ mkw K i (exps K k n p) j) = fun j => exps K k n n j ^^^ mkw K (K + n) (exps K k n (K + n - 1)) j := by rw [hp, hi]
      have HFX := hid hfx
      have HI_ := hid hi
      have Hgp := hid hgp
      have Hop := hid hop
      have Hga := hid hga
      have Hoa := hid hoa
      have HNI := hid (show n < K + n by omega)
      have HP1 : Hid (∀ {w : World}, Wd w 4 (gs n) (os n) (exps K k n n) → Wd w 4 gp op (exps K k n n)) := hid (fun h => by rw [hgp, hop] at h; exact h)
      clear hfx hga hoa hgp hop hga' hi hp HI
      go_wp2
      go_region_held3 (fun w' => w'.cell? ⟨c, n, none⟩ = some (.slice (some ⟨gp, op, none⟩) 4 4) ∧ w'.cell? ⟨c, p, none⟩ = some (.slice (some ⟨ga, oa, none⟩) 4 4))
        (first | with_reducible assumption | exact ⟨hcP.out, hcA.out⟩ | exact HC1.out | exact HC2.out | exact HC3.out | exact HC4.out)
        (first
          | (go_at_call 28; (with_reducible refine (HM.out).mono ?_); rintro e w1 ⟨g1, o1, c1, rfl, hg1, hw1, hb1, ho1⟩; have HW1 := hid hw1; have HX1 := hid (HX.out.drew.on hb1 ho1); have HC1 : Hid (w1.cell? ⟨c, n, none⟩ = some (.slice (some ⟨gp, op, none⟩) 4 4) ∧ w1.cell? ⟨c, p, none⟩ = some (.slice (some ⟨ga, oa, none⟩) 4 4)) := hid ⟨(cell_only hcP.out ho1 HX.out.apart HX.out.list.lt), (cell_only hcA.out ho1 HX.out.apart HX.out.list.lt)⟩; clear hg1 hw1 hb1 ho1)
          | (go_at_call 27; (with_reducible refine (sum_any gp op 4 g1 o1 c1 (exps K k n n) _ w1 (HP1.out (HX1.out.list.each n HNI.out)) HW1.out).mono ?_); rintro e w2 ⟨rfl, hw2, hl2⟩; have HG2 := hid (HX1.out.fresh); have HW2 := hid hw2; have HX2 := hid (HX1.out.self hl2); have HC2 : Hid (w2.cell? ⟨c, n, none⟩ = some (.slice (some ⟨gp, op, none⟩) 4 4) ∧ w2.cell? ⟨c, p, none⟩ = some (.slice (some ⟨ga, oa, none⟩) 4 4)) := hid ⟨cell_self HC1.out.1 hl2, cell_self HC1.out.2 hl2⟩; have HX3 := hid (HX2.out.alloc (.cells #[.slice (some ⟨w1.heap.size, 0, none⟩) 4 4] 23)); have HC3 : Hid ((w2.alloc (.cells #[.slice (some ⟨w1.heap.size, 0, none⟩) 4 4] 23)).cell? ⟨c, n, none⟩ = some (.slice (some ⟨gp, op, none⟩) 4 4) ∧ (w2.alloc (.cells #[.slice (some ⟨w1.heap.size, 0, none⟩) 4 4] 23)).cell? ⟨c, p, none⟩ = some (.slice (some ⟨ga, oa, none⟩) 4 4)) := hid ⟨cell_self HC2.out.1 ((Below.refl _ _).alloc (Nat.le_refl _) _), cell_self HC2.out.2 ((Below.refl _ _).alloc (Nat.le_refl _) _)⟩; clear hw2 hl2)
          | (refine step_append_lw rfl (.tmp 20) (.tmp 37) 36 rfl Try.underlying36 infor (HX3.out.lists HI_.out) rfl ⟨w2.heap.size, 0, none⟩ 1 rfl w1.heap.size 0 4 _ (cell_new0 w2 _ 23) (HW2.out.alloc _) HG2.out.1 (by omega) HX3.out.low.size ?_; intro c' cap' w3 hl3 hgr3 hc3 hcell3; have HC4 : Hid (w3.cell? ⟨c, n, none⟩ = some (.slice (some ⟨gp, op, none⟩) 4 4) ∧ w3.cell? ⟨c, p, none⟩ = some (.slice (some ⟨ga, oa, none⟩) 4 4)) := hid ⟨by rw [hcell3 n (by omega), Hgp.out, Hop.out], by rw [hcell3 p (by omega), Hga.out, Hoa.out]⟩; have HX4 := hid (HX3.out.grew2 HI_.out HFX.out HG2.out.2 hl3 hgr3 hc3); clear hl3 hgr3 hc3 hcell3))
      go_wp2
      go_roundw
      case rel => exact ⟨n + 1, c', cap', _, _, by omega, by rw [← Nat.add_assoc, HI_.out]; go_num, by rw [← Nat.add_assoc, HI_.out], HX4.out⟩
      case measure => have := HI_.out; simp [intOf]; omega
    · obtain rfl : n = N := by omega
      go_wp2
      go_ret
      exact ⟨c, cap, gs, os, rfl, HI.out.list, HI.out.low⟩
end Go.Proofs.Ythhkhcacljgelaa

namespace Go.Proofs.Ythhkhcacljgelaa
open Go.RowKit

/-- The first j lists, one behind the other. -/
def cat (zs : Nat → List Int) : Nat → List Int
  | 0 => []
  | j + 1 => cat zs j ++ zs j
theorem cat_le (zs : Nat → List Int) {j m : Nat} (h : j ≤ m) : (cat zs j).length ≤ (cat zs m).length := by
  induction m with
  | zero => obtain rfl : j = 0 := by omega
            exact Nat.le_refl _
  | succ m ih =>
    by_cases e : j = m + 1
    · subst e; exact Nat.le_refl _
    · exact Nat.le_trans (ih (by omega)) (by simp [cat])

theorem wpList_append_run {P : Program} {w w' : World} {ops : Array Oper} {rest : List Oper} {o : Oper} {a : Act} {Q : Exit → Act → World → Prop} (hgd : o.guard = none) (s x : Operand) (t t' r : TypeId)
    (ho : o.op = .call { callee := .builtin .append, args := #[s, x], argTypes := #[t, t'] }) (hr : o.type = r) (sv xv v : Value) (hs : a.eval s = sv) (hx : a.eval x = xv) (hrun : (Builtin.append_ #[t, t'] r #[sv, xv]).run P w = .ok v w')
    (h : wpList P ops Q rest (a.put o.dst v) w') : wpList P ops Q (o :: rest) a w :=
  wpList_plain hgd fun _ hK => by
    subst hr; subst hs; subst hx
    unfold Oper.wp execOp
    simp only [ho, resolve, invoke, builtin, Sem.run_bind, Sem.run_pure, Result.andThen_ok, List.map_toArray, List.map_cons, List.map_nil, hrun]
    exact hK _ _ h

theorem info5b : ∃ i, Try.prog.info? 5 = some i ∧ i.zero = some (.int .u8 0) ∧ i.size = 1 ∧ i.bytes = 1 := by
  obtain ⟨i, h1, h2, h3, h4⟩ := info_parts infob
  exact ⟨i, h1, h2, h3, h4⟩

/-- What Grow promises of nil. -/
def GrowP (w : World) (e : Ending) (w' : World) : Prop := ∃ v, e = .returned v ∧ Own .u8 w.heap.size 5 w' v [] ∧ Below w.heap.size w w'

set_option maxRecDepth 100000 in
theorem grow_any (n : Nat) (w : World) (hn : n ≤ 1073741824) :
    Calls Try.prog 29 #[.slice none 0 0, .int .i64 (n : Int)] w fun e w' => GrowP w e w' := by
  by_cases h0 : n = 0
  · subst h0
    go_enter Try.func29, Try.ntmps29
    go_wp2
    go_ret
    exact ⟨_, rfl, own_nil .u8 w.heap.size 5 w, Below.refl _ _⟩
  · obtain ⟨i, hi, hz, hs, hb⟩ := info5b
    have hold : (Builtin.firstCells i.size 0 (.slice none 0 0)).run Try.prog w.drew = .ok ([] : List Value).toArray w.drew := run_firstCells_none w.drew i.size 0 0 0
    have hfit : Builtin.nextslicecap (0 + n) 0 * i.bytes ≤ 281474976710656 := by rw [hb]; exact growslice_fits (by omega) (by omega)
    have hg : (Builtin.append_ #[23, 3] 23 #[.slice none 0 0, .int .i64 (n : Int)]).run Try.prog w = .ok (.slice (some ⟨w.heap.size, 0, none⟩) n (grownCap w n 0 5)) (w.drew.alloc (.cells ((Builtin.zeroCells (Value.int .u8 0).cells n) ++ Builtin.zeroCells (Value.int .u8 0).cells (grownCap w n 0 5 - n)) 5)) := by
      have h := Lib.run_append_grow_zeros (P := Try.prog) w 23 3 23 5 i _ .i64 .i64 Try.underlying23 Try.underlying3 hi hz none 0 0 [] hold n (by omega) (by omega) (by omega) (by omega) (by rw [hb]; omega) hfit
      simpa using h
    have hge := grownCap_ge w n 0 5
    have hle := grownCap_le_maxLen w n 0 5 (by unfold maxLen; omega)
    have hsz : ((Builtin.zeroCells (Value.int .u8 0).cells n) ++ Builtin.zeroCells (Value.int .u8 0).cells (grownCap w n 0 5 - n)).size = grownCap w n 0 5 := by
      simp only [Array.size_append, size_zeroCells]
      show n * 1 + (grownCap w n 0 5 - n) * 1 = _
      omega
    generalize grownCap w n 0 5 = G at *
    generalize (Builtin.zeroCells (Value.int .u8 0).cells n) ++ Builtin.zeroCells (Value.int .u8 0).cells (G - n) = cs at *
    have HO : Hid (Own .u8 w.heap.size 5 (w.drew.alloc (.cells cs 5)) (.slice (some ⟨w.heap.size, 0, none⟩) 0 G) []) :=
      hid ⟨rfl, .inr ⟨w.heap.size, G, cs, rfl, Nat.le_refl _, heap_alloc_new w.drew _, Nat.zero_le _, hle, by omega, rfl⟩⟩
    have hG := hid hle
    unfold maxLen at hle
    have h1 : ¬ ((n : Int) < 0) := by omega
    have h2 : (0 : Int) < (n : Int) := by omega
    have h3 : IntKind.i64.wrap (n : Int) = n := by rw [IntKind.wrap_i64]; omega
    have h4 : (0 : Int) ≤ (G : Int) := by omega
    have HG := hid hg
    have HL : Hid (Below w.heap.size w (w.drew.alloc (.cells cs 5))) := hid ((Below.refl w.heap.size w).drew.alloc (Nat.le_refl _) _)
    clear hold hfit hi hz hs hb hsz hn hg
    go_enter Try.func29, Try.ntmps29
    go_wp2_with (first
      | (refine wpList_append_run rfl (.tmp 20) (.tmp 21) 23 3 23 rfl rfl _ _ _ rfl rfl HG.out ?_; generalize w.drew.alloc (.cells cs 5) = w1 at *))
    go_ret
    exact ⟨_, rfl, HO.out, HL.out⟩

/-- What Concat promises. -/
def ConcatP (w : World) (zs : List Int) (e : Ending) (w' : World) : Prop := ∃ v, e = .returned v ∧ Own .u8 w.heap.size 5 w' v zs ∧ Below w.heap.size w w'

/-- Lists put behind one another. -/
structure CatInv (w wr : World) (v : Value) (zs : Nat → List Int) (j : Nat) : Prop where
  own : Own .u8 w.heap.size 5 wr v (cat zs j)
  low : Below w.heap.size w wr

set_option maxRecDepth 100000 in
set_option maxHeartbeats 3200000 in
theorem concat_any (c o m cap : Nat) (us : Nat → Value) (zs : Nat → List Int) (w : World) (hm : m ≤ 1073741824) (hc : ∀ i, i < m → w.cell? ⟨c, o + i, none⟩ = some (us i)) (hr : ∀ i, i < m → Rd .u8 w (us i) (zs i)) (hlim : (cat zs m).length ≤ 1073741824) (hcl : c < w.heap.size) :
    Calls Try.prog 19 #[.slice (some ⟨c, o, none⟩) m cap] w fun e w' => ConcatP w (cat zs m) e w' := by
  have HC := hid hc
  have HR := hid hr
  have HCL := hid hcl
  have HG := hid (grow_any (cat zs m).length w hlim)
  have HM := hid (fun j (h : j ≤ m) => cat_le zs h)
  clear hc hr hcl
  go_enter Try.func19, Try.ntmps19
  go_wp2
  go_loop [3, 11] (fun s i => ∃ j : Nat, j ≤ m ∧ i = .int .i64 j ∧ s = .int .i64 ((cat zs j).length : Nat)) (fun _ i => m - (intOf i).toNat)
  case atStart => exact ⟨0, by omega, rfl, rfl⟩
  case round =>
    obtain ⟨j, hj, rfl, rfl⟩ := hrel
    by_cases hlt : j < m
    · have hc1 := HC.out j hlt
      obtain ⟨ad, cp, hu, hl1, _, _⟩ := HR.out j hlt
      rw [hu] at hc1
      have HJ := hid (HM.out (j + 1) hlt)
      have e1 : (cat zs (j + 1)).length = (cat zs j).length + (zs j).length := by simp [cat]
      have hle := HJ.out
      have h0 : (0 : Int) ≤ (j : Int) := by omega
      have h1 : (j : Int) < (m : Int) := by omega
      have h2 : ((cat zs j).length : Int) + ((zs j).length : Int) = ((cat zs (j + 1)).length : Int) := by omega
      have h3 : IntKind.i64.wrap (((cat zs (j + 1)).length : Nat) : Int) = ((cat zs (j + 1)).length : Nat) := by rw [IntKind.wrap_i64]; omega
      have h4 : ¬ (((cat zs (j + 1)).length : Nat) : Int) < 0 := by omega
      clear e1 hle hl1
      have HZ := hid (rfl : (cat zs (j + 1)).length = (cat zs (j + 1)).length)
      obtain ⟨L1, hL1⟩ : ∃ L1, (cat zs (j + 1)).length = L1 := ⟨_, rfl⟩
      rw [hL1] at h2 h3 h4
      have HL1 := hid hL1
      clear hL1
      generalize (cat zs j).length = L0 at *
      generalize (zs j).length = Lz at *
      clear hu
      go_wp2
      go_round
      case rel => exact ⟨j + 1, by omega, by go_num, by rw [HL1.out]⟩
      case measure => simp [intOf]; omega
    · obtain rfl : j = m := by omega
      have hn0 : ¬ (((cat zs j).length : Nat) : Int) < 0 := by omega
      have HLen : Hid ((cat zs j).length ≤ 1073741824) := hid hlim
      clear hlim
      go_wp2_with (first
        | (go_at_call 29; (with_reducible refine (HG.out).mono ?_); rintro e w1 ⟨v1, rfl, ho1, hl1⟩; have HI1 : Hid (CatInv w w1 v1 zs 0) := hid ⟨ho1, hl1⟩; clear ho1 hl1))
      go_loopw [6, 27] (fun v i wr => ∃ p : Nat, p ≤ j ∧ i = .int .i64 p ∧ CatInv w wr v zs p) (fun _ i _ => j - (intOf i).toNat)
      case atStart => exact ⟨0, by omega, rfl, HI1.out⟩
      case round =>
        obtain ⟨p, hp, rfl, hI⟩ := hrel
        have HI := hid hI
        clear hI
        by_cases hlt : p < j
        · have hc1 := cell_self (HC.out p hlt) (HI.out.low)
          have HR1 := hid ((HR.out p hlt).self HI.out.low)
          have HJ := hid (Nat.le_trans (HM.out (p + 1) hlt) HLen.out)
          have h0 : (0 : Int) ≤ (p : Int) := by omega
          have h1 : (p : Int) < (j : Int) := by omega
          generalize us p = u at hc1 HR1
          go_wp2_with (first
            | (refine wpList_append_rd rfl (.tmp 31) (.tmp 32) 23 rfl .u8 w.heap.size 5 Try.underlying23 infob (by decide) _ _ rfl HI.out.own _ _ rfl HR1.out ?_ HI.out.low.size w.heap.size w HI.out.low (Nat.le_refl _) ?_; (have := HJ.out; simp [cat] at this; show (_ + _) * 1 ≤ _; omega); intro v' w' hown' hlow' hsz'; have HN : Hid (CatInv w w' v' zs (p + 1)) := hid ⟨hown', hlow'⟩; clear hown' hlow' hsz'))
          go_roundw
          case rel => exact ⟨p + 1, by omega, by go_num, HN.out⟩
          case measure => simp [intOf]; omega
        · obtain rfl : p = j := by omega
          go_wp2
          go_ret
          exact ⟨_, rfl, HI.out.own, HI.out.low⟩
end Go.Proofs.Ythhkhcacljgelaa

namespace Go.Proofs.Ythhkhcacljgelaa
open Go.RowKit

/-- R rows, of which the first r are made. -/
def rows (R r : Nat) (gs cs : Nat → Nat) : Array Value := ((List.range R).map fun i => if i < r then Value.slice (some ⟨gs i, 0, none⟩) 16 (cs i) else .slice none 0 0).toArray
theorem rows_size (R r : Nat) (gs cs : Nat → Nat) : (rows R r gs cs).size = R := by simp [rows]
theorem rows_at {R r : Nat} (gs cs : Nat → Nat) {i : Nat} (h : i < R) : (rows R r gs cs)[i]? = some (if i < r then Value.slice (some ⟨gs i, 0, none⟩) 16 (cs i) else .slice none 0 0) := by simp [rows, h]
theorem rows_set {R r : Nat} (gs cs : Nat → Nat) (g c : Nat) (h : r < R) : (rows R r gs cs).setIfInBounds r (.slice (some ⟨g, 0, none⟩) 16 c) = rows R (r + 1) (upd gs r g) (upd cs r c) := by
  apply Array.ext_getElem?
  intro i
  rw [Array.getElem?_setIfInBounds, rows_size]
  by_cases hi : i < R
  · rw [rows_at _ _ hi, rows_at _ _ hi]
    by_cases e : r = i
    · subst e; rw [if_pos rfl, if_pos hi, if_pos (by omega), upd_same, upd_same]
    · rw [if_neg e, upd_other _ _ _ _ (fun h => e h.symm), upd_other _ _ _ _ (fun h => e h.symm)]
      by_cases h1 : i < r
      · rw [if_pos h1, if_pos (by omega)]
      · rw [if_neg h1, if_neg (by omega)]
  · have h1 : (rows R r gs cs)[i]? = none := by simp [rows_size]; omega
    have h2 : (rows R (r + 1) (upd gs r g) (upd cs r c))[i]? = none := by simp [rows_size]; omega
    rw [h1, h2, if_neg (by omega)]

theorem make_rows (R : Nat) (h : R ≤ 65536) (w : World) : (Instr.makeSlice 36 (.int .i64 R) (.int .i64 R)).run Try.prog w = .ok (.slice (some ⟨w.heap.size, 0, none⟩) R R) (w.alloc (.cells (rows R 0 (fun _ => 0) (fun _ => 0)) 23)) := by
  obtain ⟨i0, hi, hz0, hz1, hz2⟩ := info_parts infor
  have := run_make (P := Try.prog) w 36 23 i0 _ Try.underlying36 hi hz0 .i64 .i64 R R (by omega) (by omega) (by rw [hz2]; omega) (by omega)
  rw [this]
  simp [hz1, Value.cells]
  congr 2
  apply Array.ext_getElem?
  intro i
  by_cases hi : i < R
  · rw [rows_at _ _ hi]; simp [madeCells, hi, Nat.mod_one]
  · rw [Array.getElem?_eq_none (by simp [size_madeCells]; omega), Array.getElem?_eq_none (by rw [rows_size]; omega)]

/-- Round keys so far: their list in block b, the words in block c. -/
structure EInv (w wr : World) (B b c M cap R r : Nat) (ws wo gs cs : Nat → Nat) (X : Nat → Nat → Nat) (Y : Nat → Nat → Nat) : Prop where
  list : wr.heap[b]? = some (.cells (rows R r gs cs) 23 (0, 0))
  words : LW wr B 23 c M cap 4 ws wo (fun _ => 4) X
  each : ∀ i, i < r → Wd wr 16 (gs i) 0 (Y i)
  apart : ∀ i, i < r → gs i ≠ b
  far : c ≠ b ∧ ∀ i, i < M → ws i ≠ b
  low : Below w.heap.size w wr
  new : w.heap.size ≤ b
section
variable {w wr w1 : World} {B b c M cap R r : Nat} {ws wo gs cs : Nat → Nat} {X Y : Nat → Nat → Nat}
theorem EInv.lt (h : EInv w wr B b c M cap R r ws wo gs cs X Y) : b < wr.heap.size := (Array.getElem?_eq_some_iff.1 h.list).1
theorem EInv.self (h : EInv w wr B b c M cap R r ws wo gs cs X Y) (hb : Below wr.heap.size wr w1) : EInv w w1 B b c M cap R r ws wo gs cs X Y :=
  ⟨(hb.block b h.lt).trans h.list, h.words.self hb, fun i hi => (h.each i hi).self hb, h.apart, h.far, h.low.trans (hb.mono h.low.size), h.new⟩
theorem EInv.cell (h : EInv w wr B b c M cap R r ws wo gs cs X Y) {i : Nat} (hi : i < R) : wr.cell? ⟨b, i, none⟩ = some (if i < r then Value.slice (some ⟨gs i, 0, none⟩) 16 (cs i) else .slice none 0 0) := by
  rw [cell_of_row wr b i _ 23 (0, 0) h.list, rows_at _ _ hi]
theorem EInv.free (h : EInv w wr B b c M cap R r ws wo gs cs X Y) (o : Nat) : wr.frozen? ⟨b, o, none⟩ = false := frozen_of_row wr b o _ 23 h.list
theorem EInv.set (h : EInv w wr B b c M cap R r ws wo gs cs X Y) (hr : r < R) {g k : Nat} (hg : Wd wr 16 g 0 (Y r)) (hn : g ≠ b) :
    EInv w (wr.setCell ⟨b, r, none⟩ (.slice (some ⟨g, 0, none⟩) 16 k)) B b c M cap R (r + 1) ws wo (upd gs r g) (upd cs r k) X Y := by
  have far : ∀ {x : Nat}, x ≠ b → (wr.setCell ⟨b, r, none⟩ (.slice (some ⟨g, 0, none⟩) 16 k)).heap[x]? = wr.heap[x]? := fun {x} hx => heap_setCell_other wr ⟨b, r, none⟩ x _ hx
  have hs : wr.heap.size ≤ (wr.setCell ⟨b, r, none⟩ (.slice (some ⟨g, 0, none⟩) 16 k)).heap.size := by simp [World.setCell]
  refine ⟨?_, h.words.same hs (far h.far.1) (fun i hi => far (h.far.2 i hi)), fun i hi => ?_, fun i hi => ?_, h.far, h.low.setCell h.new _, h.new⟩
  · rw [heap_setCell_same wr b r _ 23 _ h.list, rows_set _ _ _ _ hr]
  · unfold upd
    split
    · rename_i e; subst e; exact hg.same hs (far hn)
    · exact (h.each i (by omega)).same hs (far (h.apart i (by omega)))
  · unfold upd
    split
    · exact hn
    · exact h.apart i (by omega)
theorem EInv.done (h : EInv w wr B b c M cap R R ws wo gs cs X Y) : RL wr b R 16 gs (fun _ => 0) cs Y :=
  ⟨h.lt, fun i hi => by rw [h.cell hi, if_pos hi], h.each⟩
end

theorem cat4 (X : Nat → Nat → Nat) (r : Nat) : cat (fun i => ns 4 (X (4 * r + i))) 4 = ns 16 (fun m => X (4 * r + m / 4) (m % 4)) := rfl

theorem concat_row {w : World} {B c M cap r f cp : Nat} {ws wo : Nat → Nat} {X : Nat → Nat → Nat} (h : LW w B 23 c M cap 4 ws wo (fun _ => 4) X) (hf : f = 4 * r) (hr : 4 * r + 4 ≤ M) :
    Calls Try.prog 19 #[.slice (some ⟨c, f, none⟩) 4 cp] w fun e w' => ∃ g k, e = .returned (.slice (some ⟨g, 0, none⟩) 16 k) ∧ w.heap.size ≤ g ∧ Wd w' 16 g 0 (fun m => X (4 * r + m / 4) (m % 4)) ∧ Below w.heap.size w w' := by
  subst hf
  refine (concat_any c (4 * r) 4 cp (fun i => .slice (some ⟨ws (4 * r + i), wo (4 * r + i), none⟩) 4 4) (fun i => ns 4 (X (4 * r + i))) w (by decide) (fun i hi => h.cell (by omega)) (fun i hi => (h.each _ (by omega)).rd 4 (by decide)) (by rw [cat4, ns_len]; decide) h.lt).mono ?_
  rintro e w' ⟨v, rfl, ho, hl⟩
  rw [cat4] at ho
  obtain ⟨g, k, rfl, hg, _⟩ := World.ownsRow.form ho (by rw [ns_len]; decide)
  rw [ns_len] at ho ⊢
  exact ⟨g, k, rfl, hg, Wd.of_own ho (by decide) (fun j hj => (h.each (4 * r + j / 4) (by omega)).byte _ (Nat.mod_lt _ (by decide))), hl⟩

theorem words_at (kb ko kc K L M N : Nat) (k : Nat → Nat) (w : World) (hL : L = 4 * K) (hM : M = K + N) (hK : 4 ≤ K) (hK8 : K ≤ 8) (hN : N ≤ 900) (hc : 4 * K ≤ kc) (hkc : kc ≤ maxLen) (hk : ∀ x, k x < 256) (hA : Wd w (4 * K) kb ko k) :
    Calls Try.prog 18 #[.slice (some ⟨kb, ko, none⟩) L kc, .int .i64 (M : Int)] w fun e w' =>
      ∃ c cap gs os, e = .returned (.slice (some ⟨c, 0, none⟩) M cap) ∧ LW w' w.heap.size 23 c M cap 4 gs os (fun _ => 4) (exps K k N) ∧ Below w.heap.size w w' := by
  subst hL; subst hM
  exact words_any kb ko kc K N k w hK hK8 hN hc hkc hk hA

set_option maxRecDepth 100000 in
set_option maxHeartbeats 3200000 in
theorem expand_ok (kb ko kc K L R R1 M N : Nat) (k : Nat → Nat) (w : World) (hL : L = 4 * K) (hR : rnd (L : Int) = R) (hR1 : R1 = R + 1) (hM : M = 4 * R1) (hMN : M = K + N) (hK : 4 ≤ K) (hK8 : K ≤ 8) (hN : N ≤ 900) (hR0 : 0 < R) (hc : L ≤ kc) (hkc : kc ≤ maxLen)
    (hk : ∀ x, k x < 256) (hA : Wd w L kb ko k) :
    Calls Try.prog 9 #[.slice (some ⟨kb, ko, none⟩) L kc] w fun e w' =>
      ∃ c gs cs, e = .returned (.tuple #[.slice (some ⟨c, 0, none⟩) R1 R1, .int .i64 0]) ∧ RL w' c R1 16 gs (fun _ => 0) cs (rkey K k N) ∧ Below w.heap.size w w' := by
  have HRD := hid (fun w => by have := rounds_any (L : Int) w; rw [hR] at this; exact this)
  have HW := hid (words_at kb ko kc K L M N k w hL hMN hK hK8 hN (by omega) hkc hk (by rw [← hL]; exact hA))
  have hmk := make_rows R1 (by omega)
  have r0 : ((R : Int) == 0) = false := by rw [beq_eq_false_iff_ne]; omega
  have r1 : (R : Int) + 1 = (R1 : Int) := by omega
  have r2 : (R1 : Int) * 4 = (M : Int) := by omega
  have w1 : IntKind.i64.wrap (R1 : Int) = R1 := by rw [IntKind.wrap_i64]; omega
  have w2 : IntKind.i64.wrap (M : Int) = M := by rw [IntKind.wrap_i64]; omega
  have H4 := hid hM
  have HM1 : Hid (R1 ≤ 1000) := hid (by omega)
  have hkb := hA.lt
  clear hA hM hMN hR1 hR hL hc hkc
  go_enter Try.func9, Try.ntmps9
  go_wp2_with (first
    | (go_at_call 17; (with_reducible refine (HRD.out _).mono ?_); rintro e u1 ⟨rfl, rfl⟩)
    | (go_at_call 18; (with_reducible refine (HW.out).mono ?_); rintro e w3 ⟨c, cap, ws, wo, rfl, hl, hlow⟩; have HL := hid hl; have HLow := hid hlow; clear hl hlow))
  have HS : Hid (EInv u1 (w3.alloc (.cells (rows R1 0 (fun _ => 0) (fun _ => 0)) 23)) u1.heap.size w3.heap.size c M cap R1 0 ws wo (fun _ => 0) (fun _ => 0) (exps K k N) (rkey K k N)) :=
    hid ⟨heap_alloc_new w3 _, HL.out.alloc _, fun i hi => absurd hi (by omega), fun i hi => absurd hi (by omega), ⟨Nat.ne_of_lt HL.out.lt, fun i hi => Nat.ne_of_lt (HL.out.each i hi).lt⟩, HLow.out.alloc HLow.out.size _, HLow.out.size⟩
  have HCap := hid HL.out.form
  clear HL HLow HRD HW r2 w2 hmk
  generalize w3.heap.size = b at *
  go_loopw [24] (fun i wr => ∃ r gs cs, r ≤ R1 ∧ i = .int .i64 (r : Nat) ∧ EInv u1 wr u1.heap.size b c M cap R1 r ws wo gs cs (exps K k N) (rkey K k N)) (fun i _ => R1 - (intOf i).toNat)
  case atStart => exact ⟨0, _, _, by omega, rfl, HS.out⟩
  case round =>
    obtain ⟨r, gs, cs, hr, rfl, hI⟩ := hrel
    have HI := hid hI
    clear hI
    by_cases hlt : r < R1
    · obtain ⟨f, hf⟩ : ∃ f, f = 4 * r := ⟨_, rfl⟩
      have HM := H4.out
      have HC1 := HCap.out
      have HM2 := HM1.out
      have e1 : (r : Int) * 4 = (f : Int) := by omega
      have e2 : IntKind.i64.wrap (f : Int) = f := by rw [IntKind.wrap_i64]; omega
      have e3 : (0 : Int) ≤ (f : Int) := by omega
      have e4 : (f : Int) + 4 ≤ (cap : Int) := by omega
      have e5 : f + 4 ≤ cap := by omega
      have e8 : (f : Int) ≤ 100000 := by omega
      have e9 : f ≤ 100000 := by omega
      have e6 : (0 : Int) ≤ (r : Int) := by omega
      have e7 : (r : Int) < (R1 : Int) := by omega
      have HCC : Hid (∀ cp, Calls Try.prog 19 #[.slice (some ⟨c, f, none⟩) 4 cp] wr fun e w' => ∃ g k', e = .returned (.slice (some ⟨g, 0, none⟩) 16 k') ∧ wr.heap.size ≤ g ∧ Wd w' 16 g 0 (rkey K k N r) ∧ Below wr.heap.size wr w') :=
        hid (fun cp => concat_row HI.out.words hf (by omega))
      have HF := hid hf
      clear HM HC1 HM2 hf
      go_wp2_with (first
        | (go_at_call 19; (with_reducible refine (HCC.out _).mono ?_); rintro e w4 ⟨g, k', rfl, hg, hw, hl⟩; have HJ := hid (HI.out.self hl); have HW4 := hid hw; have HN4 := hid (show g ≠ b by have := HI.out.lt; omega); have hc1 := HJ.out.cell hlt; have hf1 := HJ.out.free r; clear hg hw hl))
      go_roundw
      case rel => exact ⟨r + 1, _, _, by omega, by go_num, HJ.out.set hlt HW4.out HN4.out⟩
      case measure => simp [intOf]; omega
    · obtain rfl : r = R1 := by omega
      go_wp2
      go_ret2
      exact ⟨b, rfl, ⟨gs, cs, HI.out.done⟩, HI.out.low⟩
end Go.Proofs.Ythhkhcacljgelaa
