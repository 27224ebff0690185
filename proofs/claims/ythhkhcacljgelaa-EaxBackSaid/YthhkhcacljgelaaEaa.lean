import Derived.Test.YthhkhcacljgelaaProg
import Derived.Test.YthhkhcacljgelaaEam
/- refused, cut, together. -/
namespace Go.Proofs.Ythhkhcacljgelaa
open Go.RowKit
set_option maxRecDepth 100000

/-- Why there is no seal: the code of the error. -/
def rfE (n : Int) (M : Nat) : Int := if n < 1 ∨ n > 16 then 5 else if M > 65536 then 1 else 0
theorem rfE_bad {n : Int} {M : Nat} (h : n < 1 ∨ n > 16) : rfE n M = 5 := if_pos h
theorem rfE_ok {n : Int} {M : Nat} (h : 1 ≤ n ∧ n ≤ 16) (hM : M ≤ 65536) : rfE n M = 0 := by
  unfold rfE; rw [if_neg (by omega), if_neg (by omega)]
theorem erefused_any (a : Option Addr) (M e : Nat) (n : Int) (w : World) :
    Calls Try.prog 11 #[.int .i64 n, .slice a M e] w fun x w' => x = .returned (.int .i64 (rfE n M)) ∧ w' = w := by
  by_cases h1 : n < 1
  · rw [rfE_bad (.inl h1)]
    go_enter Try.func11, Try.ntmps11
    go_wp2
    go_ret
    exact ⟨rfl, rfl⟩
  · by_cases h2 : n > 16
    · rw [rfE_bad (.inr h2)]
      go_enter Try.func11, Try.ntmps11
      go_wp2
      go_ret
      exact ⟨rfl, rfl⟩
    · by_cases h3 : (M : Int) > 65536
      · have h : rfE n M = 1 := by unfold rfE; rw [if_neg (by omega), if_pos (by omega)]
        rw [h]
        go_enter Try.func11, Try.ntmps11
        go_wp2
        go_ret
        exact ⟨rfl, rfl⟩
      · rw [rfE_ok (by omega) (by omega)]
        go_enter Try.func11, Try.ntmps11
        go_wp2
        go_ret
        exact ⟨rfl, rfl⟩

theorem ecut_any (g c n : Nat) (w : World) (hn : n ≤ 16) (hc : 16 ≤ c) :
    Calls Try.prog 14 #[.slice (some ⟨g, 0, none⟩) 16 c, .int .i64 n] w fun x w' => x = .returned (.slice (some ⟨g, 0, none⟩) n n) ∧ w' = w := by
  have h1 : (n : Int) ≤ (c : Int) := by omega
  have h2 : (n : Int) ≤ 16 := by omega
  clear hn hc
  go_enter Try.func14, Try.ntmps14
  go_wp2
  go_ret
  exact ⟨rfl, rfl⟩

/-- n tags, put together. -/
def tgsF (F : Nat → Nat → Nat) : Nat → Nat → Nat
  | 0 => fun _ => 0
  | n + 1 => xorF (tgsF F n) (F n)
theorem tgsF_b {F : Nat → Nat → Nat} : ∀ n, (∀ i, i < n → B16 (F i)) → B16 (tgsF F n)
  | 0, _ => B16.zero
  | n + 1, h => xorF_16 (tgsF_b n fun i hi => h i (by omega)) (h n (by omega))
theorem own_cap {B g n c : Nat} {E : TypeId} {w : World} {F : Nat → Nat} (h : Own .u8 B E w (.slice (some ⟨g, 0, none⟩) n c) (ns n F)) : n ≤ c := by
  obtain ⟨p4, c4, e4, hc4, -⟩ := h.slice
  injection e4 with _ _ e5
  rw [ns_len] at hc4
  omega
/-- Tags at work: rows V, i of them put together. -/
structure Tg (w wr : World) (gt n : Nat) (V : Nat → Value) (F : Nat → Nat → Nat) (i g c : Nat) : Prop where
  cell : ∀ j, j < n → wr.cell? ⟨gt, j, none⟩ = some (V j)
  row : ∀ j, j < n → Rd .u8 wr (V j) (ns 16 (F j))
  sum : Wd wr 16 g 0 (tgsF F i)
  num : 16 ≤ c ∧ w.heap.size ≤ g ∧ gt < wr.heap.size
  low : Below w.heap.size w wr
theorem Tg.next {w wr w' : World} {gt n i g c g' c' : Nat} {V : Nat → Value} {F : Nat → Nat → Nat} (h : Tg w wr gt n V F i g c) (hb : Below wr.heap.size wr w') (hs : Wd w' 16 g' 0 (tgsF F (i + 1))) (hg : wr.heap.size ≤ g') (hc : 16 ≤ c') : Tg w w' gt n V F (i + 1) g' c' :=
  ⟨fun j hj => (World.cell?_of_block (w := wr) (hb.block gt h.num.2.2)).trans (h.cell j hj), fun j hj => (h.row j hj).self hb, hs, ⟨hc, Nat.le_trans h.low.size hg, Nat.lt_of_lt_of_le h.num.2.2 hb.size⟩, h.low.trans (hb.mono h.low.size)⟩
set_option maxHeartbeats 1600000 in
theorem together_any (gt n tc : Nat) (V : Nat → Value) (F : Nat → Nat → Nat) (w : World) (hn : n ≤ 1000) (hlt : gt < w.heap.size) (hcell : ∀ j, j < n → w.cell? ⟨gt, j, none⟩ = some (V j)) (hrow : ∀ j, j < n → Rd .u8 w (V j) (ns 16 (F j))) (hF : ∀ j, j < n → B16 (F j)) :
    Calls Try.prog 25 #[.slice (some ⟨gt, 0, none⟩) n tc] w fun x w' => ∃ g c, x = .returned (.slice (some ⟨g, 0, none⟩) 16 c) ∧ 16 ≤ c ∧ Wd w' 16 g 0 (tgsF F n) ∧ w.heap.size ≤ g ∧ Below w.heap.size w w' := by
  have hmk : (Instr.makeSlice 23 (.int .i64 16) (.int .i64 16)).run Try.prog w = .ok (.slice (some ⟨w.heap.size, 0, none⟩) 16 16) (w.alloc (.cells (madeCells #[.int .u8 0] 16) 5)) := run_make_ints (P := Try.prog) w .u8 .i64 23 5 16 Try.underlying23 info8 (by simp [IntKind.bits]) (by decide)
  have hb : Below w.heap.size w (w.alloc (.cells (madeCells #[.int .u8 0] 16) 5)) := (Below.refl _ _).alloc (Nat.le_refl _) _
  have hm : madeCells #[.int .u8 0] 16 = ba 16 (fun _ => 0) := by kernel_rfl
  rw [hm] at hmk hb
  have hz : At (w.alloc (.cells (ba 16 (fun _ => 0)) 5)) w.heap.size 16 5 (fun _ => 0) := At.new w 16 5 (fun _ => 0)
  have HI0 : Hid (Tg w (w.alloc (.cells (ba 16 (fun _ => 0)) 5)) gt n V F 0 w.heap.size 16) :=
    hid ⟨fun j hj => (World.cell?_of_block (w := w) (hb.block gt hlt)).trans (hcell j hj), fun j hj => (hrow j hj).self hb, Wd.of_at hz B16.zero, ⟨Nat.le_refl _, Nat.le_refl _, Nat.lt_of_lt_of_le hlt hb.size⟩, hb⟩
  have HF := hid hF
  have HN := hid hn
  clear hn hlt hcell hrow hF hb hz hm
  go_enter Try.func25, Try.ntmps25
  go_wp2
  go_loopw [3, 9] (fun sv iv wr => ∃ i g c, sv = .slice (some ⟨g, 0, none⟩) 16 c ∧ iv = .int .i64 (i : Nat) ∧ i ≤ n ∧ Tg w wr gt n V F i g c) (fun _ iv _ => n - (intOf iv).toNat)
  case atStart => exact ⟨0, _, _, rfl, rfl, by omega, HI0.out⟩
  case round =>
    obtain ⟨i, g, c, rfl, rfl, hi, hI⟩ := hrel
    have HI := hid hI
    clear hI HI0
    by_cases hlt : i < n
    · have h1 : (i : Int) < (n : Int) := by omega
      have h0 : (0 : Int) ≤ (i : Int) := by omega
      have hcl := HI.out.cell i hlt
      have HX := hid (xor_16 (.slice (some ⟨g, 0, none⟩) 16 c) (V i) (tgsF F i) (F i) wr (HI.out.sum.rd c (by decide)) (HI.out.row i hlt) (tgsF_b i fun j hj => HF.out j (by omega)) (HF.out i hlt))
      have HXB : Hid (B16 (xorF (tgsF F i) (F i))) := hid (xorF_16 (tgsF_b i fun j hj => HF.out j (by omega)) (HF.out i hlt))
      have hiw : IntKind.i64.wrap ((i : Int) + 1) = ((i + 1 : Nat) : Int) := by have := HN.out; rw [IntKind.wrap_i64]; omega
      have HIL := hid hlt
      generalize V i = v at *
      clear hi hlt
      go_wp2_with (first
        | (go_at_call 39; (with_reducible refine HX.out.mono ?_); rintro q w2 ⟨g2, c2, rfl, hown, hlow⟩
           have HI2 := hid (HI.out.next (g' := g2) (c' := c2) hlow (wd_own hown HXB.out).1 (wd_own hown HXB.out).2 (own_cap hown))
           clear hown hlow))
      go_roundw
      case rel => exact ⟨i + 1, g2, c2, rfl, by go_num, HIL.out, HI2.out⟩
      case measure => have := HIL.out; (simp [intOf] <;> omega)
    · obtain rfl : i = n := by omega
      clear hi hlt
      go_wp2
      go_ret
      exact ⟨g, c, rfl, HI.out.num.1, HI.out.sum, HI.out.num.2.1, HI.out.low⟩
end Go.Proofs.Ythhkhcacljgelaa
