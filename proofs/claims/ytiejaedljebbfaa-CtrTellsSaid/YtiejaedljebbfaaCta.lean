import Derived.Test.YtiejaedljebbfaaProg
import Derived.Test.YtiejaedljebbfaaCtn
/- Counters that are later, the program's and the document's; why there is no stream. -/
namespace Go.Proofs.Ytiejaedljebbfaa
open Go.RowKit
set_option maxRecDepth 100000

theorem wrap_u64_nat {n : Nat} (h : n < 18446744073709551616) : IntKind.u64.wrap (n : Int) = n := by rw [IntKind.wrap_u64]; omega

set_option maxHeartbeats 800000 in
theorem later_any (g off c : Nat) (f : Nat → Nat) (k : Nat) (w : World) (hk : k < 9223372036854775808) (h : Wd w 16 g off f) :
    Calls Try.prog 23 #[.slice (some ⟨g, off, none⟩) 16 c, .int .i64 k] w fun e w' =>
      e = .returned (.slice (some ⟨w.heap.size, 0, none⟩) 16 16) ∧ Own .u8 w.heap.size 5 w' (.slice (some ⟨w.heap.size, 0, none⟩) 16 16) (ns 16 (lat f k)) ∧ Below w.heap.size w w' := by
  have hmk : (Instr.makeSlice 22 (.int .i64 16) (.int .i64 16)).run Try.prog w = .ok (.slice (some ⟨w.heap.size, 0, none⟩) 16 16) (w.alloc (.cells (madeCells #[.int .u8 0] 16) 5)) := run_make_ints (P := Try.prog) w .u8 .i64 22 5 16 Try.underlying22 info8 (by decide) (by decide)
  have hk0 : IntKind.u64.wrap (k : Int) = k := wrap_u64_nat (by omega)
  have HW := hid h
  have HK := hid hk
  have HO : Hid (Own .u8 w.heap.size 5 (w.alloc (.cells (madeCells #[.int .u8 0] 16) 5)) (.slice (some ⟨w.heap.size, 0, none⟩) 16 16) (ns 16 (fun _ => 0))) := hid (by
    have := own_made (k := .u8) (B := w.heap.size) (E := 5) w 16 (Nat.le_refl _) (by unfold maxLen; omega)
    rwa [ns_zero] at this)
  clear h hk
  go_enter Try.func23, Try.ntmps23
  go_wp2
  go_loopw [6, 7] (fun x i wr => ∃ (m : Nat) (L : Nat → Nat), m ≤ 16 ∧ x = .int .u64 (car f k m) ∧ i = .int .i64 (15 - m) ∧ (∀ j, j < 16 → 16 ≤ j + m → L j = lat f k j) ∧ Own .u8 w.heap.size 5 wr (.slice (some ⟨w.heap.size, 0, none⟩) 16 16) (ns 16 L) ∧ Below w.heap.size w wr) (fun _ i _ => (intOf i + 1).toNat)
  case atStart => exact ⟨0, fun _ => 0, by omega, rfl, rfl, fun j h1 h2 => absurd h2 (by omega), HO.out, (Below.refl _ _).alloc (Nat.le_refl _) _⟩
  case round =>
    obtain ⟨m, L, hm, rfl, rfl, hL, hown, hlow⟩ := hrel
    have HL := hid hlow
    have HLL := hid hL
    have HO := hid hown
    clear hlow hL hown
    by_cases h16 : m = 16
    · subst h16
      go_wp2
      go_ret
      exact ⟨rfl, (ns_ext fun j hj => HLL.out j hj (by omega)) ▸ HO.out, HL.out⟩
    · have hm' : m < 16 := by omega
      obtain ⟨g', cap', hv, hg1, hg2, hcell, hfr, hset⟩ := HO.out.part (by rw [ns_len]; omega)
      simp only [Value.slice.injEq, Option.some.injEq, Addr.mk.injEq] at hv
      obtain ⟨⟨rfl, -, -⟩, -, rfl⟩ := hv
      have c1 := (HL.out.cell (p := ⟨g, off + (15 - m), none⟩) HW.out.lt).trans (HW.out.cell (15 - m) (by omega))
      have c2 := hfr (15 - m)
      have c3 := hcell (15 - m) (by rw [ns_len]; omega)
      have e15 : (15 : Int) - m = ((15 - m : Nat) : Int) := by omega
      have hfb := HW.out.byte (15 - m) (by omega)
      have hcb := car_le f HW.out.byte k m (by omega)
      have hkk := HK.out
      have hw1 : IntKind.u64.wrap ((f (15 - m) : Nat) : Int) = ((f (15 - m) : Nat) : Int) := wrap_u64_nat (by omega)
      have hw2 : IntKind.u64.wrap ((car f k m : Int) + (f (15 - m) : Int)) = ((car f k m + f (15 - m) : Nat) : Int) := by rw [← Int.natCast_add]; exact wrap_u64_nat (by omega)
      have HST := hid (fun z : Int => hset (15 - m) z (by rw [ns_len]; omega))
      have HZ : Hid (∀ i, i < 16 → 16 ≤ i + (m + 1) → upd L (15 - m) ((car f k m + f (15 - m)) % 256) i = lat f k i) := hid (fun i hi h => by
        unfold upd
        by_cases e : i = 15 - m
        · subst e
          rw [if_pos rfl]; unfold lat
          rw [show 15 - (15 - m) = m by omega, Nat.add_comm]
        · rw [if_neg e]; exact HLL.out i hi (by omega))
      have HC1 : Hid (car f k (m + 1) = (car f k m + f (15 - m)) / 256) := hid (by show (f (15 - m) + car f k m) / 256 = _; rw [Nat.add_comm])
      clear hcell hfr hset
      rw [e15]
      generalize car f k m = x at *
      generalize hq : 15 - m = q at *
      have hqb : q < 16 := by omega
      have hq0 : (q : Int) < 16 := by omega
      have hq1 : (0 : Int) ≤ q := by omega
      have HQ : Hid (15 - m = q ∧ m < 16) := hid ⟨hq, hm'⟩
      have HX : Hid (x ≤ k + 1 ∧ k < 9223372036854775808) := hid ⟨hcb, hkk⟩
      have HF : Hid (f q < 256) := hid hfb
      clear hq hm' h16 hm hcb hkk hfb hk0 hmk
      clear e15
      go_wp2
      go_roundw
      case rel =>
        refine ⟨m + 1, upd L q ((x + f q) % 256), by have := HQ.out.2; omega, ?_, ?_, HZ.out, ?_, HL.out.setCell (Nat.le_refl _) _⟩
        · rw [HC1.out]; congr 1
        · have := HQ.out; congr 1; omega
        · have := HST.out (((x + f q) % 256 : Nat) : Int)
          rw [ns_set] at this
          exact this
      case measure => (simp [intOf] <;> omega)

theorem w64 {n : Int} (h0 : 0 ≤ n) (h1 : n < 9223372036854775808) : wrap64 n = n := by unfold wrap64; omega
theorem doc_byte {x y : Nat} (hy : y < 256) : (wrap64 (wrap64 (y : Int) + (x : Int) % 256)).tmod 256 % 256 = (((y + x) % 256 : Nat) : Int) := by
  rw [w64 (n := (y : Int)) (by omega) (by omega), w64 (by omega) (by omega), Int.tmod_eq_emod_of_nonneg (by omega)]; omega
theorem doc_carry {x y : Nat} (hx : x ≤ 9223372036854775808) (hy : y < 256) : wrap64 (wrap64 ((x : Int) / 256) + wrap64 ((wrap64 (wrap64 (y : Int) + (x : Int) % 256)).tdiv 256)) = (((y + x) / 256 : Nat) : Int) := by
  rw [w64 (n := (y : Int)) (by omega) (by omega), w64 (n := (y : Int) + (x : Int) % 256) (by omega) (by omega), Int.tdiv_eq_ediv_of_nonneg (by omega), w64 (n := (x : Int) / 256) (by omega) (by omega), w64 (n := ((y : Int) + (x : Int) % 256) / 256) (by omega) (by omega), w64 (by omega) (by omega)]; omega
set_option maxHeartbeats 800000 in
theorem reflater_any (v : Value) (f : Nat → Nat) (k : Nat) (w : World) (hk : k < 9223372036854775808) (h : Rd .u8 w v (ns 16 f)) (hf : B16 f) :
    Calls Try.prog 16 #[v, .int .i64 k] w fun e w' => ∃ g c, e = .returned (.slice (some ⟨g, 0, none⟩) 16 c) ∧ Own .u8 w.heap.size 5 w' (.slice (some ⟨g, 0, none⟩) 16 c) (ns 16 (lat f k)) ∧ Below w.heap.size w w' := by
  have HZ := hid (h.self (w' := w.alloc (.cells #[] 5)) ((Below.refl _ _).alloc (Nat.le_refl _) _))
  have HK := hid hk
  have HB := hid hf
  obtain ⟨a, c, rfl, _, _, _⟩ := h
  clear hk hf
  rw [ns_len] at *
  have HLI := hid (show (0 + (ns 16 f).length) * (IntKind.u8.bits / 8) ≤ 140737488355328 by rw [ns_len]; decide)
  go_enter Try.func16, Try.ntmps16
  go_wp2_with (refine wpList_append_rd rfl (.tmp 8) (.tmp 9) 22 rfl .u8 w.heap.size 5 Try.underlying22 info8 (by decide) _ [] rfl (own_empty w (Nat.le_refl _)) _ (ns 16 f) rfl HZ.out HLI.out (by simp) w.heap.size w ((Below.refl _ _).alloc (Nat.le_refl _) _) (Nat.le_refl _) ?_; intro u w1 hown hlow _; rw [List.nil_append] at hown; obtain ⟨g, cap, rfl, hgB, _, _⟩ := hown.part (by rw [ns_len]; decide); rw [ns_len] at hown ⊢; have HO := hid hown; have HL := hid hlow; clear hown hlow)
  go_loopw [1, 6] (fun x i wr => ∃ (m : Nat) (L : Nat → Nat), m ≤ 16 ∧ x = .int .i64 (car f k m) ∧ i = .int .i64 (15 - m) ∧ (∀ j, j < 16 → L j = latTo f k m j) ∧ Own .u8 w.heap.size 5 wr (.slice (some ⟨g, 0, none⟩) 16 cap) (ns 16 L) ∧ Below w.heap.size w wr) (fun _ i _ => (intOf i + 1).toNat)
  case atStart => exact ⟨0, f, by omega, rfl, rfl, fun j h1 => (latTo_zero f k j h1).symm, HO.out, HL.out⟩
  case round =>
    obtain ⟨m, L, hm, rfl, rfl, hL, hown, hlow⟩ := hrel
    have HL := hid hlow
    have HLL := hid hL
    have HO := hid hown
    clear hlow hL hown
    by_cases h16 : m = 16
    · subst h16
      go_wp2
      go_ret
      exact ⟨_, _, rfl, (ns_ext fun j hj => (HLL.out j hj).trans (latTo_all f k j hj)) ▸ HO.out, HL.out⟩
    · have hm' : m < 16 := by omega
      obtain ⟨g', cap', hv, hg1, hg2, hcell, hfr, hset⟩ := HO.out.part (by rw [ns_len]; omega)
      simp only [Value.slice.injEq, Option.some.injEq, Addr.mk.injEq] at hv
      obtain ⟨⟨rfl, -, -⟩, -, rfl⟩ := hv
      have c1 := hcell (15 - m) (by rw [ns_len]; omega)
      rw [ns_nth L (show 15 - m < 16 by omega), HLL.out (15 - m) (by omega), show latTo f k m (15 - m) = f (15 - m) from if_neg (by omega)] at c1
      have c2 := hfr (15 - m)
      have e15 : (15 : Int) - m = ((15 - m : Nat) : Int) := by omega
      have hfb := HB.out (15 - m) (by omega)
      have hcb := car_le f HB.out k m (by omega)
      have hkk := HK.out
      have HST := hid (fun z : Int => hset (15 - m) z (by rw [ns_len]; omega))
      have HZ : Hid (∀ i, i < 16 → upd L (15 - m) ((f (15 - m) + car f k m) % 256) i = latTo f k (m + 1) i) := hid (fun i hi => by
        rw [← latTo_step f k hm' i hi]
        unfold upd
        by_cases e : i = 15 - m
        · rw [if_pos e, if_pos e]
        · rw [if_neg e, if_neg e]; exact HLL.out i hi)
      have HC1 : Hid (car f k (m + 1) = (f (15 - m) + car f k m) / 256) := hid rfl
      clear hcell hfr hset
      rw [e15]
      generalize car f k m = x at *
      generalize hq : 15 - m = q at *
      have hqb : q < 16 := by omega
      have hq0 : (q : Int) < 16 := by omega
      have hq1 : (0 : Int) ≤ q := by omega
      have HQ : Hid (15 - m = q ∧ m < 16) := hid ⟨hq, hm'⟩
      have hx0 : (0 : Int) ≤ x := by omega
      generalize hy : f q = y at *
      have HX : Hid (x ≤ k + 1 ∧ k < 9223372036854775808 ∧ y < 256) := hid ⟨hcb, hkk, hfb⟩
      have ht : Int.tmod (x : Int) 256 = ((x % 256 : Nat) : Int) := by rw [Int.tmod_eq_emod_of_nonneg hx0]; rfl
      have hdv : Int.tdiv (x : Int) 256 = ((x / 256 : Nat) : Int) := by rw [Int.tdiv_eq_ediv_of_nonneg hx0]; rfl
      clear hq hm' h16 hm hcb hkk hfb e15 hy hx0
      go_wp2
      go_roundw
      case rel =>
        refine ⟨m + 1, upd L q ((y + x) % 256), by have := HQ.out.2; omega, ?_, ?_, HZ.out, ?_, HL.out.setCell hg1 _⟩
        · rw [HC1.out, doc_carry (by have := HX.out; omega) HX.out.2.2]
        · have := HQ.out; congr 1; omega
        · have := HST.out (((y + x) % 256 : Nat) : Int)
          rw [ns_set] at this
          rw [doc_byte HX.out.2.2]
          exact this
      case measure => (simp [intOf] <;> omega)

/-- Why there is no stream: the code of the error. -/
def ckr (L : Nat) (q : Bool) : Int := if L ≠ 16 then 5 else if q then 1 else 0
theorem refused_any (a : Option Addr) (L c : Nat) (q : Bool) (w : World) :
    Calls Try.prog 20 #[.slice a L c, .bool q] w fun e w' => e = .returned (.int .i64 (ckr L q)) ∧ w' = w := by
  by_cases h : L = 16
  · subst h
    cases q
    · go_enter Try.func20, Try.ntmps20
      go_wp2
      go_ret
      exact ⟨rfl, rfl⟩
    · go_enter Try.func20, Try.ntmps20
      go_wp2
      go_ret
      exact ⟨rfl, rfl⟩
  · have h1 : ¬ ((L : Int) = 16) := by omega
    have h2 : ckr L q = 5 := if_pos h
    rw [h2]
    have h3 : ((L : Int) != 16) = true := by rw [bne_iff_ne]; exact h1
    go_enter Try.func20, Try.ntmps20
    go_wp2
    go_ret
    exact ⟨rfl, rfl⟩
/-- A number that may not be. -/
def outs (n : Int) : Bool := decide (n < 0) || decide (n > 65536)
theorem check_any (a : Option Addr) (L c : Nat) (n : Int) (w : World) :
    Calls Try.prog 12 #[.slice a L c, .int .i64 n] w fun e w' => e = .returned (.int .i64 (ckr L (outs n))) ∧ w' = w := by
  by_cases h : L = 16
  · subst h
    by_cases h0 : n < 0
    · have h2 : ckr 16 (outs n) = 1 := by simp [ckr, outs, h0]
      rw [h2]
      go_enter Try.func12, Try.ntmps12
      go_wp2
      go_ret
      exact ⟨rfl, rfl⟩
    · by_cases h1 : n > 65536
      · have h2 : ckr 16 (outs n) = 1 := by simp [ckr, outs, h1]
        rw [h2]
        go_enter Try.func12, Try.ntmps12
        go_wp2
        go_ret
        exact ⟨rfl, rfl⟩
      · have h2 : ckr 16 (outs n) = 0 := by simp [ckr, outs, h0, h1]
        rw [h2]
        go_enter Try.func12, Try.ntmps12
        go_wp2
        go_ret
        exact ⟨rfl, rfl⟩
  · have h1 : ¬ ((L : Int) = 16) := by omega
    have h2 : ckr L (outs n) = 5 := if_pos h
    rw [h2]
    have h3 : ((L : Int) != 16) = true := by rw [bne_iff_ne]; exact h1
    go_enter Try.func12, Try.ntmps12
    go_wp2
    go_ret
    exact ⟨rfl, rfl⟩
end Go.Proofs.Ytiejaedljebbfaa
