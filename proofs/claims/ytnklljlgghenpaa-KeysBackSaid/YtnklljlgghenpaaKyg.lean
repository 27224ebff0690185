import Derived.Test.YtnklljlgghenpaaProg
import Derived.Test.YtnklljlgghenpaaKyf
namespace Go.Proofs.Ytnklljlgghenpaa
open Go.RowKit

/-- R rows, of which the first r are made. -/
def rows (R r : Nat) (gs cs : Nat → Nat) : Array Value := ((List.range R).map fun i => if i < r then Value.slice (some ⟨gs i, 0, none⟩) 16 (cs i) else .slice none 0 0).toArray
theorem rows_size (R r : Nat) (gs cs : Nat → Nat) : (rows R r gs cs).size = R := by simp [rows]
theorem rows_at {R r : Nat} (gs cs : Nat → Nat) {i : Nat} (h : i < R) : (rows R r gs cs)[i]? = some (if i < r then Value.slice (some ⟨gs i, 0, none⟩) 16 (cs i) else .slice none 0 0) := by simp [rows, h]
theorem rows_set {R r : Nat} (gs cs : Nat → Nat) (g c : Nat) (h : r < R) : (rows R r gs cs).setIfInBounds r (.slice (some ⟨g, 0, none⟩) 16 c) = rows R (r + 1) (upd gs r g) (upd cs r c) := by
  apply Array.ext_getElem?
  intro i
  rw [Array.getElem?_setIfInBounds, rows_size]
  by_cases hi : i < R
  · rw [rows_at _ _ hi, rows_at _ _ hi]
    by_cases e : r = i
    · subst e; rw [if_pos rfl, if_pos hi, if_pos (by omega), upd_same, upd_same]
    · rw [if_neg e, upd_other _ _ _ _ (fun h => e h.symm), upd_other _ _ _ _ (fun h => e h.symm)]
      by_cases h1 : i < r
      · rw [if_pos h1, if_pos (by omega)]
      · rw [if_neg h1, if_neg (by omega)]
  · have h1 : (rows R r gs cs)[i]? = none := by simp [rows_size]; omega
    have h2 : (rows R (r + 1) (upd gs r g) (upd cs r c))[i]? = none := by simp [rows_size]; omega
    rw [h1, h2, if_neg (by omega)]

theorem make_rows (R : Nat) (h : R ≤ 65536) (w : World) : (Instr.makeSlice 25 (.int .i64 R) (.int .i64 R)).run Try.prog w = .ok (.slice (some ⟨w.heap.size, 0, none⟩) R R) (w.alloc (.cells (rows R 0 (fun _ => 0) (fun _ => 0)) 22)) := by
  obtain ⟨i0, hi, hz0, hz1, hz2⟩ := info_parts infor
  have := run_make (P := Try.prog) w 25 22 i0 _ Try.underlying25 hi hz0 .i64 .i64 R R (by omega) (by omega) (by rw [hz2]; omega) (by omega)
  rw [this]
  simp [hz1, Value.cells]
  congr 2
  apply Array.ext_getElem?
  intro i
  by_cases hi : i < R
  · rw [rows_at _ _ hi]; simp [madeCells, hi, Nat.mod_one]
  · rw [Array.getElem?_eq_none (by simp [size_madeCells]; omega), Array.getElem?_eq_none (by rw [rows_size]; omega)]

/-- Round keys so far: their list in block b, the words in block c. -/
structure EInv (w wr : World) (B b c M cap R r : Nat) (ws wo gs cs : Nat → Nat) (X : Nat → Nat → Nat) (Y : Nat → Nat → Nat) : Prop where
  list : wr.heap[b]? = some (.cells (rows R r gs cs) 22 (0, 0))
  words : LW wr B 22 c M cap 4 ws wo (fun _ => 4) X
  each : ∀ i, i < r → Wd wr 16 (gs i) 0 (Y i)
  apart : ∀ i, i < r → gs i ≠ b
  far : c ≠ b ∧ ∀ i, i < M → ws i ≠ b
  low : Below w.heap.size w wr
  new : w.heap.size ≤ b
section
variable {w wr w1 : World} {B b c M cap R r : Nat} {ws wo gs cs : Nat → Nat} {X Y : Nat → Nat → Nat}
theorem EInv.lt (h : EInv w wr B b c M cap R r ws wo gs cs X Y) : b < wr.heap.size := (Array.getElem?_eq_some_iff.1 h.list).1
theorem EInv.self (h : EInv w wr B b c M cap R r ws wo gs cs X Y) (hb : Below wr.heap.size wr w1) : EInv w w1 B b c M cap R r ws wo gs cs X Y :=
  ⟨(hb.block b h.lt).trans h.list, h.words.self hb, fun i hi => (h.each i hi).self hb, h.apart, h.far, h.low.trans (hb.mono h.low.size), h.new⟩
theorem EInv.cell (h : EInv w wr B b c M cap R r ws wo gs cs X Y) {i : Nat} (hi : i < R) : wr.cell? ⟨b, i, none⟩ = some (if i < r then Value.slice (some ⟨gs i, 0, none⟩) 16 (cs i) else .slice none 0 0) := by
  rw [cell_of_row wr b i _ 22 (0, 0) h.list, rows_at _ _ hi]
theorem EInv.free (h : EInv w wr B b c M cap R r ws wo gs cs X Y) (o : Nat) : wr.frozen? ⟨b, o, none⟩ = false := frozen_of_row wr b o _ 22 h.list
theorem EInv.set (h : EInv w wr B b c M cap R r ws wo gs cs X Y) (hr : r < R) {g k : Nat} (hg : Wd wr 16 g 0 (Y r)) (hn : g ≠ b) :
    EInv w (wr.setCell ⟨b, r, none⟩ (.slice (some ⟨g, 0, none⟩) 16 k)) B b c M cap R (r + 1) ws wo (upd gs r g) (upd cs r k) X Y := by
  have far : ∀ {x : Nat}, x ≠ b → (wr.setCell ⟨b, r, none⟩ (.slice (some ⟨g, 0, none⟩) 16 k)).heap[x]? = wr.heap[x]? := fun {x} hx => heap_setCell_other wr ⟨b, r, none⟩ x _ hx
  have hs : wr.heap.size ≤ (wr.setCell ⟨b, r, none⟩ (.slice (some ⟨g, 0, none⟩) 16 k)).heap.size := by simp [World.setCell]
  refine ⟨?_, h.words.same hs (far h.far.1) (fun i hi => far (h.far.2 i hi)), fun i hi => ?_, fun i hi => ?_, h.far, h.low.setCell h.new _, h.new⟩
  · rw [heap_setCell_same wr b r _ 22 _ h.list, rows_set _ _ _ _ hr]
  · unfold upd
    split
    · rename_i e; subst e; exact hg.same hs (far hn)
    · exact (h.each i (by omega)).same hs (far (h.apart i (by omega)))
  · unfold upd
    split
    · exact hn
    · exact h.apart i (by omega)
theorem EInv.done (h : EInv w wr B b c M cap R R ws wo gs cs X Y) : RL wr b R 16 gs (fun _ => 0) cs Y :=
  ⟨h.lt, fun i hi => by rw [h.cell hi, if_pos hi], h.each⟩
end

theorem cat4 (X : Nat → Nat → Nat) (r : Nat) : cat (fun i => ns 4 (X (4 * r + i))) 4 = ns 16 (fun m => X (4 * r + m / 4) (m % 4)) := rfl

theorem concat_row {w : World} {B c M cap r f cp : Nat} {ws wo : Nat → Nat} {X : Nat → Nat → Nat} (h : LW w B 22 c M cap 4 ws wo (fun _ => 4) X) (hf : f = 4 * r) (hr : 4 * r + 4 ≤ M) :
    Calls Try.prog 16 #[.slice (some ⟨c, f, none⟩) 4 cp] w fun e w' => ∃ g k, e = .returned (.slice (some ⟨g, 0, none⟩) 16 k) ∧ w.heap.size ≤ g ∧ Wd w' 16 g 0 (fun m => X (4 * r + m / 4) (m % 4)) ∧ Below w.heap.size w w' := by
  subst hf
  refine (concat_any c (4 * r) 4 cp (fun i => .slice (some ⟨ws (4 * r + i), wo (4 * r + i), none⟩) 4 4) (fun i => ns 4 (X (4 * r + i))) w (by decide) (fun i hi => h.cell (by omega)) (fun i hi => (h.each _ (by omega)).rd 4 (by decide)) (by rw [cat4, ns_len]; decide) h.lt).mono ?_
  rintro e w' ⟨v, rfl, ho, hl⟩
  rw [cat4] at ho
  obtain ⟨g, k, rfl, hg, _⟩ := World.ownsRow.form ho (by rw [ns_len]; decide)
  rw [ns_len] at ho ⊢
  exact ⟨g, k, rfl, hg, Wd.of_own ho (by decide) (fun j hj => (h.each (4 * r + j / 4) (by omega)).byte _ (Nat.mod_lt _ (by decide))), hl⟩

theorem words_at (kb ko kc K L M N : Nat) (k : Nat → Nat) (w : World) (hL : L = 4 * K) (hM : M = K + N) (hK : 4 ≤ K) (hK8 : K ≤ 8) (hN : N ≤ 900) (hc : 4 * K ≤ kc) (hkc : kc ≤ maxLen) (hk : ∀ x, k x < 256) (hA : Wd w (4 * K) kb ko k) :
    Calls Try.prog 15 #[.slice (some ⟨kb, ko, none⟩) L kc, .int .i64 (M : Int)] w fun e w' =>
      ∃ c cap gs os, e = .returned (.slice (some ⟨c, 0, none⟩) M cap) ∧ LW w' w.heap.size 22 c M cap 4 gs os (fun _ => 4) (exps K k N) ∧ Below w.heap.size w w' := by
  subst hL; subst hM
  exact words_any kb ko kc K N k w hK hK8 hN hc hkc hk hA

set_option maxRecDepth 100000 in
set_option maxHeartbeats 3200000 in
theorem expand_ok (kb ko kc K L R R1 M N : Nat) (k : Nat → Nat) (w : World) (hL : L = 4 * K) (hR : rnd (L : Int) = R) (hR1 : R1 = R + 1) (hM : M = 4 * R1) (hMN : M = K + N) (hK : 4 ≤ K) (hK8 : K ≤ 8) (hN : N ≤ 900) (hR0 : 0 < R) (hc : L ≤ kc) (hkc : kc ≤ maxLen)
    (hk : ∀ x, k x < 256) (hA : Wd w L kb ko k) :
    Calls Try.prog 9 #[.slice (some ⟨kb, ko, none⟩) L kc] w fun e w' =>
      ∃ c gs cs, e = .returned (.tuple #[.slice (some ⟨c, 0, none⟩) R1 R1, .int .i64 0]) ∧ RL w' c R1 16 gs (fun _ => 0) cs (rkey K k N) ∧ Below w.heap.size w w' := by
  have HRD := hid (fun w => by have := rounds_any (L : Int) w; rw [hR] at this; exact this)
  have HW := hid (words_at kb ko kc K L M N k w hL hMN hK hK8 hN (by omega) hkc hk (by rw [← hL]; exact hA))
  have hmk := make_rows R1 (by omega)
  have r0 : ((R : Int) == 0) = false := by rw [beq_eq_false_iff_ne]; omega
  have r1 : (R : Int) + 1 = (R1 : Int) := by omega
  have r2 : (R1 : Int) * 4 = (M : Int) := by omega
  have w1 : IntKind.i64.wrap (R1 : Int) = R1 := by rw [IntKind.wrap_i64]; omega
  have w2 : IntKind.i64.wrap (M : Int) = M := by rw [IntKind.wrap_i64]; omega
  have H4 := hid hM
  have HM1 : Hid (R1 ≤ 1000) := hid (by omega)
  have hkb := hA.lt
  clear hA hM hMN hR1 hR hL hc hkc
  go_enter Try.func9, Try.ntmps9
  go_wp2_with (first
    | (go_at_call 5; (with_reducible refine (HRD.out _).mono ?_); rintro e u1 ⟨rfl, rfl⟩)
    | (go_at_call 15; (with_reducible refine (HW.out).mono ?_); rintro e w3 ⟨c, cap, ws, wo, rfl, hl, hlow⟩; have HL := hid hl; have HLow := hid hlow; clear hl hlow))
  have HS : Hid (EInv u1 (w3.alloc (.cells (rows R1 0 (fun _ => 0) (fun _ => 0)) 22)) u1.heap.size w3.heap.size c M cap R1 0 ws wo (fun _ => 0) (fun _ => 0) (exps K k N) (rkey K k N)) :=
    hid ⟨heap_alloc_new w3 _, HL.out.alloc _, fun i hi => absurd hi (by omega), fun i hi => absurd hi (by omega), ⟨Nat.ne_of_lt HL.out.lt, fun i hi => Nat.ne_of_lt (HL.out.each i hi).lt⟩, HLow.out.alloc HLow.out.size _, HLow.out.size⟩
  have HCap := hid HL.out.form
  clear HL HLow HRD HW r2 w2 hmk
  generalize w3.heap.size = b at *
  go_loopw [24] (fun i wr => ∃ r gs cs, r ≤ R1 ∧ i = .int .i64 (r : Nat) ∧ EInv u1 wr u1.heap.size b c M cap R1 r ws wo gs cs (exps K k N) (rkey K k N)) (fun i _ => R1 - (intOf i).toNat)
  case atStart => exact ⟨0, _, _, by omega, rfl, HS.out⟩
  case round =>
    obtain ⟨r, gs, cs, hr, rfl, hI⟩ := hrel
    have HI := hid hI
    clear hI
    by_cases hlt : r < R1
    · obtain ⟨f, hf⟩ : ∃ f, f = 4 * r := ⟨_, rfl⟩
      have HM := H4.out
      have HC1 := HCap.out
      have HM2 := HM1.out
      have e1 : (r : Int) * 4 = (f : Int) := by omega
      have e2 : IntKind.i64.wrap (f : Int) = f := by rw [IntKind.wrap_i64]; omega
      have e3 : (0 : Int) ≤ (f : Int) := by omega
      have e4 : (f : Int) + 4 ≤ (cap : Int) := by omega
      have e5 : f + 4 ≤ cap := by omega
      have e8 : (f : Int) ≤ 100000 := by omega
      have e9 : f ≤ 100000 := by omega
      have e6 : (0 : Int) ≤ (r : Int) := by omega
      have e7 : (r : Int) < (R1 : Int) := by omega
      have HCC : Hid (∀ cp, Calls Try.prog 16 #[.slice (some ⟨c, f, none⟩) 4 cp] wr fun e w' => ∃ g k', e = .returned (.slice (some ⟨g, 0, none⟩) 16 k') ∧ wr.heap.size ≤ g ∧ Wd w' 16 g 0 (rkey K k N r) ∧ Below wr.heap.size wr w') :=
        hid (fun cp => concat_row HI.out.words hf (by omega))
      have HF := hid hf
      clear HM HC1 HM2 hf
      go_wp2_with (first
        | (go_at_call 16; (with_reducible refine (HCC.out _).mono ?_); rintro e w4 ⟨g, k', rfl, hg, hw, hl⟩; have HJ := hid (HI.out.self hl); have HW4 := hid hw; have HN4 := hid (show g ≠ b by have := HI.out.lt; omega); have hc1 := HJ.out.cell hlt; have hf1 := HJ.out.free r; clear hg hw hl))
      go_roundw
      case rel => exact ⟨r + 1, _, _, by omega, by go_num, HJ.out.set hlt HW4.out HN4.out⟩
      case measure => simp [intOf]; omega
    · obtain rfl : r = R1 := by omega
      go_wp2
      go_ret2
      exact ⟨b, rfl, ⟨gs, cs, HI.out.done⟩, HI.out.low⟩
end Go.Proofs.Ytnklljlgghenpaa
