import Derived.Test.YtiejaedljebbfaaProg
import Derived.Test.YtiejaedljebbfaaOcv
namespace Go.Proofs.Ytiejaedljebbfaa
open Go.RowKit

/-! ### octet.Store -/
def stL (x : Int) : Nat → List Int
  | 0 => []
  | k + 1 => stL x k ++ [x / 2 ^ (8 * k) % 256]
theorem stL_len (x : Int) : ∀ k, (stL x k).length = k
  | 0 => rfl
  | k + 1 => by simp [stL, stL_len x k]

/-! ### octet.Xor and the reference's -/
def xorL (xs ys : List Int) : Nat → List Int
  | 0 => []
  | k + 1 => xorL xs ys k ++ [bits .xor .u8 (nth xs k) (nth ys k)]
theorem xorL_len (xs ys : List Int) : ∀ k, (xorL xs ys k).length = k
  | 0 => rfl
  | k + 1 => by simp [xorL, xorL_len xs ys k]

set_option maxHeartbeats 400000 in
theorem xor_any (v v' : Value) (xs ys : List Int) (w : World) (h : Rd .u8 w v xs) (h' : Rd .u8 w v' ys) :
    Calls Try.prog 26 #[v, v'] w fun e w' => ∃ u, e = .returned u ∧ Own .u8 w.heap.size 5 w' u (xorL xs ys (min xs.length ys.length)) ∧ Below w.heap.size w w' := by
  have hl := u8lim h
  have hl' := u8lim h'
  obtain ⟨a, cap, rfl, _, hz, hc⟩ := h
  obtain ⟨a', cap', rfl, _, hz', hc'⟩ := h'
  clear hz hz'
  rcases Nat.lt_or_ge ys.length xs.length with hle | hle
  · have hmk := run_make_ints (P := Try.prog) w .u8 .i64 22 5 ys.length Try.underlying22 info8 (by simp [IntKind.bits]; omega) (by decide)
    have HO := hid (own_made (k := .u8) (B := w.heap.size) (E := 5) w ys.length (Nat.le_refl _) (by unfold maxLen; omega))
    have HM := hid (show min xs.length ys.length = ys.length by omega)
    go_enter Try.func26, Try.ntmps26
    go_wp2
    go_loopw [15] (fun i wr => ∃ j : Nat, j ≤ ys.length ∧ i = .int .i64 j ∧ Own .u8 w.heap.size 5 wr (.slice (some ⟨w.heap.size, 0, none⟩) ys.length ys.length) (xorL xs ys j ++ List.replicate (ys.length - j) 0) ∧ Below w.heap.size w wr) (fun i _ => ys.length - (intOf i).toNat)
    case atStart => exact ⟨0, by omega, rfl, by simpa [xorL] using HO.out, (Below.refl _ _).alloc (Nat.le_refl _) _⟩
    case round =>
      obtain ⟨j, hj, rfl, hown, hlow⟩ := hrel
      by_cases hlt : j < ys.length
      · obtain ⟨b, off, rfl, hbw, hc⟩ := hc (by omega)
        obtain ⟨b', off', rfl, hbw', hc'⟩ := hc' (by omega)
        have c1 := (hlow.cell (p := ⟨b, off + j, none⟩) hbw).trans (hc j (by omega))
        have c2 := (hlow.cell (p := ⟨b', off' + j, none⟩) hbw').trans (hc' j (by omega))
        have hlen := xorL_len xs ys j
        have hlen2 : (xorL xs ys j ++ List.replicate (ys.length - j) 0).length = ys.length := by simp [hlen]; omega
        obtain ⟨g, cap, hv, hg1, hg2, hcell, hfr, hset⟩ := hown.part (by omega)
        rw [hlen2] at hcell hset hv
        simp only [Value.slice.injEq, Option.some.injEq, Addr.mk.injEq] at hv
        obtain ⟨⟨rfl, _, _⟩, _, rfl⟩ := hv
        have c3 := hcell j hlt
        have c4 := hfr j
        have HS := hid (hset j (bits .xor .u8 (nth xs j) (nth ys j)) hlt)
        have HF := hid (set_fill (l := xorL xs ys j) hlen hlt (bits .xor .u8 (nth xs j) (nth ys j)))
        have HL := hid hlow
        clear hc hc' hcell hfr hset hown hlen hlen2 hlow
        have hj1 : (j : Int) < xs.length := by omega
        have hj2 : (j : Int) < ys.length := by omega
        go_wp2
        go_region
        go_wp2
        go_roundw
        case rel => exact ⟨j + 1, by omega, by go_num, by rw [show xorL xs ys (j + 1) = xorL xs ys j ++ [bits .xor .u8 (nth xs j) (nth ys j)] from rfl, ← HF.out]; exact HS.out, (HL.out.setCell (Nat.le_refl _) _).drew⟩
        case measure => simp [intOf]; omega
      · go_wp2
        go_ret
        obtain rfl : j = ys.length := by omega
        exact ⟨_, rfl, by rw [HM.out]; simpa using hown, hlow⟩
  · have hmk := run_make_ints (P := Try.prog) w .u8 .i64 22 5 xs.length Try.underlying22 info8 (by simp [IntKind.bits]; omega) (by decide)
    have HO := hid (own_made (k := .u8) (B := w.heap.size) (E := 5) w xs.length (Nat.le_refl _) (by unfold maxLen; omega))
    have HM := hid (show min xs.length ys.length = xs.length by omega)
    go_enter Try.func26, Try.ntmps26
    go_wp2
    go_loopw [15] (fun i wr => ∃ j : Nat, j ≤ xs.length ∧ i = .int .i64 j ∧ Own .u8 w.heap.size 5 wr (.slice (some ⟨w.heap.size, 0, none⟩) xs.length xs.length) (xorL xs ys j ++ List.replicate (xs.length - j) 0) ∧ Below w.heap.size w wr) (fun i _ => xs.length - (intOf i).toNat)
    case atStart => exact ⟨0, by omega, rfl, by simpa [xorL] using HO.out, (Below.refl _ _).alloc (Nat.le_refl _) _⟩
    case round =>
      obtain ⟨j, hj, rfl, hown, hlow⟩ := hrel
      by_cases hlt : j < xs.length
      · obtain ⟨b, off, rfl, hbw, hc⟩ := hc (by omega)
        obtain ⟨b', off', rfl, hbw', hc'⟩ := hc' (by omega)
        have c1 := (hlow.cell (p := ⟨b, off + j, none⟩) hbw).trans (hc j (by omega))
        have c2 := (hlow.cell (p := ⟨b', off' + j, none⟩) hbw').trans (hc' j (by omega))
        have hlen := xorL_len xs ys j
        have hlen2 : (xorL xs ys j ++ List.replicate (xs.length - j) 0).length = xs.length := by simp [hlen]; omega
        obtain ⟨g, cap, hv, hg1, hg2, hcell, hfr, hset⟩ := hown.part (by omega)
        rw [hlen2] at hcell hset hv
        simp only [Value.slice.injEq, Option.some.injEq, Addr.mk.injEq] at hv
        obtain ⟨⟨rfl, _, _⟩, _, rfl⟩ := hv
        have c3 := hcell j hlt
        have c4 := hfr j
        have HS := hid (hset j (bits .xor .u8 (nth xs j) (nth ys j)) hlt)
        have HF := hid (set_fill (l := xorL xs ys j) hlen hlt (bits .xor .u8 (nth xs j) (nth ys j)))
        have HL := hid hlow
        clear hc hc' hcell hfr hset hown hlen hlen2 hlow
        have hj1 : (j : Int) < xs.length := by omega
        have hj2 : (j : Int) < ys.length := by omega
        go_wp2
        go_region
        go_wp2
        go_roundw
        case rel => exact ⟨j + 1, by omega, by go_num, by rw [show xorL xs ys (j + 1) = xorL xs ys j ++ [bits .xor .u8 (nth xs j) (nth ys j)] from rfl, ← HF.out]; exact HS.out, (HL.out.setCell (Nat.le_refl _) _).drew⟩
        case measure => simp [intOf]; omega
      · go_wp2
        go_ret
        obtain rfl : j = xs.length := by omega
        exact ⟨_, rfl, by rw [HM.out]; simpa using hown, hlow⟩

set_option maxHeartbeats 400000 in
theorem refxor_any (v v' : Value) (xs ys : List Int) (w : World) (h : Rd .u8 w v xs) (h' : Rd .u8 w v' ys) :
    Calls Try.prog 14 #[v, v'] w fun e w' => ∃ u, e = .returned u ∧ Own .u8 w.heap.size 5 w' u (xorL xs ys (min xs.length ys.length)) ∧ Below w.heap.size w w' := by
  have hl := u8lim h
  have hl' := u8lim h'
  obtain ⟨a, cap, rfl, _, hz, hc⟩ := h
  obtain ⟨a', cap', rfl, _, hz', hc'⟩ := h'
  obtain ⟨m, hm⟩ : ∃ m : Nat, min xs.length ys.length = m := ⟨_, rfl⟩
  have hm1 : m ≤ xs.length := by omega
  have hm2 : m ≤ ys.length := by omega
  have HM := hid (show xs.length = m ∨ ys.length = m by omega)
  rw [hm]
  clear hm hz hz'
  go_enter Try.func14, Try.ntmps14
  go_wp2
  go_loopw [5, 6] (fun v i wr => ∃ j : Nat, j ≤ m ∧ i = .int .i64 j ∧ Own .u8 w.heap.size 5 wr v (xorL xs ys j) ∧ Below w.heap.size w wr) (fun _ i _ => m - (intOf i).toNat)
  case atStart => exact ⟨0, by omega, rfl, own_empty w (Nat.le_refl _), (Below.refl _ _).alloc (Nat.le_refl _) _⟩
  case round =>
    obtain ⟨j, hj, rfl, hown, hlow⟩ := hrel
    by_cases hlt : j < m
    · obtain ⟨b, off, rfl, hbw, hc⟩ := hc (by omega)
      obtain ⟨b', off', rfl, hbw', hc'⟩ := hc' (by omega)
      have hsz := hlow.size
      have c1 := (hlow.cell (p := ⟨b, off + j, none⟩) hbw).trans (hc j (by omega))
      have c2 := (hlow.cell (p := ⟨b', off' + j, none⟩) hbw').trans (hc' j (by omega))
      have hb1 : b < wr.heap.size := by omega
      have hb2 : b' < wr.heap.size := by omega
      have HO := hid hown; have HL := hid hlow
      have HLI := hid (show ((xorL xs ys j).length + 1) * (IntKind.u8.bits / 8) ≤ 140737488355328 by simp [IntKind.bits, xorL_len]; omega)
      clear hc hc' hown hlow
      have hj1 : (j : Int) < xs.length := by omega
      have hj2 : (j : Int) < ys.length := by omega
      go_wp2
      go_region_law (refine step_append_ints rfl (.tmp 20) (.tmp 30) 22 rfl .u8 w.heap.size 5 Try.underlying22 info8 (by decide) _ _ rfl (HO.out.alloc _).drew _ _ _ _ rfl rfl (cell_new_int_drew _ _ _ _) HLI.out (by simp; omega) _ _ (HL.out.alloc (by omega) _).drew (Nat.le_refl _) ?_; intro v2 w2 hO2 hL2 _)
      all_goals
        try go_wp2
        go_roundw
        case rel => exact ⟨j + 1, by omega, by go_num, hO2, hL2⟩
        case measure => simp [intOf]; omega
    · have hjm : j = m := by omega
      by_cases h1 : (j : Int) < xs.length
      · have h2 : ¬ (j : Int) < ys.length := by have := HM.out; omega
        clear hjm
        go_wp2
        go_ret
        obtain rfl : j = m := by omega
        exact ⟨_, rfl, hown, hlow⟩
      · clear hjm
        go_wp2
        go_ret
        obtain rfl : j = m := by omega
        exact ⟨_, rfl, hown, hlow⟩
end Go.Proofs.Ytiejaedljebbfaa
