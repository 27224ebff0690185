import Derived.Test.YtffoinnllihdeaaProg
import Derived.Test.YtffoinnllihdeaaWda
import Derived.Test.YtffoinnllihdeaaTas
/- Wire: the law's rows of words: a tape's words, rows that are alike. -/
namespace Go.Proofs.Ytffoinnllihdeaa
open Go.RowKit
set_option maxRecDepth 100000
theorem wdL_step (v : Nat → Nat) (j : Nat) : wdL v (j + 1) = wdL v j ++ [(v j : Int)] := by
  unfold wdL; rw [List.range_succ, List.map_append]; rfl
theorem wcell_new (w : World) (z : Int) (E : TypeId) : ∀ j, j < 1 → (w.alloc (.cells #[.int .u64 z] E)).cell? (Addr.add ⟨w.heap.size, 0, none⟩ j) = some (.int .u64 (nth [z] j)) := fun j hj => by
  rw [cell_new w (.int .u64 z) E j hj]
  obtain rfl : j = 0 := by omega
  rfl
theorem wown_base {k : IntKind} {B B' : Nat} {E : TypeId} {w : World} {v : Value} {zs : List Int} (h : Own k B E w v zs) (hB : B' ≤ B) : Own k B' E w v zs := by
  obtain ⟨h1, h2⟩ := h
  refine ⟨h1, ?_⟩
  rcases h2 with h2 | ⟨g, cap, cur, e1, hg, r⟩
  · exact .inl h2
  · exact .inr ⟨g, cap, cur, e1, by omega, r⟩
structure WI (w1 wr : World) (v : Value) (T : Nat → Nat) (j : Nat) : Prop where
  own : Own .u64 w1.heap.size 41 wr v (wdL (fun i => T (i + 1)) j)
  low : Below w1.heap.size w1 wr
/-- The words that a tape is made of. -/
structure Lcg (T : Nat → Nat) : Prop where
  z : T 0 = 1
  s : ∀ i, T (i + 1) = (T i * 6364136223846793005 + 1442695040888963407) % 18446744073709551616
theorem Lcg.lt {T : Nat → Nat} (h : Lcg T) : ∀ i, T i < 18446744073709551616
  | 0 => by rw [h.z]; decide
  | i + 1 => by rw [h.s]; exact Nat.mod_lt _ (by decide)
set_option maxHeartbeats 1600000 in
theorem ltape_any (T : Nat → Nat) (hT : Lcg T) (n : Nat) (hn : n ≤ 1000) (w : World) :
    Calls Try.prog 6 #[.int .i64 (n : Int)] w fun e w' => ∃ u, e = .returned u ∧ Own .u64 w.heap.size 41 w' u (wdL (fun i => T (i + 1)) n) ∧ Below w.heap.size w w' := by
  have HE : Hid (WI w (w.alloc (.cells #[] 41)) (.slice (some ⟨w.heap.size, 0, none⟩) 0 0) T 0) := hid ⟨own_empty w (Nat.le_refl _), (Below.refl _ _).alloc (Nat.le_refl _) _⟩
  have H0 : Hid ((1 : Int) = (T 0 : Nat)) := hid (by rw [hT.z]; rfl)
  go_enter Try.func6, Try.ntmps6
  go_wp2
  go_loopw [3, 4, 5] (fun v x i wr => ∃ j : Nat, j ≤ n ∧ i = .int .i64 j ∧ x = .int .u64 (T j : Nat) ∧ WI w wr v T j) (fun _ _ i _ => n - (intOf i).toNat)
  case atStart => exact ⟨0, by omega, rfl, by rw [← H0.out], HE.out⟩
  case round =>
    obtain ⟨j, hj, rfl, rfl, hI⟩ := hrel
    have HI := hid hI
    clear hI
    by_cases hlt : j < n
    · have j1 : (0 : Int) ≤ (j : Int) := by omega
      have j2 : (j : Int) < (n : Int) := by omega
      have HS := hid (wdL_step (fun i => T (i + 1)) j)
      obtain ⟨m1, hm1⟩ : ∃ m1 : Nat, (T j * 6364136223846793005) % 18446744073709551616 = m1 := ⟨_, rfl⟩
      have e1 : IntKind.u64.wrap ((T j : Int) * 6364136223846793005) = (m1 : Int) := by rw [IntKind.wrap_u64, ← hm1]; omega
      have e2 : IntKind.u64.wrap ((m1 : Int) + 1442695040888963407) = (T (j + 1) : Int) := by rw [IntKind.wrap_u64, hT.s, ← hm1]; omega
      clear hm1
      have HL : Hid ((wdL (fun i => T (i + 1)) j).length = j) := hid (wdL_len _ _)
      generalize hTj : T j = tj at *
      generalize hTk : T (j + 1) = tk at *
      have HTk := hid hTk
      clear hTj hTk
      go_wp2_with (first
        | (at_builtin; refine wpList_append_ints rfl (.tmp 15) (.tmp 17) 25 rfl .u64 w.heap.size 41 Try.underlying25 info25 (by decide) _ _ rfl (HI.out.own.alloc _) ⟨wr.heap.size, 0, none⟩ 1 1 [(tk : Int)] rfl rfl (wcell_new wr tk 41) (by rw [HL.out]; show (_ + 1) * 8 ≤ _; omega) (by have := HI.out.low.size; simp; omega) w.heap.size w (HI.out.low.alloc (HI.out.low.size) _) (Nat.le_refl _) ?_; intro v' w' hown' hlow' _; have HO2 := hid hown'; have HW2 := hid hlow'; clear hown' hlow'))
      go_roundw
      case rel => exact ⟨j + 1, by omega, by go_num, by rw [HTk.out], ⟨by rw [HS.out]; exact HO2.out, HW2.out⟩⟩
      case measure => simp [intOf]; omega
    · obtain rfl : j = n := by omega
      go_wp2
      go_ret
      exact ⟨_, rfl, HI.out.own, HI.out.low⟩
/-- Two rows that read alike. -/
theorem lwords_eq (v v' : Value) (zs : List Int) (w : World) (h : Rd .u64 w v zs) (h' : Rd .u64 w v' zs) (hl : zs.length ≤ 1000000) :
    Calls Try.prog 33 #[v, v'] w fun e w' => e = .returned (.bool true) ∧ Below w.heap.size w w' := by
  obtain ⟨a, cap, rfl, _, _, hp⟩ := id h
  obtain ⟨a', cap', rfl, _, _, hp'⟩ := id h'
  generalize hL : zs.length = L at *
  have HP := hid hp
  have HP' := hid hp'
  clear h h' hp hp' hL
  go_enter Try.func33, Try.ntmps33
  go_wp2
  go_loopw [5] (fun i wr => ∃ j : Nat, j ≤ L ∧ i = .int .i64 j ∧ Below w.heap.size w wr) (fun i _ => L - (intOf i).toNat)
  case atStart => exact ⟨0, by omega, rfl, Below.refl _ _⟩
  case round =>
    obtain ⟨j, hj, rfl, hI⟩ := hrel
    have HI := hid hI
    clear hI
    by_cases hlt : j < L
    · obtain ⟨b, off, rfl, hb, hc⟩ := HP.out (by omega)
      obtain ⟨b', off', rfl, hb', hc'⟩ := HP'.out (by omega)
      have c1 : wr.drew.cell? ⟨b, off + j, none⟩ = some (.int .u64 (nth zs j)) := (HI.out.drew.cell (p := ⟨b, off + j, none⟩) hb).trans (hc j hlt)
      have c2 : wr.drew.cell? ⟨b', off' + j, none⟩ = some (.int .u64 (nth zs j)) := (HI.out.drew.cell (p := ⟨b', off' + j, none⟩) hb').trans (hc' j hlt)
      have HI2 := hid HI.out.drew
      have j1 : (0 : Int) ≤ (j : Int) := by omega
      have j2 : (j : Int) < (L : Int) := by omega
      clear hc hc' hb hb'
      generalize nth zs j = z at *
      go_wp2_with fail
      go_region
      go_wp2
      go_roundw
      case rel => exact ⟨j + 1, by omega, by go_num, HI2.out⟩
      case measure => simp [intOf]; omega
    · obtain rfl : j = L := by omega
      go_wp2
      go_ret
      exact ⟨rfl, HI.out⟩
end Go.Proofs.Ytffoinnllihdeaa
