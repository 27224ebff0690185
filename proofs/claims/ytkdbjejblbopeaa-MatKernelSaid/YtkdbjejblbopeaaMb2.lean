import Derived.Test.YtkdbjejblbopeaaMb1
namespace Go.Proofs.Ytkdbjejblbopeaa
open Go.RowKit

theorem half_pow {r : Nat} (h : 0 < r) : 2 ^ r / 2 = 2 ^ (r - 1) := by
  obtain ⟨k, rfl⟩ : ∃ k, r = k + 1 := ⟨r - 1, by omega⟩
  rw [Nat.pow_succ, Nat.mul_div_cancel _ (by decide)]; rfl
theorem pow_le_256 {r : Nat} (h : r ≤ 8) : 2 ^ r ≤ 256 := Nat.pow_le_pow_right (by decide) h

def HalfInv (r n k : Nat) : Prop := k ≤ r ∧ n = 2 ^ (r - k)
theorem HalfInv.le {r n k : Nat} (h : HalfInv r n k) (hr : r ≤ 8) : n ≤ 256 := by rw [h.2]; exact pow_le_256 (by omega)
theorem HalfInv.next {r n k : Nat} (h : HalfInv r n k) (hn : 1 < n) : k < r ∧ HalfInv r (n / 2) (k + 1) := by
  have hk : k < r := by
    refine Nat.lt_of_not_le fun hle => ?_
    have := h.2
    rw [show r - k = 0 by omega] at this
    omega
  refine ⟨hk, hk, ?_⟩
  rw [h.2, half_pow (by omega)]; congr 1
theorem HalfInv.done {r n k : Nat} (h : HalfInv r n k) (hn : ¬ 1 < n) : k = r := by
  refine Nat.le_antisymm h.1 (Nat.le_of_not_lt fun hlt => hn ?_)
  rw [h.2]
  exact Nat.one_lt_two_pow (by omega)

set_option maxRecDepth 20000 in
set_option maxHeartbeats 1600000 in
theorem refrank_any (f : Nat → Nat) (w : World) (hf : By f) :
    Calls Try.prog 18 #[.agg (ba 8 f)] w fun e w' => e = .returned (.int .i64 (rk f : Nat)) ∧ Below w.heap.size w w' := by
  have hz := zero44
  have hF8 : (bo 256 (fun _ => false)).size = 256 := bo_size _ _
  have hF1 := bo_one 256 (fun _ => false)
  obtain ⟨F, hF⟩ : ∃ F, bo 256 (fun _ => false) = F := ⟨_, rfl⟩
  rw [hF] at hz hF8 hF1
  have HF8 := hid hF8
  have HA := hid (At.new w 8 23 f)
  have HL := hid ((Below.refl w.heap.size w).alloc (Nat.le_refl _) (.cells (ba 8 f) 23))
  have HT : Hid (∀ w, Calls Try.prog 24 #[.agg (ba 8 f)] w fun e w' => ∃ cs : Array Value, cs.size = 256 ∧ cs.all (·.oneCell') = true ∧ e = .returned (.tuple #[.agg cs, .int .i64 (2 ^ rk f : Nat)]) ∧ Below w.heap.size w w') := hid (fun w => by
    have := told_any f w hf; rw [nd_rk hf] at this; exact this)
  have hr8 := rk_le hf
  generalize rk f = r at HT hr8 ⊢
  obtain ⟨N, hN⟩ : ∃ N, 2 ^ r = N := ⟨_, rfl⟩
  rw [hN] at HT
  have HN := hid hN
  clear hF hF8 hF1 hf hN
  go_enter Try.func18, Try.ntmps18
  go_wp2_with (first
    | (refine step_load_ba rfl 23 _ rfl w.heap.size 8 23 5 f rfl HA.out Try.underlying23 info23 ?_)
    | (go_at_call 24; (with_reducible refine (HT.out _).mono ?_); rintro e w1 ⟨cs, h8, h1, rfl, hlow1⟩; have H8 := hid h8; have H1 := hid h1; have HL1 := hid (HL.out.trans (hlow1.mono (by simp))); clear h8 h1 hlow1)
    | (refine step_store_bt rfl _ _ rfl w1.heap.size F cs rfl rfl (Bt.new w1 F) HF8.out H8.out H1.out ?_))
  clear hz
  go_loop [4, 5] (fun nv kv => ∃ n k : Nat, nv = .int .i64 n ∧ kv = .int .i64 k ∧ HalfInv r n k) (fun nv _ => (intOf nv).toNat)
  case atStart => exact ⟨N, 0, rfl, rfl, by omega, HN.out.symm⟩
  case round =>
    obtain ⟨n, k, rfl, rfl, hI⟩ := hrel
    have hn := hI.le hr8
    have hk := hI.1
    have HI := hid hI
    clear hI
    by_cases h1 : 1 < n
    · go_wp2
      go_round
      case rel => exact ⟨n / 2, k + 1, by go_num, by go_num, (HI.out.next h1).2⟩
      case measure => simp [intOf]; omega
    · have hd := HI.out.done h1
      subst hd
      go_wp2
      go_ret
      exact ⟨rfl, below_setRow (HL1.out.alloc (by have := HL1.out.size; omega) _) (by have := HL1.out.size; omega) _⟩
end Go.Proofs.Ytkdbjejblbopeaa
