import Derived.Test.YtkdbjejblbopeaaMa6
namespace Go.Proofs.Ytkdbjejblbopeaa
open Go.RowKit

/-- Two results laid down. -/
structure L2 (f m s : Nat → Nat) (b : Nat) (w wr : World) : Prop where
  low : Below w.heap.size w wr
  far : w.heap.size + 1 ≤ b
  mat : M wr b m
  st : M wr (b + 1) s
theorem L2.start {f m s : Nat → Nat} {w wr w1 : World} (hl : Below w.heap.size w wr) (hs : w.heap.size + 1 ≤ wr.heap.size) (hb : Below wr.heap.size wr w1) :
    L2 f m s w1.heap.size w ((((w1.alloc (.cells (ba 8 (fun _ => 0)) 23)).alloc (.cells (ba 8 (fun _ => 0)) 23)).setRow w1.heap.size (ba 8 m)).setRow (w1.heap.size + 1) (ba 8 s)) := by
  have h1 := hl.trans (hb.mono hl.size)
  have hs1 := hb.size
  have n1 : At ((w1.alloc (.cells (ba 8 (fun _ => 0)) 23)).alloc (.cells (ba 8 (fun _ => 0)) 23)) w1.heap.size 8 23 (fun _ => 0) := (At.new w1 8 23 (fun _ => 0)).alloc _
  have n2 : At ((w1.alloc (.cells (ba 8 (fun _ => 0)) 23)).alloc (.cells (ba 8 (fun _ => 0)) 23)) (w1.heap.size + 1) 8 23 (fun _ => 0) := by
    have := At.new (w1.alloc (.cells (ba 8 (fun _ => 0)) 23)) 8 23 (fun _ => 0)
    rwa [World.size_alloc] at this
  refine ⟨below_setRow (below_setRow ((h1.alloc (by omega) _).alloc (by simp; omega) _) (by omega) _) (by omega) _, by omega, (n1.row m).rowApart (by omega) _, (n2.rowApart (by omega) _).row s⟩

theorem second_at (w1 : World) (m : Nat → Nat) : At (((w1.alloc (.cells (ba 8 (fun _ => 0)) 23)).alloc (.cells (ba 8 (fun _ => 0)) 23)).setRow w1.heap.size (ba 8 m)) (w1.heap.size + 1) 8 23 (fun _ => 0) := by
  have := At.new (w1.alloc (.cells (ba 8 (fun _ => 0)) 23)) 8 23 (fun _ => 0)
  rw [World.size_alloc] at this
  exact this.rowApart (by omega) _
theorem rows_ne {f m s : Nat → Nat} {d k : Nat} (h : RInv f m s d 8) (hk : k < 8) : ((m k : Int) != 0) = decide (k < d) := by
  by_cases hd : k < d
  · have := h.nonzero k hd
    simp [hd]; omega
  · have := h.zero k (by omega) hk
    simp [hd, this]

set_option maxHeartbeats 800000 in
theorem rank_any (f : Nat → Nat) (w : World) (hf : By f) :
    Calls Try.prog 17 #[.agg (ba 8 f)] w fun e w' => e = .returned (.int .i64 (rk f : Int)) ∧ Below w.heap.size w w' := by
  have HA := hid (At.new w 8 23 f)
  have HB := hid ((Below.refl w.heap.size w).alloc (Nat.le_refl _) (.cells (ba 8 f) 23))
  have HF := hid hf
  have hk8 := rk_le hf
  obtain ⟨d, hd⟩ : ∃ d, rk f = d := ⟨_, rfl⟩
  have HRD : Hid (∀ w, Calls Try.prog 22 #[.agg (ba 8 f)] w fun e w' => ∃ m s, e = .returned (.tuple #[.agg (ba 8 m), .agg (ba 8 s)]) ∧ RInv f m s d 8 ∧ Below w.heap.size w w') := hid (fun w => by
    have := reduce_any f w hf; rw [hd] at this; exact this)
  rw [hd] at hk8 ⊢
  clear hf hd
  go_enter Try.func17, Try.ntmps17
  go_wp2_with (first
    | (refine step_load_ba rfl 23 _ rfl w.heap.size 8 23 5 f rfl HA.out Try.underlying23 info23 ?_)
    | (go_at_call 22; (with_reducible refine (HRD.out _).mono ?_); rintro e w1 ⟨m, s, rfl, hR, hlow1⟩; have HR := hid hR; have HL := hid (L2.start (f := f) (m := m) (s := s) HB.out (by simp) hlow1); clear hR hlow1)
    | (refine step_store_ba rfl 23 _ _ rfl w1.heap.size 8 23 (fun _ => 0) m rfl rfl ((At.new w1 8 23 (fun _ => 0)).alloc _) info23 ?_)
    | (refine step_store_ba rfl 23 _ _ rfl (w1.heap.size + 1) 8 23 (fun _ => 0) s rfl rfl (second_at w1 m) info23 ?_)
    | (refine step_load_ba rfl 23 _ rfl w1.heap.size 8 23 5 m rfl HL.out.mat Try.underlying23 info23 ?_))
  go_loop [5, 14] (fun t i => ∃ k : Nat, k ≤ 8 ∧ i = .int .i64 k ∧ t = .int .i64 (min k d : Nat)) (fun _ i => 8 - (intOf i).toNat)
  case atStart => exact ⟨0, by omega, rfl, by simp⟩
  case round =>
    obtain ⟨k, hk, rfl, rfl⟩ := hrel
    by_cases hlt : k < 8
    · have hi := idx m hlt
      have hne := rows_ne HR.out hlt
      by_cases hkd : k < d
      · rw [decide_eq_true hkd] at hne
        have hmin : min k d = k := by omega
        rw [hmin]
        go_wp2
        go_round
        case rel => exact ⟨k + 1, by omega, by go_num, by rw [show min (k + 1) d = k + 1 by omega]; go_num⟩
        case measure => simp [intOf]; omega
      · rw [decide_eq_false hkd] at hne
        have hmin : min k d = d := by omega
        rw [hmin]
        go_wp2
        go_round
        case rel => exact ⟨k + 1, by omega, by go_num, by rw [show min (k + 1) d = d by omega]⟩
        case measure => simp [intOf]; omega
    · obtain rfl : k = 8 := by omega
      have hmin : min 8 d = d := by omega
      rw [hmin]
      clear hmin
      go_wp2
      go_ret
      exact ⟨rfl, HL.out.low⟩
end Go.Proofs.Ytkdbjejblbopeaa
