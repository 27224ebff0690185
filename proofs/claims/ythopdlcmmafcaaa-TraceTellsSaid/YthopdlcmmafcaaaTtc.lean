import Derived.Test.YthopdlcmmafcaaaProg
import Derived.Test.YthopdlcmmafcaaaTte
import Derived.Test.YthopdlcmmafcaaaTrs
import Derived.Test.YthopdlcmmafcaaaTtw
import Derived.Deep.CutRange
import Derived.Deep.CutBlock
/- Trace: TraceCounts, over the program's calls' contracts. -/
namespace Go.Proofs.Ythopdlcmmafcaaa
open Go.RowKit
set_option maxRecDepth 100000
theorem Ai.zero (w : World) : Ai (w.alloc (.cells #[.int .i64 0, .int .i64 0, .int .i64 0, .int .i64 0, .int .i64 0, .int .i64 0, .int .i64 0, .int .i64 0, .int .i64 0, .int .i64 0, .int .i64 0, .int .i64 0, .int .i64 0] 28)) w.heap.size 13 28 (fun _ => 0) := heap_alloc_new w _
theorem Ai.put {w : World} {b : Nat} {g : Nat → Nat} (h : Ai w b 13 28 g) (T : Nat → Nat) : Ai (w.setRow b (ia 13 T)) b 13 28 T := setRow_heap w _ _ _ _ _ h
theorem Ai.apart2 {w : World} {b c : Nat} {g : Nat → Nat} (h : Ai w b 13 28 g) (hc : b ≠ c) (cs : Array Value) : Ai (w.setRow c cs) b 13 28 g := (setRow_other w c b cs hc).trans h
theorem box_ops {w : World} {p : Nat} {n : Int} {v0 v1 : Value} (h : w.heap[p]? = some (.cells #[.int .i64 n, v0, v1] 25 (0, 0))) : w.cell? ⟨p, 1, none⟩ = some v0 := by
  rw [cell_of_row w _ 1 _ _ _ h]; rfl
set_option maxHeartbeats 25600000 in
theorem tcounts_core (N N' : Int) (a0 a1 a0' a1' : Option Addr) (L M L' M' cap0 cap1 cap0' cap1' : Nat) (T T' : Nat → Nat) (c1 c2 : Int) (s : Bool) (W : World) (hT : ∀ i, i < 13 → T i ≤ 4000000000000) (hsum : smT T 13 = L)
    (hs : s = true → (∀ i, i < 13 → T i = T' i) ∧ c1 = c2)
    (HTa : ∀ w, Below W.heap.size W w → Calls Try.prog 8 #[trV N (.slice a0 L cap0) (.slice a1 M cap1)] w fun e w' => e = .returned (.agg (ia 13 T)) ∧ Below w.heap.size w w')
    (HTb : ∀ w, Below W.heap.size W w → Calls Try.prog 8 #[trV N' (.slice a0' L' cap0') (.slice a1' M' cap1')] w fun e w' => e = .returned (.agg (ia 13 T')) ∧ Below w.heap.size w w')
    (HSab : ∀ w, Below W.heap.size W w → Calls Try.prog 15 #[trV N (.slice a0 L cap0) (.slice a1 M cap1), trV N' (.slice a0' L' cap0') (.slice a1' M' cap1')] w fun e w' => e = .returned (.bool s) ∧ Below w.heap.size w w')
    (HSba : ∀ w, Below W.heap.size W w → Calls Try.prog 15 #[trV N' (.slice a0' L' cap0') (.slice a1' M' cap1'), trV N (.slice a0 L cap0) (.slice a1 M cap1)] w fun e w' => e = .returned (.bool s) ∧ Below w.heap.size w w')
    (HSaa : ∀ w, Below W.heap.size W w → Calls Try.prog 15 #[trV N (.slice a0 L cap0) (.slice a1 M cap1), trV N (.slice a0 L cap0) (.slice a1 M cap1)] w fun e w' => e = .returned (.bool true) ∧ Below w.heap.size w w')
    (HCa : ∀ w, Below W.heap.size W w → Calls Try.prog 7 #[trV N (.slice a0 L cap0) (.slice a1 M cap1)] w fun e w' => e = .returned (.int .i64 c1) ∧ Below w.heap.size w w')
    (HCb : ∀ w, Below W.heap.size W w → Calls Try.prog 7 #[trV N' (.slice a0' L' cap0') (.slice a1' M' cap1')] w fun e w' => e = .returned (.int .i64 c2) ∧ Below w.heap.size w w')
    (HAw : ∀ w, Below W.heap.size W w → Calls Try.prog 14 #[] w fun e w' => e = .returned (.bool true) ∧ Below w.heap.size w w') :
    Calls Try.prog 4 #[trV N (.slice a0 L cap0) (.slice a1 M cap1), trV N' (.slice a0' L' cap0') (.slice a1' M' cap1')] W fun e w' => e = .returned (.bool true) ∧ Below W.heap.size W w' := by
  have KTa := hid HTa
  have KTb := hid HTb
  have KSab := hid HSab
  have KSba := hid HSba
  have KSaa := hid HSaa
  have KCa := hid HCa
  have KCb := hid HCb
  have KAw := hid HAw
  have KT := hid hT
  have Ksum := hid hsum
  have Ks := hid hs
  clear HTa HTb HSab HSba HSaa HCa HCb HAw hT hsum hs
  have X0 := hid (Tw.start #[.int .i64 N, .slice a0 L cap0, .slice a1 M cap1] #[.int .i64 N', .slice a0' L' cap0', .slice a1' M' cap1'] W)
  go_enter Try.func4, Try.ntmps4
  go_upto_region 1 with fail
  generalize (W.alloc (.cells #[.int .i64 N, .slice a0 L cap0, .slice a1 M cap1] 25)).alloc (.cells #[.int .i64 N', .slice a0' L' cap0', .slice a1' M' cap1'] 25) = x0 at *
  go_cut [5, 6] from 10 to 13 (fun p r wx => ∃ b c : Nat, p = .pointer (some ⟨b, 0, none⟩) ∧ r = .pointer (some ⟨c, 0, none⟩) ∧ Tw #[.int .i64 N, .slice a0 L cap0, .slice a1 M cap1] #[.int .i64 N', .slice a0' L' cap0', .slice a1' M' cap1'] W wx ∧ Ai wx b 13 28 T ∧ Ai wx c 13 28 T')
  case first =>
    have X1 := hid (X0.out.drew)
    refine wp_region_noPanic ?_
    refine wp_region_held_drew (S := fun w' => w'.heap[W.heap.size]? = some (.cells #[.int .i64 N, .slice a0 L cap0, .slice a1 M cap1] 25 (0, 0)) ∧ w'.heap[W.heap.size + 1]? = some (.cells #[.int .i64 N', .slice a0' L' cap0', .slice a1' M' cap1'] 25 (0, 0))) (by kernel_rfl) (⟨X0.out.drew.one, X0.out.drew.two⟩) (fun h0 => ?_)
    generalize x0.drew = x1 at *
    refine wpAnyH_take (i := 0) (v := trV N (.slice a0 L cap0) (.slice a1 M cap1)) rfl (by kernel_rfl) (by kernel_rfl) (by kernel_rfl) (fun _ _ _ h => h) (yields_load_row (by rfl) 25 (.tmp 2) rfl W.heap.size 25 #[.int .i64 N, .slice a0 L cap0, .slice a1 M cap1] _ rfl (fun w h => h.1) Try.underlying25 rfl (by kernel_rfl)) h0 ?_
    try simp only [Act.put, lay_out]
    refine wpAnyH_take (i := 2) (v := trV N' (.slice a0' L' cap0') (.slice a1' M' cap1')) rfl (by kernel_rfl) (by kernel_rfl) (by kernel_rfl) (fun _ _ _ h => h) (yields_load_row (by rfl) 25 (.tmp 3) rfl (W.heap.size + 1) 25 #[.int .i64 N', .slice a0' L' cap0', .slice a1' M' cap1'] _ rfl (fun w h => h.2) Try.underlying25 rfl (by kernel_rfl)) h0 ?_
    try simp only [Act.put, lay_out]
    refine wpAnyH_ready (rs := [1, 4, 5]) (by kernel_rfl) (by simp) (AllReadyH.cons rfl (fun K hK => ?_) (AllReadyH.cons rfl (fun K hK => ?_) (AllReadyH.cons rfl (fun K hK => ?_) AllReadyH.nil)))
    · rw [if_pos (by rfl)]
      go_simp
      go_at_call 8
      (with_reducible refine (KTa.out _ X1.out.low).mono ?_); rintro e x2 ⟨rfl, hb⟩
      have X2 := hid (X1.out.self hb)
      clear hb
      refine hK.out _ _ (⟨X2.out.one, X2.out.two⟩) (fun h1x => ?_)
      clear hK K
      try simp only [Act.put, lay_out]
      refine wpAnyH_ready (rs := [3, 4, 5]) (by kernel_rfl) (by simp) (AllReadyH.cons rfl (fun K hK => ?_) (AllReadyH.cons rfl (fun K hK => ?_) (AllReadyH.cons rfl (fun K hK => ?_) AllReadyH.nil)))
      · rw [if_pos (by rfl)]
        go_simp
        go_at_call 8
        (with_reducible refine (KTb.out _ X2.out.low).mono ?_); rintro e x3 ⟨rfl, hb⟩
        have X3 := hid (X2.out.self hb)
        clear hb
        refine hK.out _ _ (⟨X3.out.one, X3.out.two⟩) (fun h2x => ?_)
        clear hK K
        try simp only [Act.put, lay_out]
        refine wpAnyH_ready (rs := [4, 5]) (by kernel_rfl) (by simp) (AllReadyH.cons rfl (fun K hK => ?_) (AllReadyH.cons rfl (fun K hK => ?_) AllReadyH.nil))
        · rw [if_pos (by rfl)]
          go_simp
          have X4' := hid (X3.out.alloc (.cells #[.int .i64 0, .int .i64 0, .int .i64 0, .int .i64 0, .int .i64 0, .int .i64 0, .int .i64 0, .int .i64 0, .int .i64 0, .int .i64 0, .int .i64 0, .int .i64 0, .int .i64 0] 28))
          have Z4_4' := hid (Ai.zero x3)
          have F4 := hid X3.out.fresh
          generalize hx4 : x3.alloc (.cells #[.int .i64 0, .int .i64 0, .int .i64 0, .int .i64 0, .int .i64 0, .int .i64 0, .int .i64 0, .int .i64 0, .int .i64 0, .int .i64 0, .int .i64 0, .int .i64 0, .int .i64 0] 28) = x4 at *
          generalize hb4 : x3.heap.size = b4 at *
          have X4 := X4'
          have Z4_4 := Z4_4'
          clear hx4
          refine hK.out _ _ (⟨X4.out.one, X4.out.two⟩) (fun h3x => ?_)
          clear hK K
          try simp only [Act.put, lay_out]
          refine wpAnyH_ready (rs := [5]) (by kernel_rfl) (by simp) (AllReadyH.cons rfl (fun K hK => ?_) AllReadyH.nil)
          rw [if_pos (by rfl)]
          go_simp
          have X5' := hid (X4.out.alloc (.cells #[.int .i64 0, .int .i64 0, .int .i64 0, .int .i64 0, .int .i64 0, .int .i64 0, .int .i64 0, .int .i64 0, .int .i64 0, .int .i64 0, .int .i64 0, .int .i64 0, .int .i64 0] 28))
          have Z5_5' := hid (Ai.zero x4)
          have Z4_5' := hid (Z4_4.out.self ((Below.refl _ x4).alloc (Nat.le_refl _) (.cells #[.int .i64 0, .int .i64 0, .int .i64 0, .int .i64 0, .int .i64 0, .int .i64 0, .int .i64 0, .int .i64 0, .int .i64 0, .int .i64 0, .int .i64 0, .int .i64 0, .int .i64 0] 28)))
          have F5 := hid X4.out.fresh
          have D := hid (Nat.ne_of_lt Z4_4.out.lt)
          generalize hx5 : x4.alloc (.cells #[.int .i64 0, .int .i64 0, .int .i64 0, .int .i64 0, .int .i64 0, .int .i64 0, .int .i64 0, .int .i64 0, .int .i64 0, .int .i64 0, .int .i64 0, .int .i64 0, .int .i64 0] 28) = x5 at *
          generalize hb5 : x4.heap.size = b5 at *
          have X5 := X5'
          have Z4_5 := Z4_5'
          have Z5_5 := Z5_5'
          clear hx5
          refine hK.out _ _ (⟨X5.out.one, X5.out.two⟩) (fun h4x => ?_)
          clear hK K
          try simp only [Act.put, lay_out]
          refine wpAnyH_ready (rs := [6]) (by kernel_rfl) (by simp) (AllReadyH.cons rfl (fun K hK => ?_) AllReadyH.nil)
          rw [if_pos (by rfl)]
          refine wp_store_row 28 _ _ rfl b4 (ia 13 T) rfl rfl 28 _ Z4_5.out (by kernel_rfl) (by simp [ia_size]) (ia_one 13 T) ?_
          have X6' := hid (X5.out.row F4.out (ia 13 T))
          have Z4_6' := hid (Z4_5.out.put T)
          have Z5_6' := hid (Z5_5.out.apart2 (show b5 ≠ b4 by have := D.out; omega) (ia 13 T))
          generalize x5.setRow b4 (ia 13 T) = x6 at *
          have X6 := X6'; have Z4_6 := Z4_6'; have Z5_6 := Z5_6'
          refine hK.out _ _ (⟨X6.out.one, X6.out.two⟩) (fun h5x => ?_)
          clear hK K
          try simp only [Act.put, lay_out]
          refine wpAnyH_ready (rs := [7]) (by kernel_rfl) (by simp) (AllReadyH.cons rfl (fun K hK => ?_) AllReadyH.nil)
          rw [if_pos (by rfl)]
          refine wp_store_row 28 _ _ rfl b5 (ia 13 T') rfl rfl 28 _ Z5_6.out (by kernel_rfl) (by simp [ia_size]) (ia_one 13 T') ?_
          have X7' := hid (X6.out.row F5.out (ia 13 T'))
          have Z5_7' := hid (Z5_6.out.put T')
          have Z4_7' := hid (Z4_6.out.apart2 (show b4 ≠ b5 by have := D.out; omega) (ia 13 T'))
          generalize x6.setRow b5 (ia 13 T') = x7 at *
          have X7 := X7'; have Z5_7 := Z5_7'; have Z4_7 := Z4_7'
          refine hK.out _ _ (⟨X7.out.one, X7.out.two⟩) (fun h6x => ?_)
          clear hK K
          try simp only [Act.put, lay_out]
          refine wpAnyH_done (by kernel_rfl) ?_ _
          refine NoPanic.normal ?_
          clear h0 h1x h2x h3x h4x h5x h6x
          try simp only [Act.put, lay_out]
          go_wp2_with fail
          go_meet
          exact ⟨b4, b5, rfl, rfl, X7.out, Z4_7.out, Z5_7.out⟩
        · rw [if_pos (by rfl)]
          go_simp
          have X4' := hid (X3.out.alloc (.cells #[.int .i64 0, .int .i64 0, .int .i64 0, .int .i64 0, .int .i64 0, .int .i64 0, .int .i64 0, .int .i64 0, .int .i64 0, .int .i64 0, .int .i64 0, .int .i64 0, .int .i64 0] 28))
          have Z5_4' := hid (Ai.zero x3)
          have F5 := hid X3.out.fresh
          generalize hx4 : x3.alloc (.cells #[.int .i64 0, .int .i64 0, .int .i64 0, .int .i64 0, .int .i64 0, .int .i64 0, .int .i64 0, .int .i64 0, .int .i64 0, .int .i64 0, .int .i64 0, .int .i64 0, .int .i64 0] 28) = x4 at *
          generalize hb5 : x3.heap.size = b5 at *
          have X4 := X4'
          have Z5_4 := Z5_4'
          clear hx4
          refine hK.out _ _ (⟨X4.out.one, X4.out.two⟩) (fun h3x => ?_)
          clear hK K
          try simp only [Act.put, lay_out]
          refine wpAnyH_ready (rs := [4]) (by kernel_rfl) (by simp) (AllReadyH.cons rfl (fun K hK => ?_) AllReadyH.nil)
          rw [if_pos (by rfl)]
          go_simp
          have X5' := hid (X4.out.alloc (.cells #[.int .i64 0, .int .i64 0, .int .i64 0, .int .i64 0, .int .i64 0, .int .i64 0, .int .i64 0, .int .i64 0, .int .i64 0, .int .i64 0, .int .i64 0, .int .i64 0, .int .i64 0] 28))
          have Z4_5' := hid (Ai.zero x4)
          have Z5_5' := hid (Z5_4.out.self ((Below.refl _ x4).alloc (Nat.le_refl _) (.cells #[.int .i64 0, .int .i64 0, .int .i64 0, .int .i64 0, .int .i64 0, .int .i64 0, .int .i64 0, .int .i64 0, .int .i64 0, .int .i64 0, .int .i64 0, .int .i64 0, .int .i64 0] 28)))
          have F4 := hid X4.out.fresh
          have D := hid (Nat.ne_of_lt Z5_4.out.lt)
          generalize hx5 : x4.alloc (.cells #[.int .i64 0, .int .i64 0, .int .i64 0, .int .i64 0, .int .i64 0, .int .i64 0, .int .i64 0, .int .i64 0, .int .i64 0, .int .i64 0, .int .i64 0, .int .i64 0, .int .i64 0] 28) = x5 at *
          generalize hb4 : x4.heap.size = b4 at *
          have X5 := X5'
          have Z5_5 := Z5_5'
          have Z4_5 := Z4_5'
          clear hx5
          refine hK.out _ _ (⟨X5.out.one, X5.out.two⟩) (fun h4x => ?_)
          clear hK K
          try simp only [Act.put, lay_out]
          refine wpAnyH_ready (rs := [6]) (by kernel_rfl) (by simp) (AllReadyH.cons rfl (fun K hK => ?_) AllReadyH.nil)
          rw [if_pos (by rfl)]
          refine wp_store_row 28 _ _ rfl b4 (ia 13 T) rfl rfl 28 _ Z4_5.out (by kernel_rfl) (by simp [ia_size]) (ia_one 13 T) ?_
          have X6' := hid (X5.out.row F4.out (ia 13 T))
          have Z4_6' := hid (Z4_5.out.put T)
          have Z5_6' := hid (Z5_5.out.apart2 (show b5 ≠ b4 by have := D.out; omega) (ia 13 T))
          generalize x5.setRow b4 (ia 13 T) = x6 at *
          have X6 := X6'; have Z4_6 := Z4_6'; have Z5_6 := Z5_6'
          refine hK.out _ _ (⟨X6.out.one, X6.out.two⟩) (fun h5x => ?_)
          clear hK K
          try simp only [Act.put, lay_out]
          refine wpAnyH_ready (rs := [7]) (by kernel_rfl) (by simp) (AllReadyH.cons rfl (fun K hK => ?_) AllReadyH.nil)
          rw [if_pos (by rfl)]
          refine wp_store_row 28 _ _ rfl b5 (ia 13 T') rfl rfl 28 _ Z5_6.out (by kernel_rfl) (by simp [ia_size]) (ia_one 13 T') ?_
          have X7' := hid (X6.out.row F5.out (ia 13 T'))
          have Z5_7' := hid (Z5_6.out.put T')
          have Z4_7' := hid (Z4_6.out.apart2 (show b4 ≠ b5 by have := D.out; omega) (ia 13 T'))
          generalize x6.setRow b5 (ia 13 T') = x7 at *
          have X7 := X7'; have Z5_7 := Z5_7'; have Z4_7 := Z4_7'
          refine hK.out _ _ (⟨X7.out.one, X7.out.two⟩) (fun h6x => ?_)
          clear hK K
          try simp only [Act.put, lay_out]
          refine wpAnyH_done (by kernel_rfl) ?_ _
          refine NoPanic.normal ?_
          clear h0 h1x h2x h3x h4x h5x h6x
          try simp only [Act.put, lay_out]
          go_wp2_with fail
          go_meet
          exact ⟨b4, b5, rfl, rfl, X7.out, Z4_7.out, Z5_7.out⟩
      · rw [if_pos (by rfl)]
        go_simp
        have X3' := hid (X2.out.alloc (.cells #[.int .i64 0, .int .i64 0, .int .i64 0, .int .i64 0, .int .i64 0, .int .i64 0, .int .i64 0, .int .i64 0, .int .i64 0, .int .i64 0, .int .i64 0, .int .i64 0, .int .i64 0] 28))
        have Z4_3' := hid (Ai.zero x2)
        have F4 := hid X2.out.fresh
        generalize hx3 : x2.alloc (.cells #[.int .i64 0, .int .i64 0, .int .i64 0, .int .i64 0, .int .i64 0, .int .i64 0, .int .i64 0, .int .i64 0, .int .i64 0, .int .i64 0, .int .i64 0, .int .i64 0, .int .i64 0] 28) = x3 at *
        generalize hb4 : x2.heap.size = b4 at *
        have X3 := X3'
        have Z4_3 := Z4_3'
        clear hx3
        refine hK.out _ _ (⟨X3.out.one, X3.out.two⟩) (fun h2x => ?_)
        clear hK K
        try simp only [Act.put, lay_out]
        refine wpAnyH_ready (rs := [3, 5]) (by kernel_rfl) (by simp) (AllReadyH.cons rfl (fun K hK => ?_) (AllReadyH.cons rfl (fun K hK => ?_) AllReadyH.nil))
        · rw [if_pos (by rfl)]
          go_simp
          go_at_call 8
          (with_reducible refine (KTb.out _ X3.out.low).mono ?_); rintro e x4 ⟨rfl, hb⟩
          have X4 := hid (X3.out.self hb)
          have Z4_4 := hid (Z4_3.out.self hb)
          clear hb
          refine hK.out _ _ (⟨X4.out.one, X4.out.two⟩) (fun h3x => ?_)
          clear hK K
          try simp only [Act.put, lay_out]
          refine wpAnyH_ready (rs := [5]) (by kernel_rfl) (by simp) (AllReadyH.cons rfl (fun K hK => ?_) AllReadyH.nil)
          rw [if_pos (by rfl)]
          go_simp
          have X5' := hid (X4.out.alloc (.cells #[.int .i64 0, .int .i64 0, .int .i64 0, .int .i64 0, .int .i64 0, .int .i64 0, .int .i64 0, .int .i64 0, .int .i64 0, .int .i64 0, .int .i64 0, .int .i64 0, .int .i64 0] 28))
          have Z5_5' := hid (Ai.zero x4)
          have Z4_5' := hid (Z4_4.out.self ((Below.refl _ x4).alloc (Nat.le_refl _) (.cells #[.int .i64 0, .int .i64 0, .int .i64 0, .int .i64 0, .int .i64 0, .int .i64 0, .int .i64 0, .int .i64 0, .int .i64 0, .int .i64 0, .int .i64 0, .int .i64 0, .int .i64 0] 28)))
          have F5 := hid X4.out.fresh
          have D := hid (Nat.ne_of_lt Z4_4.out.lt)
          generalize hx5 : x4.alloc (.cells #[.int .i64 0, .int .i64 0, .int .i64 0, .int .i64 0, .int .i64 0, .int .i64 0, .int .i64 0, .int .i64 0, .int .i64 0, .int .i64 0, .int .i64 0, .int .i64 0, .int .i64 0] 28) = x5 at *
          generalize hb5 : x4.heap.size = b5 at *
          have X5 := X5'
          have Z4_5 := Z4_5'
          have Z5_5 := Z5_5'
          clear hx5
          refine hK.out _ _ (⟨X5.out.one, X5.out.two⟩) (fun h4x => ?_)
          clear hK K
          try simp only [Act.put, lay_out]
          refine wpAnyH_ready (rs := [6]) (by kernel_rfl) (by simp) (AllReadyH.cons rfl (fun K hK => ?_) AllReadyH.nil)
          rw [if_pos (by rfl)]
          refine wp_store_row 28 _ _ rfl b4 (ia 13 T) rfl rfl 28 _ Z4_5.out (by kernel_rfl) (by simp [ia_size]) (ia_one 13 T) ?_
          have X6' := hid (X5.out.row F4.out (ia 13 T))
          have Z4_6' := hid (Z4_5.out.put T)
          have Z5_6' := hid (Z5_5.out.apart2 (show b5 ≠ b4 by have := D.out; omega) (ia 13 T))
          generalize x5.setRow b4 (ia 13 T) = x6 at *
          have X6 := X6'; have Z4_6 := Z4_6'; have Z5_6 := Z5_6'
          refine hK.out _ _ (⟨X6.out.one, X6.out.two⟩) (fun h5x => ?_)
          clear hK K
          try simp only [Act.put, lay_out]
          refine wpAnyH_ready (rs := [7]) (by kernel_rfl) (by simp) (AllReadyH.cons rfl (fun K hK => ?_) AllReadyH.nil)
          rw [if_pos (by rfl)]
          refine wp_store_row 28 _ _ rfl b5 (ia 13 T') rfl rfl 28 _ Z5_6.out (by kernel_rfl) (by simp [ia_size]) (ia_one 13 T') ?_
          have X7' := hid (X6.out.row F5.out (ia 13 T'))
          have Z5_7' := hid (Z5_6.out.put T')
          have Z4_7' := hid (Z4_6.out.apart2 (show b4 ≠ b5 by have := D.out; omega) (ia 13 T'))
          generalize x6.setRow b5 (ia 13 T') = x7 at *
          have X7 := X7'; have Z5_7 := Z5_7'; have Z4_7 := Z4_7'
          refine hK.out _ _ (⟨X7.out.one, X7.out.two⟩) (fun h6x => ?_)
          clear hK K
          try simp only [Act.put, lay_out]
          refine wpAnyH_done (by kernel_rfl) ?_ _
          refine NoPanic.normal ?_
          clear h0 h1x h2x h3x h4x h5x h6x
          try simp only [Act.put, lay_out]
          go_wp2_with fail
          go_meet
          exact ⟨b4, b5, rfl, rfl, X7.out, Z4_7.out, Z5_7.out⟩
        · rw [if_pos (by rfl)]
          go_simp
          have X4' := hid (X3.out.alloc (.cells #[.int .i64 0, .int .i64 0, .int .i64 0, .int .i64 0, .int .i64 0, .int .i64 0, .int .i64 0, .int .i64 0, .int .i64 0, .int .i64 0, .int .i64 0, .int .i64 0, .int .i64 0] 28))
          have Z5_4' := hid (Ai.zero x3)
          have Z4_4' := hid (Z4_3.out.self ((Below.refl _ x3).alloc (Nat.le_refl _) (.cells #[.int .i64 0, .int .i64 0, .int .i64 0, .int .i64 0, .int .i64 0, .int .i64 0, .int .i64 0, .int .i64 0, .int .i64 0, .int .i64 0, .int .i64 0, .int .i64 0, .int .i64 0] 28)))
          have F5 := hid X3.out.fresh
          have D := hid (Nat.ne_of_lt Z4_3.out.lt)
          generalize hx4 : x3.alloc (.cells #[.int .i64 0, .int .i64 0, .int .i64 0, .int .i64 0, .int .i64 0, .int .i64 0, .int .i64 0, .int .i64 0, .int .i64 0, .int .i64 0, .int .i64 0, .int .i64 0, .int .i64 0] 28) = x4 at *
          generalize hb5 : x3.heap.size = b5 at *
          have X4 := X4'
          have Z4_4 := Z4_4'
          have Z5_4 := Z5_4'
          clear hx4
          refine hK.out _ _ (⟨X4.out.one, X4.out.two⟩) (fun h3x => ?_)
          clear hK K
          try simp only [Act.put, lay_out]
          refine wpAnyH_ready (rs := [3]) (by kernel_rfl) (by simp) (AllReadyH.cons rfl (fun K hK => ?_) AllReadyH.nil)
          rw [if_pos (by rfl)]
          go_simp
          go_at_call 8
          (with_reducible refine (KTb.out _ X4.out.low).mono ?_); rintro e x5 ⟨rfl, hb⟩
          have X5 := hid (X4.out.self hb)
          have Z4_5 := hid (Z4_4.out.self hb)
          have Z5_5 := hid (Z5_4.out.self hb)
          clear hb
          refine hK.out _ _ (⟨X5.out.one, X5.out.two⟩) (fun h4x => ?_)
          clear hK K
          try simp only [Act.put, lay_out]
          refine wpAnyH_ready (rs := [6]) (by kernel_rfl) (by simp) (AllReadyH.cons rfl (fun K hK => ?_) AllReadyH.nil)
          rw [if_pos (by rfl)]
          refine wp_store_row 28 _ _ rfl b4 (ia 13 T) rfl rfl 28 _ Z4_5.out (by kernel_rfl) (by simp [ia_size]) (ia_one 13 T) ?_
          have X6' := hid (X5.out.row F4.out (ia 13 T))
          have Z4_6' := hid (Z4_5.out.put T)
          have Z5_6' := hid (Z5_5.out.apart2 (show b5 ≠ b4 by have := D.out; omega) (ia 13 T))
          generalize x5.setRow b4 (ia 13 T) = x6 at *
          have X6 := X6'; have Z4_6 := Z4_6'; have Z5_6 := Z5_6'
          refine hK.out _ _ (⟨X6.out.one, X6.out.two⟩) (fun h5x => ?_)
          clear hK K
          try simp only [Act.put, lay_out]
          refine wpAnyH_ready (rs := [7]) (by kernel_rfl) (by simp) (AllReadyH.cons rfl (fun K hK => ?_) AllReadyH.nil)
          rw [if_pos (by rfl)]
          refine wp_store_row 28 _ _ rfl b5 (ia 13 T') rfl rfl 28 _ Z5_6.out (by kernel_rfl) (by simp [ia_size]) (ia_one 13 T') ?_
          have X7' := hid (X6.out.row F5.out (ia 13 T'))
          have Z5_7' := hid (Z5_6.out.put T')
          have Z4_7' := hid (Z4_6.out.apart2 (show b4 ≠ b5 by have := D.out; omega) (ia 13 T'))
          generalize x6.setRow b5 (ia 13 T') = x7 at *
          have X7 := X7'; have Z5_7 := Z5_7'; have Z4_7 := Z4_7'
          refine hK.out _ _ (⟨X7.out.one, X7.out.two⟩) (fun h6x => ?_)
          clear hK K
          try simp only [Act.put, lay_out]
          refine wpAnyH_done (by kernel_rfl) ?_ _
          refine NoPanic.normal ?_
          clear h0 h1x h2x h3x h4x h5x h6x
          try simp only [Act.put, lay_out]
          go_wp2_with fail
          go_meet
          exact ⟨b4, b5, rfl, rfl, X7.out, Z4_7.out, Z5_7.out⟩
      · rw [if_pos (by rfl)]
        go_simp
        have X3' := hid (X2.out.alloc (.cells #[.int .i64 0, .int .i64 0, .int .i64 0, .int .i64 0, .int .i64 0, .int .i64 0, .int .i64 0, .int .i64 0, .int .i64 0, .int .i64 0, .int .i64 0, .int .i64 0, .int .i64 0] 28))
        have Z5_3' := hid (Ai.zero x2)
        have F5 := hid X2.out.fresh
        generalize hx3 : x2.alloc (.cells #[.int .i64 0, .int .i64 0, .int .i64 0, .int .i64 0, .int .i64 0, .int .i64 0, .int .i64 0, .int .i64 0, .int .i64 0, .int .i64 0, .int .i64 0, .int .i64 0, .int .i64 0] 28) = x3 at *
        generalize hb5 : x2.heap.size = b5 at *
        have X3 := X3'
        have Z5_3 := Z5_3'
        clear hx3
        refine hK.out _ _ (⟨X3.out.one, X3.out.two⟩) (fun h2x => ?_)
        clear hK K
        try simp only [Act.put, lay_out]
        refine wpAnyH_ready (rs := [3, 4]) (by kernel_rfl) (by simp) (AllReadyH.cons rfl (fun K hK => ?_) (AllReadyH.cons rfl (fun K hK => ?_) AllReadyH.nil))
        · rw [if_pos (by rfl)]
          go_simp
          go_at_call 8
          (with_reducible refine (KTb.out _ X3.out.low).mono ?_); rintro e x4 ⟨rfl, hb⟩
          have X4 := hid (X3.out.self hb)
          have Z5_4 := hid (Z5_3.out.self hb)
          clear hb
          refine hK.out _ _ (⟨X4.out.one, X4.out.two⟩) (fun h3x => ?_)
          clear hK K
          try simp only [Act.put, lay_out]
          refine wpAnyH_ready (rs := [4]) (by kernel_rfl) (by simp) (AllReadyH.cons rfl (fun K hK => ?_) AllReadyH.nil)
          rw [if_pos (by rfl)]
          go_simp
          have X5' := hid (X4.out.alloc (.cells #[.int .i64 0, .int .i64 0, .int .i64 0, .int .i64 0, .int .i64 0, .int .i64 0, .int .i64 0, .int .i64 0, .int .i64 0, .int .i64 0, .int .i64 0, .int .i64 0, .int .i64 0] 28))
          have Z4_5' := hid (Ai.zero x4)
          have Z5_5' := hid (Z5_4.out.self ((Below.refl _ x4).alloc (Nat.le_refl _) (.cells #[.int .i64 0, .int .i64 0, .int .i64 0, .int .i64 0, .int .i64 0, .int .i64 0, .int .i64 0, .int .i64 0, .int .i64 0, .int .i64 0, .int .i64 0, .int .i64 0, .int .i64 0] 28)))
          have F4 := hid X4.out.fresh
          have D := hid (Nat.ne_of_lt Z5_4.out.lt)
          generalize hx5 : x4.alloc (.cells #[.int .i64 0, .int .i64 0, .int .i64 0, .int .i64 0, .int .i64 0, .int .i64 0, .int .i64 0, .int .i64 0, .int .i64 0, .int .i64 0, .int .i64 0, .int .i64 0, .int .i64 0] 28) = x5 at *
          generalize hb4 : x4.heap.size = b4 at *
          have X5 := X5'
          have Z5_5 := Z5_5'
          have Z4_5 := Z4_5'
          clear hx5
          refine hK.out _ _ (⟨X5.out.one, X5.out.two⟩) (fun h4x => ?_)
          clear hK K
          try simp only [Act.put, lay_out]
          refine wpAnyH_ready (rs := [6]) (by kernel_rfl) (by simp) (AllReadyH.cons rfl (fun K hK => ?_) AllReadyH.nil)
          rw [if_pos (by rfl)]
          refine wp_store_row 28 _ _ rfl b4 (ia 13 T) rfl rfl 28 _ Z4_5.out (by kernel_rfl) (by simp [ia_size]) (ia_one 13 T) ?_
          have X6' := hid (X5.out.row F4.out (ia 13 T))
          have Z4_6' := hid (Z4_5.out.put T)
          have Z5_6' := hid (Z5_5.out.apart2 (show b5 ≠ b4 by have := D.out; omega) (ia 13 T))
          generalize x5.setRow b4 (ia 13 T) = x6 at *
          have X6 := X6'; have Z4_6 := Z4_6'; have Z5_6 := Z5_6'
          refine hK.out _ _ (⟨X6.out.one, X6.out.two⟩) (fun h5x => ?_)
          clear hK K
          try simp only [Act.put, lay_out]
          refine wpAnyH_ready (rs := [7]) (by kernel_rfl) (by simp) (AllReadyH.cons rfl (fun K hK => ?_) AllReadyH.nil)
          rw [if_pos (by rfl)]
          refine wp_store_row 28 _ _ rfl b5 (ia 13 T') rfl rfl 28 _ Z5_6.out (by kernel_rfl) (by simp [ia_size]) (ia_one 13 T') ?_
          have X7' := hid (X6.out.row F5.out (ia 13 T'))
          have Z5_7' := hid (Z5_6.out.put T')
          have Z4_7' := hid (Z4_6.out.apart2 (show b4 ≠ b5 by have := D.out; omega) (ia 13 T'))
          generalize x6.setRow b5 (ia 13 T') = x7 at *
          have X7 := X7'; have Z5_7 := Z5_7'; have Z4_7 := Z4_7'
          refine hK.out _ _ (⟨X7.out.one, X7.out.two⟩) (fun h6x => ?_)
          clear hK K
          try simp only [Act.put, lay_out]
          refine wpAnyH_done (by kernel_rfl) ?_ _
          refine NoPanic.normal ?_
          clear h0 h1x h2x h3x h4x h5x h6x
          try simp only [Act.put, lay_out]
          go_wp2_with fail
          go_meet
          exact ⟨b4, b5, rfl, rfl, X7.out, Z4_7.out, Z5_7.out⟩
        · rw [if_pos (by rfl)]
          go_simp
          have X4' := hid (X3.out.alloc (.cells #[.int .i64 0, .int .i64 0, .int .i64 0, .int .i64 0, .int .i64 0, .int .i64 0, .int .i64 0, .int .i64 0, .int .i64 0, .int .i64 0, .int .i64 0, .int .i64 0, .int .i64 0] 28))
          have Z4_4' := hid (Ai.zero x3)
          have Z5_4' := hid (Z5_3.out.self ((Below.refl _ x3).alloc (Nat.le_refl _) (.cells #[.int .i64 0, .int .i64 0, .int .i64 0, .int .i64 0, .int .i64 0, .int .i64 0, .int .i64 0, .int .i64 0, .int .i64 0, .int .i64 0, .int .i64 0, .int .i64 0, .int .i64 0] 28)))
          have F4 := hid X3.out.fresh
          have D := hid (Nat.ne_of_lt Z5_3.out.lt)
          generalize hx4 : x3.alloc (.cells #[.int .i64 0, .int .i64 0, .int .i64 0, .int .i64 0, .int .i64 0, .int .i64 0, .int .i64 0, .int .i64 0, .int .i64 0, .int .i64 0, .int .i64 0, .int .i64 0, .int .i64 0] 28) = x4 at *
          generalize hb4 : x3.heap.size = b4 at *
          have X4 := X4'
          have Z5_4 := Z5_4'
          have Z4_4 := Z4_4'
          clear hx4
          refine hK.out _ _ (⟨X4.out.one, X4.out.two⟩) (fun h3x => ?_)
          clear hK K
          try simp only [Act.put, lay_out]
          refine wpAnyH_ready (rs := [3]) (by kernel_rfl) (by simp) (AllReadyH.cons rfl (fun K hK => ?_) AllReadyH.nil)
          rw [if_pos (by rfl)]
          go_simp
          go_at_call 8
          (with_reducible refine (KTb.out _ X4.out.low).mono ?_); rintro e x5 ⟨rfl, hb⟩
          have X5 := hid (X4.out.self hb)
          have Z5_5 := hid (Z5_4.out.self hb)
          have Z4_5 := hid (Z4_4.out.self hb)
          clear hb
          refine hK.out _ _ (⟨X5.out.one, X5.out.two⟩) (fun h4x => ?_)
          clear hK K
          try simp only [Act.put, lay_out]
          refine wpAnyH_ready (rs := [6]) (by kernel_rfl) (by simp) (AllReadyH.cons rfl (fun K hK => ?_) AllReadyH.nil)
          rw [if_pos (by rfl)]
          refine wp_store_row 28 _ _ rfl b4 (ia 13 T) rfl rfl 28 _ Z4_5.out (by kernel_rfl) (by simp [ia_size]) (ia_one 13 T) ?_
          have X6' := hid (X5.out.row F4.out (ia 13 T))
          have Z4_6' := hid (Z4_5.out.put T)
          have Z5_6' := hid (Z5_5.out.apart2 (show b5 ≠ b4 by have := D.out; omega) (ia 13 T))
          generalize x5.setRow b4 (ia 13 T) = x6 at *
          have X6 := X6'; have Z4_6 := Z4_6'; have Z5_6 := Z5_6'
          refine hK.out _ _ (⟨X6.out.one, X6.out.two⟩) (fun h5x => ?_)
          clear hK K
          try simp only [Act.put, lay_out]
          refine wpAnyH_ready (rs := [7]) (by kernel_rfl) (by simp) (AllReadyH.cons rfl (fun K hK => ?_) AllReadyH.nil)
          rw [if_pos (by rfl)]
          refine wp_store_row 28 _ _ rfl b5 (ia 13 T') rfl rfl 28 _ Z5_6.out (by kernel_rfl) (by simp [ia_size]) (ia_one 13 T') ?_
          have X7' := hid (X6.out.row F5.out (ia 13 T'))
          have Z5_7' := hid (Z5_6.out.put T')
          have Z4_7' := hid (Z4_6.out.apart2 (show b4 ≠ b5 by have := D.out; omega) (ia 13 T'))
          generalize x6.setRow b5 (ia 13 T') = x7 at *
          have X7 := X7'; have Z5_7 := Z5_7'; have Z4_7 := Z4_7'
          refine hK.out _ _ (⟨X7.out.one, X7.out.two⟩) (fun h6x => ?_)
          clear hK K
          try simp only [Act.put, lay_out]
          refine wpAnyH_done (by kernel_rfl) ?_ _
          refine NoPanic.normal ?_
          clear h0 h1x h2x h3x h4x h5x h6x
          try simp only [Act.put, lay_out]
          go_wp2_with fail
          go_meet
          exact ⟨b4, b5, rfl, rfl, X7.out, Z4_7.out, Z5_7.out⟩
    · rw [if_pos (by rfl)]
      go_simp
      have X2' := hid (X1.out.alloc (.cells #[.int .i64 0, .int .i64 0, .int .i64 0, .int .i64 0, .int .i64 0, .int .i64 0, .int .i64 0, .int .i64 0, .int .i64 0, .int .i64 0, .int .i64 0, .int .i64 0, .int .i64 0] 28))
      have Z4_2' := hid (Ai.zero x1)
      have F4 := hid X1.out.fresh
      generalize hx2 : x1.alloc (.cells #[.int .i64 0, .int .i64 0, .int .i64 0, .int .i64 0, .int .i64 0, .int .i64 0, .int .i64 0, .int .i64 0, .int .i64 0, .int .i64 0, .int .i64 0, .int .i64 0, .int .i64 0] 28) = x2 at *
      generalize hb4 : x1.heap.size = b4 at *
      have X2 := X2'
      have Z4_2 := Z4_2'
      clear hx2
      refine hK.out _ _ (⟨X2.out.one, X2.out.two⟩) (fun h1x => ?_)
      clear hK K
      try simp only [Act.put, lay_out]
      refine wpAnyH_ready (rs := [1, 5]) (by kernel_rfl) (by simp) (AllReadyH.cons rfl (fun K hK => ?_) (AllReadyH.cons rfl (fun K hK => ?_) AllReadyH.nil))
      · rw [if_pos (by rfl)]
        go_simp
        go_at_call 8
        (with_reducible refine (KTa.out _ X2.out.low).mono ?_); rintro e x3 ⟨rfl, hb⟩
        have X3 := hid (X2.out.self hb)
        have Z4_3 := hid (Z4_2.out.self hb)
        clear hb
        refine hK.out _ _ (⟨X3.out.one, X3.out.two⟩) (fun h2x => ?_)
        clear hK K
        try simp only [Act.put, lay_out]
        refine wpAnyH_ready (rs := [3, 5]) (by kernel_rfl) (by simp) (AllReadyH.cons rfl (fun K hK => ?_) (AllReadyH.cons rfl (fun K hK => ?_) AllReadyH.nil))
        · rw [if_pos (by rfl)]
          go_simp
          go_at_call 8
          (with_reducible refine (KTb.out _ X3.out.low).mono ?_); rintro e x4 ⟨rfl, hb⟩
          have X4 := hid (X3.out.self hb)
          have Z4_4 := hid (Z4_3.out.self hb)
          clear hb
          refine hK.out _ _ (⟨X4.out.one, X4.out.two⟩) (fun h3x => ?_)
          clear hK K
          try simp only [Act.put, lay_out]
          refine wpAnyH_ready (rs := [5]) (by kernel_rfl) (by simp) (AllReadyH.cons rfl (fun K hK => ?_) AllReadyH.nil)
          rw [if_pos (by rfl)]
          go_simp
          have X5' := hid (X4.out.alloc (.cells #[.int .i64 0, .int .i64 0, .int .i64 0, .int .i64 0, .int .i64 0, .int .i64 0, .int .i64 0, .int .i64 0, .int .i64 0, .int .i64 0, .int .i64 0, .int .i64 0, .int .i64 0] 28))
          have Z5_5' := hid (Ai.zero x4)
          have Z4_5' := hid (Z4_4.out.self ((Below.refl _ x4).alloc (Nat.le_refl _) (.cells #[.int .i64 0, .int .i64 0, .int .i64 0, .int .i64 0, .int .i64 0, .int .i64 0, .int .i64 0, .int .i64 0, .int .i64 0, .int .i64 0, .int .i64 0, .int .i64 0, .int .i64 0] 28)))
          have F5 := hid X4.out.fresh
          have D := hid (Nat.ne_of_lt Z4_4.out.lt)
          generalize hx5 : x4.alloc (.cells #[.int .i64 0, .int .i64 0, .int .i64 0, .int .i64 0, .int .i64 0, .int .i64 0, .int .i64 0, .int .i64 0, .int .i64 0, .int .i64 0, .int .i64 0, .int .i64 0, .int .i64 0] 28) = x5 at *
          generalize hb5 : x4.heap.size = b5 at *
          have X5 := X5'
          have Z4_5 := Z4_5'
          have Z5_5 := Z5_5'
          clear hx5
          refine hK.out _ _ (⟨X5.out.one, X5.out.two⟩) (fun h4x => ?_)
          clear hK K
          try simp only [Act.put, lay_out]
          refine wpAnyH_ready (rs := [6]) (by kernel_rfl) (by simp) (AllReadyH.cons rfl (fun K hK => ?_) AllReadyH.nil)
          rw [if_pos (by rfl)]
          refine wp_store_row 28 _ _ rfl b4 (ia 13 T) rfl rfl 28 _ Z4_5.out (by kernel_rfl) (by simp [ia_size]) (ia_one 13 T) ?_
          have X6' := hid (X5.out.row F4.out (ia 13 T))
          have Z4_6' := hid (Z4_5.out.put T)
          have Z5_6' := hid (Z5_5.out.apart2 (show b5 ≠ b4 by have := D.out; omega) (ia 13 T))
          generalize x5.setRow b4 (ia 13 T) = x6 at *
          have X6 := X6'; have Z4_6 := Z4_6'; have Z5_6 := Z5_6'
          refine hK.out _ _ (⟨X6.out.one, X6.out.two⟩) (fun h5x => ?_)
          clear hK K
          try simp only [Act.put, lay_out]
          refine wpAnyH_ready (rs := [7]) (by kernel_rfl) (by simp) (AllReadyH.cons rfl (fun K hK => ?_) AllReadyH.nil)
          rw [if_pos (by rfl)]
          refine wp_store_row 28 _ _ rfl b5 (ia 13 T') rfl rfl 28 _ Z5_6.out (by kernel_rfl) (by simp [ia_size]) (ia_one 13 T') ?_
          have X7' := hid (X6.out.row F5.out (ia 13 T'))
          have Z5_7' := hid (Z5_6.out.put T')
          have Z4_7' := hid (Z4_6.out.apart2 (show b4 ≠ b5 by have := D.out; omega) (ia 13 T'))
          generalize x6.setRow b5 (ia 13 T') = x7 at *
          have X7 := X7'; have Z5_7 := Z5_7'; have Z4_7 := Z4_7'
          refine hK.out _ _ (⟨X7.out.one, X7.out.two⟩) (fun h6x => ?_)
          clear hK K
          try simp only [Act.put, lay_out]
          refine wpAnyH_done (by kernel_rfl) ?_ _
          refine NoPanic.normal ?_
          clear h0 h1x h2x h3x h4x h5x h6x
          try simp only [Act.put, lay_out]
          go_wp2_with fail
          go_meet
          exact ⟨b4, b5, rfl, rfl, X7.out, Z4_7.out, Z5_7.out⟩
        · rw [if_pos (by rfl)]
          go_simp
          have X4' := hid (X3.out.alloc (.cells #[.int .i64 0, .int .i64 0, .int .i64 0, .int .i64 0, .int .i64 0, .int .i64 0, .int .i64 0, .int .i64 0, .int .i64 0, .int .i64 0, .int .i64 0, .int .i64 0, .int .i64 0] 28))
          have Z5_4' := hid (Ai.zero x3)
          have Z4_4' := hid (Z4_3.out.self ((Below.refl _ x3).alloc (Nat.le_refl _) (.cells #[.int .i64 0, .int .i64 0, .int .i64 0, .int .i64 0, .int .i64 0, .int .i64 0, .int .i64 0, .int .i64 0, .int .i64 0, .int .i64 0, .int .i64 0, .int .i64 0, .int .i64 0] 28)))
          have F5 := hid X3.out.fresh
          have D := hid (Nat.ne_of_lt Z4_3.out.lt)
          generalize hx4 : x3.alloc (.cells #[.int .i64 0, .int .i64 0, .int .i64 0, .int .i64 0, .int .i64 0, .int .i64 0, .int .i64 0, .int .i64 0, .int .i64 0, .int .i64 0, .int .i64 0, .int .i64 0, .int .i64 0] 28) = x4 at *
          generalize hb5 : x3.heap.size = b5 at *
          have X4 := X4'
          have Z4_4 := Z4_4'
          have Z5_4 := Z5_4'
          clear hx4
          refine hK.out _ _ (⟨X4.out.one, X4.out.two⟩) (fun h3x => ?_)
          clear hK K
          try simp only [Act.put, lay_out]
          refine wpAnyH_ready (rs := [3]) (by kernel_rfl) (by simp) (AllReadyH.cons rfl (fun K hK => ?_) AllReadyH.nil)
          rw [if_pos (by rfl)]
          go_simp
          go_at_call 8
          (with_reducible refine (KTb.out _ X4.out.low).mono ?_); rintro e x5 ⟨rfl, hb⟩
          have X5 := hid (X4.out.self hb)
          have Z4_5 := hid (Z4_4.out.self hb)
          have Z5_5 := hid (Z5_4.out.self hb)
          clear hb
          refine hK.out _ _ (⟨X5.out.one, X5.out.two⟩) (fun h4x => ?_)
          clear hK K
          try simp only [Act.put, lay_out]
          refine wpAnyH_ready (rs := [6]) (by kernel_rfl) (by simp) (AllReadyH.cons rfl (fun K hK => ?_) AllReadyH.nil)
          rw [if_pos (by rfl)]
          refine wp_store_row 28 _ _ rfl b4 (ia 13 T) rfl rfl 28 _ Z4_5.out (by kernel_rfl) (by simp [ia_size]) (ia_one 13 T) ?_
          have X6' := hid (X5.out.row F4.out (ia 13 T))
          have Z4_6' := hid (Z4_5.out.put T)
          have Z5_6' := hid (Z5_5.out.apart2 (show b5 ≠ b4 by have := D.out; omega) (ia 13 T))
          generalize x5.setRow b4 (ia 13 T) = x6 at *
          have X6 := X6'; have Z4_6 := Z4_6'; have Z5_6 := Z5_6'
          refine hK.out _ _ (⟨X6.out.one, X6.out.two⟩) (fun h5x => ?_)
          clear hK K
          try simp only [Act.put, lay_out]
          refine wpAnyH_ready (rs := [7]) (by kernel_rfl) (by simp) (AllReadyH.cons rfl (fun K hK => ?_) AllReadyH.nil)
          rw [if_pos (by rfl)]
          refine wp_store_row 28 _ _ rfl b5 (ia 13 T') rfl rfl 28 _ Z5_6.out (by kernel_rfl) (by simp [ia_size]) (ia_one 13 T') ?_
          have X7' := hid (X6.out.row F5.out (ia 13 T'))
          have Z5_7' := hid (Z5_6.out.put T')
          have Z4_7' := hid (Z4_6.out.apart2 (show b4 ≠ b5 by have := D.out; omega) (ia 13 T'))
          generalize x6.setRow b5 (ia 13 T') = x7 at *
          have X7 := X7'; have Z5_7 := Z5_7'; have Z4_7 := Z4_7'
          refine hK.out _ _ (⟨X7.out.one, X7.out.two⟩) (fun h6x => ?_)
          clear hK K
          try simp only [Act.put, lay_out]
          refine wpAnyH_done (by kernel_rfl) ?_ _
          refine NoPanic.normal ?_
          clear h0 h1x h2x h3x h4x h5x h6x
          try simp only [Act.put, lay_out]
          go_wp2_with fail
          go_meet
          exact ⟨b4, b5, rfl, rfl, X7.out, Z4_7.out, Z5_7.out⟩
      · rw [if_pos (by rfl)]
        go_simp
        have X3' := hid (X2.out.alloc (.cells #[.int .i64 0, .int .i64 0, .int .i64 0, .int .i64 0, .int .i64 0, .int .i64 0, .int .i64 0, .int .i64 0, .int .i64 0, .int .i64 0, .int .i64 0, .int .i64 0, .int .i64 0] 28))
        have Z5_3' := hid (Ai.zero x2)
        have Z4_3' := hid (Z4_2.out.self ((Below.refl _ x2).alloc (Nat.le_refl _) (.cells #[.int .i64 0, .int .i64 0, .int .i64 0, .int .i64 0, .int .i64 0, .int .i64 0, .int .i64 0, .int .i64 0, .int .i64 0, .int .i64 0, .int .i64 0, .int .i64 0, .int .i64 0] 28)))
        have F5 := hid X2.out.fresh
        have D := hid (Nat.ne_of_lt Z4_2.out.lt)
        generalize hx3 : x2.alloc (.cells #[.int .i64 0, .int .i64 0, .int .i64 0, .int .i64 0, .int .i64 0, .int .i64 0, .int .i64 0, .int .i64 0, .int .i64 0, .int .i64 0, .int .i64 0, .int .i64 0, .int .i64 0] 28) = x3 at *
        generalize hb5 : x2.heap.size = b5 at *
        have X3 := X3'
        have Z4_3 := Z4_3'
        have Z5_3 := Z5_3'
        clear hx3
        refine hK.out _ _ (⟨X3.out.one, X3.out.two⟩) (fun h2x => ?_)
        clear hK K
        try simp only [Act.put, lay_out]
        refine wpAnyH_ready (rs := [1]) (by kernel_rfl) (by simp) (AllReadyH.cons rfl (fun K hK => ?_) AllReadyH.nil)
        rw [if_pos (by rfl)]
        go_simp
        go_at_call 8
        (with_reducible refine (KTa.out _ X3.out.low).mono ?_); rintro e x4 ⟨rfl, hb⟩
        have X4 := hid (X3.out.self hb)
        have Z4_4 := hid (Z4_3.out.self hb)
        have Z5_4 := hid (Z5_3.out.self hb)
        clear hb
        refine hK.out _ _ (⟨X4.out.one, X4.out.two⟩) (fun h3x => ?_)
        clear hK K
        try simp only [Act.put, lay_out]
        refine wpAnyH_ready (rs := [3]) (by kernel_rfl) (by simp) (AllReadyH.cons rfl (fun K hK => ?_) AllReadyH.nil)
        rw [if_pos (by rfl)]
        go_simp
        go_at_call 8
        (with_reducible refine (KTb.out _ X4.out.low).mono ?_); rintro e x5 ⟨rfl, hb⟩
        have X5 := hid (X4.out.self hb)
        have Z4_5 := hid (Z4_4.out.self hb)
        have Z5_5 := hid (Z5_4.out.self hb)
        clear hb
        refine hK.out _ _ (⟨X5.out.one, X5.out.two⟩) (fun h4x => ?_)
        clear hK K
        try simp only [Act.put, lay_out]
        refine wpAnyH_ready (rs := [6]) (by kernel_rfl) (by simp) (AllReadyH.cons rfl (fun K hK => ?_) AllReadyH.nil)
        rw [if_pos (by rfl)]
        refine wp_store_row 28 _ _ rfl b4 (ia 13 T) rfl rfl 28 _ Z4_5.out (by kernel_rfl) (by simp [ia_size]) (ia_one 13 T) ?_
        have X6' := hid (X5.out.row F4.out (ia 13 T))
        have Z4_6' := hid (Z4_5.out.put T)
        have Z5_6' := hid (Z5_5.out.apart2 (show b5 ≠ b4 by have := D.out; omega) (ia 13 T))
        generalize x5.setRow b4 (ia 13 T) = x6 at *
        have X6 := X6'; have Z4_6 := Z4_6'; have Z5_6 := Z5_6'
        refine hK.out _ _ (⟨X6.out.one, X6.out.two⟩) (fun h5x => ?_)
        clear hK K
        try simp only [Act.put, lay_out]
        refine wpAnyH_ready (rs := [7]) (by kernel_rfl) (by simp) (AllReadyH.cons rfl (fun K hK => ?_) AllReadyH.nil)
        rw [if_pos (by rfl)]
        refine wp_store_row 28 _ _ rfl b5 (ia 13 T') rfl rfl 28 _ Z5_6.out (by kernel_rfl) (by simp [ia_size]) (ia_one 13 T') ?_
        have X7' := hid (X6.out.row F5.out (ia 13 T'))
        have Z5_7' := hid (Z5_6.out.put T')
        have Z4_7' := hid (Z4_6.out.apart2 (show b4 ≠ b5 by have := D.out; omega) (ia 13 T'))
        generalize x6.setRow b5 (ia 13 T') = x7 at *
        have X7 := X7'; have Z5_7 := Z5_7'; have Z4_7 := Z4_7'
        refine hK.out _ _ (⟨X7.out.one, X7.out.two⟩) (fun h6x => ?_)
        clear hK K
        try simp only [Act.put, lay_out]
        refine wpAnyH_done (by kernel_rfl) ?_ _
        refine NoPanic.normal ?_
        clear h0 h1x h2x h3x h4x h5x h6x
        try simp only [Act.put, lay_out]
        go_wp2_with fail
        go_meet
        exact ⟨b4, b5, rfl, rfl, X7.out, Z4_7.out, Z5_7.out⟩
    · rw [if_pos (by rfl)]
      go_simp
      have X2' := hid (X1.out.alloc (.cells #[.int .i64 0, .int .i64 0, .int .i64 0, .int .i64 0, .int .i64 0, .int .i64 0, .int .i64 0, .int .i64 0, .int .i64 0, .int .i64 0, .int .i64 0, .int .i64 0, .int .i64 0] 28))
      have Z5_2' := hid (Ai.zero x1)
      have F5 := hid X1.out.fresh
      generalize hx2 : x1.alloc (.cells #[.int .i64 0, .int .i64 0, .int .i64 0, .int .i64 0, .int .i64 0, .int .i64 0, .int .i64 0, .int .i64 0, .int .i64 0, .int .i64 0, .int .i64 0, .int .i64 0, .int .i64 0] 28) = x2 at *
      generalize hb5 : x1.heap.size = b5 at *
      have X2 := X2'
      have Z5_2 := Z5_2'
      clear hx2
      refine hK.out _ _ (⟨X2.out.one, X2.out.two⟩) (fun h1x => ?_)
      clear hK K
      try simp only [Act.put, lay_out]
      refine wpAnyH_ready (rs := [1, 4]) (by kernel_rfl) (by simp) (AllReadyH.cons rfl (fun K hK => ?_) (AllReadyH.cons rfl (fun K hK => ?_) AllReadyH.nil))
      · rw [if_pos (by rfl)]
        go_simp
        go_at_call 8
        (with_reducible refine (KTa.out _ X2.out.low).mono ?_); rintro e x3 ⟨rfl, hb⟩
        have X3 := hid (X2.out.self hb)
        have Z5_3 := hid (Z5_2.out.self hb)
        clear hb
        refine hK.out _ _ (⟨X3.out.one, X3.out.two⟩) (fun h2x => ?_)
        clear hK K
        try simp only [Act.put, lay_out]
        refine wpAnyH_ready (rs := [3, 4]) (by kernel_rfl) (by simp) (AllReadyH.cons rfl (fun K hK => ?_) (AllReadyH.cons rfl (fun K hK => ?_) AllReadyH.nil))
        · rw [if_pos (by rfl)]
          go_simp
          go_at_call 8
          (with_reducible refine (KTb.out _ X3.out.low).mono ?_); rintro e x4 ⟨rfl, hb⟩
          have X4 := hid (X3.out.self hb)
          have Z5_4 := hid (Z5_3.out.self hb)
          clear hb
          refine hK.out _ _ (⟨X4.out.one, X4.out.two⟩) (fun h3x => ?_)
          clear hK K
          try simp only [Act.put, lay_out]
          refine wpAnyH_ready (rs := [4]) (by kernel_rfl) (by simp) (AllReadyH.cons rfl (fun K hK => ?_) AllReadyH.nil)
          rw [if_pos (by rfl)]
          go_simp
          have X5' := hid (X4.out.alloc (.cells #[.int .i64 0, .int .i64 0, .int .i64 0, .int .i64 0, .int .i64 0, .int .i64 0, .int .i64 0, .int .i64 0, .int .i64 0, .int .i64 0, .int .i64 0, .int .i64 0, .int .i64 0] 28))
          have Z4_5' := hid (Ai.zero x4)
          have Z5_5' := hid (Z5_4.out.self ((Below.refl _ x4).alloc (Nat.le_refl _) (.cells #[.int .i64 0, .int .i64 0, .int .i64 0, .int .i64 0, .int .i64 0, .int .i64 0, .int .i64 0, .int .i64 0, .int .i64 0, .int .i64 0, .int .i64 0, .int .i64 0, .int .i64 0] 28)))
          have F4 := hid X4.out.fresh
          have D := hid (Nat.ne_of_lt Z5_4.out.lt)
          generalize hx5 : x4.alloc (.cells #[.int .i64 0, .int .i64 0, .int .i64 0, .int .i64 0, .int .i64 0, .int .i64 0, .int .i64 0, .int .i64 0, .int .i64 0, .int .i64 0, .int .i64 0, .int .i64 0, .int .i64 0] 28) = x5 at *
          generalize hb4 : x4.heap.size = b4 at *
          have X5 := X5'
          have Z5_5 := Z5_5'
          have Z4_5 := Z4_5'
          clear hx5
          refine hK.out _ _ (⟨X5.out.one, X5.out.two⟩) (fun h4x => ?_)
          clear hK K
          try simp only [Act.put, lay_out]
          refine wpAnyH_ready (rs := [6]) (by kernel_rfl) (by simp) (AllReadyH.cons rfl (fun K hK => ?_) AllReadyH.nil)
          rw [if_pos (by rfl)]
          refine wp_store_row 28 _ _ rfl b4 (ia 13 T) rfl rfl 28 _ Z4_5.out (by kernel_rfl) (by simp [ia_size]) (ia_one 13 T) ?_
          have X6' := hid (X5.out.row F4.out (ia 13 T))
          have Z4_6' := hid (Z4_5.out.put T)
          have Z5_6' := hid (Z5_5.out.apart2 (show b5 ≠ b4 by have := D.out; omega) (ia 13 T))
          generalize x5.setRow b4 (ia 13 T) = x6 at *
          have X6 := X6'; have Z4_6 := Z4_6'; have Z5_6 := Z5_6'
          refine hK.out _ _ (⟨X6.out.one, X6.out.two⟩) (fun h5x => ?_)
          clear hK K
          try simp only [Act.put, lay_out]
          refine wpAnyH_ready (rs := [7]) (by kernel_rfl) (by simp) (AllReadyH.cons rfl (fun K hK => ?_) AllReadyH.nil)
          rw [if_pos (by rfl)]
          refine wp_store_row 28 _ _ rfl b5 (ia 13 T') rfl rfl 28 _ Z5_6.out (by kernel_rfl) (by simp [ia_size]) (ia_one 13 T') ?_
          have X7' := hid (X6.out.row F5.out (ia 13 T'))
          have Z5_7' := hid (Z5_6.out.put T')
          have Z4_7' := hid (Z4_6.out.apart2 (show b4 ≠ b5 by have := D.out; omega) (ia 13 T'))
          generalize x6.setRow b5 (ia 13 T') = x7 at *
          have X7 := X7'; have Z5_7 := Z5_7'; have Z4_7 := Z4_7'
          refine hK.out _ _ (⟨X7.out.one, X7.out.two⟩) (fun h6x => ?_)
          clear hK K
          try simp only [Act.put, lay_out]
          refine wpAnyH_done (by kernel_rfl) ?_ _
          refine NoPanic.normal ?_
          clear h0 h1x h2x h3x h4x h5x h6x
          try simp only [Act.put, lay_out]
          go_wp2_with fail
          go_meet
          exact ⟨b4, b5, rfl, rfl, X7.out, Z4_7.out, Z5_7.out⟩
        · rw [if_pos (by rfl)]
          go_simp
          have X4' := hid (X3.out.alloc (.cells #[.int .i64 0, .int .i64 0, .int .i64 0, .int .i64 0, .int .i64 0, .int .i64 0, .int .i64 0, .int .i64 0, .int .i64 0, .int .i64 0, .int .i64 0, .int .i64 0, .int .i64 0] 28))
          have Z4_4' := hid (Ai.zero x3)
          have Z5_4' := hid (Z5_3.out.self ((Below.refl _ x3).alloc (Nat.le_refl _) (.cells #[.int .i64 0, .int .i64 0, .int .i64 0, .int .i64 0, .int .i64 0, .int .i64 0, .int .i64 0, .int .i64 0, .int .i64 0, .int .i64 0, .int .i64 0, .int .i64 0, .int .i64 0] 28)))
          have F4 := hid X3.out.fresh
          have D := hid (Nat.ne_of_lt Z5_3.out.lt)
          generalize hx4 : x3.alloc (.cells #[.int .i64 0, .int .i64 0, .int .i64 0, .int .i64 0, .int .i64 0, .int .i64 0, .int .i64 0, .int .i64 0, .int .i64 0, .int .i64 0, .int .i64 0, .int .i64 0, .int .i64 0] 28) = x4 at *
          generalize hb4 : x3.heap.size = b4 at *
          have X4 := X4'
          have Z5_4 := Z5_4'
          have Z4_4 := Z4_4'
          clear hx4
          refine hK.out _ _ (⟨X4.out.one, X4.out.two⟩) (fun h3x => ?_)
          clear hK K
          try simp only [Act.put, lay_out]
          refine wpAnyH_ready (rs := [3]) (by kernel_rfl) (by simp) (AllReadyH.cons rfl (fun K hK => ?_) AllReadyH.nil)
          rw [if_pos (by rfl)]
          go_simp
          go_at_call 8
          (with_reducible refine (KTb.out _ X4.out.low).mono ?_); rintro e x5 ⟨rfl, hb⟩
          have X5 := hid (X4.out.self hb)
          have Z5_5 := hid (Z5_4.out.self hb)
          have Z4_5 := hid (Z4_4.out.self hb)
          clear hb
          refine hK.out _ _ (⟨X5.out.one, X5.out.two⟩) (fun h4x => ?_)
          clear hK K
          try simp only [Act.put, lay_out]
          refine wpAnyH_ready (rs := [6]) (by kernel_rfl) (by simp) (AllReadyH.cons rfl (fun K hK => ?_) AllReadyH.nil)
          rw [if_pos (by rfl)]
          refine wp_store_row 28 _ _ rfl b4 (ia 13 T) rfl rfl 28 _ Z4_5.out (by kernel_rfl) (by simp [ia_size]) (ia_one 13 T) ?_
          have X6' := hid (X5.out.row F4.out (ia 13 T))
          have Z4_6' := hid (Z4_5.out.put T)
          have Z5_6' := hid (Z5_5.out.apart2 (show b5 ≠ b4 by have := D.out; omega) (ia 13 T))
          generalize x5.setRow b4 (ia 13 T) = x6 at *
          have X6 := X6'; have Z4_6 := Z4_6'; have Z5_6 := Z5_6'
          refine hK.out _ _ (⟨X6.out.one, X6.out.two⟩) (fun h5x => ?_)
          clear hK K
          try simp only [Act.put, lay_out]
          refine wpAnyH_ready (rs := [7]) (by kernel_rfl) (by simp) (AllReadyH.cons rfl (fun K hK => ?_) AllReadyH.nil)
          rw [if_pos (by rfl)]
          refine wp_store_row 28 _ _ rfl b5 (ia 13 T') rfl rfl 28 _ Z5_6.out (by kernel_rfl) (by simp [ia_size]) (ia_one 13 T') ?_
          have X7' := hid (X6.out.row F5.out (ia 13 T'))
          have Z5_7' := hid (Z5_6.out.put T')
          have Z4_7' := hid (Z4_6.out.apart2 (show b4 ≠ b5 by have := D.out; omega) (ia 13 T'))
          generalize x6.setRow b5 (ia 13 T') = x7 at *
          have X7 := X7'; have Z5_7 := Z5_7'; have Z4_7 := Z4_7'
          refine hK.out _ _ (⟨X7.out.one, X7.out.two⟩) (fun h6x => ?_)
          clear hK K
          try simp only [Act.put, lay_out]
          refine wpAnyH_done (by kernel_rfl) ?_ _
          refine NoPanic.normal ?_
          clear h0 h1x h2x h3x h4x h5x h6x
          try simp only [Act.put, lay_out]
          go_wp2_with fail
          go_meet
          exact ⟨b4, b5, rfl, rfl, X7.out, Z4_7.out, Z5_7.out⟩
      · rw [if_pos (by rfl)]
        go_simp
        have X3' := hid (X2.out.alloc (.cells #[.int .i64 0, .int .i64 0, .int .i64 0, .int .i64 0, .int .i64 0, .int .i64 0, .int .i64 0, .int .i64 0, .int .i64 0, .int .i64 0, .int .i64 0, .int .i64 0, .int .i64 0] 28))
        have Z4_3' := hid (Ai.zero x2)
        have Z5_3' := hid (Z5_2.out.self ((Below.refl _ x2).alloc (Nat.le_refl _) (.cells #[.int .i64 0, .int .i64 0, .int .i64 0, .int .i64 0, .int .i64 0, .int .i64 0, .int .i64 0, .int .i64 0, .int .i64 0, .int .i64 0, .int .i64 0, .int .i64 0, .int .i64 0] 28)))
        have F4 := hid X2.out.fresh
        have D := hid (Nat.ne_of_lt Z5_2.out.lt)
        generalize hx3 : x2.alloc (.cells #[.int .i64 0, .int .i64 0, .int .i64 0, .int .i64 0, .int .i64 0, .int .i64 0, .int .i64 0, .int .i64 0, .int .i64 0, .int .i64 0, .int .i64 0, .int .i64 0, .int .i64 0] 28) = x3 at *
        generalize hb4 : x2.heap.size = b4 at *
        have X3 := X3'
        have Z5_3 := Z5_3'
        have Z4_3 := Z4_3'
        clear hx3
        refine hK.out _ _ (⟨X3.out.one, X3.out.two⟩) (fun h2x => ?_)
        clear hK K
        try simp only [Act.put, lay_out]
        refine wpAnyH_ready (rs := [1]) (by kernel_rfl) (by simp) (AllReadyH.cons rfl (fun K hK => ?_) AllReadyH.nil)
        rw [if_pos (by rfl)]
        go_simp
        go_at_call 8
        (with_reducible refine (KTa.out _ X3.out.low).mono ?_); rintro e x4 ⟨rfl, hb⟩
        have X4 := hid (X3.out.self hb)
        have Z5_4 := hid (Z5_3.out.self hb)
        have Z4_4 := hid (Z4_3.out.self hb)
        clear hb
        refine hK.out _ _ (⟨X4.out.one, X4.out.two⟩) (fun h3x => ?_)
        clear hK K
        try simp only [Act.put, lay_out]
        refine wpAnyH_ready (rs := [3]) (by kernel_rfl) (by simp) (AllReadyH.cons rfl (fun K hK => ?_) AllReadyH.nil)
        rw [if_pos (by rfl)]
        go_simp
        go_at_call 8
        (with_reducible refine (KTb.out _ X4.out.low).mono ?_); rintro e x5 ⟨rfl, hb⟩
        have X5 := hid (X4.out.self hb)
        have Z5_5 := hid (Z5_4.out.self hb)
        have Z4_5 := hid (Z4_4.out.self hb)
        clear hb
        refine hK.out _ _ (⟨X5.out.one, X5.out.two⟩) (fun h4x => ?_)
        clear hK K
        try simp only [Act.put, lay_out]
        refine wpAnyH_ready (rs := [6]) (by kernel_rfl) (by simp) (AllReadyH.cons rfl (fun K hK => ?_) AllReadyH.nil)
        rw [if_pos (by rfl)]
        refine wp_store_row 28 _ _ rfl b4 (ia 13 T) rfl rfl 28 _ Z4_5.out (by kernel_rfl) (by simp [ia_size]) (ia_one 13 T) ?_
        have X6' := hid (X5.out.row F4.out (ia 13 T))
        have Z4_6' := hid (Z4_5.out.put T)
        have Z5_6' := hid (Z5_5.out.apart2 (show b5 ≠ b4 by have := D.out; omega) (ia 13 T))
        generalize x5.setRow b4 (ia 13 T) = x6 at *
        have X6 := X6'; have Z4_6 := Z4_6'; have Z5_6 := Z5_6'
        refine hK.out _ _ (⟨X6.out.one, X6.out.two⟩) (fun h5x => ?_)
        clear hK K
        try simp only [Act.put, lay_out]
        refine wpAnyH_ready (rs := [7]) (by kernel_rfl) (by simp) (AllReadyH.cons rfl (fun K hK => ?_) AllReadyH.nil)
        rw [if_pos (by rfl)]
        refine wp_store_row 28 _ _ rfl b5 (ia 13 T') rfl rfl 28 _ Z5_6.out (by kernel_rfl) (by simp [ia_size]) (ia_one 13 T') ?_
        have X7' := hid (X6.out.row F5.out (ia 13 T'))
        have Z5_7' := hid (Z5_6.out.put T')
        have Z4_7' := hid (Z4_6.out.apart2 (show b4 ≠ b5 by have := D.out; omega) (ia 13 T'))
        generalize x6.setRow b5 (ia 13 T') = x7 at *
        have X7 := X7'; have Z5_7 := Z5_7'; have Z4_7 := Z4_7'
        refine hK.out _ _ (⟨X7.out.one, X7.out.two⟩) (fun h6x => ?_)
        clear hK K
        try simp only [Act.put, lay_out]
        refine wpAnyH_done (by kernel_rfl) ?_ _
        refine NoPanic.normal ?_
        clear h0 h1x h2x h3x h4x h5x h6x
        try simp only [Act.put, lay_out]
        go_wp2_with fail
        go_meet
        exact ⟨b4, b5, rfl, rfl, X7.out, Z4_7.out, Z5_7.out⟩
  case rest =>
    obtain ⟨b, c, rfl, rfl, hX, hA, hB⟩ := hcut
    have X1 := hid hX
    have A1 := hid hA
    have B1 := hid hB
    clear hX hA hB
    go_wp2_with fail
    go_loop [7, 8] (fun u i => ∃ j : Nat, j ≤ 13 ∧ i = .int .i64 j ∧ u = .int .i64 (smT T j : Nat)) (fun _ i => 13 - (intOf i).toNat)
    case atStart => exact ⟨0, by omega, rfl, rfl⟩
    case round =>
      obtain ⟨j, hj, rfl, rfl⟩ := hrel
      by_cases hlt : j < 13
      · have hcl := A1.out.cell hlt
        have j1 : (0 : Int) ≤ (j : Int) := by omega
        have j2 : (j : Int) < 13 := by omega
        have h1 := smT_le T KT.out j (by omega)
        have h2 := KT.out j hlt
        have Hn : Hid ((smT T (j + 1) : Nat) = (smT T j + T j : Nat)) := hid rfl
        generalize smT T j = a at *
        generalize T j = d at *
        have ha : IntKind.i64.wrap ((a : Int) + (d : Int)) = ((a + d : Nat) : Int) := by rw [IntKind.wrap_i64]; omega
        clear h1 h2
        go_wp2
        go_round
        case rel => exact ⟨j + 1, by omega, by go_num, by rw [Hn.out]; exact congrArg _ (by omega)⟩
        case measure => simp [intOf]; omega
      · obtain rfl : j = 13 := by omega
        clear hlt hj
        rw [Ksum.out]
        cases s
        all_goals
          go_wp2_with (first | (refine wpList_load_row rfl 25 _ rfl W.heap.size rfl 25 #[.int .i64 N, .slice a0 L cap0, .slice a1 M cap1] (0, 0) _ X1.out.one Try.underlying25 rfl (by kernel_rfl) ?_) | (refine wpList_load_row rfl 25 _ rfl (W.heap.size + 1) rfl 25 #[.int .i64 N', .slice a0' L' cap0', .slice a1' M' cap1'] (0, 0) _ X1.out.two Try.underlying25 rfl (by kernel_rfl) ?_) | (go_at_call 15; (with_reducible refine (KSab.out wc X1.out.low).mono ?_); rintro e y2 ⟨rfl, hb⟩; have X2 := hid (X1.out.self hb); have A2 := hid (A1.out.self hb); have B2 := hid (B1.out.self hb); have X3 := hid X2.out.drew; have A3 := hid A2.out.drew; have B3 := hid B2.out.drew; clear hb))
        · refine wp_region_noPanic ?_
          refine wp_region_held_drew (S := fun w' => (w'.heap[W.heap.size]? = some (.cells #[.int .i64 N, .slice a0 L cap0, .slice a1 M cap1] 25 (0, 0)) ∧ w'.heap[W.heap.size + 1]? = some (.cells #[.int .i64 N', .slice a0' L' cap0', .slice a1' M' cap1'] 25 (0, 0))) ∧ Ai w' b 13 28 T ∧ Ai w' c 13 28 T') (by kernel_rfl) (⟨⟨X3.out.one, X3.out.two⟩, A3.out, B3.out⟩) (fun h0 => ?_)
          generalize y2.drew = y3 at *
          refine wpAnyH_take (i := 0) (v := .bool false) rfl (by kernel_rfl) (by kernel_rfl) (by kernel_rfl) (fun _ _ _ h => h) (.inl ⟨by rfl, fun w hw => by clear hw; go_simp⟩) h0 ?_
          try simp only [Act.put, lay_out]
          refine wpAnyH_take (i := 1) (v := trV N' (.slice a0' L' cap0') (.slice a1' M' cap1')) rfl (by kernel_rfl) (by kernel_rfl) (by kernel_rfl) (fun _ _ _ h => h) (yields_load_row (by rfl) 25 (.tmp 3) rfl (W.heap.size + 1) 25 #[.int .i64 N', .slice a0' L' cap0', .slice a1' M' cap1'] _ rfl (fun w h => h.1.2) Try.underlying25 rfl (by kernel_rfl)) h0 ?_
          try simp only [Act.put, lay_out]
          refine wpAnyH_take (i := 2) (v := trV N (.slice a0 L cap0) (.slice a1 M cap1)) rfl (by kernel_rfl) (by kernel_rfl) (by kernel_rfl) (fun _ _ _ h => h) (yields_load_row (by rfl) 25 (.tmp 2) rfl W.heap.size 25 #[.int .i64 N, .slice a0 L cap0, .slice a1 M cap1] _ rfl (fun w h => h.1.1) Try.underlying25 rfl (by kernel_rfl)) h0 ?_
          try simp only [Act.put, lay_out]
          refine wpAnyH_ready (rs := [3]) (by kernel_rfl) (by simp) (AllReadyH.cons rfl (fun K hK => ?_) AllReadyH.nil)
          rw [if_pos (by rfl)]
          go_simp
          go_at_call 15
          (with_reducible refine (KSba.out _ X3.out.low).mono ?_); rintro e y4 ⟨rfl, hb⟩
          have X4 := hid (X3.out.self hb)
          have A4 := hid (A3.out.self hb)
          have B4 := hid (B3.out.self hb)
          clear hb
          refine hK.out _ _ (⟨⟨X4.out.one, X4.out.two⟩, A4.out, B4.out⟩) (fun h1x => ?_)
          clear hK K
          try simp only [Act.put, lay_out]
          refine wpAnyH_take (i := 4) (v := .bool true) rfl (by kernel_rfl) (by kernel_rfl) (by kernel_rfl) (fun _ _ _ h => h) (.inl ⟨by rfl, fun w hw => by clear hw; go_simp⟩) h1x ?_
          try simp only [Act.put, lay_out]
          refine wpAnyH_take (i := 5) (v := .bool true) rfl (by kernel_rfl) (by kernel_rfl) (by kernel_rfl) (fun _ _ _ h => h) (.inl ⟨by rfl, fun w hw => by clear hw; go_simp⟩) h1x ?_
          try simp only [Act.put, lay_out]
          refine wpAnyH_take (i := 6) (v := trV N (.slice a0 L cap0) (.slice a1 M cap1)) rfl (by kernel_rfl) (by kernel_rfl) (by kernel_rfl) (fun _ _ _ h => h) (yields_load_row (by rfl) 25 (.tmp 2) rfl W.heap.size 25 #[.int .i64 N, .slice a0 L cap0, .slice a1 M cap1] _ rfl (fun w h => h.1.1) Try.underlying25 rfl (by kernel_rfl)) h1x ?_
          try simp only [Act.put, lay_out]
          refine wpAnyH_take (i := 7) (v := trV N (.slice a0 L cap0) (.slice a1 M cap1)) rfl (by kernel_rfl) (by kernel_rfl) (by kernel_rfl) (fun _ _ _ h => h) (yields_load_row (by rfl) 25 (.tmp 2) rfl W.heap.size 25 #[.int .i64 N, .slice a0 L cap0, .slice a1 M cap1] _ rfl (fun w h => h.1.1) Try.underlying25 rfl (by kernel_rfl)) h1x ?_
          try simp only [Act.put, lay_out]
          refine wpAnyH_ready (rs := [8]) (by kernel_rfl) (by simp) (AllReadyH.cons rfl (fun K hK => ?_) AllReadyH.nil)
          rw [if_pos (by rfl)]
          go_simp
          go_at_call 15
          (with_reducible refine (KSaa.out _ X4.out.low).mono ?_); rintro e y5 ⟨rfl, hb⟩
          have X5 := hid (X4.out.self hb)
          have A5 := hid (A4.out.self hb)
          have B5 := hid (B4.out.self hb)
          clear hb
          refine hK.out _ _ (⟨⟨X5.out.one, X5.out.two⟩, A5.out, B5.out⟩) (fun h2x => ?_)
          clear hK K
          try simp only [Act.put, lay_out]
          refine wpAnyH_take (i := 9) (v := .bool true) rfl (by kernel_rfl) (by kernel_rfl) (by kernel_rfl) (fun _ _ _ h => h) (.inl ⟨by rfl, fun w hw => by clear hw; go_simp⟩) h2x ?_
          try simp only [Act.put, lay_out]
          refine wpAnyH_take (i := 10) (v := .bool true) rfl (by kernel_rfl) (by kernel_rfl) (by kernel_rfl) (fun _ _ _ h => h) (.inl ⟨by rfl, fun w hw => by clear hw; go_simp⟩) h2x ?_
          try simp only [Act.put, lay_out]
          refine wpAnyH_take (i := 11) (v := .bool false) rfl (by kernel_rfl) (by kernel_rfl) (by kernel_rfl) (fun _ _ _ h => h) (.inl ⟨by rfl, fun w hw => by clear hw; go_simp⟩) h2x ?_
          try simp only [Act.put, lay_out]
          refine wpAnyH_take (i := 12) (v := .bool true) rfl (by kernel_rfl) (by kernel_rfl) (by kernel_rfl) (fun _ _ _ h => h) (.inl ⟨by rfl, fun w hw => by clear hw; go_simp⟩) h2x ?_
          try simp only [Act.put, lay_out]
          refine wpAnyH_take (i := 13) (v := .bool true) rfl (by kernel_rfl) (by kernel_rfl) (by kernel_rfl) (fun _ _ _ h => h) (.inl ⟨by rfl, fun w hw => by clear hw; go_simp⟩) h2x ?_
          try simp only [Act.put, lay_out]
          refine wpAnyH_take (i := 14) (v := undef) rfl (by kernel_rfl) (by kernel_rfl) (by kernel_rfl) (fun _ _ _ h => h) (.inr ⟨by rfl, by rfl⟩) h2x ?_
          try simp only [Act.put, lay_out]
          refine wpAnyH_take (i := 15) (v := undef) rfl (by kernel_rfl) (by kernel_rfl) (by kernel_rfl) (fun _ _ _ h => h) (.inr ⟨by rfl, by rfl⟩) h2x ?_
          try simp only [Act.put, lay_out]
          refine wpAnyH_take (i := 16) (v := undef) rfl (by kernel_rfl) (by kernel_rfl) (by kernel_rfl) (fun _ _ _ h => h) (.inr ⟨by rfl, by rfl⟩) h2x ?_
          try simp only [Act.put, lay_out]
          refine wpAnyH_take (i := 17) (v := undef) rfl (by kernel_rfl) (by kernel_rfl) (by kernel_rfl) (fun _ _ _ h => h) (.inr ⟨by rfl, by rfl⟩) h2x ?_
          try simp only [Act.put, lay_out]
          refine wpAnyH_take (i := 18) (v := undef) rfl (by kernel_rfl) (by kernel_rfl) (by kernel_rfl) (fun _ _ _ h => h) (.inr ⟨by rfl, by rfl⟩) h2x ?_
          try simp only [Act.put, lay_out]
          refine wpAnyH_take (i := 19) (v := undef) rfl (by kernel_rfl) (by kernel_rfl) (by kernel_rfl) (fun _ _ _ h => h) (.inr ⟨by rfl, by rfl⟩) h2x ?_
          try simp only [Act.put, lay_out]
          refine wpAnyH_take (i := 20) (v := undef) rfl (by kernel_rfl) (by kernel_rfl) (by kernel_rfl) (fun _ _ _ h => h) (.inr ⟨by rfl, by rfl⟩) h2x ?_
          try simp only [Act.put, lay_out]
          refine wpAnyH_take (i := 21) (v := undef) rfl (by kernel_rfl) (by kernel_rfl) (by kernel_rfl) (fun _ _ _ h => h) (.inr ⟨by rfl, by rfl⟩) h2x ?_
          try simp only [Act.put, lay_out]
          refine wpAnyH_take (i := 22) (v := undef) rfl (by kernel_rfl) (by kernel_rfl) (by kernel_rfl) (fun _ _ _ h => h) (.inr ⟨by rfl, by rfl⟩) h2x ?_
          try simp only [Act.put, lay_out]
          refine wpAnyH_take (i := 23) (v := undef) rfl (by kernel_rfl) (by kernel_rfl) (by kernel_rfl) (fun _ _ _ h => h) (.inr ⟨by rfl, by rfl⟩) h2x ?_
          try simp only [Act.put, lay_out]
          refine wpAnyH_take (i := 24) (v := .bool true) rfl (by kernel_rfl) (by kernel_rfl) (by kernel_rfl) (fun _ _ _ h => h) (.inl ⟨by rfl, fun w hw => by clear hw; go_simp⟩) h2x ?_
          try simp only [Act.put, lay_out]
          refine wpAnyH_take (i := 25) (v := .bool true) rfl (by kernel_rfl) (by kernel_rfl) (by kernel_rfl) (fun _ _ _ h => h) (.inl ⟨by rfl, fun w hw => by clear hw; go_simp⟩) h2x ?_
          try simp only [Act.put, lay_out]
          refine wpAnyH_take (i := 26) (v := .bool true) rfl (by kernel_rfl) (by kernel_rfl) (by kernel_rfl) (fun _ _ _ h => h) (.inl ⟨by rfl, fun w hw => by clear hw; go_simp⟩) h2x ?_
          try simp only [Act.put, lay_out]
          refine wpAnyH_take (i := 27) (v := .int .i64 (L : Int)) rfl (by kernel_rfl) (by kernel_rfl) (by kernel_rfl) (fun _ _ _ h => h) (.inl ⟨by rfl, fun w hw => by clear hw; go_simp⟩) h2x ?_
          try simp only [Act.put, lay_out]
          refine wpAnyH_take (i := 28) (v := .pointer (some ⟨W.heap.size, 1, none⟩)) rfl (by kernel_rfl) (by kernel_rfl) (by kernel_rfl) (fun _ _ _ h => h) (.inl ⟨by rfl, fun w hw => by clear hw; go_simp⟩) h2x ?_
          try simp only [Act.put, lay_out]
          refine wpAnyH_take (i := 29) (v := .slice a0 L cap0) rfl (by kernel_rfl) (by kernel_rfl) (by kernel_rfl) (fun _ _ _ h => h) (.inl ⟨by rfl, fun w hw => by have kk := box_ops hw.1.1; clear hw; go_simp⟩) h2x ?_
          try simp only [Act.put, lay_out]
          refine wpAnyH_take (i := 30) (v := .int .i64 (L : Int)) rfl (by kernel_rfl) (by kernel_rfl) (by kernel_rfl) (fun _ _ _ h => h) (.inl ⟨by rfl, fun w hw => by clear hw; go_simp⟩) h2x ?_
          try simp only [Act.put, lay_out]
          refine wpAnyH_take (i := 31) (v := .bool true) rfl (by kernel_rfl) (by kernel_rfl) (by kernel_rfl) (fun _ _ _ h => h) (.inl ⟨by rfl, fun w hw => by clear hw; go_simp⟩) h2x ?_
          try simp only [Act.put, lay_out]
          refine wpAnyH_take (i := 32) (v := .bool true) rfl (by kernel_rfl) (by kernel_rfl) (by kernel_rfl) (fun _ _ _ h => h) (.inl ⟨by rfl, fun w hw => by clear hw; go_simp⟩) h2x ?_
          try simp only [Act.put, lay_out]
          refine wpAnyH_take (i := 33) (v := .bool true) rfl (by kernel_rfl) (by kernel_rfl) (by kernel_rfl) (fun _ _ _ h => h) (.inl ⟨by rfl, fun w hw => by clear hw; go_simp⟩) h2x ?_
          try simp only [Act.put, lay_out]
          refine wpAnyH_ready (rs := [34]) (by kernel_rfl) (by simp) (AllReadyH.cons rfl (fun K hK => ?_) AllReadyH.nil)
          rw [if_pos (by rfl)]
          go_simp
          go_at_call 14
          (with_reducible refine (KAw.out _ X5.out.low).mono ?_); rintro e y6 ⟨rfl, hb⟩
          have X6 := hid (X5.out.self hb)
          have A6 := hid (A5.out.self hb)
          have B6 := hid (B5.out.self hb)
          clear hb
          refine hK.out _ _ (⟨⟨X6.out.one, X6.out.two⟩, A6.out, B6.out⟩) (fun h3x => ?_)
          clear hK K
          try simp only [Act.put, lay_out]
          refine wpAnyH_take (i := 35) (v := .bool true) rfl (by kernel_rfl) (by kernel_rfl) (by kernel_rfl) (fun _ _ _ h => h) (.inl ⟨by rfl, fun w hw => by clear hw; go_simp⟩) h3x ?_
          try simp only [Act.put, lay_out]
          refine wpAnyH_take (i := 36) (v := .bool true) rfl (by kernel_rfl) (by kernel_rfl) (by kernel_rfl) (fun _ _ _ h => h) (.inl ⟨by rfl, fun w hw => by clear hw; go_simp⟩) h3x ?_
          try simp only [Act.put, lay_out]
          refine wpAnyH_done (by kernel_rfl) ?_ _
          refine NoPanic.normal ?_
          clear h0 h1x h2x h3x
          try simp only [Act.put, lay_out]
          go_wp2
          go_ret
          exact ⟨rfl, X6.out.low⟩
        · refine wp_region_noPanic ?_
          refine wp_region_held_drew (S := fun w' => (w'.heap[W.heap.size]? = some (.cells #[.int .i64 N, .slice a0 L cap0, .slice a1 M cap1] 25 (0, 0)) ∧ w'.heap[W.heap.size + 1]? = some (.cells #[.int .i64 N', .slice a0' L' cap0', .slice a1' M' cap1'] 25 (0, 0))) ∧ Ai w' b 13 28 T ∧ Ai w' c 13 28 T') (by kernel_rfl) (⟨⟨X3.out.one, X3.out.two⟩, A3.out, B3.out⟩) (fun h0 => ?_)
          generalize y2.drew = y3 at *
          refine wpAnyH_take (i := 0) (v := .bool true) rfl (by kernel_rfl) (by kernel_rfl) (by kernel_rfl) (fun _ _ _ h => h) (.inl ⟨by rfl, fun w hw => by clear hw; go_simp⟩) h0 ?_
          try simp only [Act.put, lay_out]
          refine wpAnyH_take (i := 1) (v := trV N' (.slice a0' L' cap0') (.slice a1' M' cap1')) rfl (by kernel_rfl) (by kernel_rfl) (by kernel_rfl) (fun _ _ _ h => h) (yields_load_row (by rfl) 25 (.tmp 3) rfl (W.heap.size + 1) 25 #[.int .i64 N', .slice a0' L' cap0', .slice a1' M' cap1'] _ rfl (fun w h => h.1.2) Try.underlying25 rfl (by kernel_rfl)) h0 ?_
          try simp only [Act.put, lay_out]
          refine wpAnyH_take (i := 2) (v := trV N (.slice a0 L cap0) (.slice a1 M cap1)) rfl (by kernel_rfl) (by kernel_rfl) (by kernel_rfl) (fun _ _ _ h => h) (yields_load_row (by rfl) 25 (.tmp 2) rfl W.heap.size 25 #[.int .i64 N, .slice a0 L cap0, .slice a1 M cap1] _ rfl (fun w h => h.1.1) Try.underlying25 rfl (by kernel_rfl)) h0 ?_
          try simp only [Act.put, lay_out]
          refine wpAnyH_ready (rs := [3]) (by kernel_rfl) (by simp) (AllReadyH.cons rfl (fun K hK => ?_) AllReadyH.nil)
          rw [if_pos (by rfl)]
          go_simp
          go_at_call 15
          (with_reducible refine (KSba.out _ X3.out.low).mono ?_); rintro e y4 ⟨rfl, hb⟩
          have X4 := hid (X3.out.self hb)
          have A4 := hid (A3.out.self hb)
          have B4 := hid (B3.out.self hb)
          clear hb
          refine hK.out _ _ (⟨⟨X4.out.one, X4.out.two⟩, A4.out, B4.out⟩) (fun h1x => ?_)
          clear hK K
          try simp only [Act.put, lay_out]
          refine wpAnyH_take (i := 4) (v := .bool true) rfl (by kernel_rfl) (by kernel_rfl) (by kernel_rfl) (fun _ _ _ h => h) (.inl ⟨by rfl, fun w hw => by clear hw; go_simp⟩) h1x ?_
          try simp only [Act.put, lay_out]
          refine wpAnyH_take (i := 5) (v := .bool true) rfl (by kernel_rfl) (by kernel_rfl) (by kernel_rfl) (fun _ _ _ h => h) (.inl ⟨by rfl, fun w hw => by clear hw; go_simp⟩) h1x ?_
          try simp only [Act.put, lay_out]
          refine wpAnyH_take (i := 6) (v := trV N (.slice a0 L cap0) (.slice a1 M cap1)) rfl (by kernel_rfl) (by kernel_rfl) (by kernel_rfl) (fun _ _ _ h => h) (yields_load_row (by rfl) 25 (.tmp 2) rfl W.heap.size 25 #[.int .i64 N, .slice a0 L cap0, .slice a1 M cap1] _ rfl (fun w h => h.1.1) Try.underlying25 rfl (by kernel_rfl)) h1x ?_
          try simp only [Act.put, lay_out]
          refine wpAnyH_take (i := 7) (v := trV N (.slice a0 L cap0) (.slice a1 M cap1)) rfl (by kernel_rfl) (by kernel_rfl) (by kernel_rfl) (fun _ _ _ h => h) (yields_load_row (by rfl) 25 (.tmp 2) rfl W.heap.size 25 #[.int .i64 N, .slice a0 L cap0, .slice a1 M cap1] _ rfl (fun w h => h.1.1) Try.underlying25 rfl (by kernel_rfl)) h1x ?_
          try simp only [Act.put, lay_out]
          refine wpAnyH_ready (rs := [8]) (by kernel_rfl) (by simp) (AllReadyH.cons rfl (fun K hK => ?_) AllReadyH.nil)
          rw [if_pos (by rfl)]
          go_simp
          go_at_call 15
          (with_reducible refine (KSaa.out _ X4.out.low).mono ?_); rintro e y5 ⟨rfl, hb⟩
          have X5 := hid (X4.out.self hb)
          have A5 := hid (A4.out.self hb)
          have B5 := hid (B4.out.self hb)
          clear hb
          refine hK.out _ _ (⟨⟨X5.out.one, X5.out.two⟩, A5.out, B5.out⟩) (fun h2x => ?_)
          clear hK K
          try simp only [Act.put, lay_out]
          refine wpAnyH_take (i := 9) (v := .bool true) rfl (by kernel_rfl) (by kernel_rfl) (by kernel_rfl) (fun _ _ _ h => h) (.inl ⟨by rfl, fun w hw => by clear hw; go_simp⟩) h2x ?_
          try simp only [Act.put, lay_out]
          refine wpAnyH_take (i := 10) (v := .bool true) rfl (by kernel_rfl) (by kernel_rfl) (by kernel_rfl) (fun _ _ _ h => h) (.inl ⟨by rfl, fun w hw => by clear hw; go_simp⟩) h2x ?_
          try simp only [Act.put, lay_out]
          refine wpAnyH_take (i := 11) (v := .bool true) rfl (by kernel_rfl) (by kernel_rfl) (by kernel_rfl) (fun _ _ _ h => h) (.inl ⟨by rfl, fun w hw => by clear hw; go_simp⟩) h2x ?_
          try simp only [Act.put, lay_out]
          refine wpAnyH_take (i := 12) (v := .bool false) rfl (by kernel_rfl) (by kernel_rfl) (by kernel_rfl) (fun _ _ _ h => h) (.inl ⟨by rfl, fun w hw => by clear hw; go_simp⟩) h2x ?_
          try simp only [Act.put, lay_out]
          refine wpAnyH_take (i := 13) (v := .bool false) rfl (by kernel_rfl) (by kernel_rfl) (by kernel_rfl) (fun _ _ _ h => h) (.inl ⟨by rfl, fun w hw => by clear hw; go_simp⟩) h2x ?_
          try simp only [Act.put, lay_out]
          refine wpAnyH_take (i := 14) (v := .agg (ia 13 T)) rfl (by kernel_rfl) (by kernel_rfl) (by kernel_rfl) (fun _ _ _ h => h) (yields_load_row (by rfl) 28 (.tmp 5) rfl b 28 (ia 13 T) _ rfl (fun w h => h.2.1) Try.underlying28 rfl (by kernel_rfl)) h2x ?_
          try simp only [Act.put, lay_out]
          refine wpAnyH_take (i := 15) (v := .agg (ia 13 T')) rfl (by kernel_rfl) (by kernel_rfl) (by kernel_rfl) (fun _ _ _ h => h) (yields_load_row (by rfl) 28 (.tmp 6) rfl c 28 (ia 13 T') _ rfl (fun w h => h.2.2) Try.underlying28 rfl (by kernel_rfl)) h2x ?_
          try simp only [Act.put, lay_out]
          refine wpAnyH_take (i := 16) (v := .bool true) rfl (by kernel_rfl) (by kernel_rfl) (by kernel_rfl) (fun _ _ _ h => h) (.inl ⟨by rfl, fun w _ => exec_eqI13 _ _ rfl rfl rfl (by simpa using (Ks.out trivial).1)⟩) h2x ?_
          try simp only [Act.put, lay_out]
          refine wpAnyH_take (i := 17) (v := .bool true) rfl (by kernel_rfl) (by kernel_rfl) (by kernel_rfl) (fun _ _ _ h => h) (.inl ⟨by rfl, fun w hw => by clear hw; go_simp⟩) h2x ?_
          try simp only [Act.put, lay_out]
          refine wpAnyH_take (i := 18) (v := trV N (.slice a0 L cap0) (.slice a1 M cap1)) rfl (by kernel_rfl) (by kernel_rfl) (by kernel_rfl) (fun _ _ _ h => h) (yields_load_row (by rfl) 25 (.tmp 2) rfl W.heap.size 25 #[.int .i64 N, .slice a0 L cap0, .slice a1 M cap1] _ rfl (fun w h => h.1.1) Try.underlying25 rfl (by kernel_rfl)) h2x ?_
          try simp only [Act.put, lay_out]
          refine wpAnyH_take (i := 20) (v := trV N' (.slice a0' L' cap0') (.slice a1' M' cap1')) rfl (by kernel_rfl) (by kernel_rfl) (by kernel_rfl) (fun _ _ _ h => h) (yields_load_row (by rfl) 25 (.tmp 3) rfl (W.heap.size + 1) 25 #[.int .i64 N', .slice a0' L' cap0', .slice a1' M' cap1'] _ rfl (fun w h => h.1.2) Try.underlying25 rfl (by kernel_rfl)) h2x ?_
          try simp only [Act.put, lay_out]
          refine wpAnyH_ready (rs := [19]) (by kernel_rfl) (by simp) (AllReadyH.cons rfl (fun K hK => ?_) AllReadyH.nil)
          rw [if_pos (by rfl)]
          go_simp
          go_at_call 7
          (with_reducible refine (KCa.out _ X5.out.low).mono ?_); rintro e y6 ⟨rfl, hb⟩
          have X6 := hid (X5.out.self hb)
          have A6 := hid (A5.out.self hb)
          have B6 := hid (B5.out.self hb)
          clear hb
          refine hK.out _ _ (⟨⟨X6.out.one, X6.out.two⟩, A6.out, B6.out⟩) (fun h3x => ?_)
          clear hK K
          try simp only [Act.put, lay_out]
          refine wpAnyH_ready (rs := [21]) (by kernel_rfl) (by simp) (AllReadyH.cons rfl (fun K hK => ?_) AllReadyH.nil)
          rw [if_pos (by rfl)]
          go_simp
          go_at_call 7
          (with_reducible refine (KCb.out _ X6.out.low).mono ?_); rintro e y7 ⟨rfl, hb⟩
          have X7 := hid (X6.out.self hb)
          have A7 := hid (A6.out.self hb)
          have B7 := hid (B6.out.self hb)
          clear hb
          refine hK.out _ _ (⟨⟨X7.out.one, X7.out.two⟩, A7.out, B7.out⟩) (fun h4x => ?_)
          clear hK K
          try simp only [Act.put, lay_out]
          refine wpAnyH_take (i := 22) (v := .bool true) rfl (by kernel_rfl) (by kernel_rfl) (by kernel_rfl) (fun _ _ _ h => h) (.inl ⟨by rfl, fun w hw => by clear hw; have e := (Ks.out trivial).2; subst e; go_simp⟩) h4x ?_
          try simp only [Act.put, lay_out]
          refine wpAnyH_take (i := 23) (v := .bool true) rfl (by kernel_rfl) (by kernel_rfl) (by kernel_rfl) (fun _ _ _ h => h) (.inl ⟨by rfl, fun w hw => by clear hw; go_simp⟩) h4x ?_
          try simp only [Act.put, lay_out]
          refine wpAnyH_take (i := 24) (v := .bool true) rfl (by kernel_rfl) (by kernel_rfl) (by kernel_rfl) (fun _ _ _ h => h) (.inl ⟨by rfl, fun w hw => by clear hw; go_simp⟩) h4x ?_
          try simp only [Act.put, lay_out]
          refine wpAnyH_take (i := 25) (v := .bool true) rfl (by kernel_rfl) (by kernel_rfl) (by kernel_rfl) (fun _ _ _ h => h) (.inl ⟨by rfl, fun w hw => by clear hw; go_simp⟩) h4x ?_
          try simp only [Act.put, lay_out]
          refine wpAnyH_take (i := 26) (v := .bool true) rfl (by kernel_rfl) (by kernel_rfl) (by kernel_rfl) (fun _ _ _ h => h) (.inl ⟨by rfl, fun w hw => by clear hw; go_simp⟩) h4x ?_
          try simp only [Act.put, lay_out]
          refine wpAnyH_take (i := 27) (v := .int .i64 (L : Int)) rfl (by kernel_rfl) (by kernel_rfl) (by kernel_rfl) (fun _ _ _ h => h) (.inl ⟨by rfl, fun w hw => by clear hw; go_simp⟩) h4x ?_
          try simp only [Act.put, lay_out]
          refine wpAnyH_take (i := 28) (v := .pointer (some ⟨W.heap.size, 1, none⟩)) rfl (by kernel_rfl) (by kernel_rfl) (by kernel_rfl) (fun _ _ _ h => h) (.inl ⟨by rfl, fun w hw => by clear hw; go_simp⟩) h4x ?_
          try simp only [Act.put, lay_out]
          refine wpAnyH_take (i := 29) (v := .slice a0 L cap0) rfl (by kernel_rfl) (by kernel_rfl) (by kernel_rfl) (fun _ _ _ h => h) (.inl ⟨by rfl, fun w hw => by have kk := box_ops hw.1.1; clear hw; go_simp⟩) h4x ?_
          try simp only [Act.put, lay_out]
          refine wpAnyH_take (i := 30) (v := .int .i64 (L : Int)) rfl (by kernel_rfl) (by kernel_rfl) (by kernel_rfl) (fun _ _ _ h => h) (.inl ⟨by rfl, fun w hw => by clear hw; go_simp⟩) h4x ?_
          try simp only [Act.put, lay_out]
          refine wpAnyH_take (i := 31) (v := .bool true) rfl (by kernel_rfl) (by kernel_rfl) (by kernel_rfl) (fun _ _ _ h => h) (.inl ⟨by rfl, fun w hw => by clear hw; go_simp⟩) h4x ?_
          try simp only [Act.put, lay_out]
          refine wpAnyH_take (i := 32) (v := .bool true) rfl (by kernel_rfl) (by kernel_rfl) (by kernel_rfl) (fun _ _ _ h => h) (.inl ⟨by rfl, fun w hw => by clear hw; go_simp⟩) h4x ?_
          try simp only [Act.put, lay_out]
          refine wpAnyH_take (i := 33) (v := .bool true) rfl (by kernel_rfl) (by kernel_rfl) (by kernel_rfl) (fun _ _ _ h => h) (.inl ⟨by rfl, fun w hw => by clear hw; go_simp⟩) h4x ?_
          try simp only [Act.put, lay_out]
          refine wpAnyH_ready (rs := [34]) (by kernel_rfl) (by simp) (AllReadyH.cons rfl (fun K hK => ?_) AllReadyH.nil)
          rw [if_pos (by rfl)]
          go_simp
          go_at_call 14
          (with_reducible refine (KAw.out _ X7.out.low).mono ?_); rintro e y8 ⟨rfl, hb⟩
          have X8 := hid (X7.out.self hb)
          have A8 := hid (A7.out.self hb)
          have B8 := hid (B7.out.self hb)
          clear hb
          refine hK.out _ _ (⟨⟨X8.out.one, X8.out.two⟩, A8.out, B8.out⟩) (fun h5x => ?_)
          clear hK K
          try simp only [Act.put, lay_out]
          refine wpAnyH_take (i := 35) (v := .bool true) rfl (by kernel_rfl) (by kernel_rfl) (by kernel_rfl) (fun _ _ _ h => h) (.inl ⟨by rfl, fun w hw => by clear hw; go_simp⟩) h5x ?_
          try simp only [Act.put, lay_out]
          refine wpAnyH_take (i := 36) (v := .bool true) rfl (by kernel_rfl) (by kernel_rfl) (by kernel_rfl) (fun _ _ _ h => h) (.inl ⟨by rfl, fun w hw => by clear hw; go_simp⟩) h5x ?_
          try simp only [Act.put, lay_out]
          refine wpAnyH_done (by kernel_rfl) ?_ _
          refine NoPanic.normal ?_
          clear h0 h1x h2x h3x h4x h5x
          try simp only [Act.put, lay_out]
          go_wp2
          go_ret
          exact ⟨rfl, X8.out.low⟩
end Go.Proofs.Ythopdlcmmafcaaa
