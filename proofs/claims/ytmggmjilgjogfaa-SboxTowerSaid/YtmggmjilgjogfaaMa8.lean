import Derived.Test.YtmggmjilgjogfaaMa7
namespace Go.Proofs.Ytmggmjilgjogfaa
open Go.RowKit

theorem eqB {f g : Nat → Nat} {b : Bool} (h : (∀ i, i < 8 → f i = g i) ↔ b = true) (w : World) : (Op.equalIn 10000 25 (.agg (ba 8 f)) (.agg (ba 8 g))).run Try.prog w = .ok b w := by
  have h' := run_eq_ba (P := Try.prog) w 9998 25 5 8 f g Try.underlying25 Try.underlying5 info5
  rw [h']
  congr 1
  cases b
  · simp only [Bool.false_eq_true, iff_false] at h; exact decide_eq_false h
  · exact decide_eq_true (h.2 rfl)
theorem guard23 : Try.prog.eqGuardType Try.prog.depth 25 = false := by kernel_rfl

/-- .. and what goes out. -/
structure L3 (f m s : Nat → Nat) (b : Nat) (w wr : World) : Prop extends L2 f m s b w wr where
  o1 : M wr (w.heap.size + 1) (fun _ => 0)
  apart : w.heap.size + 2 ≤ b
theorem L3.start {f m s : Nat → Nat} {w wr w1 : World} (h : M2 25 f w wr) (hb : Below wr.heap.size wr w1) :
    L3 f m s w1.heap.size w ((((w1.alloc (.cells (ba 8 (fun _ => 0)) 25)).alloc (.cells (ba 8 (fun _ => 0)) 25)).setRow w1.heap.size (ba 8 m)).setRow (w1.heap.size + 1) (ba 8 s)) := by
  have hl := h.out.lt
  have h1 := h.on hb
  have hs := hb.size
  exact ⟨L2.start h.low (by omega) hb, (((h1.out.alloc _).alloc _).rowApart (by omega) _).rowApart (by omega) _, by omega⟩
theorem L3.on {f m s : Nat → Nat} {b : Nat} {w wr w1 : World} (h : L3 f m s b w wr) (hb : Below wr.heap.size wr w1) : L3 f m s b w w1 :=
  ⟨⟨h.low.trans (hb.mono h.low.size), h.far, h.mat.self hb, h.st.self hb⟩, h.o1.self hb, h.apart⟩
theorem L3.drew {f m s : Nat → Nat} {b : Nat} {w wr : World} (h : L3 f m s b w wr) : L3 f m s b w wr.drew := ⟨⟨h.low.drew, h.far, h.mat, h.st⟩, h.o1, h.apart⟩

set_option maxHeartbeats 1600000 in
theorem minv_any (f : Nat → Nat) (w : World) (hf : By f) :
    Calls Try.prog 25 #[.agg (ba 8 f)] w fun e w' => e = .returned (.tuple #[.agg (ba 8 (inv f)), .bool (decide (rk f = 8))]) ∧ Below w.heap.size w w' := by
  have HA := hid (M2.start 25 f w)
  have HRD := hid (fun w => reduce_any f w hf)
  have HIN := hid (fun s m (h : RInv f m s 8 8) => ba_ext (h.inv hf))
  have HIZ := hid (fun (h : ¬ rk f = 8) => show inv f = fun _ => 0 from if_neg h)
  have hguard := guard23
  generalize inv f = g at HIN HIZ ⊢
  generalize rk f = d at HRD HIZ ⊢
  obtain ⟨q, hq⟩ : ∃ q, decide (d = 8) = q := ⟨_, rfl⟩
  rw [hq]
  have HQ := hid hq
  clear hq hf
  go_enter Try.func25, Try.ntmps25
  go_wp2_with (first
    | (refine step_load_ba rfl 25 _ rfl w.heap.size 8 25 5 f rfl HA.out.src Try.underlying25 info23 ?_)
    | (go_at_call 33; (with_reducible refine (HRD.out _).mono ?_); rintro e w1 ⟨m, s, rfl, hR, hlow1⟩; have HR := hid hR; have HL := hid (L3.start (m := m) (s := s) HA.out hlow1); clear hR hlow1)
    | (refine step_store_ba rfl 25 _ _ rfl w1.heap.size 8 25 (fun _ => 0) m rfl rfl ((At.new w1 8 25 (fun _ => 0)).alloc _) info23 ?_)
    | (refine step_store_ba rfl 25 _ _ rfl (w1.heap.size + 1) 8 25 (fun _ => 0) s rfl rfl (second_at w1 m) info23 ?_))
  have HD := hid HL.out.drew
  have h0 := HD.out.mat.cells
  have HEQ : ∀ w, (Op.equalIn 10000 25 (.agg (ex8 m)) (.agg (ba 8 one))).run Try.prog w = .ok q w := fun w => by
    rw [← ba_ex]
    refine eqB ?_ w
    rw [← HQ.out, decide_eq_true_iff]
    exact (HR.out.full).symm
  go_region_held3 (fun w' => Cells w' w1.heap.size m) (first
    | with_reducible assumption
    | exact h0) (first
    | (go_at_call 34; refine (one_any _).mono ?_; rintro e w2 ⟨rfl, hlow2⟩; have HL2 := hid (HD.out.on hlow2); have h1 := HL2.out.mat.cells; clear hlow2))
  have hq := HQ.out
  clear h1 HEQ hguard
  cases q
  · have HI := hid (HIZ.out (of_decide_eq_false hq))
    clear hq
    go_wp2_with (first
      | (refine step_store_ba rfl 25 _ _ rfl (w.heap.size + 1) 8 25 (fun _ => 0) (fun _ => 0) rfl rfl HL2.out.o1 info23 ?_))
    refine ret_ba_tmp rfl rfl Try.underlying25 info23 rfl (HL2.out.o1.row (fun _ => 0)) ⟨?_, below_setRow HL2.out.low (by omega) _⟩
    rw [HI.out]; rfl
  · have HR2 := HR.out
    rw [of_decide_eq_true hq] at HR2
    have HI := hid (HIN.out _ _ HR2)
    clear hq HR2
    go_wp2_with (first
      | (refine step_load_ba rfl 25 _ rfl (w1.heap.size + 1) 8 25 5 s rfl HL2.out.st Try.underlying25 info23 ?_)
      | (refine step_store_ba rfl 25 _ _ rfl (w.heap.size + 1) 8 25 (fun _ => 0) s rfl rfl HL2.out.o1 info23 ?_))
    refine ret_ba_tmp rfl rfl Try.underlying25 info23 rfl (HL2.out.o1.row s) ⟨?_, below_setRow HL2.out.low (by omega) _⟩
    rw [← HI.out]; rfl
end Go.Proofs.Ytmggmjilgjogfaa
