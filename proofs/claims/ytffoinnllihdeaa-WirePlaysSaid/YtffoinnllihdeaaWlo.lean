import Derived.Test.YtffoinnllihdeaaProg
import Derived.Test.YtffoinnllihdeaaWlc
/- Wire: an act of both machines: a word is opened; any act. -/
namespace Go.Proofs.Ytffoinnllihdeaa
open Go.RowKit
set_option maxRecDepth 100000
set_option maxHeartbeats 6400000 in
theorem ldoes_7 {Pm : World → Nat → Ms → (Nat → Prop) → Prop} (hM : Mach Pm) {lo : Nat} {X : Nat → Prop} {W w : World} {p b k : Nat} {S : Ms} (a : Act8) (h : Bz Pm lo X W w p b S S) (hq : Bq k S) (hk : k ≤ 100000) (ha : acwf a) (hK : a.K = 7) :
    Calls Try.prog 13 #[.pointer (some ⟨p, 0, none⟩), .pointer (some ⟨b, 0, none⟩), .agg (acC a)] w fun e w' => e = .returned (.bool true) ∧ Bz Pm lo X W w' p b (S.actS a) (S.actS a) ∧ Below lo W w' := by
  have e5 : S.actS a = S.doS ⟨12, -1, a.o.A, a.o.B, a.o.E, 0⟩ 0 := by unfold Ms.actS Ms.opA Ms.wdA; simp [hK]
  rw [e5]
  clear e5
  have HB : Hid (Below w.heap.size w ((w.alloc (.cells (acC a) 45)).alloc (.cells (opCs a.o) 43))) := hid (((Below.refl _ _).alloc (Nat.le_refl _) _).alloc (by simp) _)
  have n1 : ((w.alloc (.cells (acC a) 45)).alloc (.cells (opCs a.o) 43)).heap[w.heap.size]? = some (.cells (acC a) 45 (0, 0)) := (heap_alloc_old _ _ (by simp)).trans (heap_alloc_new _ _)
  have n2 : ((w.alloc (.cells (acC a) 45)).alloc (.cells (opCs a.o) 43)).heap[w.heap.size + 1]? = some (.cells (opCs a.o) 43 (0, 0)) := by have := heap_alloc_new (w.alloc (.cells (acC a) 45)) (.cells (opCs a.o) 43); simpa using this
  have n3 : ((w.alloc (.cells (acC a) 45)).alloc (.cells (opCs a.o) 43)).heap.size = w.heap.size + 2 := by simp
  obtain ⟨w2, hw2⟩ : ∃ w2, (w.alloc (.cells (acC a) 45)).alloc (.cells (opCs a.o) 43) = w2 := ⟨_, rfl⟩
  rw [hw2] at HB n1 n2 n3
  have HW2 := hid hw2
  have Z : Hid (Lz Pm lo (fun k => X k ∨ w.heap.size ≤ k ∧ k < w2.heap.size) W w.heap.size a w2 p b S S) := hid ⟨h.more hM HB.out, n1, n2, .inr ⟨Nat.le_refl _, by omega⟩, .inr ⟨by omega, by omega⟩⟩
  have HA := hid ha
  have HQ := hid hq
  have HK2 := hid hk
  have HK : Hid (k ≤ 1000000) := hid (by omega)
  have HX : Hid (a.X < 2 ^ 64) := hid (by have := ha.2.2; omega)
  have HO : Hid (opwf ⟨12, -1, a.o.A, a.o.B, a.o.E, 0⟩) := hid (by have := opA_wf hq (by omega : k ≤ 1000000) ha; unfold Ms.opA at this; simpa [hK] using this)
  clear h hq hk ha hw2 n1 n2 n3
  go_enter Try.func13, Try.ntmps13
  go_upto_region 2 with fail
  rw [HW2.out]
  have c0 := row_c (i := 0) (u := .int .i64 a.K) Z.out.act rfl
  rw [hK] at c0
  clear hK
  have d2 := row_c (i := 2) (u := .int .i64 a.o.A) Z.out.op rfl; have d3 := row_c (i := 3) (u := .int .i64 a.o.B) Z.out.op rfl; have d4 := row_c (i := 4) (u := .int .i64 a.o.E) Z.out.op rfl
  by_cases hr : S.doR ⟨12, -1, a.o.A, a.o.B, a.o.E, 0⟩ < 0
  · have HOP : Hid (S.opR ⟨12, -1, a.o.A, a.o.B, a.o.E, 0⟩ = 0) := hid (by unfold Ms.opR; rw [if_pos hr])
    obtain ⟨r, hrr⟩ : ∃ r, S.doR ⟨12, -1, a.o.A, a.o.B, a.o.E, 0⟩ = r := ⟨_, rfl⟩
    have HDR := hid hrr
    rw [hrr] at hr
    have q9 : decide (r < 0) = true := decide_eq_true hr
    clear hrr hr
    go_wp2_with (first
      | (go_at_call 28; (with_reducible refine (zopen_ hM a.o.A a.o.B a.o.E Z.out.z HQ.out HK.out HO.out).mono ?_); rintro e w3 ⟨rfl, hz, hs⟩; have Z1 := hid (Z.out.on hz hs); clear hz hs; have q2 := row_c (i := 2) (u := .int .i64 a.o.A) Z1.out.op rfl; have q3 := row_c (i := 3) (u := .int .i64 a.o.B) Z1.out.op rfl; have q4 := row_c (i := 4) (u := .int .i64 a.o.E) Z1.out.op rfl; try rw [HOP.out])
      | (go_at_call 35; (with_reducible refine (yopen hM a.o.A a.o.B a.o.E Z1.out.z HQ.out HK2.out HO.out).mono ?_); rintro e w4 ⟨rfl, hz, hs⟩; have Z2 := hid (Z1.out.on hz hs); clear hz hs; rw [HDR.out]))
    go_ret
    exact ⟨by first | rfl | simp, Z2.out.z.less (fun _ h => .inl h), Z2.out.z.low⟩
  · obtain ⟨e1, e2⟩ := doR_yes hr
    have q9 : decide ((S.len : Int) < 0) = false := decide_eq_false (by omega)
    have HDR := hid e1
    cases hd : S.dry
    · have HOP : Hid (S.opR ⟨12, -1, a.o.A, a.o.B, a.o.E, 0⟩ = (S.makes ⟨12, -1, a.o.A, a.o.B, a.o.E, 0⟩ 0)) := hid (by unfold Ms.opR; rw [if_neg hr, if_neg (by rw [hd]; decide), e2 0]; have := HQ.out.wet hd; unfold Ms.len; rw [this, Nat.zero_add]; exact updN_at _ _ _)
      have HDY := hid ((doS_dry S ⟨12, -1, a.o.A, a.o.B, a.o.E, 0⟩ 0).trans hd)
      have HV : Hid (∀ wx, Lz Pm lo (fun k => X k ∨ w.heap.size ≤ k ∧ k < w2.heap.size) W w.heap.size a wx p b (S.doS ⟨12, -1, a.o.A, a.o.B, a.o.E, 0⟩ 0) (S.doS ⟨12, -1, a.o.A, a.o.B, a.o.E, 0⟩ 0) → ∃ g cap, wx.cell? ⟨b, 10, none⟩ = some (.slice (some ⟨g, 0, none⟩) (S.len + 1) cap) ∧ wx.cell? ⟨g, S.len, none⟩ = some (.int .u64 (S.makes ⟨12, -1, a.o.A, a.o.B, a.o.E, 0⟩ 0 : Nat))) := hid (fun wx hz => by
        obtain ⟨a', cap, c1, c2⟩ := hz.z.vals
        have hL : (S.doS ⟨12, -1, a.o.A, a.o.B, a.o.E, 0⟩ 0).L = S.len + 1 := by rw [e2 0]; have := HQ.out.wet hd; unfold Ms.len; rw [this, Nat.zero_add]; rfl
        rw [hL] at c1 c2
        obtain ⟨g, rfl, c3⟩ := c2 (by omega)
        refine ⟨g, cap, c1, ?_⟩
        have c4 := c3 S.len (by omega)
        rw [c4, e2 0]
        have : updN S.v S.L (S.makes ⟨12, -1, a.o.A, a.o.B, a.o.E, 0⟩ 0) S.len = S.makes ⟨12, -1, a.o.A, a.o.B, a.o.E, 0⟩ 0 := by have := HQ.out.wet hd; unfold Ms.len; rw [this, Nat.zero_add]; exact updN_at _ _ _
        show some (Value.int .u64 ((updN S.v S.L (S.makes ⟨12, -1, a.o.A, a.o.B, a.o.E, 0⟩ 0) S.len : Nat) : Int)) = _
        rw [this])
      have j1 : (0 : Int) ≤ (S.len : Int) := by omega
      have j2 : (S.len : Int) < ((S.len + 1 : Nat) : Int) := by omega
      clear hr e1 e2 hd
      generalize S.makes ⟨12, -1, a.o.A, a.o.B, a.o.E, 0⟩ 0 = z at *
      go_wp2_with (first
        | (go_at_call 28; (with_reducible refine (zopen_ hM a.o.A a.o.B a.o.E Z.out.z HQ.out HK.out HO.out).mono ?_); rintro e w3 ⟨rfl, hz, hs⟩; have Z1 := hid (Z.out.on hz hs); clear hz hs; have q2 := row_c (i := 2) (u := .int .i64 a.o.A) Z1.out.op rfl; have q3 := row_c (i := 3) (u := .int .i64 a.o.B) Z1.out.op rfl; have q4 := row_c (i := 4) (u := .int .i64 a.o.E) Z1.out.op rfl; try rw [HOP.out])
        | (go_at_call 35; (with_reducible refine (yopen hM a.o.A a.o.B a.o.E Z1.out.z HQ.out HK2.out HO.out).mono ?_); rintro e w4 ⟨rfl, hz, hs⟩; have Z2 := hid (Z1.out.on hz hs); clear hz hs; rw [HDR.out]; have y14 := Z2.out.z.dry; rw [HDY.out] at y14; obtain ⟨g, cap, y10, yv⟩ := HV.out _ Z2.out))
      go_ret
      exact ⟨by first | rfl | simp, Z2.out.z.less (fun _ h => .inl h), Z2.out.z.low⟩
    · have HOP : Hid (S.opR ⟨12, -1, a.o.A, a.o.B, a.o.E, 0⟩ = 18446744073709551615) := hid (by unfold Ms.opR; rw [if_neg hr, if_pos hd])
      have HDY := hid ((doS_dry S ⟨12, -1, a.o.A, a.o.B, a.o.E, 0⟩ 0).trans hd)
      clear hr e1 e2 hd
      go_wp2_with (first
        | (go_at_call 28; (with_reducible refine (zopen_ hM a.o.A a.o.B a.o.E Z.out.z HQ.out HK.out HO.out).mono ?_); rintro e w3 ⟨rfl, hz, hs⟩; have Z1 := hid (Z.out.on hz hs); clear hz hs; have q2 := row_c (i := 2) (u := .int .i64 a.o.A) Z1.out.op rfl; have q3 := row_c (i := 3) (u := .int .i64 a.o.B) Z1.out.op rfl; have q4 := row_c (i := 4) (u := .int .i64 a.o.E) Z1.out.op rfl; try rw [HOP.out])
        | (go_at_call 35; (with_reducible refine (yopen hM a.o.A a.o.B a.o.E Z1.out.z HQ.out HK2.out HO.out).mono ?_); rintro e w4 ⟨rfl, hz, hs⟩; have Z2 := hid (Z1.out.on hz hs); clear hz hs; rw [HDR.out]; have y14 := Z2.out.z.dry; rw [HDY.out] at y14))
      go_ret
      exact ⟨by first | rfl | simp, Z2.out.z.less (fun _ h => .inl h), Z2.out.z.low⟩
theorem ldoes_any {Pm : World → Nat → Ms → (Nat → Prop) → Prop} (hM : Mach Pm) {lo : Nat} {X : Nat → Prop} {W w : World} {p b k : Nat} {S : Ms} (a : Act8) (h : Bz Pm lo X W w p b S S) (hq : Bq k S) (hk : k ≤ 100000) (ha : acwf a) :
    Calls Try.prog 13 #[.pointer (some ⟨p, 0, none⟩), .pointer (some ⟨b, 0, none⟩), .agg (acC a)] w fun e w' => e = .returned (.bool true) ∧ Bz Pm lo X W w' p b (S.actS a) (S.actS a) ∧ Below lo W w' := by
  rcases (by omega : a.K = 0 ∨ a.K = 1 ∨ a.K = 2 ∨ a.K = 3 ∨ a.K = 4 ∨ a.K = 5 ∨ a.K = 6 ∨ a.K = 7 ∨ a.K = 8 ∨ a.K = 9 ∨ (a.K < 0 ∨ 9 < a.K)) with e | e | e | e | e | e | e | e | e | e | e
  · exact ldoes_0 hM a h hq hk ha e
  · exact ldoes_1 hM a h hq hk ha e
  · exact ldoes_2 hM a h hq hk ha e
  · exact ldoes_3 hM a h hq hk ha e
  · exact ldoes_4 hM a h hq hk ha e
  · exact ldoes_5 hM a h hq hk ha e
  · exact ldoes_6 hM a h hq hk ha e
  · exact ldoes_7 hM a h hq hk ha e
  · exact ldoes_8 hM a h hq hk ha e
  · exact ldoes_9 hM a h hq hk ha e
  · exact ldoes_no hM a h hq hk ha e
end Go.Proofs.Ytffoinnllihdeaa
