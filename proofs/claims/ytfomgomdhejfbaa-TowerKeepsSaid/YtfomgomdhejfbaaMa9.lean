import Derived.Test.YtfomgomdhejfbaaMa8
namespace Go.Proofs.Ytfomgomdhejfbaa
open Go.RowKit

/-- What is found so far: columns below j, and n bytes tried for the next. -/
def inTo (f : Nat → Nat) (j n : Nat) : Nat → Nat := fun r => if r < j then lastx f (2 ^ r) 256 else if r = j then lastx f (2 ^ r) n else 0
theorem inTo_by (f : Nat → Nat) (j : Nat) : By (inTo f j 0) := fun r _ => by
  unfold inTo
  split
  · exact lastx_lt f _ 256 (Nat.le_refl _)
  · split
    · show 0 < 256; decide
    · decide
/-- The columns below j are found. -/
def AllHit (f : Nat → Nat) (j : Nat) : Prop := ∀ r, r < j → hits f (2 ^ r) 256 = true
structure C3 (f c : Nat → Nat) (w wr : World) : Prop where
  low : Below w.heap.size w wr
  src : M wr w.heap.size f
  out : M wr (w.heap.size + 1) (fun _ => 0)
  var : At wr (w.heap.size + 2) 8 24 c
theorem C3.start (f : Nat → Nat) (w : World) : C3 f (fun _ => 0) w (((w.alloc (.cells (ba 8 f) 25)).alloc (.cells (ba 8 (fun _ => 0)) 25)).alloc (.cells (ba 8 (fun _ => 0)) 24)) := by
  refine ⟨(((Below.refl _ _).alloc (Nat.le_refl _) _).alloc (by simp) _).alloc (by simp; omega) _, ((At.new w 8 25 f).alloc _).alloc _, ?_, ?_⟩
  · have := At.new (w.alloc (.cells (ba 8 f) 25)) 8 25 (fun _ => 0)
    rw [World.size_alloc] at this
    exact this.alloc _
  · have := At.new ((w.alloc (.cells (ba 8 f) 25)).alloc (.cells (ba 8 (fun _ => 0)) 25)) 8 24 (fun _ => 0)
    rw [World.size_alloc, World.size_alloc] at this
    exact this
theorem C3.on {f c : Nat → Nat} {w wr w1 : World} (m : C3 f c w wr) (h : Below wr.heap.size wr w1) : C3 f c w w1 :=
  ⟨m.low.trans (h.mono m.low.size), m.src.self h, m.out.self h, m.var.self h⟩
theorem C3.ext {f c h : Nat → Nat} {w wr : World} (m : C3 f c w wr) (e : ∀ i, i < 8 → c i = h i) : C3 f h w wr := ⟨m.low, m.src, m.out, m.var.ext e⟩
theorem C3.set {f c : Nat → Nat} {w wr : World} (m : C3 f c w wr) (j z : Nat) : C3 f (upd c j z) w (wr.setCell ⟨w.heap.size + 2, j, none⟩ (.int .u8 (z : Int))) :=
  ⟨m.low.setCell (by simp) _, m.src.apart (by simp) _, m.out.apart (by simp) _, m.var.set j z⟩
theorem inTo_hit {f : Nat → Nat} {j n : Nat} (h : ap f n = 2 ^ j) (r : Nat) : upd (inTo f j n) j n r = inTo f j (n + 1) r := by
  unfold upd inTo
  by_cases e : r = j
  · subst e; simp [lastx, h]
  · simp [e]
theorem inTo_miss {f : Nat → Nat} {j n : Nat} (h : ap f n ≠ 2 ^ j) (r : Nat) : inTo f j n r = inTo f j (n + 1) r := by
  unfold inTo
  by_cases e : r = j
  · subst e; simp [lastx, h]
  · simp [e]
theorem inTo_next (f : Nat → Nat) (j r : Nat) : inTo f j 256 r = inTo f (j + 1) 0 r := by
  unfold inTo
  by_cases e : r = j
  · subst e; simp
  · by_cases h : r < j
    · rw [if_pos h, if_pos (by omega)]
    · rw [if_neg h, if_neg e, if_neg (by omega)]
      by_cases h2 : r = j + 1
      · rw [if_pos h2]; rfl
      · rw [if_neg h2]

set_option maxRecDepth 20000 in
set_option maxHeartbeats 1600000 in
theorem mrefinv_any (f : Nat → Nat) (w : World) (hf : By f) :
    Calls Try.prog 27 #[.agg (ba 8 f)] w fun e w' => e = .returned (.tuple #[.agg (ba 8 (inv f)), .bool (decide (rk f = 8))]) ∧ Below w.heap.size w w' := by
  have HS := hid (C3.start f w)
  have HF := hid hf
  have HZ : Hid (∀ j, j < 8 → hits f (2 ^ j) 256 = false → inv f = (fun _ => 0) ∧ decide (rk f = 8) = false) := hid (fun j hj hh => by
    have : ¬ rk f = 8 := fun e => by have := (hits_all hf).2 e j hj; rw [hh] at this; cases this
    exact ⟨if_neg this, decide_eq_false this⟩)
  have HO : Hid ((∀ j, j < 8 → hits f (2 ^ j) 256 = true) → ba 8 (flip (inTo f 8 0)) = ba 8 (inv f) ∧ decide (rk f = 8) = true) := hid (fun hh => by
    have h8 := (hits_all hf).1 hh
    refine ⟨?_, decide_eq_true h8⟩
    have : inv f = flip (fun j => lastx f (2 ^ j) 256) := if_pos h8
    rw [this]
    exact ba_ext (fun i _ => flip_ext (fun r hr => if_pos hr) i))
  have HBY := hid (inTo_by f 8)
  generalize inv f = g at HZ HO ⊢
  generalize decide (rk f = 8) = q at HZ HO ⊢
  generalize hc8 : inTo f 8 0 = c8 at HO HBY
  have HC8 := hid hc8
  clear hf hc8
  go_enter Try.func27, Try.ntmps27
  go_wp2
  go_loopw [5] (fun jv wr => ∃ j : Nat, j ≤ 8 ∧ jv = .int .i64 j ∧ C3 f (inTo f j 0) w wr ∧ AllHit f j) (fun jv _ => 8 - (intOf jv).toNat)
  case atStart => exact ⟨0, by omega, rfl, HS.out.ext (fun r _ => by unfold inTo; split; omega; split <;> rfl), fun r h => by omega⟩
  case round =>
    obtain ⟨j, hj, rfl, hM, hH⟩ := hrel
    have HM := hid hM
    have HH := hid hH
    clear hM hH
    by_cases hlt : j < 8
    · obtain ⟨wo, rfl⟩ : ∃ wo : World, wo = wr := ⟨_, rfl⟩
      have hj8 : (j : Int) < 8 := by omega
      obtain ⟨p, hp⟩ : ∃ p, 2 ^ j = p := ⟨_, rfl⟩
      have h2 := sh8 hlt
      rw [hp] at h2
      have HP := hid hp
      clear hp
      go_wp2
      go_loopw [6, 7] (fun b xv wr => ∃ n : Nat, n ≤ 256 ∧ xv = .int .i64 n ∧ b = .bool (hits f p n) ∧ C3 f (inTo f j n) w wr) (fun _ xv _ => 256 - (intOf xv).toNat)
      case atStart => exact ⟨0, by omega, rfl, rfl, HM.out⟩
      case round =>
        obtain ⟨n, hn, rfl, rfl, hM⟩ := hrel
        have HK := hid hM
        clear hM
        by_cases hltn : n < 256
        · obtain ⟨y, hy⟩ : ∃ y, ap f n = y := ⟨_, rfl⟩
          have HA : Hid (∀ w, Calls Try.prog 19 #[.agg (ba 8 f), .int .u8 (n : Int)] w fun e w' => e = .returned (.int .u8 (y : Int)) ∧ Below w.heap.size w w') := hid (fun w => by
            have := refapply_any f n w HF.out hltn; rw [hy] at this; exact this)
          have HHN := hid (show hits f p (n + 1) = if y = p then true else hits f p n by rw [← hy]; rfl)
          have HY := hid hy
          clear hy
          obtain ⟨b, hb⟩ : ∃ b, hits f p n = b := ⟨_, rfl⟩
          rw [hb] at HHN ⊢
          clear hb
          by_cases hyp : y = p
          · have he := eqT hyp
            rw [if_pos hyp] at HHN
            have HX := hid (fun r => inTo_hit (j := j) (show ap f n = 2 ^ j by rw [HY.out, HP.out, hyp]) r)
            clear hyp
            go_wp2_with (first
              | (refine step_load_ba rfl 25 _ rfl w.heap.size 8 25 5 f rfl HK.out.src Try.underlying25 info23 ?_)
              | (go_at_call 19; (with_reducible refine (HA.out _).mono ?_); rintro e w1 ⟨rfl, hlow1⟩; have HK1 := hid (HK.out.on hlow1); have c1 := HK1.out.var.cell hlt; have f1 := HK1.out.var.free j; clear hlow1))
            go_roundw
            case rel => exact ⟨n + 1, by omega, by go_num, by rw [HHN.out], (HK1.out.set j n).ext (fun r _ => HX.out r)⟩
            case measure => simp [intOf]; omega
          · have he := eqF hyp
            rw [if_neg hyp] at HHN
            have HX := hid (fun r => inTo_miss (j := j) (show ap f n ≠ 2 ^ j by rw [HY.out, HP.out]; exact hyp) r)
            clear hyp
            go_wp2_with (first
              | (refine step_load_ba rfl 25 _ rfl w.heap.size 8 25 5 f rfl HK.out.src Try.underlying25 info23 ?_)
              | (go_at_call 19; (with_reducible refine (HA.out _).mono ?_); rintro e w1 ⟨rfl, hlow1⟩; have HK1 := hid (HK.out.on hlow1); clear hlow1))
            go_roundw
            case rel => exact ⟨n + 1, by omega, by go_num, by rw [HHN.out], HK1.out.ext (fun r _ => HX.out r)⟩
            case measure => simp [intOf]; omega
        · have hn256 : n = 256 := by omega
          obtain ⟨b, hb⟩ : ∃ b, hits f p n = b := ⟨_, rfl⟩
          rw [hb]
          rw [hn256] at hb
          rw [hn256] at HK
          rw [← HP.out] at hb
          clear hn256
          have HK1 := hid (HK.out.ext (fun r _ => inTo_next f j r))
          clear HK
          cases b
          · obtain ⟨e1, e2⟩ := HZ.out j hlt hb
            subst e1 e2
            clear hb
            go_wp2_with (first
              | (refine step_store_ba rfl 25 _ _ rfl (w.heap.size + 1) 8 25 (fun _ => 0) (fun _ => 0) rfl rfl HK1.out.out info23 ?_))
            exact ret_ba_tmp rfl rfl Try.underlying25 info23 rfl (HK1.out.out.row (fun _ => 0)) ⟨rfl, below_setRow HK1.out.low (by omega) _⟩
          · have HB := hid hb
            clear hb
            go_wp2
            go_roundw
            case rel => exact ⟨j + 1, by omega, by go_num, HK1.out, fun r hr => by
              by_cases e : r = j
              · subst e; exact HB.out
              · exact HH.out r (by omega)⟩
            case measure => simp [intOf]; omega
    · obtain rfl : j = 8 := by omega
      obtain ⟨e1, e2⟩ := HO.out HH.out
      have HE := hid e1
      subst e2
      clear e1
      rw [HC8.out] at HM
      go_wp2_with (first
        | (refine step_load_ba rfl 24 _ rfl (w.heap.size + 2) 8 24 5 c8 rfl HM.out.var Try.underlying24 info22 ?_)
        | (go_at_call 26; refine (refcolumns_any c8 _ HBY.out).mono ?_; rintro e w1 ⟨rfl, hlow1⟩; have HB := hid (HM.out.on hlow1); clear hlow1)
        | (refine step_store_ba rfl 25 _ _ rfl (w.heap.size + 1) 8 25 (fun _ => 0) (flip c8) rfl rfl HB.out.out info23 ?_))
      refine ret_ba_tmp rfl rfl Try.underlying25 info23 rfl (HB.out.out.row _) ⟨?_, below_setRow HB.out.low (by omega) _⟩
      rw [HE.out]; rfl
end Go.Proofs.Ytfomgomdhejfbaa
