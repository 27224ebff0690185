import Derived.Test.YtnklljlgghenpaaProg
import Derived.Test.YtnklljlgghenpaaKyd
namespace Go.Proofs.Ytnklljlgghenpaa
open Go.RowKit

theorem upd_const (c m : Nat) : upd (fun _ => c) m c = fun _ => c := by
  funext i
  unfold upd
  split <;> rfl

/-- The words so far. -/
structure WInv (w wr : World) (b c cap K n : Nat) (gs os : Nat → Nat) (k : Nat → Nat) : Prop where
  list : LW wr w.heap.size 22 c (K + n) cap 4 gs os (fun _ => 4) (exps K k n)
  box : Box wr b
  low : Below w.heap.size w wr
  new : w.heap.size ≤ b
  apart : c ≠ b
  each : ∀ i, i < K + n → gs i ≠ b
/-- Behind made, sum and the new row's own block. -/
theorem WInv.cellA {w wr : World} {b c cap K n : Nat} {gs os : Nat → Nat} {k : Nat → Nat} (h : WInv w wr b c cap K n gs os k) (hK : 0 < K) :
    wr.cell? ⟨c, K + n - 1, none⟩ = some (.slice (some ⟨gs (K + n - 1), os (K + n - 1), none⟩) 4 4) := h.list.cell (by omega)
theorem WInv.cellP {w wr : World} {b c cap K n : Nat} {gs os : Nat → Nat} {k : Nat → Nat} (h : WInv w wr b c cap K n gs os k) (hK : 0 < K) :
    wr.cell? ⟨c, n, none⟩ = some (.slice (some ⟨gs n, os n, none⟩) 4 4) := h.list.cell (by omega)
theorem WInv.next {w wr w' : World} {b c cap K n c' cap' g : Nat} {gs os : Nat → Nat} {k : Nat → Nat} (h : WInv w wr b c cap K n gs os k)
    (hl : LW w' w.heap.size 22 c' (K + n + 1) cap' 4 (upd gs (K + n) g) (upd os (K + n) 0) (upd (fun _ => 4) (K + n) 4) (updR (exps K k n) (K + n) fun j => exps K k n n j ^^^ mkw K (K + n) (exps K k n (K + n - 1)) j))
    (hb : Box w' b) (hlow : Below w.heap.size w w') (hg : g ≠ b) (hc : c' ≠ b) : WInv w w' b c' cap' K (n + 1) (upd gs (K + n) g) (upd os (K + n) 0) k := by
  refine ⟨by rw [upd_const] at hl; exact hl, hb, hlow, h.new, hc, fun i hi => ?_⟩
  unfold upd
  split
  · exact hg
  · exact h.each i (by omega)

theorem Box.same {w w' : World} {b : Nat} (h : Box w b) (e : w'.heap[b]? = w.heap[b]?) : Box w' b := by
  obtain ⟨s, p, h | h⟩ := h
  · exact ⟨s, p, .inl (e.trans h)⟩
  · exact ⟨s, p, .inr (e.trans h)⟩
theorem cell_only {w w' : World} {b c j : Nat} {v : Value} (h : w.cell? ⟨c, j, none⟩ = some v) (o : Only b w.drew w') (hn : c ≠ b) (hc : c < w.heap.size) : w'.cell? ⟨c, j, none⟩ = some v :=
  (World.cell?_of_block (w := w.drew) (o.block c hc hn)).trans h
theorem cell_self {w w' : World} {a : Addr} {v : Value} (h : w.cell? a = some v) (hb : Below w.heap.size w w') : w'.cell? a = some v :=
  (hb.cell (World.block_lt_of_cell? w _ h)).trans h
section
variable {w wr w1 : World} {b c cap K n : Nat} {gs os : Nat → Nat} {k : Nat → Nat}
theorem WInv.drew (h : WInv w wr b c cap K n gs os k) : WInv w wr.drew b c cap K n gs os k := ⟨h.list.drew, h.box, h.low.drew, h.new, h.apart, h.each⟩
theorem WInv.on (h : WInv w wr b c cap K n gs os k) (hb : Box w1 b) (ho : Only b wr w1) : WInv w w1 b c cap K n gs os k :=
  ⟨h.list.only ho h.apart h.each, hb, h.low.trans (ho.below h.new h.low.size), h.new, h.apart, h.each⟩
theorem WInv.self (h : WInv w wr b c cap K n gs os k) (hb : Below wr.heap.size wr w1) : WInv w w1 b c cap K n gs os k :=
  ⟨h.list.self hb, h.box.self hb, h.low.trans (hb.mono h.low.size), h.new, h.apart, h.each⟩
theorem WInv.alloc (h : WInv w wr b c cap K n gs os k) (o : Obj) : WInv w (wr.alloc o) b c cap K n gs os k := h.self ((Below.refl _ _).alloc (Nat.le_refl _) _)
theorem WInv.fresh (h : WInv w wr b c cap K n gs os k) : wr.heap.size ≠ c ∧ wr.heap.size ≠ b := ⟨Nat.ne_of_gt h.list.lt, Nat.ne_of_gt h.box.lt⟩
theorem WInv.lists (h : WInv w wr b c cap K n gs os k) {i : Nat} (e : K + n = i) : LW wr w.heap.size 22 c i cap 4 gs os (fun _ => 4) (exps K k n) := e ▸ h.list
theorem WInv.grew (h : WInv w wr b c cap K n gs os k) {c' cap' g : Nat} (hn : g ≠ b)
    (hl : LW w1 w.heap.size 22 c' (K + n + 1) cap' 4 (upd gs (K + n) g) (upd os (K + n) 0) (upd (fun _ => 4) (K + n) 4) (updR (exps K k n) (K + n) fun j => exps K k n n j ^^^ mkw K (K + n) (exps K k n (K + n - 1)) j))
    (hgr : wr.grownBy w1 (some c)) (hc : c' = c ∨ c' = wr.heap.size) : WInv w w1 b c' cap' K (n + 1) (upd gs (K + n) g) (upd os (K + n) 0) k :=
  h.next hl (h.box.same (hgr.block b h.box.lt (by have := h.apart; simp; omega))) (h.low.grown hgr h.low.size (fun j hj => by injection hj with hj; subst hj; exact h.list.form.1)) hn
    (by have := h.apart; have := h.box.lt; rcases hc with rfl | rfl <;> omega)
theorem WInv.grew2 (h : WInv w wr b c cap K n gs os k) {i c' cap' g : Nat} {f : Nat → Nat} (e : K + n = i) (hf : f = fun j => exps K k n n j ^^^ mkw K (K + n) (exps K k n (K + n - 1)) j) (hn : g ≠ b)
    (hl : LW w1 w.heap.size 22 c' (i + 1) cap' 4 (upd gs i g) (upd os i 0) (upd (fun _ => 4) i 4) (updR (exps K k n) i f))
    (hgr : wr.grownBy w1 (some c)) (hc : c' = c ∨ c' = wr.heap.size) : WInv w w1 b c' cap' K (n + 1) (upd gs i g) (upd os i 0) k := by
  subst e; subst hf; exact h.grew hn hl hgr hc
end

set_option maxRecDepth 100000 in
set_option maxHeartbeats 3200000 in
theorem words_any (kb ko kc K N : Nat) (k : Nat → Nat) (w : World) (hK : 4 ≤ K) (hK8 : K ≤ 8) (hN : N ≤ 900) (hc : 4 * K ≤ kc) (hkc : kc ≤ maxLen) (_hk : ∀ x, k x < 256) (hA : Wd w (4 * K) kb ko k) :
    Calls Try.prog 15 #[.slice (some ⟨kb, ko, none⟩) (4 * K) kc, .int .i64 ((K + N : Nat) : Int)] w fun e w' =>
      ∃ c cap gs os, e = .returned (.slice (some ⟨c, 0, none⟩) (K + N) cap) ∧ LW w' w.heap.size 22 c (K + N) cap 4 gs os (fun _ => 4) (exps K k N) ∧ Below w.heap.size w w' := by
  have HC := hid (cut_any kb ko kc K k w hK hK8 hc hkc hA)
  have HBX := hid box_made
  have hkb := hA.lt
  clear hA
  go_enter Try.func15, Try.ntmps15
  go_wp2_with (first
    | (go_at_call 21; (with_reducible refine (HC.out).mono ?_); rintro e w1 ⟨c0, cap0, rfl, hl1, hlow1⟩; have HL1 := hid hl1; have HLow1 := hid hlow1; clear hl1 hlow1)
    | (go_at_call 22; (with_reducible refine (HBX.out _).mono ?_); rintro e w2 ⟨b, rfl, hb, hbox, hlow2⟩; have HLow2 := hid hlow2; have HB2 := hid hb; have HBX2 : Hid (Box w2 b) := hid (by obtain ⟨p, hp⟩ := hbox; exact ⟨0, p, .inl hp⟩); clear hb hbox hlow2))
  have HS : Hid (WInv w w2 b c0 cap0 K 0 (fun _ => kb) (fun i => ko + 4 * i) k) := hid ⟨HL1.out.self HLow2.out, HBX2.out, HLow1.out.trans (HLow2.out.mono HLow1.out.size), Nat.le_trans HLow1.out.size HB2.out, by have := HL1.out.lt; have := HB2.out; omega, fun i _ => by have := HB2.out; have := HLow1.out.size; omega⟩
  clear HL1 HLow1 HLow2 HB2 HBX2 HC HBX
  go_loopw [5, 8] (fun v i wr => ∃ n c cap gs os, n ≤ N ∧ i = .int .i64 (K + n : Nat) ∧ v = .slice (some ⟨c, 0, none⟩) (K + n) cap ∧ WInv w wr b c cap K n gs os k) (fun _ i _ => K + N - (intOf i).toNat)
  case atStart => exact ⟨0, c0, cap0, _, _, by omega, rfl, rfl, HS.out⟩
  case round =>
    obtain ⟨n, c, cap, gs, os, hn, rfl, rfl, hI⟩ := hrel
    have HI := hid hI
    clear hI
    by_cases hlt : n < N
    · have hcP := hid (HI.out.cellP (by omega))
      have hcA := hid (HI.out.cellA (by omega))
      have HX := hid (HI.out)
      obtain ⟨i, hi⟩ : ∃ i, K + n = i := ⟨_, rfl⟩
      obtain ⟨p, hp⟩ : ∃ p, K + n - 1 = p := ⟨_, rfl⟩
      rw [hp] at hcA
      rw [hi]
      obtain ⟨ga, hga⟩ : ∃ x, gs p = x := ⟨_, rfl⟩
      obtain ⟨oa, hoa⟩ : ∃ x, os p = x := ⟨_, rfl⟩
      obtain ⟨gp, hgp⟩ : ∃ x, gs n = x := ⟨_, rfl⟩
      obtain ⟨op, hop⟩ : ∃ x, os n = x := ⟨_, rfl⟩
      rw [hga, hoa] at hcA
      rw [hgp, hop] at hcP
      have e1 : (i : Int) - (K : Int) = (n : Int) := by omega
      have e2 : (i : Int) - 1 = (p : Int) := by omega
      have wn : IntKind.i64.wrap (n : Int) = n := by rw [IntKind.wrap_i64]; omega
      have wp : IntKind.i64.wrap (p : Int) = p := by rw [IntKind.wrap_i64]; omega
      have b1 : (0 : Int) ≤ (n : Int) := by omega
      have b2 : (n : Int) < (i : Int) := by omega
      have b3 : (0 : Int) ≤ (p : Int) := by omega
      have b4 : (p : Int) < (i : Int) := by omega
      have b5 : (i : Int) < ((K + N : Nat) : Int) := by omega
      have HA0 := hid (HX.out.list.each p (by omega))
      have HP0 := hid (HX.out.list.each n (by omega))
      have hga' := HX.out.each p (by omega)
      rw [hga] at hga'
      have HM : Hid (Calls Try.prog 24 #[.pointer (some ⟨b, 0, none⟩), .slice (some ⟨ga, oa, none⟩) 4 4, .int .i64 (i : Int), .int .i64 (K : Int)] wr.drew fun e w' => MadeP b K i (exps K k n p) wr.drew e w') :=
        hid (made_any b ga oa i K (exps K k n p) wr.drew HX.out.box.drew (by have := HA0.out.drew; rw [hga, hoa] at this; exact this) hga' hK hK8 (by omega) (by omega))
      have hfx : (fun j => exps K k n n j ^^^ mkw K i (exps K k n p) j) = fun j => exps K k n n j ^^^ mkw K (K + n) (exps K k n (K + n - 1)) j := by rw [hp, hi]
      have HFX := hid hfx
      have HI_ := hid hi
      have Hgp := hid hgp
      have Hop := hid hop
      have Hga := hid hga
      have Hoa := hid hoa
      have HNI := hid (show n < K + n by omega)
      have HP1 : Hid (∀ {w : World}, Wd w 4 (gs n) (os n) (exps K k n n) → Wd w 4 gp op (exps K k n n)) := hid (fun h => by rw [hgp, hop] at h; exact h)
      clear hfx hga hoa hgp hop hga' hi hp HI
      go_wp2
      go_region_held3 (fun w' => w'.cell? ⟨c, n, none⟩ = some (.slice (some ⟨gp, op, none⟩) 4 4) ∧ w'.cell? ⟨c, p, none⟩ = some (.slice (some ⟨ga, oa, none⟩) 4 4))
        (first | with_reducible assumption | exact ⟨hcP.out, hcA.out⟩ | exact HC1.out | exact HC2.out | exact HC3.out | exact HC4.out)
        (first
          | (go_at_call 24; (with_reducible refine (HM.out).mono ?_); rintro e w1 ⟨g1, o1, c1, rfl, hg1, hw1, hb1, ho1⟩; have HW1 := hid hw1; have HX1 := hid (HX.out.drew.on hb1 ho1); have HC1 : Hid (w1.cell? ⟨c, n, none⟩ = some (.slice (some ⟨gp, op, none⟩) 4 4) ∧ w1.cell? ⟨c, p, none⟩ = some (.slice (some ⟨ga, oa, none⟩) 4 4)) := hid ⟨(cell_only hcP.out ho1 HX.out.apart HX.out.list.lt), (cell_only hcA.out ho1 HX.out.apart HX.out.list.lt)⟩; clear hg1 hw1 hb1 ho1)
          | (go_at_call 23; (with_reducible refine (sum_any gp op 4 g1 o1 c1 (exps K k n n) _ w1 (HP1.out (HX1.out.list.each n HNI.out)) HW1.out).mono ?_); rintro e w2 ⟨rfl, hw2, hl2⟩; have HG2 := hid (HX1.out.fresh); have HW2 := hid hw2; have HX2 := hid (HX1.out.self hl2); have HC2 : Hid (w2.cell? ⟨c, n, none⟩ = some (.slice (some ⟨gp, op, none⟩) 4 4) ∧ w2.cell? ⟨c, p, none⟩ = some (.slice (some ⟨ga, oa, none⟩) 4 4)) := hid ⟨cell_self HC1.out.1 hl2, cell_self HC1.out.2 hl2⟩; have HX3 := hid (HX2.out.alloc (.cells #[.slice (some ⟨w1.heap.size, 0, none⟩) 4 4] 22)); have HC3 : Hid ((w2.alloc (.cells #[.slice (some ⟨w1.heap.size, 0, none⟩) 4 4] 22)).cell? ⟨c, n, none⟩ = some (.slice (some ⟨gp, op, none⟩) 4 4) ∧ (w2.alloc (.cells #[.slice (some ⟨w1.heap.size, 0, none⟩) 4 4] 22)).cell? ⟨c, p, none⟩ = some (.slice (some ⟨ga, oa, none⟩) 4 4)) := hid ⟨cell_self HC2.out.1 ((Below.refl _ _).alloc (Nat.le_refl _) _), cell_self HC2.out.2 ((Below.refl _ _).alloc (Nat.le_refl _) _)⟩; clear hw2 hl2)
          | (refine step_append_lw rfl (.tmp 20) (.tmp 37) 25 rfl Try.underlying25 infor (HX3.out.lists HI_.out) rfl ⟨w2.heap.size, 0, none⟩ 1 rfl w1.heap.size 0 4 _ (cell_new0 w2 _ 22) (HW2.out.alloc _) HG2.out.1 (by omega) HX3.out.low.size ?_; intro c' cap' w3 hl3 hgr3 hc3 hcell3; have HC4 : Hid (w3.cell? ⟨c, n, none⟩ = some (.slice (some ⟨gp, op, none⟩) 4 4) ∧ w3.cell? ⟨c, p, none⟩ = some (.slice (some ⟨ga, oa, none⟩) 4 4)) := hid ⟨by rw [hcell3 n (by omega), Hgp.out, Hop.out], by rw [hcell3 p (by omega), Hga.out, Hoa.out]⟩; have HX4 := hid (HX3.out.grew2 HI_.out HFX.out HG2.out.2 hl3 hgr3 hc3); clear hl3 hgr3 hc3 hcell3))
      go_wp2
      go_roundw
      case rel => exact ⟨n + 1, c', cap', _, _, by omega, by rw [← Nat.add_assoc, HI_.out]; go_num, by rw [← Nat.add_assoc, HI_.out], HX4.out⟩
      case measure => have := HI_.out; simp [intOf]; omega
    · obtain rfl : n = N := by omega
      go_wp2
      go_ret
      exact ⟨c, cap, gs, os, rfl, HI.out.list, HI.out.low⟩
end Go.Proofs.Ytnklljlgghenpaa
