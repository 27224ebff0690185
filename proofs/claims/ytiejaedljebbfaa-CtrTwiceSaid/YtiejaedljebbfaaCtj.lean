import Derived.Test.YtiejaedljebbfaaProg
import Derived.Test.YtiejaedljebbfaaCti
/- CtrTells, a begin and a number that may be. -/
namespace Go.Proofs.Ytiejaedljebbfaa
open Go.RowKit
set_option maxRecDepth 100000

section
variable {α : Type} {a b c d e f g x : α} {l : List α}
theorem m0 : x ∈ x :: l := .head _
theorem m1 : x ∈ a :: x :: l := .tail _ (.head _)
theorem m2 : x ∈ a :: b :: x :: l := .tail _ m1
theorem m3 : x ∈ a :: b :: c :: x :: l := .tail _ m2
theorem m4 : x ∈ a :: b :: c :: d :: x :: l := .tail _ m3
theorem m5 : x ∈ a :: b :: c :: d :: e :: x :: l := .tail _ m4
theorem m6 : x ∈ a :: b :: c :: d :: e :: f :: x :: l := .tail _ m5
theorem m7 : x ∈ a :: b :: c :: d :: e :: f :: g :: x :: l := .tail _ m6
end
/-- A law's world, behind New. -/
structure Lw (b : Nat) (w wr : World) : Prop where
  low : Below w.heap.size w wr
  le : w.heap.size ≤ b
  lt : b < wr.heap.size
theorem Lw.later {b : Nat} {w wr w' : World} (h : Lw b w wr) (o : Only b wr w') : Lw b w w' := ⟨h.low.trans (o.below h.le h.low.size), h.le, Nat.lt_of_lt_of_le h.lt o.size⟩
theorem Lw.self {b : Nat} {w wr w' : World} (h : Lw b w wr) (hb : Below wr.heap.size wr w') : Lw b w w' := h.later (Only.of_below hb)

theorem ckr_16 {q : Bool} (h : q = false) : ckr 16 q = 0 := by subst h; rfl
theorem outs_ok {n : Nat} (h : n ≤ 65536) : outs (n : Int) = false := by unfold outs; rw [decide_eq_false (by omega), decide_eq_false (by omega)]; rfl
theorem refstream_kept (b g off c R R1 n : Nat) (kv : Value) (Y : Nat → Nat → Nat) (f : Nat → Nat) (wk w : World) (hn : n ≤ 65536) (hk : Ky wk kv R R1 Y) (hb : Below wk.heap.size wk w) (hlt : b < w.heap.size) (hf : B16 f) (hv : Rd .u8 w (.slice (some ⟨g, off, none⟩) 16 c) (ns 16 f)) :
    Calls Try.prog 15 #[kv, .slice (some ⟨g, off, none⟩) 16 c, .int .i64 n] w fun e w' => ∃ g' c', e = .returned (.slice (some ⟨g', 0, none⟩) n c') ∧ Kept b w' (.slice (some ⟨g', 0, none⟩) n c') (ns n (strF Y R f)) ∧ Below w.heap.size w w' := by
  refine (refstream_any kv _ R R1 n Y f w hk.num.1 hk.num.2.1 hk.num.2.2 (by omega) hf hk.yb hv (fun w' h => hk.exp w' (hb.trans (h.mono hb.size)))).mono ?_
  rintro e w' ⟨g', c', rfl, hg, _, hw, hl⟩
  exact ⟨g', c', rfl, kept_wd hw (by omega) hn, hl⟩
theorem refxor_kept (b M : Nat) (v v' : Value) (x y : Nat → Nat) (w : World) (hM : M ≤ 65536) (hlt : b < w.heap.size) (h : Rd .u8 w v (ns M x)) (h' : Rd .u8 w v' (ns M y)) (hx : ∀ j, j < M → x j < 256) (hy : ∀ j, j < M → y j < 256) :
    Calls Try.prog 14 #[v, v'] w fun e w' => ∃ u, e = .returned u ∧ Kept b w' u (ns M (xorF x y)) ∧ Below w.heap.size w w' := by
  refine (refxor_ns v v' M x y w h h' hx hy).mono ?_
  rintro e w' ⟨u, rfl, hown, hl⟩
  exact ⟨u, rfl, kept_own hown hlt hM (fun j hj => xorF_b (hx j hj) (hy j hj)), hl⟩
theorem reflater_kept (b k : Nat) (v : Value) (f : Nat → Nat) (w : World) (hk : k < 9223372036854775808) (hlt : b < w.heap.size) (h : Rd .u8 w v (ns 16 f)) (hf : B16 f) :
    Calls Try.prog 16 #[v, .int .i64 k] w fun e w' => ∃ g c, e = .returned (.slice (some ⟨g, 0, none⟩) 16 c) ∧ Kept b w' (.slice (some ⟨g, 0, none⟩) 16 c) (ns 16 (lat f k)) ∧ Below w.heap.size w w' := by
  refine (reflater_any v f k w hk h hf).mono ?_
  rintro e w' ⟨g, c, rfl, hown, hl⟩
  exact ⟨g, c, rfl, kept_own hown hlt (by decide) (lat_b f k), hl⟩

set_option maxHeartbeats 12800000 in
theorem tells_ok (kb ko kc L R R1 bb bo bc dc M n : Nat) (da : Option Addr) (Y : Nat → Nat → Nat) (f δ : Nat → Nat) (w : World) (hr : rnd (L : Int) = R) (hk : Ky w (.slice (some ⟨kb, ko, none⟩) L kc) R R1 Y) (hB : Wd w 16 bb bo f) (hD : Rd .u8 w (.slice da M dc) (ns M δ)) (hδ : ∀ j, j < M → δ j < 256)
    (hM : M ≤ 2000) (hn : n ≤ 2000) :
    Calls Try.prog 3 #[.slice (some ⟨kb, ko, none⟩) L kc, .slice (some ⟨bb, bo, none⟩) 16 bc, .slice da M dc, .int .i64 n] w fun e w' => e = .returned (.bool true) ∧ Below w.heap.size w w' := by
  have HRD := hid (fun w => by have := refrounds_any (L : Int) w; rw [hr] at this; exact this)
  have r0 : ((R : Int) == 0) = false := by have := hk.num.2.1; rw [beq_eq_false_iff_ne]; omega
  have HN := hid (hk.new w (Below.refl _ _))
  unfold NewD at HN
  have HKY := hid hk
  have HB := hid hB
  have HDR := hid hD
  have HB16 : Hid (B16 f) := hid hB.byte
  have HD := hid hδ
  have HM := hid (And.intro hM hn)
  have HC1 := hid (fun w => by have := check_any (some ⟨bb, bo, none⟩) 16 bc n w; rw [ckr_16 (outs_ok (by omega))] at this; exact this)
  have HC2 := hid (fun w => by have := check_any (some ⟨bb, bo, none⟩) 16 bc M w; rw [ckr_16 (outs_ok (by omega))] at this; exact this)
  have h1 : ¬ (M : Int) > 2000 := by omega
  have h2 : ¬ (n : Int) > 2000 := by omega
  have h3 : ¬ (n : Int) < 0 := by omega
  clear hr hk hB hD hδ hM hn
  go_enter Try.func3, Try.ntmps3
  go_wp2_with (first
    | (go_at_call 6; (with_reducible refine (HRD.out _).mono ?_); rintro e w ⟨rfl, rfl⟩)
    | (go_at_call 8; (with_reducible refine HN.out.mono ?_); rintro e w1 ⟨d, b, c, cap, rfl, hci, hb, hlow⟩
       have HL1 : Hid (Lw b w w1) := hid ⟨hlow, hb, hci.box.lt⟩
       have HG1 : Hid (Gv w1 d b c cap R R1 bb bo bc Y f) := hid ⟨HKY.out.num, hci, HB.out.self hlow, by have := HB.out.lt; omega⟩
       have HK1 : Hid (KL b w1 [(.slice da M dc, ns M δ), (.slice (some ⟨bb, bo, none⟩) 16 bc, ns 16 f)]) := hid (((KL.nil.cons (kept_rd (HB.out.rd bc (by decide)) hb)).cons (kept_rd HDR.out hb)).later (Only.of_below hlow))
       clear hci hb hlow)
    | (go_at_call 9; (with_reducible refine (stream_any d b c cap R R1 bb bo bc n Y f w1 (by have := HM.out; omega) HG1.out).mono ?_); rintro e w2 ⟨g2, rfl, hg, hw, hci, ho⟩
       have HL2 := hid (HL1.out.later ho)
       have HG2 := hid (HG1.out.asked hci ho)
       have HK2 := hid ((HK1.out.later ho).cons (kept_wd hw (c := n) (by have := HL1.out.lt; omega) (by have := HM.out; omega)))
       clear hg hw hci ho)
    | (go_at_call 10; (with_reducible refine (cover_any (.slice da M dc) d b c cap R R1 bb bo bc M Y f δ w2 (by have := HM.out; omega) (HK2.out.get m1) (HK2.out.all m1) HD.out HG2.out).mono ?_); rintro e w3 ⟨u3, rfl, hown, hci, ho⟩
       have HL3 := hid (HL2.out.later ho)
       have HG3 := hid (HG2.out.asked hci ho)
       have HK3 := hid ((HK2.out.later ho).cons (kept_own hown HL2.out.lt (by have := HM.out; omega) (fun j hj => xorF_b (HD.out j hj) (HG2.out.strb j))))
       clear hown hci ho)
    | (go_at_call 11; (with_reducible refine (at_ok bb bo bc f n w3 (by have := HM.out; omega) HG3.out.cnt).mono ?_); rintro e w4 ⟨rfl, hown, hlow⟩
       have HL4 := hid (HL3.out.self hlow)
       have HK4 := hid ((HK3.out.self hlow).cons (kept_own hown HL3.out.lt (by decide) (lat_b f n)))
       clear hown hlow)
    | (go_at_call 12; (with_reducible refine (HC1.out _).mono ?_); rintro e w4 ⟨rfl, rfl⟩)
    | (go_at_call 12; (with_reducible refine (HC2.out _).mono ?_); rintro e w4 ⟨rfl, rfl⟩)
    | (go_at_call 15; (with_reducible refine (refstream_kept b bb bo bc R R1 M (.slice (some ⟨kb, ko, none⟩) L kc) Y f w w4 (by have := HM.out; omega) HKY.out HL4.out.low HL4.out.lt HB16.out (HK4.out.get m4)).mono ?_); rintro e w5 ⟨g5, c5, rfl, hk5, hlow⟩
       have HL5 := hid (HL4.out.self hlow)
       have HK5 := hid ((HK4.out.self hlow).cons hk5)
       clear hk5 hlow)
    | (go_at_call 14; (with_reducible refine (refxor_kept b M _ _ δ (strF Y R f) w5 (by have := HM.out; omega) HL5.out.lt (HK5.out.get m4) (HK5.out.get m0) HD.out (fun j _ => HG3.out.strb j)).mono ?_); rintro e w6 ⟨u6, rfl, hk6, hlow⟩
       have HL6 := hid (HL5.out.self hlow)
       have HK6 := hid ((HK5.out.self hlow).cons hk6)
       clear hk6 hlow)
    | (go_at_call 13; (with_reducible refine (same_ns u3 u6 _ _ w6 (HK6.out.get m3) (HK6.out.get m0) rfl).mono ?_); rintro e w6 ⟨rfl, rfl⟩)
    | (go_at_call 15; (with_reducible refine (refstream_kept b bb bo bc R R1 n (.slice (some ⟨kb, ko, none⟩) L kc) Y f w w6 (by have := HM.out; omega) HKY.out HL6.out.low HL6.out.lt HB16.out (HK6.out.get m6)).mono ?_); rintro e w7 ⟨g7, c7, rfl, hk7, hlow⟩
       have HL7 := hid (HL6.out.self hlow)
       have HK7 := hid ((HK6.out.self hlow).cons hk7)
       clear hk7 hlow)
    | (go_at_call 13; (with_reducible refine (same_ns (.slice (some ⟨g2, 0, none⟩) n n) (.slice (some ⟨g7, 0, none⟩) n c7) _ _ w7 (HK7.out.get m5) (HK7.out.get m0) rfl).mono ?_); rintro e w7 ⟨rfl, rfl⟩)
    | (go_at_call 16; (with_reducible refine (reflater_kept b n (.slice (some ⟨bb, bo, none⟩) 16 bc) f w7 (by have := HM.out; omega) HL7.out.lt (HK7.out.get m7) HB16.out).mono ?_); rintro e w8 ⟨g8, c8, rfl, hk8, hlow⟩
       have HL8 := hid (HL7.out.self hlow)
       have HK8 := hid ((HK7.out.self hlow).cons hk8)
       clear hk8 hlow)
    | (go_at_call 13; (with_reducible refine (same_ns (.slice (some ⟨w3.heap.size, 0, none⟩) 16 16) (.slice (some ⟨g8, 0, none⟩) 16 c8) _ _ w8 (HK8.out.get m4) (HK8.out.get m0) rfl).mono ?_); rintro e w8 ⟨rfl, rfl⟩)
    | (go_at_call 7; (with_reducible refine (ctrAwake_any w8).mono ?_); rintro e w9 ⟨rfl, hlow⟩
       have HL9 := hid (HL8.out.self hlow)
       clear hlow))
  go_ret
  exact ⟨rfl, HL9.out.low⟩
end Go.Proofs.Ytiejaedljebbfaa
