import Derived.Test.YteoiekooaokhaaaProg
import Derived.Test.YteoiekooaokhaaaCmq
/- CmacTells. -/
namespace Go.Proofs.Yteoiekooaokhaaa
open Go.RowKit
set_option maxRecDepth 100000

/-- What CmacTells holds, behind New: the cipher; a key that may be; the message and the tag. -/
structure Tl (b : Nat) (w wr : World) (d c cap R R1 : Nat) (Y : Nat → Nat → Nat) (kv mv : Value) (M : Nat) (δ : Nat → Nat) (tv : Value) (L : Nat) (τ : Nat → Nat) : Prop where
  lw : Lw b w wr
  gc : Gc wr d b c cap R R1 Y
  ky : Ky w kv R R1 Y
  msg : Kept b wr mv (ns M δ)
  tag : Kept b wr tv (ns L τ)
section
variable {b : Nat} {w wr w' : World} {d c cap R R1 M L : Nat} {Y : Nat → Nat → Nat} {kv mv tv : Value} {δ τ : Nat → Nat}
theorem Tl.later (h : Tl b w wr d c cap R R1 Y kv mv M δ tv L τ) (hg : Gc w' d b c cap R R1 Y) (o : Only b wr w') : Tl b w w' d c cap R R1 Y kv mv M δ tv L τ :=
  ⟨h.lw.later o, hg, h.ky, h.msg.later o, h.tag.later o⟩
theorem Tl.self (h : Tl b w wr d c cap R R1 Y kv mv M δ tv L τ) (hb : Below wr.heap.size wr w') : Tl b w w' d c cap R R1 Y kv mv M δ tv L τ := h.later (h.gc.self hb) (Only.of_below hb)
theorem Tl.kyr (h : Tl b w wr d c cap R R1 Y kv mv M δ tv L τ) : Ky wr kv R R1 Y := h.ky.later h.lw.low
end
theorem same_wd (g g' c c' : Nat) (f : Nat → Nat) (w : World) (h : Wd w 16 g 0 f) (h' : Wd w 16 g' 0 f) :
    Calls Try.prog 11 #[.slice (some ⟨g, 0, none⟩) 16 c, .slice (some ⟨g', 0, none⟩) 16 c'] w fun e w' => e = .returned (.bool true) ∧ w' = w :=
  same_ns _ _ _ _ w (h.rd c (by decide)) (h'.rd c' (by decide)) rfl

set_option maxHeartbeats 12800000 in
theorem tells_ok (kb ko kc Lk R R1 M e L tc t k : Nat) (ma ta : Option Addr) (Y : Nat → Nat → Nat) (δ τ : Nat → Nat) (w : World) (hr : rnd (Lk : Int) = R) (hk : Ky w (.slice (some ⟨kb, ko, none⟩) Lk kc) R R1 Y) (hD : Rd .u8 w (.slice ma M e) (ns M δ)) (hT : Rd .u8 w (.slice ta L tc) (ns L τ)) (hδ : ∀ j, j < M → δ j < 256) (hτ : ∀ j, j < L → τ j < 256)
    (hM : M ≤ 1000) (hMe : M ≤ e) (ht : t < 256) (hkt : t % 17 = k) :
    Calls Try.prog 3 #[.slice (some ⟨kb, ko, none⟩) Lk kc, .slice ma M e, .slice ta L tc, .int .u8 t] w fun e w' => e = .returned (.bool true) ∧ Below w.heap.size w w' := by
  have HRD := hid (fun w => by have := refrounds_any (Lk : Int) w; rw [hr] at this; exact this)
  have r0 : ((R : Int) == 0) = false := by have := hk.num.2.1; rw [beq_eq_false_iff_ne]; omega
  have HN := hid (hk.new w (Below.refl _ _))
  unfold NewD at HN
  have HKY := hid hk
  have HD := hid hD
  have HT := hid hT
  have HDB := hid hδ
  have HTB := hid hτ
  have HM := hid (And.intro hM hMe)
  have HTT := hid ht
  have h1 : ¬ (M : Int) > 1000 := by omega
  have hw1 : wrap64 (t : Int) = t := by unfold wrap64; omega
  have hw2 : IntKind.i64.wrap (t : Int) = t := by rw [IntKind.wrap_i64]; omega
  have hmod : Int.tmod (t : Int) 17 = (k : Int) := by rw [Int.tmod_eq_emod_of_nonneg (by omega)]; omega
  have hk16 : (k : Int) ≤ 16 := by omega
  have HK16 : Hid (k ≤ 16) := hid (by omega)
  have HZB : Hid (B16 (tagF Y R (fun _ => 0) M δ)) := hid (tagF_b hk.yb B16.zero hδ)
  clear hr hk hD hT hδ hτ hM hMe ht hkt
  generalize hz : tagF Y R (fun _ => 0) M δ = z at *
  have HZ := hid hz
  clear hz
  have HSQ : Hid (saysB z k z = decide (0 < (k : Int))) := hid (says_self HK16.out)
  have hcase : (¬ (k : Int) > 0 ∧ decide (0 < (k : Int)) = false) ∨ ((k : Int) > 0 ∧ decide (0 < (k : Int)) = true) := by
    by_cases h : 0 < (k : Int)
    · exact .inr ⟨h, decide_eq_true h⟩
    · exact .inl ⟨h, decide_eq_false h⟩
  generalize decide (0 < (k : Int)) = qk at *
  generalize hq : saysB z L τ = qt at *
  have HQ := hid hq
  clear hq
  rcases hcase with ⟨h7, rfl⟩ | ⟨h7, rfl⟩
  all_goals
    go_enter Try.func3, Try.ntmps3
    go_wp2_with (first
      | (go_at_call 6; (with_reducible refine (HRD.out _).mono ?_); rintro e w ⟨rfl, rfl⟩)
      | (go_at_call 8; (with_reducible refine HN.out.mono ?_); rintro q w1 ⟨d, b, c, cap, rfl, hci, hb, hlow⟩
         have HL1 : Hid (Tl b w w1 d c cap R R1 Y (.slice (some ⟨kb, ko, none⟩) Lk kc) (.slice ma M e) M δ (.slice ta L tc) L τ) :=
           hid ⟨⟨hlow, hb, hci.box.lt⟩, ⟨HKY.out.num, hci⟩, HKY.out, (kept_rd HD.out hb).later (Only.of_below hlow), (kept_rd HT.out hb).later (Only.of_below hlow)⟩
         clear hci hb hlow)
      | (go_at_call 9; (with_reducible refine (masks_any d b c cap R R1 Y w1 HL1.out.gc).mono ?_); rintro q w2 ⟨g1, c1, g2, c2, rfl, hm1, hm2, hl1, hl2, hg, ho⟩
         have HL2 := hid (HL1.out.later hg ho)
         have HM2 := hid (And.intro hm1 hm2)
         clear hm1 hm2 hl1 hl2 hg ho)
      | (go_at_call 10; (with_reducible refine (refmasks_any (.slice (some ⟨kb, ko, none⟩) Lk kc) R R1 Y w2 HL2.out.kyr).mono ?_); rintro q w3 ⟨g3, c3, g4, c4, rfl, hm1, hm2, hl1, hl2, hlow⟩
         have HL3 := hid (HL2.out.self hlow)
         have HSA := hid (same_wd g1 g3 c1 c3 (m1F Y R) w3 (HM2.out.1.self hlow) hm1)
         have HSB := hid (same_wd g2 g4 c2 c4 (m2F Y R) w3 (HM2.out.2.self hlow) hm2)
         clear hm1 hm2 hl1 hl2 hlow)
      | (go_at_call 11; (with_reducible refine HSA.out.mono ?_); rintro q w3 ⟨rfl, rfl⟩)
      | (go_at_call 11; (with_reducible refine HSB.out.mono ?_); rintro q w3 ⟨rfl, rfl⟩)
      | (go_at_call 12; (with_reducible refine (msum_any d b c cap R R1 M e Y δ ma w3 HL3.out.gc HDB.out HM.out.2 HL3.out.msg).mono ?_); rintro q w4 ⟨g5, rfl, hte⟩
         rw [HZ.out] at hte
         have HL4 := hid (HL3.out.later hte.gc hte.low)
         have HW4 := hid (Wd.of_at hte.tag HZB.out)
         have HS4 := hid (refsum_any (.slice (some ⟨kb, ko, none⟩) Lk kc) R R1 M e Y δ ma w4 HL4.out.kyr HDB.out HM.out.2 (by have := HM.out.1; omega) HL4.out.msg.rd)
         unfold SumP at HS4
         rw [HZ.out] at HS4
         clear hte)
      | (go_at_call 13; (with_reducible refine HS4.out.mono ?_); rintro q w5 ⟨g6, rfl, hw, hg, hlow⟩
         have HL5 := hid (HL4.out.self hlow)
         have HSC := hid (same_wd g5 g6 16 16 z w5 (HW4.out.self hlow) hw)
         clear hw hg hlow)
      | (go_at_call 11; (with_reducible refine HSC.out.mono ?_); rintro q w5 ⟨rfl, rfl⟩)
      | (go_at_call 14; (with_reducible refine (named_any d b c cap R R1 M e t Y δ ma w5 HL5.out.gc HTT.out HDB.out HM.out.2 (by have := HM.out.1; omega) HL5.out.msg).mono ?_); rintro q w6 ⟨g7, rfl, hte⟩
         have HL6 := hid (HL5.out.later hte.gc hte.low)
         have HW6 := hid (Wd.of_at hte.tag (tagF_b HL6.out.gc.yb B16.zero (thenF_b (N := 16) (L := M) (nmF_b HTT.out) HDB.out)))
         have HS6 := hid (refnamed_any (.slice (some ⟨kb, ko, none⟩) Lk kc) R R1 M e t Y δ ma w6 HL6.out.kyr HTT.out HDB.out (by have := HM.out.1; omega) HL6.out.msg.rd)
         unfold SumP at HS6
         clear hte)
      | (go_at_call 15; (with_reducible refine HS6.out.mono ?_); rintro q w7 ⟨g8, rfl, hw, hg, hlow⟩
         have HL7 := hid (HL6.out.self hlow)
         have HSD := hid (same_wd g7 g8 16 16 _ w7 (HW6.out.self hlow) hw)
         have HS7 := hid (refsum_any (.slice (some ⟨kb, ko, none⟩) Lk kc) R R1 M e Y δ ma w7 HL7.out.kyr HDB.out HM.out.2 (by have := HM.out.1; omega) HL7.out.msg.rd)
         unfold SumP at HS7
         rw [HZ.out] at HS7
         clear hw hg hlow)
      | (go_at_call 11; (with_reducible refine HSD.out.mono ?_); rintro q w7 ⟨rfl, rfl⟩)
      | (go_at_call 13; (with_reducible refine HS7.out.mono ?_); rintro q w8 ⟨g9, rfl, hw, hg, hlow⟩
         have HL8 := hid (HL7.out.self hlow)
         have HK8 : Hid (Kept b w8 (.slice (some ⟨g9, 0, none⟩) 16 16) (ns 16 z)) := hid (kept_wd hw (by have := HL7.out.gc.lt; omega) (by decide))
         have HY8 := hid (says_any d b c cap R R1 M e L tc Y δ τ ma ta w8 HL8.out.gc HDB.out HM.out.2 HL8.out.msg HTB.out HL8.out.tag)
         rw [HZ.out, HQ.out] at HY8
         clear hw hg hlow)
      | (go_at_call 16; (with_reducible refine HY8.out.mono ?_); rintro q w9 ⟨rfl, hg, ho⟩
         have HL9 := hid (HL8.out.later hg ho)
         have HK9 := hid (HK8.out.later ho)
         have HB9 := hid (begins_any g9 16 L tc z τ ta w9 HK9.out.rd HL9.out.tag.rd (Nat.le_refl _))
         rw [HQ.out] at HB9
         have HY9 := hid (says_any d b c cap R R1 M e k 16 Y δ z ma _ w9 HL9.out.gc HDB.out HM.out.2 HL9.out.msg (fun j hj => HZB.out j (by have := HK16.out; omega)) (kept_prefix HK9.out HK16.out))
         rw [HZ.out, HSQ.out] at HY9
         clear hg ho)
      | (go_at_call 17; (with_reducible refine HB9.out.mono ?_); rintro q w9 ⟨rfl, rfl⟩)
      | (go_at_call 16; (with_reducible refine HY9.out.mono ?_); rintro q w10 ⟨rfl, hg, ho⟩
         have HL10 := hid (HL9.out.later hg ho)
         clear hg ho)
      | (go_at_call 7; (with_reducible refine (cawake_any w10).mono ?_); rintro q w11 ⟨rfl, hlow⟩
         have HL11 := hid (HL10.out.lw.self hlow)
         clear hlow))
    go_ret
    exact ⟨rfl, HL11.out.low⟩

set_option maxHeartbeats 1600000 in
theorem tells_awake (Lk kc M e t : Nat) (ka ma : Option Addr) (tv : Value) (w : World) (h : rnd (Lk : Int) = 0 ∨ M > 1000) :
    Calls Try.prog 3 #[.slice ka Lk kc, .slice ma M e, tv, .int .u8 t] w fun e w' => e = .returned (.bool true) ∧ Below w.heap.size w w' := by
  have HRD := hid (fun w => refrounds_any (Lk : Int) w)
  generalize rnd (Lk : Int) = x at *
  by_cases h0 : x = 0
  · subst h0
    clear h
    go_enter Try.func3, Try.ntmps3
    go_wp2_with (first
      | (go_at_call 6; (with_reducible refine (HRD.out _).mono ?_); rintro e w ⟨rfl, rfl⟩)
      | (go_at_call 7; (with_reducible refine (cawake_any w).mono ?_); rintro e w9 ⟨rfl, hlow⟩; have HL9 := hid hlow; clear hlow))
    go_ret
    exact ⟨rfl, HL9.out⟩
  · have r0 : ((x : Int) == 0) = false := by rw [beq_eq_false_iff_ne]; omega
    have h1' : (M : Int) > 1000 := by omega
    clear h0 h
    go_enter Try.func3, Try.ntmps3
    go_wp2_with (first
      | (go_at_call 6; (with_reducible refine (HRD.out _).mono ?_); rintro e w ⟨rfl, rfl⟩)
      | (go_at_call 7; (with_reducible refine (cawake_any w).mono ?_); rintro e w9 ⟨rfl, hlow⟩; have HL9 := hid hlow; clear hlow))
    go_ret
    exact ⟨rfl, HL9.out⟩

theorem ctells_core (kv mv tv : Value) (ks ms ts : List Int) (t : Nat) (w : World) (hk : Rd .u8 w kv ks) (hm : Rd .u8 w mv ms) (ht : Rd .u8 w tv ts) (hcap : ∀ a n c, kv = .slice a n c → n ≤ c ∧ c ≤ maxLen) (hmcap : ∀ a n c, mv = .slice a n c → n ≤ c ∧ c ≤ maxLen) (h256 : t < 256) :
    Calls Try.prog 3 #[kv, mv, tv, .int .u8 t] w fun e w' => e = .returned (.bool true) ∧ Below w.heap.size w w' := by
  by_cases ha : rnd (ks.length : Int) = 0 ∨ ms.length > 1000
  · obtain ⟨ka, kc, rfl, -⟩ := hk
    obtain ⟨ma, mc, rfl, -⟩ := hm
    exact tells_awake _ kc _ mc t ka ma tv w ha
  · obtain ⟨kb, ko, kc, R, R1, Y, rfl, hr, hky⟩ := ky_any kv ks w hk hcap (by omega)
    have hmn := ns_of hm
    have hmb : ∀ j, j < ms.length → (fun j => (nth ms j).toNat) j < 256 := fun j _ => nth_lt hm j
    have htn := ns_of ht
    have htb : ∀ j, j < ts.length → (fun j => (nth ts j).toNat) j < 256 := fun j _ => nth_lt ht j
    generalize (fun j => (nth ms j).toNat) = δ at *
    generalize (fun j => (nth ts j).toNat) = τ at *
    obtain ⟨ma, mc, rfl, -⟩ := id hm
    obtain ⟨ta, tc, rfl, -⟩ := id ht
    have hc := hmcap _ _ _ rfl
    have hM : ms.length ≤ 1000 := by omega
    generalize ms.length = M at *
    generalize ts.length = L at *
    subst hmn
    subst htn
    exact tells_ok kb ko kc _ R R1 M mc L tc t _ ma ta Y δ τ w hr hky hm ht hmb htb hM hc.1 h256 rfl
end Go.Proofs.Yteoiekooaokhaaa
