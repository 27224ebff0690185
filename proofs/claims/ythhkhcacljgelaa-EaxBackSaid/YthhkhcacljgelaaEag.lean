import Derived.Test.YthhkhcacljgelaaProg
import Derived.Test.YthhkhcacljgelaaEaf
/- EaxBack: no other byte; a part that is too long; all together. -/
namespace Go.Proofs.Ythhkhcacljgelaa
open Go.RowKit
set_option maxRecDepth 100000

set_option maxHeartbeats 12800000 in
theorem back_out (κ : Nat → Nat) (N ne H he M e y : Nat) (x : Int) (ν η δ : Nat → Nat) (na ha a : Option Addr) (w : World) (hκ : ∀ i, i < 16 → κ i < 256)
    (hN : Rd .u8 w (.slice na N ne) (ns N ν)) (hν : ∀ j, j < N → ν j < 256) (hN2 : N ≤ 500 ∧ N ≤ ne)
    (hH : Rd .u8 w (.slice ha H he) (ns H η)) (hη : ∀ j, j < H → η j < 256) (hH2 : H ≤ 500 ∧ H ≤ he)
    (hM : Rd .u8 w (.slice a M e) (ns M δ)) (hδ : ∀ j, j < M → δ j < 256) (hM2 : M ≤ 500 ∧ M ≤ e) (hp : x < 0 ∨ (0 ≤ x ∧ (16 + M : Nat) ≤ x) ∨ (0 ≤ x ∧ x < (16 + M : Nat) ∧ y = 0)) :
    Calls Try.prog 3 #[.agg (ba 16 κ), .agg #[.slice na N ne, .slice ha H he, .slice a M e], .int .i64 x, .int .u8 y] w fun e w' => e = .returned (.bool true) ∧ Below w.heap.size w w' := by
  have HX := hid (Bx3.start w κ (.slice na N ne) (.slice ha H he) (.slice a M e))
  obtain ⟨Y, hkn⟩ := kn_box HX.out.key hκ
  have HN := hid (hkn.new _ (Below.refl _ _))
  unfold NewD at HN
  have HYB := hid hkn.yb
  have HMG := hid (fun (b : Nat) (w1 : World) (hb : w.heap.size ≤ b) (hl : Below w.heap.size w w1) => And.intro (mg_open hN hν hN2 hb hl) (And.intro (mg_open hH hη hH2 hb hl) (mg_open hM hδ hM2 hb hl)))
  obtain ⟨c0, c1, c2⟩ := blk3 HX.out.blk
  have h1 : ¬ (N : Int) > 500 := by omega
  have h2 : ¬ (H : Int) > 500 := by omega
  have h3 : ¬ (M : Int) > 500 := by omega
  obtain ⟨T, hT⟩ : ∃ T, 16 + M = T := ⟨_, rfl⟩
  have hcase : x < 0 ∨ (¬ x < 0 ∧ x ≥ (T : Int)) ∨ (¬ x < 0 ∧ ¬ x ≥ (T : Int) ∧ ((y : Int) == 0) = true) := by
    rcases hp with h | h | h
    · exact .inl h
    · exact .inr (.inl (by omega))
    · exact .inr (.inr ⟨by omega, by omega, by rw [h.2.2]; rfl⟩)
  have HP := hid (And.intro (show M ≤ 500 by omega) hT)
  clear hT hκ hN hν hN2 hH hη hH2 hM hδ hM2 hp hkn
  rcases hcase with h4 | ⟨h4, h5⟩ | ⟨h4, h5, h6⟩
  all_goals
    go_enter Try.func3, Try.ntmps3
    go_wp2_with (first
      | (go_at_call 5; (with_reducible refine HN.out.mono ?_); rintro q w1 ⟨d, b, c, cap, rfl, hci, hb, hlow⟩
         have HE1 : Hid (Eh b w w1 d c cap 10 11 Y (w.heap.size + 1) (.slice na N ne) (.slice ha H he) (.slice a M e)) := hid ⟨⟨HX.out.low.trans (hlow.mono HX.out.low.size), Nat.le_trans HX.out.low.size hb, hci.box.lt⟩, ⟨by decide, hci⟩, (hlow.block _ (Array.getElem?_eq_some_iff.1 HX.out.blk).1).trans HX.out.blk, by have := (Array.getElem?_eq_some_iff.1 HX.out.blk).1; omega⟩
         have HR1 := hid (HMG.out b w1 HE1.out.lw.le HE1.out.lw.low)
         have HS1 := hid (esl_16 d b c cap 10 11 N ne H he M e Y ν η δ na ha a w1 HE1.out.gc HR1.out.1 HR1.out.2.1 HR1.out.2.2)
         obtain ⟨c10, c11, c12⟩ := HE1.out.cell
         clear hci hb hlow)
      | (go_at_call 6; (with_reducible refine HS1.out.mono ?_); rintro q w2 ⟨ua, uc, g, rfl, hs⟩
         have HE2 := hid (HE1.out.later hs.gc hs.low)
         have HS2 := hid hs
         have HU2 := hid (eun_yes d b c cap 10 11 N ne H he M uc 16 16 Y ν η (covF Y 10 N ν δ) (eaxF Y 10 N ν H η M (covF Y 10 N ν δ)) na ha ua (some ⟨g, 0, none⟩) w2 hs.gc (HR1.out.1.later hs.low) (HR1.out.2.1.later hs.low) hs.cov hs.tag (by decide) rfl)
         obtain ⟨c20, c21, c22⟩ := HE2.out.cell
         clear hs)
      | (go_at_call 7; (with_reducible refine HU2.out.mono ?_); rintro q w3 ⟨ua3, uc3, rfl, hm, hg, ho⟩
         rw [covF_twice] at hm
         have HE3 := hid (HE2.out.later hg ho)
         have HO3 := hid (HS2.out.low.trans ho)
         have HSM := hid (same_ns (.slice ua3 M uc3) (.slice a M e) _ _ w3 hm.rd (HR1.out.2.2.later HO3.out).rd rfl)
         have HT3 := hid (And.intro (HS2.out.tag.later ho) (HS2.out.cov.later ho))
         obtain ⟨c30, c31, c32⟩ := HE3.out.cell
         clear hm hg ho)
      | (go_at_call 8; (with_reducible refine HSM.out.mono ?_); rintro q w3 ⟨rfl, rfl⟩
         have HAL : Hid (Below w3.heap.size w3 (w3.alloc (.cells #[] 5))) := hid ((Below.refl _ _).alloc (Nat.le_refl _) _)
         have HRB := hid (HT3.out.1.self HAL.out).rd
         have HLI1 := hid (show (([] : List Int).length + (ns 16 (eaxF Y 10 N ν H η M (covF Y 10 N ν δ))).length) * (IntKind.u8.bits / 8) ≤ 140737488355328 by rw [ns_len]; decide)
         have HLI2 := hid (show ((ns 16 (eaxF Y 10 N ν H η M (covF Y 10 N ν δ))).length + (ns M (covF Y 10 N ν δ)).length) * (IntKind.u8.bits / 8) ≤ 140737488355328 by rw [ns_len, ns_len]; have := HP.out; show (16 + M) * 1 ≤ _; omega))
      | (at_builtin; refine wpList_append_rd rfl (.tmp 99) (.tmp 100) 23 rfl .u8 w3.heap.size 5 Try.underlying23 info8 (by decide) _ [] rfl (own_empty w3 (Nat.le_refl _)) _ (ns 16 (eaxF Y 10 N ν H η M (covF Y 10 N ν δ))) rfl HRB.out HLI1.out (by simp) w3.heap.size w3 HAL.out (Nat.le_refl _) ?_; intro u4 w4 hown hlow _
         rw [List.nil_append] at hown
         obtain ⟨pu, cu, rfl⟩ := hown.noRow
         rw [ns_len] at hown ⊢
         have HO4 := hid hown
         have HL4 := hid hlow
         have HRC := hid (HT3.out.2.self hlow).rd
         clear hown hlow)
      | (at_builtin; refine wpList_append_rd rfl (.tmp 101) (.tmp 102) 23 rfl .u8 w3.heap.size 5 Try.underlying23 info8 (by decide) (.slice pu 16 cu) _ rfl HO4.out (.slice ua M uc) (ns M (covF Y 10 N ν δ)) rfl HRC.out HLI2.out HL4.out.size w3.heap.size w3 HL4.out (Nat.le_refl _) ?_; intro u5 w5 hown hlow _
         rw [ns_then, HP.out.2] at hown
         obtain ⟨p5, c5, rfl⟩ := hown.noRow
         rw [ns_len]
         have HL5 := hid (HE3.out.lw.self hlow)
         clear hown hlow)
      | (go_at_call 4; (with_reducible refine (eawake_any w5).mono ?_); rintro q w9 ⟨rfl, hlow⟩
         have HE9 := hid (HL5.out.self hlow)
         clear hlow))
    go_ret
    exact ⟨rfl, HE9.out.low⟩

set_option maxHeartbeats 3200000 in
theorem back_long (κ : Nat → Nat) (N ne H he M e y : Nat) (x : Int) (na ha a : Option Addr) (w : World) (h : N > 500 ∨ H > 500 ∨ M > 500) :
    Calls Try.prog 3 #[.agg (ba 16 κ), .agg #[.slice na N ne, .slice ha H he, .slice a M e], .int .i64 x, .int .u8 y] w fun e w' => e = .returned (.bool true) ∧ Below w.heap.size w w' := by
  have HX := hid (Bx3.start w κ (.slice na N ne) (.slice ha H he) (.slice a M e))
  obtain ⟨c0, c1, c2⟩ := blk3 HX.out.blk
  have HA := hid (fun w => eawake_any w)
  have hcase : (N : Int) > 500 ∨ (¬ (N : Int) > 500 ∧ (H : Int) > 500) ∨ (¬ (N : Int) > 500 ∧ ¬ (H : Int) > 500 ∧ (M : Int) > 500) := by omega
  clear h
  rcases hcase with h1 | ⟨h1, h2⟩ | ⟨h1, h2, h3⟩
  all_goals
    go_enter Try.func3, Try.ntmps3
    go_wp2_with (first
      | (go_at_call 4; (with_reducible refine (HA.out _).mono ?_); rintro q w9 ⟨rfl, hlow⟩
         have HE9 := hid (HX.out.low.trans (hlow.mono HX.out.low.size))
         clear hlow))
    go_ret
    exact ⟨rfl, HE9.out⟩

theorem back_core (κ : Nat → Nat) (v0 v1 v2 : Value) (z0 z1 z2 : List Int) (x : Int) (y : Nat) (w : World) (hκ : ∀ i, i < 16 → κ i < 256)
    (r0 : Rd .u8 w v0 z0 ∧ ∀ a n c, v0 = .slice a n c → n ≤ c ∧ c ≤ maxLen) (r1 : Rd .u8 w v1 z1 ∧ ∀ a n c, v1 = .slice a n c → n ≤ c ∧ c ≤ maxLen) (r2 : Rd .u8 w v2 z2 ∧ ∀ a n c, v2 = .slice a n c → n ≤ c ∧ c ≤ maxLen) (hy : y < 256) :
    Calls Try.prog 3 #[.agg (ba 16 κ), .agg #[v0, v1, v2], .int .i64 x, .int .u8 y] w fun e w' => e = .returned (.bool true) ∧ Below w.heap.size w w' := by
  have n0 := ns_of r0.1
  have b0 : ∀ j, j < z0.length → (fun j => (nth z0 j).toNat) j < 256 := fun j _ => nth_lt r0.1 j
  have n1 := ns_of r1.1
  have b1 : ∀ j, j < z1.length → (fun j => (nth z1 j).toNat) j < 256 := fun j _ => nth_lt r1.1 j
  have n2 := ns_of r2.1
  have b2 : ∀ j, j < z2.length → (fun j => (nth z2 j).toNat) j < 256 := fun j _ => nth_lt r2.1 j
  generalize (fun j => (nth z0 j).toNat) = ν at *
  generalize (fun j => (nth z1 j).toNat) = η at *
  generalize (fun j => (nth z2 j).toNat) = δ at *
  obtain ⟨h0, k0⟩ := r0
  obtain ⟨h1, k1⟩ := r1
  obtain ⟨h2, k2⟩ := r2
  obtain ⟨na, ne, rfl, -⟩ := id h0
  obtain ⟨ha, he, rfl, -⟩ := id h1
  obtain ⟨a, e, rfl, -⟩ := id h2
  have l0 := k0 _ _ _ rfl
  have l1 := k1 _ _ _ rfl
  have l2 := k2 _ _ _ rfl
  generalize z0.length = N at *
  generalize z1.length = H at *
  generalize z2.length = M at *
  subst n0; subst n1; subst n2
  by_cases hl : N > 500 ∨ H > 500 ∨ M > 500
  · exact back_long κ N ne H he M e y x na ha a w hl
  · by_cases hp : x < 0 ∨ (0 ≤ x ∧ ((16 + M : Nat) : Int) ≤ x) ∨ (0 ≤ x ∧ x < ((16 + M : Nat) : Int) ∧ y = 0)
    · exact back_out κ N ne H he M e y x ν η δ na ha a w hκ h0 b0 ⟨by omega, l0.1⟩ h1 b1 ⟨by omega, l1.1⟩ h2 b2 ⟨by omega, l2.1⟩ hp
    · obtain ⟨p, rfl⟩ : ∃ p : Nat, x = p := ⟨x.toNat, by omega⟩
      exact back_in κ N ne H he M e p y ν η δ na ha a w hκ h0 b0 ⟨by omega, l0.1⟩ h1 b1 ⟨by omega, l1.1⟩ h2 b2 ⟨by omega, l2.1⟩ (by omega) ⟨by omega, hy⟩
end Go.Proofs.Ythhkhcacljgelaa
