import Derived.Test.YthkijncnndoafaaGreatDoorMpw
namespace Go.Proofs.YthkijncnndoafaaGreatDoor
open Go.RowKit Go.Maps
set_option maxRecDepth 100000
theorem Ow.newO {Pm : World → Nat → Ms → (Nat → Prop) → Prop} (hM : Mach Pm) {F0 : Nat → Prop} {w0 w : World} {b : Nat} {S : Ms} {bs : List (Nat × Obj)} (h : Ow Pm F0 w0 w b S bs) (u : Obj) : Ow Pm F0 w0 (w.alloc u) b S ((w.heap.size, u) :: bs) := by
 have h' := h.self hM ((Below.refl w.heap.size w).alloc (Nat.le_refl _) u)
 obtain ⟨F, h1, h2, h3⟩ := h.ex
 refine ⟨⟨F, hM.stays h1 (by rw [sz_al]; omega) (fun k hk => Below.heap_alloc w _ k (hM.lt h1 k hk)), h2, fun q hq => ?_⟩, h'.tch, fun q hq => ?_, ?_⟩
 ·
  rcases List.mem_cons.1 hq with rfl | hq
  · exact fun e => by have := hM.lt h1 _ e; omega
  · exact h3 q hq
 ·
  rcases List.mem_cons.1 hq with rfl | hq
  · exact ⟨h.tch.size, heap_alloc_new _ _⟩
  · exact h'.bx q hq
 ·
  rw [List.map_cons, List.nodup_cons]
  refine ⟨fun e => ?_, h.nd⟩
  obtain ⟨q, hq, e⟩ := List.mem_map.1 e
  have := h.lt hq
  have e' : q.1 = w.heap.size := e
  omega
set_option maxHeartbeats 6400000 in
theorem tdrawn_any {Pm : World → Nat → Ms → (Nat → Prop) → Prop} (hM : Mach Pm) {F0 : Nat → Prop} {w0 w : World} {b : Nat} {bs : List (Nat × Obj)} (q nn : Nat) (S : Ms) (h : Ow Pm F0 w0 w b S bs) (hq : Bq q S) (hk : q + 12 ≤ 100000) (hn : S.n = (nn : Int)) (hn3 : nn ≤ 3) :
  Calls Tryz.prog 100 #[.pointer (some ⟨b, 0, none⟩)] w fun e w' => ∃ g o, e = .returned (.map (some g)) ∧ Msk 100 (mkG dS0 dR0 S nn).2 o ∧ Ow Pm F0 w0 w' b (mkG dS0 dR0 S nn).1 ((g, o) :: bs) := by
 have HB : ∀ k i, k < nn → i ≤ k → Bn (q + 9) (nn : Int) (mkI dS0 dR0 (mkG dS0 dR0 S k).1 (mkG dS0 dR0 S k).2 k i).1 := fun k i hk2 hi => by
  obtain ⟨a1, a2⟩ := mkG_bq ⟨hq, hn⟩ (j := k) (by omega) (by omega)
  exact (mkI_bq a1 a2 (j := k) (i := i) (by omega)).1.mono (by omega)
 have HNB : Hid (∀ (bs' : List (Nat × Obj)) (w' : World), Ow Pm F0 w0 w' b (mkG dS0 dR0 S 0).1 bs' → Calls Tryz.prog 76 #[.pointer (some ⟨b, 0, none⟩)] w' fun e w2 => e = .returned (.int .i64 (nn : Int)) ∧ Below w'.heap.size w' w2) := hid (fun bs' w' h' => h'.asks (fun F hF => by have := hM.n b q S F w' hF hq (by omega); rw [hn] at this; exact this))
 have HRD : Hid (∀ k i, k < nn → i < k → ∀ (bs' : List (Nat × Obj)) (w' : World), Ow Pm F0 w0 w' b (mkI dS0 dR0 (mkG dS0 dR0 S k).1 (mkG dS0 dR0 S k).2 k i).1 bs' → Calls Tryz.prog 107 #[.pointer (some ⟨b, 0, none⟩), .int .i64 (-1)] w' fun e w2 => e = .returned (.int .i64 (dR0 (mkI dS0 dR0 (mkG dS0 dR0 S k).1 (mkG dS0 dR0 S k).2 k i).1 rnd6)) ∧ Ow Pm F0 w0 w2 b (mkI dS0 dR0 (mkG dS0 dR0 S k).1 (mkG dS0 dR0 S k).2 k (i + 1)).1 bs') :=
  hid (fun k i hk2 hi bs' w' h' => h'.lift hM (fun F hF => hM.rand b (q + 9) _ F (-1) w' hF (HB k i hk2 (by omega)).1 (by omega) rw1))
 have HWF : Hid (∀ k i, k < nn → i < k → (Lit.int .i64 (dR0 (mkI dS0 dR0 (mkG dS0 dR0 S k).1 (mkG dS0 dR0 S k).2 k i).1 rnd6)).wf = true) := hid (fun k i hk2 hi => by
  have := (HB k i hk2 (by omega)).reg (by omega) rnd6
  exact WalkArith.wf_i64 this)
 have HU : Hid (∀ k i, (mkI dS0 dR0 (mkG dS0 dR0 S k).1 (mkG dS0 dR0 S k).2 k (i + 1)).2 = updI (updI (mkI dS0 dR0 (mkG dS0 dR0 S k).1 (mkG dS0 dR0 S k).2 k i).2 (i * 3 + k) (dR0 (mkI dS0 dR0 (mkG dS0 dR0 S k).1 (mkG dS0 dR0 S k).2 k i).1 rnd6)) (k * 3 + i) (dR0 (mkI dS0 dR0 (mkG dS0 dR0 S k).1 (mkG dS0 dR0 S k).2 k i).1 rnd6)) := hid (fun k i => rfl)
 have HI0 : Hid (∀ k, (mkI dS0 dR0 (mkG dS0 dR0 S k).1 (mkG dS0 dR0 S k).2 k 0).1 = (mkG dS0 dR0 S k).1 ∧ (mkI dS0 dR0 (mkG dS0 dR0 S k).1 (mkG dS0 dR0 S k).2 k 0).2 = (mkG dS0 dR0 S k).2) := hid (fun k => ⟨rfl, rfl⟩)
 have HIk : Hid (∀ k, (mkI dS0 dR0 (mkG dS0 dR0 S k).1 (mkG dS0 dR0 S k).2 k k).1 = (mkG dS0 dR0 S (k + 1)).1 ∧ (mkI dS0 dR0 (mkG dS0 dR0 S k).1 (mkG dS0 dR0 S k).2 k k).2 = (mkG dS0 dR0 S (k + 1)).2) := hid (fun k => ⟨rfl, rfl⟩)
 have HM0 : Hid (Msk 0 (mkG dS0 dR0 S 0).2 (.map #[] 0)) := hid (MapO.made prkP)
 have H1 : Hid (Ow Pm F0 w0 (w.alloc (.map #[] 0)) b (mkG dS0 dR0 S 0).1 ((w.heap.size, .map #[] 0) :: bs)) := hid (h.newO hM (.map #[] 0))
 obtain ⟨g, hg⟩ : ∃ g, w.heap.size = g := ⟨_, rfl⟩
 rw [hg] at H1
 have HG := hid hg
 have HN3 := hid hn3
 clear HB h hq hk hn hn3 hg
 obtain ⟨GS, hGS⟩ : ∃ GS : Nat → Ms, ∀ k, (mkG dS0 dR0 S k).1 = GS k := ⟨_, fun _ => rfl⟩
 obtain ⟨GR, hGR⟩ : ∃ GR : Nat → Nat → Int, ∀ k, (mkG dS0 dR0 S k).2 = GR k := ⟨_, fun _ => rfl⟩
 simp only [hGS, hGR] at *
 clear hGS hGR
 obtain ⟨IS, hIS⟩ : ∃ IS : Nat → Nat → Ms, ∀ k i, (mkI dS0 dR0 (GS k) (GR k) k i).1 = IS k i := ⟨_, fun _ _ => rfl⟩
 obtain ⟨IR, hIR⟩ : ∃ IR : Nat → Nat → Nat → Int, ∀ k i, (mkI dS0 dR0 (GS k) (GR k) k i).2 = IR k i := ⟨_, fun _ _ => rfl⟩
 simp only [hIS, hIR] at *
 clear hIS hIR
 obtain ⟨RG, hRG⟩ : ∃ RG : Nat → Nat → Int, ∀ k i, dR0 (IS k i) rnd6 = RG k i := ⟨_, fun _ _ => rfl⟩
 simp only [hRG] at *
 clear hRG
 have hmm := @run_makeMap Tryz.prog
 go_enter Tryz.func100, Tryz.ntmps100
 go_upto_region 2 with fail
 rw [HG.out]
 generalize w.alloc (.map #[] 0) = w1 at *
 clear hmm
 go_upto_region 3 with (go_at_call 76; (with_reducible refine (HNB.out _ _ H1.out).mono ?_); rintro e w2 ⟨rfl, hb⟩; have H2 := hid (H1.out.self hM hb); clear hb)
 go_loopw [10] (fun kv wr => ∃ (k : Nat) (o : Obj), k ≤ nn ∧ kv = .int .i64 k ∧ Msk (6 * k) (GR k) o ∧ Ow Pm F0 w0 wr b (GS k) ((g, o) :: bs)) (fun kv _ => nn - (intOf kv).toNat)
 case atStart => exact ⟨0, _, by omega, rfl, HM0.out, H2.out⟩
 case round =>
  clear H1 H2 HM0
  obtain ⟨k, o, hk, rfl, hO, hJ⟩ := hrel
  have HJ := hid hJ
  have HO := hid hO
  clear hJ hO
  have hn3 := HN3.out
  by_cases hlt : k < nn
  ·
   have k1 : (k : Int) < (nn : Int) := by omega
   have k0 : (0 : Int) ≤ (k : Int) := by omega
   have HK3 : Hid (k < 3) := hid (by omega)
   have HKX : Hid (k + 1 ≤ nn) := hid (by omega)
   have HJ' : Hid (Ow Pm F0 w0 wr b (IS k 0) ((g, o) :: bs)) := hid (by rw [(HI0.out k).1]; exact HJ.out)
   have HO' : Hid (Msk (6 * k + 2 * 0) (IR k 0) o) := hid (by rw [(HI0.out k).2]; exact HO.out)
   have HLT := hid hlt
   clear HJ HO hk
   go_wp2
   obtain ⟨wo, hwo⟩ : ∃ wo, wr = wo := ⟨_, rfl⟩
   subst hwo
   go_loopw [14] (fun iv wr => ∃ (i : Nat) (o : Obj), i ≤ k ∧ iv = .int .i64 i ∧ Msk (6 * k + 2 * i) (IR k i) o ∧ Ow Pm F0 w0 wr b (IS k i) ((g, o) :: bs)) (fun iv _ => k - (intOf iv).toNat)
   case atStart => exact ⟨0, _, by omega, rfl, HO'.out, HJ'.out⟩
   case round =>
    clear HJ' HO'
    obtain ⟨i, o, hi, rfl, hO, hJ⟩ := hrel
    have HJ := hid hJ
    have HO := hid hO
    clear hJ hO
    have hn3 := HN3.out
    by_cases hli : i < k
    ·
     have i1 : (i : Int) < (k : Int) := by omega
     have i0 : (0 : Int) ≤ (i : Int) := by omega
     have HI3 : Hid (i < 3) := hid (by have := HK3.out; omega)
     have HIX : Hid (i + 1 ≤ k) := hid (by omega)
     have HC1 : Hid (6 * k + 2 * i < maxLen) := hid (by have := HK3.out; unfold maxLen; omega)
     have HC2 : Hid (6 * k + 2 * i + 1 < maxLen) := hid (by have := HK3.out; unfold maxLen; omega)
     replace HRD := hid (HRD.out k i HLT.out hli)
     replace HWF := hid (HWF.out k i HLT.out hli)
     replace HU := hid (HU.out k i)
     clear hi hli
     go_wp2_with (first
      | (go_at_call 107; (with_reducible refine (HRD.out _ _ HJ.out).mono ?_); rintro e w4 ⟨rfl, hb⟩; have H4 := hid hb; clear hb)
      | (at_mapUpdate; refine step_storeP kprK Tryz.underlying126 Tryz.underlying3 rfl _ _ _ rfl (i := i) (j := k) (z := RG k i) rfl rfl rfl (H4.out.bl 0 rfl) HO.out HC1.out HI3.out HK3.out HWF.out ?_; intro w5 o5 hb5 hm5 hf5 hs5 hos5; have H5 := hid (H4.out.turn hM hb5 hf5 (Nat.le_of_eq hs5.symm) hos5); have HO5 := hid hm5; clear hb5 hf5 hs5 hos5 hm5)
      | (at_mapUpdate; refine step_storeP kprK Tryz.underlying126 Tryz.underlying3 rfl _ _ _ rfl (i := k) (j := i) (z := RG k i) rfl rfl rfl (H5.out.bl 0 rfl) HO5.out HC2.out HK3.out HI3.out HWF.out ?_; intro w6 o6 hb6 hm6 hf6 hs6 hos6; have H6 := hid (H5.out.turn hM hb6 hf6 (Nat.le_of_eq hs6.symm) hos6); have HO6 := hid hm6; clear hb6 hf6 hs6 hos6 hm6))
     go_roundw
     case rel => exact ⟨i + 1, _, HIX.out, by go_num, by rw [HU.out]; exact HO6.out.mono (by omega), H6.out⟩
     case measure => simp [intOf]; omega
    ·
     obtain rfl : i = k := by omega
     clear hli hi
     go_wp2
     go_roundw
     case rel => exact ⟨i + 1, _, HKX.out, by go_num, by rw [← (HIk.out i).2]; exact HO.out.mono (by have := HK3.out; omega), by rw [← (HIk.out i).1]; exact HJ.out⟩
     case measure => simp [intOf]; omega
  ·
   obtain rfl : nn = k := by omega
   clear hlt hk
   go_wp2
   go_ret
   exact ⟨_, _, rfl, HO.out.mono (by have := HN3.out; omega), HJ.out⟩
set_option maxHeartbeats 6400000 in
theorem tprod_any {Pm : World → Nat → Ms → (Nat → Prop) → Prop} (hM : Mach Pm) {F0 : Nat → Prop} {w0 w : World} {b : Nat} {bs : List (Nat × Obj)} (q nn : Nat) (S : Ms) (A B : Nat → Int) (h : Ow Pm F0 w0 w b S bs) (hq : Bq q S) (hk : q + 12 ≤ 100000) (hn : S.n = (nn : Int)) (hn3 : nn ≤ 3) (hA : Wb A) (hB : Wb B) :
  Calls Tryz.prog 101 #[.pointer (some ⟨b, 0, none⟩), .agg (wdV A), .agg (wdV B)] w fun e w' => e = .returned (.agg (iz 9 (pdG dS0 dR0 A B S nn nn).2)) ∧ Ow Pm F0 w0 w' b (pdG dS0 dR0 A B S nn nn).1 bs := by
 have HG : ∀ i, i ≤ nn → Bn (q + 9) (nn : Int) (pdG dS0 dR0 A B S nn i).1 := fun i hi => (pdG_bq hn3 ⟨hq, hn⟩ hA hB (i := i) (by omega) (by omega)).1.mono (by omega)
 have HB : ∀ i k, i < nn → k ≤ nn → Bn (q + 9) (nn : Int) (pdI dS0 dR0 A B (pdG dS0 dR0 A B S nn i).1 (pdG dS0 dR0 A B S nn i).2 i k).1 := fun i k hi hk2 => by
  obtain ⟨a1, a2⟩ := pdG_bq hn3 ⟨hq, hn⟩ hA hB (i := i) (by omega) (by omega)
  exact (pdI_bq a1 (by omega) hA hB a2 (i := i) (j := k) (by omega)).1.mono (by omega)
 have HNB : Hid (∀ i, i ≤ nn → ∀ (bs' : List (Nat × Obj)) (w' : World), Ow Pm F0 w0 w' b (pdG dS0 dR0 A B S nn i).1 bs' → Calls Tryz.prog 76 #[.pointer (some ⟨b, 0, none⟩)] w' fun e w2 => e = .returned (.int .i64 (nn : Int)) ∧ Below w'.heap.size w' w2) := hid (fun i hi bs' w' h' => h'.asks (fun F hF => by have := hM.n b (q + 9) _ F w' hF (HG i hi).1 (by omega); rw [(HG i hi).2] at this; exact this))
 have HTW : Hid (∀ i k, i < nn → k < nn → ∀ (bs' : List (Nat × Obj)) (w' : World), Ow Pm F0 w0 w' b (pdI dS0 dR0 A B (pdG dS0 dR0 A B S nn i).1 (pdG dS0 dR0 A B S nn i).2 i k).1 bs' → Calls Tryz.prog 85 #[.pointer (some ⟨b, 0, none⟩), .int .i64 7, .int .i64 (i : Int), .int .i64 (A i), .int .i64 (B k)] w' fun e w2 => e = .returned (.int .i64 (dR0 (pdI dS0 dR0 A B (pdG dS0 dR0 A B S nn i).1 (pdG dS0 dR0 A B S nn i).2 i k).1 (an6 i (A i) (B k)))) ∧ Ow Pm F0 w0 w2 b (pdI dS0 dR0 A B (pdG dS0 dR0 A B S nn i).1 (pdG dS0 dR0 A B S nn i).2 i (k + 1)).1 bs') := hid (fun i k hi hk2 bs' w' h' => h'.lift hM (fun F hF => hM.two b (q + 9) _ F 7 (i : Int) (A i) (B k) w' hF (HB i k hi (by omega)).1 (by omega) (an6_wf (by omega) (hA i) (hB k))))
 have HU : Hid (∀ i k, (pdI dS0 dR0 A B (pdG dS0 dR0 A B S nn i).1 (pdG dS0 dR0 A B S nn i).2 i (k + 1)).2 = updI (pdI dS0 dR0 A B (pdG dS0 dR0 A B S nn i).1 (pdG dS0 dR0 A B S nn i).2 i k).2 (i * 3 + k) (dR0 (pdI dS0 dR0 A B (pdG dS0 dR0 A B S nn i).1 (pdG dS0 dR0 A B S nn i).2 i k).1 (an6 i (A i) (B k)))) := hid (fun i k => rfl)
 have HI0 : Hid (∀ i, (pdI dS0 dR0 A B (pdG dS0 dR0 A B S nn i).1 (pdG dS0 dR0 A B S nn i).2 i 0).1 = (pdG dS0 dR0 A B S nn i).1 ∧ (pdI dS0 dR0 A B (pdG dS0 dR0 A B S nn i).1 (pdG dS0 dR0 A B S nn i).2 i 0).2 = (pdG dS0 dR0 A B S nn i).2) := hid (fun i => ⟨rfl, rfl⟩)
 have HIn : Hid (∀ i, (pdI dS0 dR0 A B (pdG dS0 dR0 A B S nn i).1 (pdG dS0 dR0 A B S nn i).2 i nn).1 = (pdG dS0 dR0 A B S nn (i + 1)).1 ∧ (pdI dS0 dR0 A B (pdG dS0 dR0 A B S nn i).1 (pdG dS0 dR0 A B S nn i).2 i nn).2 = (pdG dS0 dR0 A B S nn (i + 1)).2) := hid (fun i => ⟨rfl, rfl⟩)
 have HN3 := hid hn3
 have HZ : Hid ((pdG dS0 dR0 A B S nn 0).2 = zero9) := hid rfl
 have H0 := hid (((h.new hM (wdV A) 37).new hM (wdV B) 37).new hM #[.int .i64 0, .int .i64 0, .int .i64 0, .int .i64 0, .int .i64 0, .int .i64 0, .int .i64 0, .int .i64 0, .int .i64 0] 110)
 obtain ⟨w1, hw1⟩ : ∃ w1, (((w.alloc (.cells (wdV A) 37)).alloc (.cells (wdV B) 37)).alloc (.cells #[.int .i64 0, .int .i64 0, .int .i64 0, .int .i64 0, .int .i64 0, .int .i64 0, .int .i64 0, .int .i64 0, .int .i64 0] 110)) = w1 := ⟨_, rfl⟩
 rw [hw1] at H0
 have H1 : Hid (Ow Pm F0 w0 w1 b (pdG dS0 dR0 A B S nn 0).1 ((w.heap.size + 2, .cells #[.int .i64 0, .int .i64 0, .int .i64 0, .int .i64 0, .int .i64 0, .int .i64 0, .int .i64 0, .int .i64 0, .int .i64 0] 110 (0, 0)) :: (w.heap.size + 1, .cells (wdV B) 37 (0, 0)) :: (w.heap.size, .cells (wdV A) 37 (0, 0)) :: bs)) := hid (by have := H0.out; simp only [sz_al] at this; exact this)
 have HW := hid hw1
 clear HG HB h hq hk hn hn3 hA hB hw1 H0
 obtain ⟨GS, hGS⟩ : ∃ GS : Nat → Ms, ∀ k, (pdG dS0 dR0 A B S nn k).1 = GS k := ⟨_, fun _ => rfl⟩
 obtain ⟨GP, hGP⟩ : ∃ GP : Nat → Nat → Int, ∀ k, (pdG dS0 dR0 A B S nn k).2 = GP k := ⟨_, fun _ => rfl⟩
 simp only [hGS, hGP] at *
 clear hGS hGP
 obtain ⟨IS, hIS⟩ : ∃ IS : Nat → Nat → Ms, ∀ i k, (pdI dS0 dR0 A B (GS i) (GP i) i k).1 = IS i k := ⟨_, fun _ _ => rfl⟩
 obtain ⟨IP, hIP⟩ : ∃ IP : Nat → Nat → Nat → Int, ∀ i k, (pdI dS0 dR0 A B (GS i) (GP i) i k).2 = IP i k := ⟨_, fun _ _ => rfl⟩
 simp only [hIS, hIP] at *
 clear hIS hIP
 obtain ⟨RG, hRG⟩ : ∃ RG : Nat → Nat → Int, ∀ i k, dR0 (IS i k) (an6 i (A i) (B k)) = RG i k := ⟨_, fun _ _ => rfl⟩
 simp only [hRG] at *
 clear hRG
 go_enter Tryz.func101, Tryz.ntmps101
 go_upto_region 1 with fail
 rw [HW.out]
 go_upto_region 2 with fail
 have H2 := hid (H1.out.new hM (iz 9 zero9) 110)
 obtain ⟨g7, hg7⟩ : ∃ g7, w1.heap.size = g7 := ⟨_, rfl⟩
 rw [hg7] at H2
 have H3 : Hid (Ow Pm F0 w0 (w1.alloc (.cells #[.int .i64 0, .int .i64 0, .int .i64 0, .int .i64 0, .int .i64 0, .int .i64 0, .int .i64 0, .int .i64 0, .int .i64 0] 110)) b (GS 0) ((g7, .cells (iz 9 (GP 0)) 110 (0, 0)) :: (w.heap.size + 2, .cells #[.int .i64 0, .int .i64 0, .int .i64 0, .int .i64 0, .int .i64 0, .int .i64 0, .int .i64 0, .int .i64 0, .int .i64 0] 110 (0, 0)) :: (w.heap.size + 1, .cells (wdV B) 37 (0, 0)) :: (w.heap.size, .cells (wdV A) 37 (0, 0)) :: bs)) := hid (by rw [HZ.out]; exact H2.out)
 rw [hg7]
 generalize w1.alloc (.cells #[.int .i64 0, .int .i64 0, .int .i64 0, .int .i64 0, .int .i64 0, .int .i64 0, .int .i64 0, .int .i64 0, .int .i64 0] 110) = w3 at *
 clear hg7 H2 H1
 replace HNB := HNB
 go_upto_region 3 with (go_at_call 76; (with_reducible refine (HNB.out 0 (Nat.zero_le _) _ _ H3.out).mono ?_); rintro e w2 ⟨rfl, hb⟩; have H4 := hid (H3.out.self hM hb); clear hb)
 go_loopw [12] (fun iv wr => ∃ i : Nat, i ≤ nn ∧ iv = .int .i64 i ∧ Ow Pm F0 w0 wr b (GS i) ((g7, .cells (iz 9 (GP i)) 110 (0, 0)) :: (w.heap.size + 2, .cells #[.int .i64 0, .int .i64 0, .int .i64 0, .int .i64 0, .int .i64 0, .int .i64 0, .int .i64 0, .int .i64 0, .int .i64 0] 110 (0, 0)) :: (w.heap.size + 1, .cells (wdV B) 37 (0, 0)) :: (w.heap.size, .cells (wdV A) 37 (0, 0)) :: bs)) (fun iv _ => nn - (intOf iv).toNat)
 case atStart => exact ⟨0, by omega, rfl, H4.out⟩
 case round =>
  clear H3 H4
  obtain ⟨i, hi, rfl, hI⟩ := hrel
  have HI := hid hI
  clear hI
  have hn3 := HN3.out
  by_cases hlt : i < nn
  ·
   have j1 : (i : Int) < (nn : Int) := by omega
   have j0 : (0 : Int) ≤ (i : Int) := by omega
   have j3 : (i : Int) < 3 := by omega
   have HI3 : Hid (i < 3) := hid (by omega)
   have HIX1 : Hid (i + 1 ≤ nn) := hid (by omega)
   replace HTW := hid (fun k hk => HTW.out i k hlt hk)
   have HNI := hid (HNB.out i hi)
   clear hi
   go_upto_region 6 with (go_at_call 76; (with_reducible refine (HNI.out _ _ HI.out).mono ?_); rintro e w5 ⟨rfl, hb⟩; have H5 := hid (HI.out.self hM hb); clear hb)
   obtain ⟨wo, hwo⟩ : ∃ wo, wr = wo := ⟨_, rfl⟩
   subst hwo
   go_loopw [17] (fun kv wr => ∃ k : Nat, k ≤ nn ∧ kv = .int .i64 k ∧ Ow Pm F0 w0 wr b (IS i k) ((g7, .cells (iz 9 (IP i k)) 110 (0, 0)) :: (w.heap.size + 2, .cells #[.int .i64 0, .int .i64 0, .int .i64 0, .int .i64 0, .int .i64 0, .int .i64 0, .int .i64 0, .int .i64 0, .int .i64 0] 110 (0, 0)) :: (w.heap.size + 1, .cells (wdV B) 37 (0, 0)) :: (w.heap.size, .cells (wdV A) 37 (0, 0)) :: bs)) (fun kv _ => nn - (intOf kv).toNat)
   case atStart => exact ⟨0, by omega, rfl, by rw [(HI0.out i).1, (HI0.out i).2]; exact H5.out⟩
   case round =>
    clear H5 HI
    obtain ⟨k, hk, rfl, hJ⟩ := hrel
    have HJ := hid hJ
    clear hJ
    have hn3 := HN3.out
    by_cases hlk : k < nn
    ·
     have k1 : (k : Int) < (nn : Int) := by omega
     have k0 : (0 : Int) ≤ (k : Int) := by omega
     have k3 : (k : Int) < 3 := by omega
     have HK3 : Hid (k < 3) := hid (by omega)
     have HIX : Hid (i * 3 + k < 9) := hid (by have := HI3.out; omega)
     have HKX : Hid (k + 1 ≤ nn) := hid (by omega)
     replace HTW := hid (HTW.out k hlk)
     replace HU := hid (HU.out i k)
     clear hk
     go_upto_region 8 with fail
     have G0 := hid (HJ.out.self hM ((Below.refl _ wr).drew))
     refine wp_region_noPanic ?_
     refine wp_region_held_drew (S := fun w' => w'.heap[w.heap.size]? = some (.cells (wdV A) 37 (0, 0)) ∧ w'.heap[w.heap.size + 1]? = some (.cells (wdV B) 37 (0, 0))) (by kernel_rfl) (⟨G0.out.bl 3 rfl, G0.out.bl 2 rfl⟩) (fun h0 => ?_)
     generalize wr.drew = y0 at *
     refine tK 0 (.int .i64 (i : Int)) rfl (.inl ⟨by rfl, fun w hw => by clear hw; go_simp⟩) h0 ?_
     try simp only [Act.put, lay_out]
     refine tK 1 (.int .i64 (k : Int)) rfl (.inl ⟨by rfl, fun w hw => by clear hw; go_simp⟩) h0 ?_
     try simp only [Act.put, lay_out]
     refine tK 2 (.pointer (some ⟨b, 0, none⟩)) rfl (.inl ⟨by rfl, fun w hw => by clear hw; go_simp⟩) h0 ?_
     try simp only [Act.put, lay_out]
     refine tK 3 (.int .i64 (i : Int)) rfl (.inl ⟨by rfl, fun w hw => by clear hw; go_simp⟩) h0 ?_
     try simp only [Act.put, lay_out]
     refine tK 4 (.int .i64 (i : Int)) rfl (.inl ⟨by rfl, fun w hw => by clear hw; go_simp⟩) h0 ?_
     try simp only [Act.put, lay_out]
     refine tK 5 (.pointer (some ⟨w.heap.size, 0, none⟩)) rfl (.inl ⟨by rfl, fun w hw => by clear hw; go_simp⟩) h0 ?_
     try simp only [Act.put, lay_out]
     refine tK 6 (.pointer (some ⟨w.heap.size, i, none⟩)) rfl (.inl ⟨by rfl, fun w hw => by clear hw; go_simp⟩) h0 ?_
     try simp only [Act.put, lay_out]
     refine tK 7 (.int .i64 (A i)) rfl (.inl ⟨by rfl, fun w' hw => by have hc := row_c (i := i) (u := .int .i64 (A i)) hw.1 (wdV_at A i HI3.out); clear hw; go_simp⟩) h0 ?_
     try simp only [Act.put, lay_out]
     refine tK 8 (.int .i64 (k : Int)) rfl (.inl ⟨by rfl, fun w hw => by clear hw; go_simp⟩) h0 ?_
     try simp only [Act.put, lay_out]
     refine tK 9 (.pointer (some ⟨w.heap.size + 1, 0, none⟩)) rfl (.inl ⟨by rfl, fun w hw => by clear hw; go_simp⟩) h0 ?_
     try simp only [Act.put, lay_out]
     refine tK 10 (.pointer (some ⟨w.heap.size + 1, k, none⟩)) rfl (.inl ⟨by rfl, fun w hw => by clear hw; go_simp⟩) h0 ?_
     try simp only [Act.put, lay_out]
     refine tK 11 (.int .i64 (B k)) rfl (.inl ⟨by rfl, fun w' hw => by have hc := row_c (i := k) (u := .int .i64 (B k)) hw.2 (wdV_at B k HK3.out); clear hw; go_simp⟩) h0 ?_
     try simp only [Act.put, lay_out]
     refine tK 13 (.pointer (some ⟨g7, i * 3, none⟩)) rfl (.inl ⟨by rfl, fun w hw => by clear hw; go_simp⟩) h0 ?_
     try simp only [Act.put, lay_out]
     refine wpAnyH_ready (rs := [12]) (by kernel_rfl) (by simp) (AllReadyH.cons rfl (fun K hK => ?_) AllReadyH.nil)
     rw [if_pos (by rfl)]
     go_simp
     go_at_call 85
     (with_reducible refine (HTW.out _ _ G0.out).mono ?_); rintro e y2 ⟨rfl, hz⟩
     have G2 := hid hz
     clear hz
     refine hK.out _ _ (⟨G2.out.bl 3 rfl, G2.out.bl 2 rfl⟩) (fun h1x => ?_)
     clear hK K
     try simp only [Act.put, lay_out]
     refine tK 14 (.pointer (some ⟨g7, i * 3 + k, none⟩)) rfl (.inl ⟨by rfl, fun w hw => by clear hw; go_simp⟩) h1x ?_
     try simp only [Act.put, lay_out]
     have cj := row_c (i := i * 3 + k) (G2.out.bl 0 rfl) (iz_get _ HIX.out)
     have fj := frozen_of_row y2 g7 (i * 3 + k) _ _ (G2.out.bl 0 rfl)
     refine wpAnyH_ready (rs := [15]) (by kernel_rfl) (by simp) (AllReadyH.cons rfl (fun K hK => ?_) AllReadyH.nil)
     rw [if_pos (by rfl)]
     go_simp
     clear cj fj
     have G3 : Hid (Ow Pm F0 w0 (y2.setCell ⟨g7, i * 3 + k, none⟩ (.int .i64 (RG i k))) b (IS i (k + 1)) ((g7, .cells (iz 9 (IP i (k + 1))) 110 (0, 0)) :: (w.heap.size + 2, .cells #[.int .i64 0, .int .i64 0, .int .i64 0, .int .i64 0, .int .i64 0, .int .i64 0, .int .i64 0, .int .i64 0, .int .i64 0] 110 (0, 0)) :: (w.heap.size + 1, .cells (wdV B) 37 (0, 0)) :: (w.heap.size, .cells (wdV A) 37 (0, 0)) :: bs)) := hid (by have := G2.out.cellI hM 0 rfl (i * 3 + k) (.int .i64 (RG i k)); rw [iz_set, ← HU.out] at this; exact this)
     generalize y2.setCell ⟨g7, i * 3 + k, none⟩ (.int .i64 (RG i k)) = y3 at *
     refine hK.out _ _ (⟨G3.out.bl 3 rfl, G3.out.bl 2 rfl⟩) (fun h2x => ?_)
     clear hK K
     try simp only [Act.put, lay_out]
     refine wpAnyH_done (by kernel_rfl) ?_ _
     refine NoPanic.normal ?_
     clear h0 h1x h2x
     try simp only [Act.put, lay_out]
     go_wp2
     go_roundw
     case rel => exact ⟨k + 1, HKX.out, by go_num, G3.out⟩
     case measure => simp [intOf]; omega
    ·
     obtain rfl : nn = k := by omega
     clear hlk hk
     go_wp2
     go_roundw
     case rel => exact ⟨i + 1, HIX1.out, by go_num, by rw [← (HIn.out i).1, ← (HIn.out i).2]; exact HJ.out⟩
     case measure => simp [intOf]; omega
  ·
   obtain rfl : nn = i := by omega
   clear hlt hi
   go_wp2_with (first
    | (refine step_load_row rfl 110 _ rfl g7 110 (iz 9 (GP nn)) _ rfl (HI.out.bl 0 rfl) Tryz.underlying110 rfl (by rw [iz_size]; kernel_rfl) ?_)
    | (refine step_store_row rfl 110 _ _ rfl (w.heap.size + 2) 110 _ (iz 9 (GP nn)) rfl rfl (HI.out.bl 1 rfl) (by rw [iz_size]; kernel_rfl) (by rw [iz_size]; rfl) (by kernel_rfl) ?_))
   have H9 := hid (HI.out.rowI hM 1 rfl (iz 9 (GP nn)))
   exact bodyPost_ret (results_cell_row (by rfl) _ _ (w.heap.size + 2) 110 (iz 9 (GP nn)) (0, 0) _ rfl (H9.out.bl 1 rfl) Tryz.underlying110 rfl (by rw [iz_size]; kernel_rfl)) rfl ⟨rfl, H9.out.drop.drop.drop.drop⟩
end Go.Proofs.YthkijncnndoafaaGreatDoor
