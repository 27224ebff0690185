import Derived.Test.YthkijncnndoafaaDoorMpw
import Derived.Test.YthkijncnndoafaaDoorProg
import Derived.Test.YthkijncnndoafaaDoorAcv
import Derived.Test.YthkijncnndoafaaDoorWif
import Derived.Test.YthkijncnndoafaaDoorRgt
import Derived.Test.YthkijncnndoafaaDoorTau
import Derived.Test.YthkijncnndoafaaDoorGen
import Derived.ArgAppend
import Derived.Lib.AppendStr
import Derived.Lib.AppendIntMem
import Derived.Lib.ConvBytes
/- Times: the program's masks in a map, and its products. -/
namespace Go.Proofs.YthkijncnndoafaaDoor
open Go.RowKit Go.Maps
set_option maxRecDepth 100000
/-- A new box, whatever it holds. -/
theorem Ow.newO {Pm : World → Nat → Ms → (Nat → Prop) → Prop} (hM : Mach Pm) {F0 : Nat → Prop} {w0 w : World} {b : Nat} {S : Ms} {bs : List (Nat × Obj)} (h : Ow Pm F0 w0 w b S bs) (u : Obj) : Ow Pm F0 w0 (w.alloc u) b S ((w.heap.size, u) :: bs) := by
  have h' := h.self hM ((Below.refl w.heap.size w).alloc (Nat.le_refl _) u)
  obtain ⟨F, h1, h2, h3⟩ := h.ex
  refine ⟨⟨F, hM.stays h1 (by rw [sz_al]; omega) (fun k hk => Below.heap_alloc w _ k (hM.lt h1 k hk)), h2, fun q hq => ?_⟩, h'.tch, fun q hq => ?_, ?_⟩
  · rcases List.mem_cons.1 hq with rfl | hq
    · exact fun e => by have := hM.lt h1 _ e; omega
    · exact h3 q hq
  · rcases List.mem_cons.1 hq with rfl | hq
    · exact ⟨h.tch.size, heap_alloc_new _ _⟩
    · exact h'.bx q hq
  · rw [List.map_cons, List.nodup_cons]
    refine ⟨fun e => ?_, h.nd⟩
    obtain ⟨q, hq, e⟩ := List.mem_map.1 e
    have := h.lt hq
    have e' : q.1 = w.heap.size := e
    omega
set_option maxHeartbeats 6400000 in
theorem tdrawn_any {Pm : World → Nat → Ms → (Nat → Prop) → Prop} (hM : Mach Pm) {F0 : Nat → Prop} {w0 w : World} {b : Nat} {bs : List (Nat × Obj)} (q nn : Nat) (S : Ms) (h : Ow Pm F0 w0 w b S bs) (hq : Bq q S) (hk : q + 12 ≤ 100000) (hn : S.n = (nn : Int)) (hn3 : nn ≤ 3) :
    Calls Tryd.prog 60 #[.pointer (some ⟨b, 0, none⟩)] w fun e w' => ∃ g o, e = .returned (.map (some g)) ∧ Msk 100 (mkG dS0 dR0 S nn).2 o ∧ Ow Pm F0 w0 w' b (mkG dS0 dR0 S nn).1 ((g, o) :: bs) := by
  have HB : ∀ k i, k < nn → i ≤ k → Bn (q + 9) (nn : Int) (mkI dS0 dR0 (mkG dS0 dR0 S k).1 (mkG dS0 dR0 S k).2 k i).1 := fun k i hk2 hi => by
    obtain ⟨a1, a2⟩ := mkG_bq ⟨hq, hn⟩ (j := k) (by omega) (by omega)
    exact (mkI_bq a1 a2 (j := k) (i := i) (by omega)).1.mono (by omega)
  have HNB : Hid (∀ (bs' : List (Nat × Obj)) (w' : World), Ow Pm F0 w0 w' b (mkG dS0 dR0 S 0).1 bs' → Calls Tryd.prog 40 #[.pointer (some ⟨b, 0, none⟩)] w' fun e w2 => e = .returned (.int .i64 (nn : Int)) ∧ Below w'.heap.size w' w2) := hid (fun bs' w' h' => h'.asks (fun F hF => by have := hM.n b q S F w' hF hq (by omega); rw [hn] at this; exact this))
  have HRD : Hid (∀ k i, k < nn → i < k → ∀ (bs' : List (Nat × Obj)) (w' : World), Ow Pm F0 w0 w' b (mkI dS0 dR0 (mkG dS0 dR0 S k).1 (mkG dS0 dR0 S k).2 k i).1 bs' → Calls Tryd.prog 66 #[.pointer (some ⟨b, 0, none⟩), .int .i64 (-1)] w' fun e w2 => e = .returned (.int .i64 (dR0 (mkI dS0 dR0 (mkG dS0 dR0 S k).1 (mkG dS0 dR0 S k).2 k i).1 rnd6)) ∧ Ow Pm F0 w0 w2 b (mkI dS0 dR0 (mkG dS0 dR0 S k).1 (mkG dS0 dR0 S k).2 k (i + 1)).1 bs') :=
    hid (fun k i hk2 hi bs' w' h' => h'.lift hM (fun F hF => hM.rand b (q + 9) _ F (-1) w' hF (HB k i hk2 (by omega)).1 (by omega) rw1))
  have HWF : Hid (∀ k i, k < nn → i < k → (Lit.int .i64 (dR0 (mkI dS0 dR0 (mkG dS0 dR0 S k).1 (mkG dS0 dR0 S k).2 k i).1 rnd6)).wf = true) := hid (fun k i hk2 hi => by
    have := (HB k i hk2 (by omega)).reg (by omega) rnd6
    exact WalkArith.wf_i64 this)
  have HU : Hid (∀ k i, (mkI dS0 dR0 (mkG dS0 dR0 S k).1 (mkG dS0 dR0 S k).2 k (i + 1)).2 = updI (updI (mkI dS0 dR0 (mkG dS0 dR0 S k).1 (mkG dS0 dR0 S k).2 k i).2 (i * 3 + k) (dR0 (mkI dS0 dR0 (mkG dS0 dR0 S k).1 (mkG dS0 dR0 S k).2 k i).1 rnd6)) (k * 3 + i) (dR0 (mkI dS0 dR0 (mkG dS0 dR0 S k).1 (mkG dS0 dR0 S k).2 k i).1 rnd6)) := hid (fun k i => rfl)
  have HI0 : Hid (∀ k, (mkI dS0 dR0 (mkG dS0 dR0 S k).1 (mkG dS0 dR0 S k).2 k 0).1 = (mkG dS0 dR0 S k).1 ∧ (mkI dS0 dR0 (mkG dS0 dR0 S k).1 (mkG dS0 dR0 S k).2 k 0).2 = (mkG dS0 dR0 S k).2) := hid (fun k => ⟨rfl, rfl⟩)
  have HIk : Hid (∀ k, (mkI dS0 dR0 (mkG dS0 dR0 S k).1 (mkG dS0 dR0 S k).2 k k).1 = (mkG dS0 dR0 S (k + 1)).1 ∧ (mkI dS0 dR0 (mkG dS0 dR0 S k).1 (mkG dS0 dR0 S k).2 k k).2 = (mkG dS0 dR0 S (k + 1)).2) := hid (fun k => ⟨rfl, rfl⟩)
  have HM0 : Hid (Msk 0 (mkG dS0 dR0 S 0).2 (.map #[] 0)) := hid (MapO.made prkP)
  have H1 : Hid (Ow Pm F0 w0 (w.alloc (.map #[] 0)) b (mkG dS0 dR0 S 0).1 ((w.heap.size, .map #[] 0) :: bs)) := hid (h.newO hM (.map #[] 0))
  obtain ⟨g, hg⟩ : ∃ g, w.heap.size = g := ⟨_, rfl⟩
  rw [hg] at H1
  have HG := hid hg
  have HN3 := hid hn3
  clear HB h hq hk hn hn3 hg
  obtain ⟨GS, hGS⟩ : ∃ GS : Nat → Ms, ∀ k, (mkG dS0 dR0 S k).1 = GS k := ⟨_, fun _ => rfl⟩
  obtain ⟨GR, hGR⟩ : ∃ GR : Nat → Nat → Int, ∀ k, (mkG dS0 dR0 S k).2 = GR k := ⟨_, fun _ => rfl⟩
  simp only [hGS, hGR] at *
  clear hGS hGR
  obtain ⟨IS, hIS⟩ : ∃ IS : Nat → Nat → Ms, ∀ k i, (mkI dS0 dR0 (GS k) (GR k) k i).1 = IS k i := ⟨_, fun _ _ => rfl⟩
  obtain ⟨IR, hIR⟩ : ∃ IR : Nat → Nat → Nat → Int, ∀ k i, (mkI dS0 dR0 (GS k) (GR k) k i).2 = IR k i := ⟨_, fun _ _ => rfl⟩
  simp only [hIS, hIR] at *
  clear hIS hIR
  obtain ⟨RG, hRG⟩ : ∃ RG : Nat → Nat → Int, ∀ k i, dR0 (IS k i) rnd6 = RG k i := ⟨_, fun _ _ => rfl⟩
  simp only [hRG] at *
  clear hRG
  have hmm := @run_makeMap Tryd.prog
  go_enter Tryd.func60, Tryd.ntmps60
  go_upto_region 2 with fail
  rw [HG.out]
  generalize w.alloc (.map #[] 0) = w1 at *
  clear hmm
  go_upto_region 3 with (go_at_call 40; (with_reducible refine (HNB.out _ _ H1.out).mono ?_); rintro e w2 ⟨rfl, hb⟩; have H2 := hid (H1.out.self hM hb); clear hb)
  go_loopw [10] (fun kv wr => ∃ (k : Nat) (o : Obj), k ≤ nn ∧ kv = .int .i64 k ∧ Msk (6 * k) (GR k) o ∧ Ow Pm F0 w0 wr b (GS k) ((g, o) :: bs)) (fun kv _ => nn - (intOf kv).toNat)
  case atStart => exact ⟨0, _, by omega, rfl, HM0.out, H2.out⟩
  case round =>
    clear H1 H2 HM0
    obtain ⟨k, o, hk, rfl, hO, hJ⟩ := hrel
    have HJ := hid hJ
    have HO := hid hO
    clear hJ hO
    have hn3 := HN3.out
    by_cases hlt : k < nn
    · have k1 : (k : Int) < (nn : Int) := by omega
      have k0 : (0 : Int) ≤ (k : Int) := by omega
      have HK3 : Hid (k < 3) := hid (by omega)
      have HKX : Hid (k + 1 ≤ nn) := hid (by omega)
      have HJ' : Hid (Ow Pm F0 w0 wr b (IS k 0) ((g, o) :: bs)) := hid (by rw [(HI0.out k).1]; exact HJ.out)
      have HO' : Hid (Msk (6 * k + 2 * 0) (IR k 0) o) := hid (by rw [(HI0.out k).2]; exact HO.out)
      have HLT := hid hlt
      clear HJ HO hk
      go_wp2
      obtain ⟨wo, hwo⟩ : ∃ wo, wr = wo := ⟨_, rfl⟩
      subst hwo
      go_loopw [14] (fun iv wr => ∃ (i : Nat) (o : Obj), i ≤ k ∧ iv = .int .i64 i ∧ Msk (6 * k + 2 * i) (IR k i) o ∧ Ow Pm F0 w0 wr b (IS k i) ((g, o) :: bs)) (fun iv _ => k - (intOf iv).toNat)
      case atStart => exact ⟨0, _, by omega, rfl, HO'.out, HJ'.out⟩
      case round =>
        clear HJ' HO'
        obtain ⟨i, o, hi, rfl, hO, hJ⟩ := hrel
        have HJ := hid hJ
        have HO := hid hO
        clear hJ hO
        have hn3 := HN3.out
        by_cases hli : i < k
        · have i1 : (i : Int) < (k : Int) := by omega
          have i0 : (0 : Int) ≤ (i : Int) := by omega
          have HI3 : Hid (i < 3) := hid (by have := HK3.out; omega)
          have HIX : Hid (i + 1 ≤ k) := hid (by omega)
          have HC1 : Hid (6 * k + 2 * i < maxLen) := hid (by have := HK3.out; unfold maxLen; omega)
          have HC2 : Hid (6 * k + 2 * i + 1 < maxLen) := hid (by have := HK3.out; unfold maxLen; omega)
          replace HRD := hid (HRD.out k i HLT.out hli)
          replace HWF := hid (HWF.out k i HLT.out hli)
          replace HU := hid (HU.out k i)
          clear hi hli
          go_wp2_with (first
            | (go_at_call 66; (with_reducible refine (HRD.out _ _ HJ.out).mono ?_); rintro e w4 ⟨rfl, hb⟩; have H4 := hid hb; clear hb)
            | (at_mapUpdate; refine step_storeP kprK Tryd.underlying98 Tryd.underlying3 rfl _ _ _ rfl (i := i) (j := k) (z := RG k i) rfl rfl rfl (H4.out.bl 0 rfl) HO.out HC1.out HI3.out HK3.out HWF.out ?_; intro w5 o5 hb5 hm5 hf5 hs5 hos5; have H5 := hid (H4.out.turn hM hb5 hf5 (Nat.le_of_eq hs5.symm) hos5); have HO5 := hid hm5; clear hb5 hf5 hs5 hos5 hm5)
            | (at_mapUpdate; refine step_storeP kprK Tryd.underlying98 Tryd.underlying3 rfl _ _ _ rfl (i := k) (j := i) (z := RG k i) rfl rfl rfl (H5.out.bl 0 rfl) HO5.out HC2.out HK3.out HI3.out HWF.out ?_; intro w6 o6 hb6 hm6 hf6 hs6 hos6; have H6 := hid (H5.out.turn hM hb6 hf6 (Nat.le_of_eq hs6.symm) hos6); have HO6 := hid hm6; clear hb6 hf6 hs6 hos6 hm6))
          go_roundw
          case rel => exact ⟨i + 1, _, HIX.out, by go_num, by rw [HU.out]; exact HO6.out.mono (by omega), H6.out⟩
          case measure => simp [intOf]; omega
        · obtain rfl : i = k := by omega
          clear hli hi
          go_wp2
          go_roundw
          case rel => exact ⟨i + 1, _, HKX.out, by go_num, by rw [← (HIk.out i).2]; exact HO.out.mono (by have := HK3.out; omega), by rw [← (HIk.out i).1]; exact HJ.out⟩
          case measure => simp [intOf]; omega
    · obtain rfl : nn = k := by omega
      clear hlt hk
      go_wp2
      go_ret
      exact ⟨_, _, rfl, HO.out.mono (by have := HN3.out; omega), HJ.out⟩
set_option maxHeartbeats 6400000 in
theorem tprod_any {Pm : World → Nat → Ms → (Nat → Prop) → Prop} (hM : Mach Pm) {F0 : Nat → Prop} {w0 w : World} {b : Nat} {bs : List (Nat × Obj)} (q nn : Nat) (S : Ms) (A B : Nat → Int) (h : Ow Pm F0 w0 w b S bs) (hq : Bq q S) (hk : q + 12 ≤ 100000) (hn : S.n = (nn : Int)) (hn3 : nn ≤ 3) (hA : Wb A) (hB : Wb B) :
    Calls Tryd.prog 61 #[.pointer (some ⟨b, 0, none⟩), .agg (wdV A), .agg (wdV B)] w fun e w' => e = .returned (.agg (iz 9 (pdG dS0 dR0 A B S nn nn).2)) ∧ Ow Pm F0 w0 w' b (pdG dS0 dR0 A B S nn nn).1 bs := by
  have HG : ∀ i, i ≤ nn → Bn (q + 9) (nn : Int) (pdG dS0 dR0 A B S nn i).1 := fun i hi => (pdG_bq hn3 ⟨hq, hn⟩ hA hB (i := i) (by omega) (by omega)).1.mono (by omega)
  have HB : ∀ i k, i < nn → k ≤ nn → Bn (q + 9) (nn : Int) (pdI dS0 dR0 A B (pdG dS0 dR0 A B S nn i).1 (pdG dS0 dR0 A B S nn i).2 i k).1 := fun i k hi hk2 => by
    obtain ⟨a1, a2⟩ := pdG_bq hn3 ⟨hq, hn⟩ hA hB (i := i) (by omega) (by omega)
    exact (pdI_bq a1 (by omega) hA hB a2 (i := i) (j := k) (by omega)).1.mono (by omega)
  have HNB : Hid (∀ i, i ≤ nn → ∀ (bs' : List (Nat × Obj)) (w' : World), Ow Pm F0 w0 w' b (pdG dS0 dR0 A B S nn i).1 bs' → Calls Tryd.prog 40 #[.pointer (some ⟨b, 0, none⟩)] w' fun e w2 => e = .returned (.int .i64 (nn : Int)) ∧ Below w'.heap.size w' w2) := hid (fun i hi bs' w' h' => h'.asks (fun F hF => by have := hM.n b (q + 9) _ F w' hF (HG i hi).1 (by omega); rw [(HG i hi).2] at this; exact this))
  have HTW : Hid (∀ i k, i < nn → k < nn → ∀ (bs' : List (Nat × Obj)) (w' : World), Ow Pm F0 w0 w' b (pdI dS0 dR0 A B (pdG dS0 dR0 A B S nn i).1 (pdG dS0 dR0 A B S nn i).2 i k).1 bs' → Calls Tryd.prog 67 #[.pointer (some ⟨b, 0, none⟩), .int .i64 7, .int .i64 (i : Int), .int .i64 (A i), .int .i64 (B k)] w' fun e w2 => e = .returned (.int .i64 (dR0 (pdI dS0 dR0 A B (pdG dS0 dR0 A B S nn i).1 (pdG dS0 dR0 A B S nn i).2 i k).1 (an6 i (A i) (B k)))) ∧ Ow Pm F0 w0 w2 b (pdI dS0 dR0 A B (pdG dS0 dR0 A B S nn i).1 (pdG dS0 dR0 A B S nn i).2 i (k + 1)).1 bs') := hid (fun i k hi hk2 bs' w' h' => h'.lift hM (fun F hF => hM.two b (q + 9) _ F 7 (i : Int) (A i) (B k) w' hF (HB i k hi (by omega)).1 (by omega) (an6_wf (by omega) (hA i) (hB k))))
  have HU : Hid (∀ i k, (pdI dS0 dR0 A B (pdG dS0 dR0 A B S nn i).1 (pdG dS0 dR0 A B S nn i).2 i (k + 1)).2 = updI (pdI dS0 dR0 A B (pdG dS0 dR0 A B S nn i).1 (pdG dS0 dR0 A B S nn i).2 i k).2 (i * 3 + k) (dR0 (pdI dS0 dR0 A B (pdG dS0 dR0 A B S nn i).1 (pdG dS0 dR0 A B S nn i).2 i k).1 (an6 i (A i) (B k)))) := hid (fun i k => rfl)
  have HI0 : Hid (∀ i, (pdI dS0 dR0 A B (pdG dS0 dR0 A B S nn i).1 (pdG dS0 dR0 A B S nn i).2 i 0).1 = (pdG dS0 dR0 A B S nn i).1 ∧ (pdI dS0 dR0 A B (pdG dS0 dR0 A B S nn i).1 (pdG dS0 dR0 A B S nn i).2 i 0).2 = (pdG dS0 dR0 A B S nn i).2) := hid (fun i => ⟨rfl, rfl⟩)
  have HIn : Hid (∀ i, (pdI dS0 dR0 A B (pdG dS0 dR0 A B S nn i).1 (pdG dS0 dR0 A B S nn i).2 i nn).1 = (pdG dS0 dR0 A B S nn (i + 1)).1 ∧ (pdI dS0 dR0 A B (pdG dS0 dR0 A B S nn i).1 (pdG dS0 dR0 A B S nn i).2 i nn).2 = (pdG dS0 dR0 A B S nn (i + 1)).2) := hid (fun i => ⟨rfl, rfl⟩)
  have HN3 := hid hn3
  have HZ : Hid ((pdG dS0 dR0 A B S nn 0).2 = zero9) := hid rfl
  have H0 := hid (((h.new hM (wdV A) 34).new hM (wdV B) 34).new hM #[.int .i64 0, .int .i64 0, .int .i64 0, .int .i64 0, .int .i64 0, .int .i64 0, .int .i64 0, .int .i64 0, .int .i64 0] 100)
  obtain ⟨w1, hw1⟩ : ∃ w1, (((w.alloc (.cells (wdV A) 34)).alloc (.cells (wdV B) 34)).alloc (.cells #[.int .i64 0, .int .i64 0, .int .i64 0, .int .i64 0, .int .i64 0, .int .i64 0, .int .i64 0, .int .i64 0, .int .i64 0] 100)) = w1 := ⟨_, rfl⟩
  rw [hw1] at H0
  have H1 : Hid (Ow Pm F0 w0 w1 b (pdG dS0 dR0 A B S nn 0).1 ((w.heap.size + 2, .cells #[.int .i64 0, .int .i64 0, .int .i64 0, .int .i64 0, .int .i64 0, .int .i64 0, .int .i64 0, .int .i64 0, .int .i64 0] 100 (0, 0)) :: (w.heap.size + 1, .cells (wdV B) 34 (0, 0)) :: (w.heap.size, .cells (wdV A) 34 (0, 0)) :: bs)) := hid (by have := H0.out; simp only [sz_al] at this; exact this)
  have HW := hid hw1
  clear HG HB h hq hk hn hn3 hA hB hw1 H0
  obtain ⟨GS, hGS⟩ : ∃ GS : Nat → Ms, ∀ k, (pdG dS0 dR0 A B S nn k).1 = GS k := ⟨_, fun _ => rfl⟩
  obtain ⟨GP, hGP⟩ : ∃ GP : Nat → Nat → Int, ∀ k, (pdG dS0 dR0 A B S nn k).2 = GP k := ⟨_, fun _ => rfl⟩
  simp only [hGS, hGP] at *
  clear hGS hGP
  obtain ⟨IS, hIS⟩ : ∃ IS : Nat → Nat → Ms, ∀ i k, (pdI dS0 dR0 A B (GS i) (GP i) i k).1 = IS i k := ⟨_, fun _ _ => rfl⟩
  obtain ⟨IP, hIP⟩ : ∃ IP : Nat → Nat → Nat → Int, ∀ i k, (pdI dS0 dR0 A B (GS i) (GP i) i k).2 = IP i k := ⟨_, fun _ _ => rfl⟩
  simp only [hIS, hIP] at *
  clear hIS hIP
  obtain ⟨RG, hRG⟩ : ∃ RG : Nat → Nat → Int, ∀ i k, dR0 (IS i k) (an6 i (A i) (B k)) = RG i k := ⟨_, fun _ _ => rfl⟩
  simp only [hRG] at *
  clear hRG
  go_enter Tryd.func61, Tryd.ntmps61
  go_upto_region 1 with fail
  rw [HW.out]
  go_upto_region 2 with fail
  have H2 := hid (H1.out.new hM (iz 9 zero9) 100)
  obtain ⟨g7, hg7⟩ : ∃ g7, w1.heap.size = g7 := ⟨_, rfl⟩
  rw [hg7] at H2
  have H3 : Hid (Ow Pm F0 w0 (w1.alloc (.cells #[.int .i64 0, .int .i64 0, .int .i64 0, .int .i64 0, .int .i64 0, .int .i64 0, .int .i64 0, .int .i64 0, .int .i64 0] 100)) b (GS 0) ((g7, .cells (iz 9 (GP 0)) 100 (0, 0)) :: (w.heap.size + 2, .cells #[.int .i64 0, .int .i64 0, .int .i64 0, .int .i64 0, .int .i64 0, .int .i64 0, .int .i64 0, .int .i64 0, .int .i64 0] 100 (0, 0)) :: (w.heap.size + 1, .cells (wdV B) 34 (0, 0)) :: (w.heap.size, .cells (wdV A) 34 (0, 0)) :: bs)) := hid (by rw [HZ.out]; exact H2.out)
  rw [hg7]
  generalize w1.alloc (.cells #[.int .i64 0, .int .i64 0, .int .i64 0, .int .i64 0, .int .i64 0, .int .i64 0, .int .i64 0, .int .i64 0, .int .i64 0] 100) = w3 at *
  clear hg7 H2 H1
  replace HNB := HNB
  go_upto_region 3 with (go_at_call 40; (with_reducible refine (HNB.out 0 (Nat.zero_le _) _ _ H3.out).mono ?_); rintro e w2 ⟨rfl, hb⟩; have H4 := hid (H3.out.self hM hb); clear hb)
  go_loopw [12] (fun iv wr => ∃ i : Nat, i ≤ nn ∧ iv = .int .i64 i ∧ Ow Pm F0 w0 wr b (GS i) ((g7, .cells (iz 9 (GP i)) 100 (0, 0)) :: (w.heap.size + 2, .cells #[.int .i64 0, .int .i64 0, .int .i64 0, .int .i64 0, .int .i64 0, .int .i64 0, .int .i64 0, .int .i64 0, .int .i64 0] 100 (0, 0)) :: (w.heap.size + 1, .cells (wdV B) 34 (0, 0)) :: (w.heap.size, .cells (wdV A) 34 (0, 0)) :: bs)) (fun iv _ => nn - (intOf iv).toNat)
  case atStart => exact ⟨0, by omega, rfl, H4.out⟩
  case round =>
    clear H3 H4
    obtain ⟨i, hi, rfl, hI⟩ := hrel
    have HI := hid hI
    clear hI
    have hn3 := HN3.out
    by_cases hlt : i < nn
    · have j1 : (i : Int) < (nn : Int) := by omega
      have j0 : (0 : Int) ≤ (i : Int) := by omega
      have j3 : (i : Int) < 3 := by omega
      have HI3 : Hid (i < 3) := hid (by omega)
      have HIX1 : Hid (i + 1 ≤ nn) := hid (by omega)
      replace HTW := hid (fun k hk => HTW.out i k hlt hk)
      have HNI := hid (HNB.out i hi)
      clear hi
      go_upto_region 6 with (go_at_call 40; (with_reducible refine (HNI.out _ _ HI.out).mono ?_); rintro e w5 ⟨rfl, hb⟩; have H5 := hid (HI.out.self hM hb); clear hb)
      obtain ⟨wo, hwo⟩ : ∃ wo, wr = wo := ⟨_, rfl⟩
      subst hwo
      go_loopw [17] (fun kv wr => ∃ k : Nat, k ≤ nn ∧ kv = .int .i64 k ∧ Ow Pm F0 w0 wr b (IS i k) ((g7, .cells (iz 9 (IP i k)) 100 (0, 0)) :: (w.heap.size + 2, .cells #[.int .i64 0, .int .i64 0, .int .i64 0, .int .i64 0, .int .i64 0, .int .i64 0, .int .i64 0, .int .i64 0, .int .i64 0] 100 (0, 0)) :: (w.heap.size + 1, .cells (wdV B) 34 (0, 0)) :: (w.heap.size, .cells (wdV A) 34 (0, 0)) :: bs)) (fun kv _ => nn - (intOf kv).toNat)
      case atStart => exact ⟨0, by omega, rfl, by rw [(HI0.out i).1, (HI0.out i).2]; exact H5.out⟩
      case round =>
        clear H5 HI
        obtain ⟨k, hk, rfl, hJ⟩ := hrel
        have HJ := hid hJ
        clear hJ
        have hn3 := HN3.out
        by_cases hlk : k < nn
        · have k1 : (k : Int) < (nn : Int) := by omega
          have k0 : (0 : Int) ≤ (k : Int) := by omega
          have k3 : (k : Int) < 3 := by omega
          have HK3 : Hid (k < 3) := hid (by omega)
          have HIX : Hid (i * 3 + k < 9) := hid (by have := HI3.out; omega)
          have HKX : Hid (k + 1 ≤ nn) := hid (by omega)
          replace HTW := hid (HTW.out k hlk)
          replace HU := hid (HU.out i k)
          clear hk
          go_upto_region 8 with fail
          have G0 := hid (HJ.out.self hM ((Below.refl _ wr).drew))
          refine wp_region_noPanic ?_
          refine wp_region_held_drew (S := fun w' => w'.heap[w.heap.size]? = some (.cells (wdV A) 34 (0, 0)) ∧ w'.heap[w.heap.size + 1]? = some (.cells (wdV B) 34 (0, 0))) (by kernel_rfl) (⟨G0.out.bl 3 rfl, G0.out.bl 2 rfl⟩) (fun h0 => ?_)
          generalize wr.drew = y0 at *
          refine wpAnyH_take (i := 0) (v := .int .i64 (i : Int)) rfl (by kernel_rfl) (by kernel_rfl) (by kernel_rfl) (fun _ _ _ h => h) (.inl ⟨by rfl, fun w hw => by clear hw; go_simp⟩) h0 ?_
          try simp only [Act.put, lay_out]
          refine wpAnyH_take (i := 1) (v := .int .i64 (k : Int)) rfl (by kernel_rfl) (by kernel_rfl) (by kernel_rfl) (fun _ _ _ h => h) (.inl ⟨by rfl, fun w hw => by clear hw; go_simp⟩) h0 ?_
          try simp only [Act.put, lay_out]
          refine wpAnyH_take (i := 2) (v := .pointer (some ⟨b, 0, none⟩)) rfl (by kernel_rfl) (by kernel_rfl) (by kernel_rfl) (fun _ _ _ h => h) (.inl ⟨by rfl, fun w hw => by clear hw; go_simp⟩) h0 ?_
          try simp only [Act.put, lay_out]
          refine wpAnyH_take (i := 3) (v := .int .i64 (i : Int)) rfl (by kernel_rfl) (by kernel_rfl) (by kernel_rfl) (fun _ _ _ h => h) (.inl ⟨by rfl, fun w hw => by clear hw; go_simp⟩) h0 ?_
          try simp only [Act.put, lay_out]
          refine wpAnyH_take (i := 4) (v := .int .i64 (i : Int)) rfl (by kernel_rfl) (by kernel_rfl) (by kernel_rfl) (fun _ _ _ h => h) (.inl ⟨by rfl, fun w hw => by clear hw; go_simp⟩) h0 ?_
          try simp only [Act.put, lay_out]
          refine wpAnyH_take (i := 5) (v := .pointer (some ⟨w.heap.size, 0, none⟩)) rfl (by kernel_rfl) (by kernel_rfl) (by kernel_rfl) (fun _ _ _ h => h) (.inl ⟨by rfl, fun w hw => by clear hw; go_simp⟩) h0 ?_
          try simp only [Act.put, lay_out]
          refine wpAnyH_take (i := 6) (v := .pointer (some ⟨w.heap.size, i, none⟩)) rfl (by kernel_rfl) (by kernel_rfl) (by kernel_rfl) (fun _ _ _ h => h) (.inl ⟨by rfl, fun w hw => by clear hw; go_simp⟩) h0 ?_
          try simp only [Act.put, lay_out]
          refine wpAnyH_take (i := 7) (v := .int .i64 (A i)) rfl (by kernel_rfl) (by kernel_rfl) (by kernel_rfl) (fun _ _ _ h => h) (.inl ⟨by rfl, fun w' hw => by have hc := row_c (i := i) (u := .int .i64 (A i)) hw.1 (wdV_at A i HI3.out); clear hw; go_simp⟩) h0 ?_
          try simp only [Act.put, lay_out]
          refine wpAnyH_take (i := 8) (v := .int .i64 (k : Int)) rfl (by kernel_rfl) (by kernel_rfl) (by kernel_rfl) (fun _ _ _ h => h) (.inl ⟨by rfl, fun w hw => by clear hw; go_simp⟩) h0 ?_
          try simp only [Act.put, lay_out]
          refine wpAnyH_take (i := 9) (v := .pointer (some ⟨w.heap.size + 1, 0, none⟩)) rfl (by kernel_rfl) (by kernel_rfl) (by kernel_rfl) (fun _ _ _ h => h) (.inl ⟨by rfl, fun w hw => by clear hw; go_simp⟩) h0 ?_
          try simp only [Act.put, lay_out]
          refine wpAnyH_take (i := 10) (v := .pointer (some ⟨w.heap.size + 1, k, none⟩)) rfl (by kernel_rfl) (by kernel_rfl) (by kernel_rfl) (fun _ _ _ h => h) (.inl ⟨by rfl, fun w hw => by clear hw; go_simp⟩) h0 ?_
          try simp only [Act.put, lay_out]
          refine wpAnyH_take (i := 11) (v := .int .i64 (B k)) rfl (by kernel_rfl) (by kernel_rfl) (by kernel_rfl) (fun _ _ _ h => h) (.inl ⟨by rfl, fun w' hw => by have hc := row_c (i := k) (u := .int .i64 (B k)) hw.2 (wdV_at B k HK3.out); clear hw; go_simp⟩) h0 ?_
          try simp only [Act.put, lay_out]
          refine wpAnyH_take (i := 13) (v := .pointer (some ⟨g7, i * 3, none⟩)) rfl (by kernel_rfl) (by kernel_rfl) (by kernel_rfl) (fun _ _ _ h => h) (.inl ⟨by rfl, fun w hw => by clear hw; go_simp⟩) h0 ?_
          try simp only [Act.put, lay_out]
          refine wpAnyH_ready (rs := [12]) (by kernel_rfl) (by simp) (AllReadyH.cons rfl (fun K hK => ?_) AllReadyH.nil)
          rw [if_pos (by rfl)]
          go_simp
          go_at_call 67
          (with_reducible refine (HTW.out _ _ G0.out).mono ?_); rintro e y2 ⟨rfl, hz⟩
          have G2 := hid hz
          clear hz
          refine hK.out _ _ (⟨G2.out.bl 3 rfl, G2.out.bl 2 rfl⟩) (fun h1x => ?_)
          clear hK K
          try simp only [Act.put, lay_out]
          refine wpAnyH_take (i := 14) (v := .pointer (some ⟨g7, i * 3 + k, none⟩)) rfl (by kernel_rfl) (by kernel_rfl) (by kernel_rfl) (fun _ _ _ h => h) (.inl ⟨by rfl, fun w hw => by clear hw; go_simp⟩) h1x ?_
          try simp only [Act.put, lay_out]
          have cj := row_c (i := i * 3 + k) (G2.out.bl 0 rfl) (iz_get _ HIX.out)
          have fj := frozen_of_row y2 g7 (i * 3 + k) _ _ (G2.out.bl 0 rfl)
          refine wpAnyH_ready (rs := [15]) (by kernel_rfl) (by simp) (AllReadyH.cons rfl (fun K hK => ?_) AllReadyH.nil)
          rw [if_pos (by rfl)]
          go_simp
          clear cj fj
          have G3 : Hid (Ow Pm F0 w0 (y2.setCell ⟨g7, i * 3 + k, none⟩ (.int .i64 (RG i k))) b (IS i (k + 1)) ((g7, .cells (iz 9 (IP i (k + 1))) 100 (0, 0)) :: (w.heap.size + 2, .cells #[.int .i64 0, .int .i64 0, .int .i64 0, .int .i64 0, .int .i64 0, .int .i64 0, .int .i64 0, .int .i64 0, .int .i64 0] 100 (0, 0)) :: (w.heap.size + 1, .cells (wdV B) 34 (0, 0)) :: (w.heap.size, .cells (wdV A) 34 (0, 0)) :: bs)) := hid (by have := G2.out.cellI hM 0 rfl (i * 3 + k) (.int .i64 (RG i k)); rw [iz_set, ← HU.out] at this; exact this)
          generalize y2.setCell ⟨g7, i * 3 + k, none⟩ (.int .i64 (RG i k)) = y3 at *
          refine hK.out _ _ (⟨G3.out.bl 3 rfl, G3.out.bl 2 rfl⟩) (fun h2x => ?_)
          clear hK K
          try simp only [Act.put, lay_out]
          refine wpAnyH_done (by kernel_rfl) ?_ _
          refine NoPanic.normal ?_
          clear h0 h1x h2x
          try simp only [Act.put, lay_out]
          go_wp2
          go_roundw
          case rel => exact ⟨k + 1, HKX.out, by go_num, G3.out⟩
          case measure => simp [intOf]; omega
        · obtain rfl : nn = k := by omega
          clear hlk hk
          go_wp2
          go_roundw
          case rel => exact ⟨i + 1, HIX1.out, by go_num, by rw [← (HIn.out i).1, ← (HIn.out i).2]; exact HJ.out⟩
          case measure => simp [intOf]; omega
    · obtain rfl : nn = i := by omega
      clear hlt hi
      go_wp2_with (first
        | (refine step_load_row rfl 100 _ rfl g7 100 (iz 9 (GP nn)) _ rfl (HI.out.bl 0 rfl) Tryd.underlying100 rfl (by rw [iz_size]; kernel_rfl) ?_)
        | (refine step_store_row rfl 100 _ _ rfl (w.heap.size + 2) 100 _ (iz 9 (GP nn)) rfl rfl (HI.out.bl 1 rfl) (by rw [iz_size]; kernel_rfl) (by rw [iz_size]; rfl) (by kernel_rfl) ?_))
      have H9 := hid (HI.out.rowI hM 1 rfl (iz 9 (GP nn)))
      exact bodyPost_ret (results_cell_row (by rfl) _ _ (w.heap.size + 2) 100 (iz 9 (GP nn)) (0, 0) _ rfl (H9.out.bl 1 rfl) Tryd.underlying100 rfl (by rw [iz_size]; kernel_rfl)) rfl ⟨rfl, H9.out.drop.drop.drop.drop⟩
end Go.Proofs.YthkijncnndoafaaDoor

/- Times: what the program must tell, over any machine; the laws' common functions. -/
namespace Go.Proofs.YthkijncnndoafaaDoor
open Go.RowKit
set_option maxRecDepth 100000
/-- By which kind. -/
def isDom (K : Int) : Bool := decide (K = 2)
/-- How many masks, how many ops. -/
def tmD (n : Int) : Int := if n = 2 then 1 else if n = 3 then 3 else 0
/-- The program's times, whatever it is made of; V: what it asks of the world, and of the machine's blocks. -/
structure TmI (Pm : World → Nat → Ms → (Nat → Prop) → Prop) (V : World → (Nat → Prop) → Prop) : Prop where
  by_ : ∀ (b k : Nat) (S : Ms) (F : Nat → Prop) (K : Int) (A B : Nat → Int) (w : World), Pm w b S F → V w F → Bq k S → k + 50 ≤ 100000 → (S.n = 2 ∨ S.n = 3) → I64 K → Wb A → Wb B → Calls Tryd.prog 38 #[.pointer (some ⟨b, 0, none⟩), .int .i64 K, .agg (wdV A), .agg (wdV B)] w fun e w' => e = .returned (.agg (wdV (tmR S (isDom K) A B))) ∧ PmR Pm b (tmS S (isDom K) A B) F w w'
  isw : ∀ (b k : Nat) (S : Ms) (F : Nat → Prop) (A B : Nat → Int) (w : World), Pm w b S F → V w F → Bq k S → k + 50 ≤ 100000 → (S.n = 2 ∨ S.n = 3) → Wb A → Wb B → Calls Tryd.prog 44 #[.pointer (some ⟨b, 0, none⟩), .agg (wdV A), .agg (wdV B)] w fun e w' => e = .returned (.agg (wdV (tmR S false A B))) ∧ PmR Pm b (tmS S false A B) F w w'
  dom : ∀ (b k : Nat) (S : Ms) (F : Nat → Prop) (A B : Nat → Int) (w : World), Pm w b S F → V w F → Bq k S → k + 50 ≤ 100000 → (S.n = 2 ∨ S.n = 3) → Wb A → Wb B → Calls Tryd.prog 43 #[.pointer (some ⟨b, 0, none⟩), .agg (wdV A), .agg (wdV B)] w fun e w' => e = .returned (.agg (wdV (tmR S true A B))) ∧ PmR Pm b (tmS S true A B) F w w'
section
variable {Pm : World → Nat → Ms → (Nat → Prop) → Prop} (hM : Mach Pm) {lo : Nat} {X : Nat → Prop} {W w : World} {b bd k : Nat} {S S2 : Ms}
include hM
variable {V : World → (Nat → Prop) → Prop} (hT : TmI Pm V)
include hT
theorem qby (K : Int) (A B : Nat → Int) (h : Bz Pm lo X W w b bd S S2) (hV : ∀ F : Nat → Prop, (∀ k, F k → lo ≤ k) → V w F) (hq : Bq k S) (hk : k + 50 ≤ 100000) (hn : S.n = 2 ∨ S.n = 3) (hK : I64 K) (hA : Wb A) (hB : Wb B) :
    Calls Tryd.prog 38 #[.pointer (some ⟨b, 0, none⟩), .int .i64 K, .agg (wdV A), .agg (wdV B)] w fun e w' => e = .returned (.agg (wdV (tmR S (isDom K) A B))) ∧ Bz Pm lo X W w' b bd (tmS S (isDom K) A B) S2 ∧ ∀ k, X k → w'.heap[k]? = w.heap[k]? := by
  obtain ⟨F, G, ov, bv, vv, tv, h1, h2, h3, h4, h5, h6, h7⟩ := h
  exact (hT.by_ b k S F K A B w h1 (hV F (fun k hk => (h3 k hk).1)) hq hk hn hK hA hB).mono fun e w' hr => ⟨hr.1, Bz.prog hM h1 h2 h3 h4 h5 h6 h7 hr.2⟩
end
abbrev w3 (x : Nat → Nat) : Array Value := #[.int .u64 (x 0 : Int), .int .u64 (x 1 : Int), .int .u64 (x 2 : Int)]
theorem tdraws_any (n : Int) (w : World) : Calls Tryd.prog 25 #[.int .i64 n] w fun e w' => e = .returned (.int .i64 (tmD n)) ∧ w' = w := by
  unfold tmD
  by_cases h2 : n = 2
  · subst h2
    go_enter Tryd.func25, Tryd.ntmps25
    go_wp2
    go_ret
    exact ⟨rfl, rfl⟩
  · by_cases h3 : n = 3
    · subst h3
      go_enter Tryd.func25, Tryd.ntmps25
      go_wp2
      go_ret
      exact ⟨rfl, rfl⟩
    · rw [if_neg h2, if_neg h3]
      have q2 : ((n : Int) == 2) = false := by simpa using h2
      have q3 : ((n : Int) == 3) = false := by simpa using h3
      clear h2 h3
      go_enter Tryd.func25, Tryd.ntmps25
      go_wp2
      go_ret
      exact ⟨rfl, rfl⟩
end Go.Proofs.YthkijncnndoafaaDoor

/- General: a row of bytes that a call owns, whatever is frozen behind its end ('[]byte(s)' freezes one place there). No program is named. -/
namespace Go.Proofs.YthkijncnndoafaaDoor
open Go.RowKit Go.Lib

def Ob (B : Nat) (E : TypeId) (w : World) (v : Value) (xs : List UInt8) : Prop :=
  ∃ g cap cur fz, v = .slice (some ⟨g, 0, none⟩) xs.length cap ∧ B ≤ g ∧ w.heap[g]? = some (.cells cur E fz) ∧ (∀ j, xs.length ≤ j → j < cap → (decide (fz.1 ≤ j) && decide (j < fz.2)) = false) ∧ xs.length ≤ cap ∧ cap ≤ maxLen ∧ cur.size = cap ∧ cur.toList.take xs.length = Lib.byteCells xs
theorem setCells_row (g : Nat) (E : TypeId) (fz : Nat × Nat) : ∀ (vs : List Value) (o : Nat) (w : World) (cur : Array Value), w.heap[g]? = some (.cells cur E fz) → o + vs.length ≤ cur.size →
    (w.setCells g o vs).heap[g]? = some (.cells (cur.toList.take o ++ vs ++ cur.toList.drop (o + vs.length)).toArray E fz)
  | [], o, w, cur, h, _ => by
    show w.heap[g]? = _
    rw [h]
    simp
  | v :: r, o, w, cur, h, hl => by
    show ((w.setCell ⟨g, o, none⟩ v).setCells g (o + 1) r).heap[g]? = _
    have hlt : o < cur.size := by simp at hl; omega
    have h1 : (w.setCell ⟨g, o, none⟩ v).heap[g]? = some (.cells (cur.setIfInBounds o v) E fz) := by
      rw [setCell_eq_setRow w g o cur E fz v h]
      exact setRow_heap w g cur _ E fz h
    rw [setCells_row g E fz r (o + 1) _ _ h1 (by simp at hl ⊢; omega)]
    congr 2
    apply Array.ext'
    simp only [Array.toList_setIfInBounds]
    have e1 : (cur.toList.set o v).take (o + 1) = cur.toList.take o ++ [v] := by
      rw [List.take_set, List.take_add_one, List.set_append_right _ _ (by simp; omega)]
      have hm : min o cur.toList.length = o := by simp; omega
      rw [List.length_take, hm, Nat.sub_self]
      have hs : cur.toList[o]? = some cur[o] := by simp [hlt]
      rw [hs]
      simp
    have e2 : (cur.toList.set o v).drop (o + 1 + r.length) = cur.toList.drop (o + (r.length + 1)) := by
      rw [List.drop_set_of_lt (by omega)]
      congr 1
      omega
    rw [e1, e2]
    simp
theorem setCells_apart (g : Nat) : ∀ (vs : List Value) (o : Nat) (w : World) (k : Nat), k ≠ g → (w.setCells g o vs).heap[k]? = w.heap[k]?
  | [], _, _, _, _ => rfl
  | v :: r, o, w, k, h => by
    show ((w.setCell ⟨g, o, none⟩ v).setCells g (o + 1) r).heap[k]? = _
    rw [setCells_apart g r (o + 1) _ k h]
    exact heap_setCell_other w ⟨g, o, none⟩ k v h
theorem setCells_size (g : Nat) : ∀ (vs : List Value) (o : Nat) (w : World), (w.setCells g o vs).heap.size = w.heap.size
  | [], _, _ => rfl
  | v :: r, o, w => by
    show ((w.setCell ⟨g, o, none⟩ v).setCells g (o + 1) r).heap.size = _
    rw [setCells_size g r (o + 1) _]
    simp [World.setCell]
theorem setCells_out (g : Nat) : ∀ (vs : List Value) (o : Nat) (w : World), (w.setCells g o vs).os = w.os ∧ (w.setCells g o vs).tape = w.tape ∧ (w.setCells g o vs).output = w.output
  | [], _, _ => ⟨rfl, rfl, rfl⟩
  | v :: r, o, w => by
    obtain ⟨h1, h2, h3⟩ := setCells_out g r (o + 1) (w.setCell ⟨g, o, none⟩ v)
    exact ⟨h1.trans rfl, h2.trans rfl, h3.trans rfl⟩
section
variable {B : Nat} {E : TypeId} {w w' : World} {v : Value} {xs : List UInt8}
theorem Ob.lt (h : Ob B E w v xs) : ∀ k, v.ownBlock = some k → B ≤ k ∧ k < w.heap.size := by
  obtain ⟨g, cap, cur, fz, rfl, hb, hg, _⟩ := h
  intro k hk
  obtain rfl : g = k := by simpa [Value.ownBlock] using hk
  exact ⟨hb, (Array.getElem?_eq_some_iff.1 hg).1⟩
theorem Ob.stays (h : Ob B E w v xs) (hs : ∀ k, v.ownBlock = some k → w'.heap[k]? = w.heap[k]?) : Ob B E w' v xs := by
  obtain ⟨g, cap, cur, fz, rfl, hb, hg, r⟩ := h
  exact ⟨g, cap, cur, fz, rfl, hb, (hs g rfl).trans hg, r⟩
theorem Ob.self (h : Ob B E w v xs) (hb : Below w.heap.size w w') : Ob B E w' v xs := h.stays fun k hk => hb.block k (h.lt k hk).2
theorem Ob.alloc (h : Ob B E w v xs) (o : Obj) : Ob B E (w.alloc o) v xs := h.stays fun k hk => heap_alloc_old w o (h.lt k hk).2
theorem Ob.drew (h : Ob B E w v xs) : Ob B E w.drew v xs := h
theorem Ob.mono {B' : Nat} (h : Ob B E w v xs) (hB : B' ≤ B) : Ob B' E w v xs := by
  obtain ⟨g, cap, cur, fz, e, hb, r⟩ := h
  exact ⟨g, cap, cur, fz, e, by omega, r⟩
theorem Ob.cells {g n cap : Nat} (h : Ob B E w (.slice (some ⟨g, 0, none⟩) n cap) xs) : ∀ j u, (Lib.byteCells xs)[j]? = some u → w.cell? ⟨g, j, none⟩ = some u := by
  obtain ⟨g', cap', cur, fz, e, _, hg, _, _, _, _, ht⟩ := h
  simp only [Value.slice.injEq, Option.some.injEq, Addr.mk.injEq, and_true] at e
  obtain ⟨rfl, _, rfl⟩ := e
  intro j u hj
  rw [cell_of_row w g j cur E fz hg]
  rw [← ht, List.getElem?_take] at hj
  split at hj
  · simpa using hj
  · cases hj
end
section
variable {P : Program} {w : World}
end
end Go.Proofs.YthkijncnndoafaaDoor
