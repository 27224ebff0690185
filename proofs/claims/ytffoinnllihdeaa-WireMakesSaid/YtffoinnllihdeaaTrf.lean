import Derived.Test.YtffoinnllihdeaaProg
import Derived.Test.YtffoinnllihdeaaTrb
import Derived.Test.YtffoinnllihdeaaTre
/- Trace: whether it may be, by the document. -/
namespace Go.Proofs.Ytffoinnllihdeaa
open Go.RowKit
set_option maxRecDepth 100000
theorem infoop18 : (Try.prog.info? 43).map (·.size) = some [Value.int .i64 0, .int .i64 0, .int .i64 0, .int .i64 0, .int .i64 0, .int .u64 0].length := by kernel_rfl
theorem oc_range {w : World} {b n : Nat} {o : Op6} (h : Oc w b n o) : w.rangeAt b n [.int .i64 o.K, .int .i64 o.D, .int .i64 o.A, .int .i64 o.B, .int .i64 o.E, .int .u64 (o.C : Int)] := fun j v hv => by
  match j, hv with
  | 0, hv => injection hv with hv; subst hv; exact h.k
  | 1, hv => injection hv with hv; subst hv; exact h.d
  | 2, hv => injection hv with hv; subst hv; exact h.a
  | 3, hv => injection hv with hv; subst hv; exact h.b
  | 4, hv => injection hv with hv; subst hv; exact h.e
  | 5, hv => injection hv with hv; subst hv; exact h.c
/-- The spans of a trace, in a world and all later ones. -/
theorem rsp_sps {w : World} {a : Option Addr} {L cap : Nat} {g : Nat → Sp3} (h : RSp w (.slice a L cap) L g) : ∃ b off, (0 < L → a = some ⟨b, off, none⟩) ∧ (0 < L → b < w.heap.size) ∧ ∀ i, i < L → Sc w b (off + i * 3) (g i) := by
  obtain ⟨a', cap', e, h1, h2, h3⟩ := h.at_
  injection e with e1 e2 e3
  subst e1 e3
  by_cases h0 : 0 < L
  · obtain ⟨b, off, e1, e2, e3⟩ := h3 h0
    exact ⟨b, off, fun _ => e1, fun _ => e2, e3⟩
  · exact ⟨0, 0, fun h => absurd h h0, fun h => absurd h h0, fun i hi => by omega⟩
/-- The words of keys so far. -/
abbrev kc (f : Nat → Op6) (j : Nat) : Nat := cnt (fun o => decide (o.K = 2)) f j
theorem kc_step (f : Nat → Op6) (j : Nat) : kc f (j + 1) = if (f j).K = 2 then kc f j + 1 else kc f j := by
  unfold kc; rw [cnt]; by_cases h : (f j).K = 2
  · rw [if_pos h, if_pos (by simpa using h)]
  · rw [if_neg h, if_neg (by simpa using h)]; rfl
structure RI (w1 wr : World) (N : Int) (f : Nat → Op6) (j : Nat) : Prop where
  ok : allB (okO N f) j = true
  low : Below w1.heap.size w1 wr
structure RJ (w1 wr : World) (L : Nat) (g : Nat → Sp3) (j : Nat) : Prop where
  ok : allB (okS L g) j = true
  low : Below w1.heap.size w1 wr
set_option maxHeartbeats 6400000 in
theorem reftrace_any (N : Int) (v0 v1 : Value) (L M : Nat) (f : Nat → Op6) (g : Nat → Sp3) (w : World) (h : ROp w v0 L f) (h' : RSp w v1 M g) :
    Calls Try.prog 49 #[trV N v0 v1] w fun e w' => e = .returned (.bool (trB N L M f g)) ∧ Below w.heap.size w w' := by
  obtain ⟨a, cap, rfl, _⟩ := id h.at_
  obtain ⟨a', cap', rfl, _⟩ := id h'.at_
  have hlim := h.lim
  have hlim' := h'.lim
  obtain ⟨b, off, ha, hb, hops⟩ := rop_ops h
  obtain ⟨b', off', ha', hb', hsps⟩ := rsp_sps h'
  have HB : Hid (Below w.heap.size w (w.alloc (.cells #[.int .i64 N, .slice a L cap, .slice a' M cap'] 57))) := hid ((Below.refl _ _).alloc (Nat.le_refl _) _)
  have HTb := hid (fun w' => tb_box (w := w) (w' := w') (N := N) (v0 := .slice a L cap) (v1 := .slice a' M cap') (T := 57))
  have HR := hid (fun (j : Nat) w => refopright_any (f j) (j : Int) N w)
  have HA := hid ha
  have HA' := hid ha'
  obtain ⟨w1, hw1⟩ : ∃ w1, w.alloc (.cells #[.int .i64 N, .slice a L cap, .slice a' M cap'] 57) = w1 := ⟨_, rfl⟩
  rw [hw1] at HB HTb
  have HW1 := hid hw1
  have HOp : Hid (∀ w', Below w1.heap.size w1 w' → ∀ i, i < L → Oc w' b (off + i * 6) (f i)) := hid (fun w' hw i hi => (hops i hi).self (HB.out.trans (hw.mono HB.out.size)))
  have HSp : Hid (∀ w', Below w1.heap.size w1 w' → ∀ i, i < M → Sc w' b' (off' + i * 3) (g i)) := hid (fun w' hw i hi => (hsps i hi).self (HB.out.trans (hw.mono HB.out.size)))
  have HWf := hid (fun i (hi : i < L) => (h.wf i hi).2.2.2.2.2)
  clear h h' hops hsps ha ha' hb hb' hw1
  have HF : Hid (∀ j, j < L → okO N f j = false → trB N L M f g = false) := hid (fun j hj hf => by unfold trB; rw [allB_no hj hf]; simp)
  have HG : Hid (∀ j, j < M → okS L g j = false → trB N L M f g = false) := hid (fun j hj hf => by unfold trB; rw [allB_no hj hf]; simp)
  have HT : Hid ((N = 2 ∨ N = 3) → L ≤ 1048576 → allB (okO N f) L = true → allB (okS L g) M = true → trB N L M f g = true) := hid (fun h1 h2 h3 h4 => by unfold trB; rw [decide_eq_true ⟨h1, h2⟩, h3, h4]; rfl)
  have HH : Hid (¬ ((N = 2 ∨ N = 3) ∧ L ≤ 1048576) → trB N L M f g = false) := hid (fun h => by unfold trB; rw [decide_eq_false h]; rfl)
  generalize trB N L M f g = R at *
  by_cases hN : N = 2 ∨ N = 3
  · have g0 : ((N != 2) && (N != 3)) = false := by rcases hN with rfl | rfl <;> rfl
    by_cases hL : L ≤ 1048576
    · have gL : ¬ (1048576 : Int) < (L : Int) := by omega
      have HNL := hid (And.intro hN hL)
      rcases (show (N != 2) = false ∨ ((N != 2) = true ∧ (N != 3) = false) by rcases hN with rfl | rfl <;> simp) with q1 | ⟨q1, q2⟩
      · clear hN g0
        go_enter Try.func49, Try.ntmps49
        go_wp2
        rw [HW1.out]
        go_loopw [3, 4] (fun c i wr => ∃ j : Nat, j ≤ L ∧ i = .int .i64 j ∧ c = .int .u64 (kc f j : Nat) ∧ RI w1 wr N f j) (fun _ i _ => L - (intOf i).toNat)
        case atStart => exact ⟨0, by omega, rfl, rfl, ⟨rfl, Below.refl _ _⟩⟩
        case round =>
          obtain ⟨j, hj, rfl, rfl, hI⟩ := hrel
          have HI := hid hI
          clear hI
          have t1 := (HTb.out _ HI.out.low).o
          by_cases hlt : j < L
          · have hae := HA.out (by omega)
            subst hae
            have j1 : (0 : Int) ≤ (j : Int) := by omega
            have j2 : (j : Int) < (L : Int) := by omega
            have HFj := hid (HF.out j hlt)
            have HOd : Hid (okO N f j = (okOp (f j) (j : Int) N && decide ((f j).K = 2 → (f j).C = kc f j))) := hid (by unfold okO; rfl)
            have HRj := hid (HR.out j)
            have hkc : kc f j ≤ j := cnt_le _ _ _
            have HSt := hid (kc_step f j)
            have hwf := HWf.out j hlt
            obtain ⟨q, hq⟩ : ∃ q, okOp (f j) (j : Int) N = q := ⟨_, rfl⟩
            rw [hq] at HRj HOd
            clear hq
            cases q
            · have hR := HFj.out (by rw [HOd.out]; rfl)
              have HRf := hid hR
              clear hR
              go_wp2
              refine wp_region_noPanic ?_
              refine wp_region_held_drew (S := fun w' => Below w1.heap.size w1 w') (by kernel_rfl) (HI.out.low.drew) (fun h0 => ?_)
              generalize wr.drew = v1 at *
              refine wpAnyH_take (i := 0) (v := .pointer (some ⟨w.heap.size, 1, none⟩)) rfl (by kernel_rfl) (by kernel_rfl) (by kernel_rfl) (fun _ _ _ h => h) (.inl ⟨by rfl, fun w hw => by clear hw; go_simp⟩) h0 ?_
              try simp only [Act.put, lay_out]
              refine wpAnyH_take (i := 1) (v := .slice (some ⟨b, off, none⟩) L cap) rfl (by kernel_rfl) (by kernel_rfl) (by kernel_rfl) (fun _ _ _ h => h) (.inl ⟨by rfl, fun w hw => by have kk := (HTb.out w hw).o; clear hw; go_simp⟩) h0 ?_
              try simp only [Act.put, lay_out]
              refine wpAnyH_take (i := 2) (v := .int .i64 (j : Int)) rfl (by kernel_rfl) (by kernel_rfl) (by kernel_rfl) (fun _ _ _ h => h) (.inl ⟨by rfl, fun w hw => by clear hw; go_simp⟩) h0 ?_
              try simp only [Act.put, lay_out]
              refine wpAnyH_take (i := 3) (v := .pointer (some ⟨b, off + j * 6, none⟩)) rfl (by kernel_rfl) (by kernel_rfl) (by kernel_rfl) (fun _ _ _ h => h) (.inl ⟨by rfl, fun w hw => by clear hw; go_simp⟩) h0 ?_
              try simp only [Act.put, lay_out]
              refine wpAnyH_take (i := 4) (v := .agg #[.int .i64 (f j).K, .int .i64 (f j).D, .int .i64 (f j).A, .int .i64 (f j).B, .int .i64 (f j).E, .int .u64 ((f j).C : Int)]) rfl (by kernel_rfl) (by kernel_rfl) (by kernel_rfl) (fun _ _ _ h => h) (yieldsIf_load_mid (by rfl) 43 _ rfl b (off + j * 6) rfl [.int .i64 (f j).K, .int .i64 (f j).D, .int .i64 (f j).A, .int .i64 (f j).B, .int .i64 (f j).E, .int .u64 ((f j).C : Int)] _ (fun w h => oc_range (HOp.out w h j hlt)) Try.underlying43 rfl infoop18) h0 ?_
              try simp only [Act.put, lay_out]
              refine wpAnyH_take (i := 5) (v := .int .i64 (j : Int)) rfl (by kernel_rfl) (by kernel_rfl) (by kernel_rfl) (fun _ _ _ h => h) (.inl ⟨by rfl, fun w hw => by clear hw; go_simp⟩) h0 ?_
              try simp only [Act.put, lay_out]
              refine wpAnyH_take (i := 6) (v := .pointer (some ⟨w.heap.size, 0, none⟩)) rfl (by kernel_rfl) (by kernel_rfl) (by kernel_rfl) (fun _ _ _ h => h) (.inl ⟨by rfl, fun w hw => by clear hw; go_simp⟩) h0 ?_
              try simp only [Act.put, lay_out]
              refine wpAnyH_take (i := 7) (v := .int .i64 N) rfl (by kernel_rfl) (by kernel_rfl) (by kernel_rfl) (fun _ _ _ h => h) (.inl ⟨by rfl, fun w hw => by have kk := (HTb.out w hw).n; clear hw; go_simp⟩) h0 ?_
              try simp only [Act.put, lay_out]
              refine wpAnyH_ready (rs := [8]) (by kernel_rfl) (by simp) (AllReadyH.cons rfl (fun K hK => ?_) AllReadyH.nil)
              rw [if_pos (by rfl)]
              go_simp
              go_at_call 56
              (with_reducible refine (HRj.out v1).mono ?_); rintro e v2 ⟨rfl, g1⟩
              have G1 := hid g1
              clear g1
              refine hK.out _ _ (h0.trans (G1.out.mono h0.size)) (fun h1x => ?_)
              clear hK K
              try simp only [Act.put, lay_out]
              refine wpAnyH_take (i := 9) (v := .bool true) rfl (by kernel_rfl) (by kernel_rfl) (by kernel_rfl) (fun _ _ _ h => h) (.inl ⟨by rfl, fun w hw => by clear hw; go_simp⟩) h1x ?_
              try simp only [Act.put, lay_out]
              have HV := hid h1x
              refine wpAnyH_done (by kernel_rfl) ?_ _
              refine NoPanic.normal ?_
              clear h0 h1x
              try simp only [Act.put, lay_out]
              go_wp2
              go_ret
              exact ⟨by rw [HRf.out]; rfl, HB.out.trans (HV.out.mono HB.out.size)⟩
            · go_wp2
              refine wp_region_noPanic ?_
              refine wp_region_held_drew (S := fun w' => Below w1.heap.size w1 w') (by kernel_rfl) (HI.out.low.drew) (fun h0 => ?_)
              generalize wr.drew = v1 at *
              refine wpAnyH_take (i := 0) (v := .pointer (some ⟨w.heap.size, 1, none⟩)) rfl (by kernel_rfl) (by kernel_rfl) (by kernel_rfl) (fun _ _ _ h => h) (.inl ⟨by rfl, fun w hw => by clear hw; go_simp⟩) h0 ?_
              try simp only [Act.put, lay_out]
              refine wpAnyH_take (i := 1) (v := .slice (some ⟨b, off, none⟩) L cap) rfl (by kernel_rfl) (by kernel_rfl) (by kernel_rfl) (fun _ _ _ h => h) (.inl ⟨by rfl, fun w hw => by have kk := (HTb.out w hw).o; clear hw; go_simp⟩) h0 ?_
              try simp only [Act.put, lay_out]
              refine wpAnyH_take (i := 2) (v := .int .i64 (j : Int)) rfl (by kernel_rfl) (by kernel_rfl) (by kernel_rfl) (fun _ _ _ h => h) (.inl ⟨by rfl, fun w hw => by clear hw; go_simp⟩) h0 ?_
              try simp only [Act.put, lay_out]
              refine wpAnyH_take (i := 3) (v := .pointer (some ⟨b, off + j * 6, none⟩)) rfl (by kernel_rfl) (by kernel_rfl) (by kernel_rfl) (fun _ _ _ h => h) (.inl ⟨by rfl, fun w hw => by clear hw; go_simp⟩) h0 ?_
              try simp only [Act.put, lay_out]
              refine wpAnyH_take (i := 4) (v := .agg #[.int .i64 (f j).K, .int .i64 (f j).D, .int .i64 (f j).A, .int .i64 (f j).B, .int .i64 (f j).E, .int .u64 ((f j).C : Int)]) rfl (by kernel_rfl) (by kernel_rfl) (by kernel_rfl) (fun _ _ _ h => h) (yieldsIf_load_mid (by rfl) 43 _ rfl b (off + j * 6) rfl [.int .i64 (f j).K, .int .i64 (f j).D, .int .i64 (f j).A, .int .i64 (f j).B, .int .i64 (f j).E, .int .u64 ((f j).C : Int)] _ (fun w h => oc_range (HOp.out w h j hlt)) Try.underlying43 rfl infoop18) h0 ?_
              try simp only [Act.put, lay_out]
              refine wpAnyH_take (i := 5) (v := .int .i64 (j : Int)) rfl (by kernel_rfl) (by kernel_rfl) (by kernel_rfl) (fun _ _ _ h => h) (.inl ⟨by rfl, fun w hw => by clear hw; go_simp⟩) h0 ?_
              try simp only [Act.put, lay_out]
              refine wpAnyH_take (i := 6) (v := .pointer (some ⟨w.heap.size, 0, none⟩)) rfl (by kernel_rfl) (by kernel_rfl) (by kernel_rfl) (fun _ _ _ h => h) (.inl ⟨by rfl, fun w hw => by clear hw; go_simp⟩) h0 ?_
              try simp only [Act.put, lay_out]
              refine wpAnyH_take (i := 7) (v := .int .i64 N) rfl (by kernel_rfl) (by kernel_rfl) (by kernel_rfl) (fun _ _ _ h => h) (.inl ⟨by rfl, fun w hw => by have kk := (HTb.out w hw).n; clear hw; go_simp⟩) h0 ?_
              try simp only [Act.put, lay_out]
              refine wpAnyH_ready (rs := [8]) (by kernel_rfl) (by simp) (AllReadyH.cons rfl (fun K hK => ?_) AllReadyH.nil)
              rw [if_pos (by rfl)]
              go_simp
              go_at_call 56
              (with_reducible refine (HRj.out v1).mono ?_); rintro e v2 ⟨rfl, g1⟩
              have G1 := hid g1
              clear g1
              refine hK.out _ _ (h0.trans (G1.out.mono h0.size)) (fun h1x => ?_)
              clear hK K
              try simp only [Act.put, lay_out]
              refine wpAnyH_take (i := 9) (v := .bool false) rfl (by kernel_rfl) (by kernel_rfl) (by kernel_rfl) (fun _ _ _ h => h) (.inl ⟨by rfl, fun w hw => by clear hw; go_simp⟩) h1x ?_
              try simp only [Act.put, lay_out]
              have HV := hid h1x
              refine wpAnyH_done (by kernel_rfl) ?_ _
              refine NoPanic.normal ?_
              clear h0 h1x
              try simp only [Act.put, lay_out]
              have t2 := (HTb.out _ HV.out).o
              have O2 := HOp.out _ HV.out j hlt
              have k2 := O2.k
              have c2 := O2.c
              clear O2
              have HAll := hid HI.out.ok
              by_cases hK : (f j).K = 2
              · rw [hK] at k2
                by_cases hC : (f j).C = kc f j
                · have HN : Hid (RI w1 v2 N f (j + 1)) := hid ⟨by show (allB (okO N f) j && okO N f j) = true; rw [HAll.out, HOd.out, decide_eq_true (fun _ => hC)]; rfl, HV.out⟩
                  have e2 : IntKind.u64.wrap ((kc f j : Int) + 1) = ((kc f (j + 1) : Nat) : Int) := by rw [HSt.out, if_pos hK, IntKind.wrap_u64]; omega
                  rw [hC] at c2
                  clear hK hC hwf
                  obtain ⟨n1, hn1⟩ : ∃ n1, kc f (j + 1) = n1 := ⟨_, rfl⟩
                  have HN1 := hid hn1
                  rw [hn1] at e2
                  clear hn1
                  generalize kc f j = n0 at *
                  go_wp2
                  go_roundw
                  case rel => exact ⟨j + 1, by omega, by go_num, by rw [HN1.out], HN.out⟩
                  case measure => simp [intOf]; omega
                · have hR := HFj.out (by rw [HOd.out, decide_eq_false (fun h => hC (h hK))]; rfl)
                  have HRf := hid hR
                  have gC : ((((f j).C : Nat) : Int) != ((kc f j : Nat) : Int)) = true := by simp; omega
                  clear hR hK hC
                  generalize kc f j = n0 at *
                  go_wp2
                  go_ret
                  exact ⟨by rw [HRf.out]; rfl, HB.out.trans (HV.out.mono HB.out.size)⟩
              · have HN : Hid (RI w1 v2 N f (j + 1)) := hid ⟨by show (allB (okO N f) j && okO N f j) = true; rw [HAll.out, HOd.out, decide_eq_true (fun h => absurd h hK)]; rfl, HV.out⟩
                have HKc : Hid (kc f (j + 1) = kc f j) := hid (by rw [HSt.out, if_neg hK])
                generalize (f j).K = K at *
                go_wp2
                go_roundw
                case rel => exact ⟨j + 1, by omega, by go_num, by rw [HKc.out], HN.out⟩
                case measure => simp [intOf]; omega
          · obtain rfl : j = L := by omega
            have HAllF := hid HI.out.ok
            have HLow := hid HI.out.low
            clear HI
            go_wp2
            go_loopw [5, 6] (fun l i wt => ∃ k : Nat, k ≤ M ∧ i = .int .i64 k ∧ l = .int .i64 (lastT g k) ∧ RJ w1 wt j g k) (fun _ i _ => M - (intOf i).toNat)
            case atStart => exact ⟨0, by omega, rfl, rfl, ⟨rfl, HLow.out⟩⟩
            case round =>
              obtain ⟨k, hk, rfl, rfl, hJ⟩ := hrel
              have HJ := hid hJ
              clear hJ t1
              have t1 := (HTb.out _ HJ.out.low).s
              by_cases hlt2 : k < M
              · have hae := HA'.out (by omega)
                subst hae
                have j1 : (0 : Int) ≤ (k : Int) := by omega
                have j2 : (k : Int) < (M : Int) := by omega
                have S2 := HSp.out _ HJ.out.low k hlt2
                have s1 := S2.k
                have s2 := S2.f
                have s3 := S2.t
                clear S2
                have HGk := hid (HG.out k hlt2)
                have HSd : Hid (okS j g k = decide ((1 ≤ (g k).K ∧ (g k).K ≤ 3) ∧ lastT g k ≤ (g k).F ∧ (g k).F < (g k).T ∧ (g k).T ≤ (j : Int))) := hid (by unfold okS; rfl)
                have hlo : Below w1.heap.size w1 (wr.alloc (.cells #[.int .i64 (g k).K, .int .i64 (g k).F, .int .i64 (g k).T] 70)) := HJ.out.low.alloc HJ.out.low.size _
                have t3 := (HTb.out _ hlo).o
                have HLo := hid hlo
                have HAllS := hid HJ.out.ok
                have HTn : Hid (lastT g (k + 1) = (g k).T) := hid rfl
                clear hlo
                generalize lastT g k = l0 at *
                generalize (g k).K = sK at *
                generalize (g k).F = sF at *
                generalize (g k).T = sT at *
                by_cases y1 : sK < 1
                · have hR := HGk.out (by rw [HSd.out]; exact decide_eq_false (by omega))
                  have HRf := hid hR
                  clear hR
                  go_wp2
                  go_ret
                  exact ⟨by rw [HRf.out]; rfl, HB.out.trans (HLo.out.mono HB.out.size)⟩
                · by_cases y2 : 3 < sK
                  · have hR := HGk.out (by rw [HSd.out]; exact decide_eq_false (by omega))
                    have HRf := hid hR
                    clear hR
                    go_wp2
                    go_ret
                    exact ⟨by rw [HRf.out]; rfl, HB.out.trans (HLo.out.mono HB.out.size)⟩
                  · by_cases y3 : sF < l0
                    · have hR := HGk.out (by rw [HSd.out]; exact decide_eq_false (by omega))
                      have HRf := hid hR
                      clear hR
                      go_wp2
                      go_ret
                      exact ⟨by rw [HRf.out]; rfl, HB.out.trans (HLo.out.mono HB.out.size)⟩
                    · by_cases y4 : sT ≤ sF
                      · have hR := HGk.out (by rw [HSd.out]; exact decide_eq_false (by omega))
                        have HRf := hid hR
                        clear hR
                        go_wp2
                        go_ret
                        exact ⟨by rw [HRf.out]; rfl, HB.out.trans (HLo.out.mono HB.out.size)⟩
                      · by_cases y5 : (j : Int) < sT
                        · have hR := HGk.out (by rw [HSd.out]; exact decide_eq_false (by omega))
                          have HRf := hid hR
                          clear hR
                          go_wp2
                          go_ret
                          exact ⟨by rw [HRf.out]; rfl, HB.out.trans (HLo.out.mono HB.out.size)⟩
                        · have HN : Hid (okS j g k = true) := hid (by rw [HSd.out]; exact decide_eq_true ⟨⟨by omega, by omega⟩, by omega, by omega, by omega⟩)
                          go_wp2
                          go_roundw
                          case rel => exact ⟨k + 1, by omega, by go_num, by rw [HTn.out], ⟨by show (allB (okS j g) k && okS j g k) = true; rw [HAllS.out, HN.out]; rfl, HLo.out⟩⟩
                          case measure => simp [intOf]; omega
              · obtain rfl : k = M := by omega
                have hR := HT.out HNL.out.1 HNL.out.2 HAllF.out HJ.out.ok
                have HRt := hid hR
                clear hR
                go_wp2
                go_ret
                exact ⟨by rw [HRt.out]; rfl, HB.out.trans (HJ.out.low.mono HB.out.size)⟩
      · clear hN g0
        go_enter Try.func49, Try.ntmps49
        go_wp2
        rw [HW1.out]
        go_loopw [3, 4] (fun c i wr => ∃ j : Nat, j ≤ L ∧ i = .int .i64 j ∧ c = .int .u64 (kc f j : Nat) ∧ RI w1 wr N f j) (fun _ i _ => L - (intOf i).toNat)
        case atStart => exact ⟨0, by omega, rfl, rfl, ⟨rfl, Below.refl _ _⟩⟩
        case round =>
          obtain ⟨j, hj, rfl, rfl, hI⟩ := hrel
          have HI := hid hI
          clear hI
          have t1 := (HTb.out _ HI.out.low).o
          by_cases hlt : j < L
          · have hae := HA.out (by omega)
            subst hae
            have j1 : (0 : Int) ≤ (j : Int) := by omega
            have j2 : (j : Int) < (L : Int) := by omega
            have HFj := hid (HF.out j hlt)
            have HOd : Hid (okO N f j = (okOp (f j) (j : Int) N && decide ((f j).K = 2 → (f j).C = kc f j))) := hid (by unfold okO; rfl)
            have HRj := hid (HR.out j)
            have hkc : kc f j ≤ j := cnt_le _ _ _
            have HSt := hid (kc_step f j)
            have hwf := HWf.out j hlt
            obtain ⟨q, hq⟩ : ∃ q, okOp (f j) (j : Int) N = q := ⟨_, rfl⟩
            rw [hq] at HRj HOd
            clear hq
            cases q
            · have hR := HFj.out (by rw [HOd.out]; rfl)
              have HRf := hid hR
              clear hR
              go_wp2
              refine wp_region_noPanic ?_
              refine wp_region_held_drew (S := fun w' => Below w1.heap.size w1 w') (by kernel_rfl) (HI.out.low.drew) (fun h0 => ?_)
              generalize wr.drew = v1 at *
              refine wpAnyH_take (i := 0) (v := .pointer (some ⟨w.heap.size, 1, none⟩)) rfl (by kernel_rfl) (by kernel_rfl) (by kernel_rfl) (fun _ _ _ h => h) (.inl ⟨by rfl, fun w hw => by clear hw; go_simp⟩) h0 ?_
              try simp only [Act.put, lay_out]
              refine wpAnyH_take (i := 1) (v := .slice (some ⟨b, off, none⟩) L cap) rfl (by kernel_rfl) (by kernel_rfl) (by kernel_rfl) (fun _ _ _ h => h) (.inl ⟨by rfl, fun w hw => by have kk := (HTb.out w hw).o; clear hw; go_simp⟩) h0 ?_
              try simp only [Act.put, lay_out]
              refine wpAnyH_take (i := 2) (v := .int .i64 (j : Int)) rfl (by kernel_rfl) (by kernel_rfl) (by kernel_rfl) (fun _ _ _ h => h) (.inl ⟨by rfl, fun w hw => by clear hw; go_simp⟩) h0 ?_
              try simp only [Act.put, lay_out]
              refine wpAnyH_take (i := 3) (v := .pointer (some ⟨b, off + j * 6, none⟩)) rfl (by kernel_rfl) (by kernel_rfl) (by kernel_rfl) (fun _ _ _ h => h) (.inl ⟨by rfl, fun w hw => by clear hw; go_simp⟩) h0 ?_
              try simp only [Act.put, lay_out]
              refine wpAnyH_take (i := 4) (v := .agg #[.int .i64 (f j).K, .int .i64 (f j).D, .int .i64 (f j).A, .int .i64 (f j).B, .int .i64 (f j).E, .int .u64 ((f j).C : Int)]) rfl (by kernel_rfl) (by kernel_rfl) (by kernel_rfl) (fun _ _ _ h => h) (yieldsIf_load_mid (by rfl) 43 _ rfl b (off + j * 6) rfl [.int .i64 (f j).K, .int .i64 (f j).D, .int .i64 (f j).A, .int .i64 (f j).B, .int .i64 (f j).E, .int .u64 ((f j).C : Int)] _ (fun w h => oc_range (HOp.out w h j hlt)) Try.underlying43 rfl infoop18) h0 ?_
              try simp only [Act.put, lay_out]
              refine wpAnyH_take (i := 5) (v := .int .i64 (j : Int)) rfl (by kernel_rfl) (by kernel_rfl) (by kernel_rfl) (fun _ _ _ h => h) (.inl ⟨by rfl, fun w hw => by clear hw; go_simp⟩) h0 ?_
              try simp only [Act.put, lay_out]
              refine wpAnyH_take (i := 6) (v := .pointer (some ⟨w.heap.size, 0, none⟩)) rfl (by kernel_rfl) (by kernel_rfl) (by kernel_rfl) (fun _ _ _ h => h) (.inl ⟨by rfl, fun w hw => by clear hw; go_simp⟩) h0 ?_
              try simp only [Act.put, lay_out]
              refine wpAnyH_take (i := 7) (v := .int .i64 N) rfl (by kernel_rfl) (by kernel_rfl) (by kernel_rfl) (fun _ _ _ h => h) (.inl ⟨by rfl, fun w hw => by have kk := (HTb.out w hw).n; clear hw; go_simp⟩) h0 ?_
              try simp only [Act.put, lay_out]
              refine wpAnyH_ready (rs := [8]) (by kernel_rfl) (by simp) (AllReadyH.cons rfl (fun K hK => ?_) AllReadyH.nil)
              rw [if_pos (by rfl)]
              go_simp
              go_at_call 56
              (with_reducible refine (HRj.out v1).mono ?_); rintro e v2 ⟨rfl, g1⟩
              have G1 := hid g1
              clear g1
              refine hK.out _ _ (h0.trans (G1.out.mono h0.size)) (fun h1x => ?_)
              clear hK K
              try simp only [Act.put, lay_out]
              refine wpAnyH_take (i := 9) (v := .bool true) rfl (by kernel_rfl) (by kernel_rfl) (by kernel_rfl) (fun _ _ _ h => h) (.inl ⟨by rfl, fun w hw => by clear hw; go_simp⟩) h1x ?_
              try simp only [Act.put, lay_out]
              have HV := hid h1x
              refine wpAnyH_done (by kernel_rfl) ?_ _
              refine NoPanic.normal ?_
              clear h0 h1x
              try simp only [Act.put, lay_out]
              go_wp2
              go_ret
              exact ⟨by rw [HRf.out]; rfl, HB.out.trans (HV.out.mono HB.out.size)⟩
            · go_wp2
              refine wp_region_noPanic ?_
              refine wp_region_held_drew (S := fun w' => Below w1.heap.size w1 w') (by kernel_rfl) (HI.out.low.drew) (fun h0 => ?_)
              generalize wr.drew = v1 at *
              refine wpAnyH_take (i := 0) (v := .pointer (some ⟨w.heap.size, 1, none⟩)) rfl (by kernel_rfl) (by kernel_rfl) (by kernel_rfl) (fun _ _ _ h => h) (.inl ⟨by rfl, fun w hw => by clear hw; go_simp⟩) h0 ?_
              try simp only [Act.put, lay_out]
              refine wpAnyH_take (i := 1) (v := .slice (some ⟨b, off, none⟩) L cap) rfl (by kernel_rfl) (by kernel_rfl) (by kernel_rfl) (fun _ _ _ h => h) (.inl ⟨by rfl, fun w hw => by have kk := (HTb.out w hw).o; clear hw; go_simp⟩) h0 ?_
              try simp only [Act.put, lay_out]
              refine wpAnyH_take (i := 2) (v := .int .i64 (j : Int)) rfl (by kernel_rfl) (by kernel_rfl) (by kernel_rfl) (fun _ _ _ h => h) (.inl ⟨by rfl, fun w hw => by clear hw; go_simp⟩) h0 ?_
              try simp only [Act.put, lay_out]
              refine wpAnyH_take (i := 3) (v := .pointer (some ⟨b, off + j * 6, none⟩)) rfl (by kernel_rfl) (by kernel_rfl) (by kernel_rfl) (fun _ _ _ h => h) (.inl ⟨by rfl, fun w hw => by clear hw; go_simp⟩) h0 ?_
              try simp only [Act.put, lay_out]
              refine wpAnyH_take (i := 4) (v := .agg #[.int .i64 (f j).K, .int .i64 (f j).D, .int .i64 (f j).A, .int .i64 (f j).B, .int .i64 (f j).E, .int .u64 ((f j).C : Int)]) rfl (by kernel_rfl) (by kernel_rfl) (by kernel_rfl) (fun _ _ _ h => h) (yieldsIf_load_mid (by rfl) 43 _ rfl b (off + j * 6) rfl [.int .i64 (f j).K, .int .i64 (f j).D, .int .i64 (f j).A, .int .i64 (f j).B, .int .i64 (f j).E, .int .u64 ((f j).C : Int)] _ (fun w h => oc_range (HOp.out w h j hlt)) Try.underlying43 rfl infoop18) h0 ?_
              try simp only [Act.put, lay_out]
              refine wpAnyH_take (i := 5) (v := .int .i64 (j : Int)) rfl (by kernel_rfl) (by kernel_rfl) (by kernel_rfl) (fun _ _ _ h => h) (.inl ⟨by rfl, fun w hw => by clear hw; go_simp⟩) h0 ?_
              try simp only [Act.put, lay_out]
              refine wpAnyH_take (i := 6) (v := .pointer (some ⟨w.heap.size, 0, none⟩)) rfl (by kernel_rfl) (by kernel_rfl) (by kernel_rfl) (fun _ _ _ h => h) (.inl ⟨by rfl, fun w hw => by clear hw; go_simp⟩) h0 ?_
              try simp only [Act.put, lay_out]
              refine wpAnyH_take (i := 7) (v := .int .i64 N) rfl (by kernel_rfl) (by kernel_rfl) (by kernel_rfl) (fun _ _ _ h => h) (.inl ⟨by rfl, fun w hw => by have kk := (HTb.out w hw).n; clear hw; go_simp⟩) h0 ?_
              try simp only [Act.put, lay_out]
              refine wpAnyH_ready (rs := [8]) (by kernel_rfl) (by simp) (AllReadyH.cons rfl (fun K hK => ?_) AllReadyH.nil)
              rw [if_pos (by rfl)]
              go_simp
              go_at_call 56
              (with_reducible refine (HRj.out v1).mono ?_); rintro e v2 ⟨rfl, g1⟩
              have G1 := hid g1
              clear g1
              refine hK.out _ _ (h0.trans (G1.out.mono h0.size)) (fun h1x => ?_)
              clear hK K
              try simp only [Act.put, lay_out]
              refine wpAnyH_take (i := 9) (v := .bool false) rfl (by kernel_rfl) (by kernel_rfl) (by kernel_rfl) (fun _ _ _ h => h) (.inl ⟨by rfl, fun w hw => by clear hw; go_simp⟩) h1x ?_
              try simp only [Act.put, lay_out]
              have HV := hid h1x
              refine wpAnyH_done (by kernel_rfl) ?_ _
              refine NoPanic.normal ?_
              clear h0 h1x
              try simp only [Act.put, lay_out]
              have t2 := (HTb.out _ HV.out).o
              have O2 := HOp.out _ HV.out j hlt
              have k2 := O2.k
              have c2 := O2.c
              clear O2
              have HAll := hid HI.out.ok
              by_cases hK : (f j).K = 2
              · rw [hK] at k2
                by_cases hC : (f j).C = kc f j
                · have HN : Hid (RI w1 v2 N f (j + 1)) := hid ⟨by show (allB (okO N f) j && okO N f j) = true; rw [HAll.out, HOd.out, decide_eq_true (fun _ => hC)]; rfl, HV.out⟩
                  have e2 : IntKind.u64.wrap ((kc f j : Int) + 1) = ((kc f (j + 1) : Nat) : Int) := by rw [HSt.out, if_pos hK, IntKind.wrap_u64]; omega
                  rw [hC] at c2
                  clear hK hC hwf
                  obtain ⟨n1, hn1⟩ : ∃ n1, kc f (j + 1) = n1 := ⟨_, rfl⟩
                  have HN1 := hid hn1
                  rw [hn1] at e2
                  clear hn1
                  generalize kc f j = n0 at *
                  go_wp2
                  go_roundw
                  case rel => exact ⟨j + 1, by omega, by go_num, by rw [HN1.out], HN.out⟩
                  case measure => simp [intOf]; omega
                · have hR := HFj.out (by rw [HOd.out, decide_eq_false (fun h => hC (h hK))]; rfl)
                  have HRf := hid hR
                  have gC : ((((f j).C : Nat) : Int) != ((kc f j : Nat) : Int)) = true := by simp; omega
                  clear hR hK hC
                  generalize kc f j = n0 at *
                  go_wp2
                  go_ret
                  exact ⟨by rw [HRf.out]; rfl, HB.out.trans (HV.out.mono HB.out.size)⟩
              · have HN : Hid (RI w1 v2 N f (j + 1)) := hid ⟨by show (allB (okO N f) j && okO N f j) = true; rw [HAll.out, HOd.out, decide_eq_true (fun h => absurd h hK)]; rfl, HV.out⟩
                have HKc : Hid (kc f (j + 1) = kc f j) := hid (by rw [HSt.out, if_neg hK])
                generalize (f j).K = K at *
                go_wp2
                go_roundw
                case rel => exact ⟨j + 1, by omega, by go_num, by rw [HKc.out], HN.out⟩
                case measure => simp [intOf]; omega
          · obtain rfl : j = L := by omega
            have HAllF := hid HI.out.ok
            have HLow := hid HI.out.low
            clear HI
            go_wp2
            go_loopw [5, 6] (fun l i wt => ∃ k : Nat, k ≤ M ∧ i = .int .i64 k ∧ l = .int .i64 (lastT g k) ∧ RJ w1 wt j g k) (fun _ i _ => M - (intOf i).toNat)
            case atStart => exact ⟨0, by omega, rfl, rfl, ⟨rfl, HLow.out⟩⟩
            case round =>
              obtain ⟨k, hk, rfl, rfl, hJ⟩ := hrel
              have HJ := hid hJ
              clear hJ t1
              have t1 := (HTb.out _ HJ.out.low).s
              by_cases hlt2 : k < M
              · have hae := HA'.out (by omega)
                subst hae
                have j1 : (0 : Int) ≤ (k : Int) := by omega
                have j2 : (k : Int) < (M : Int) := by omega
                have S2 := HSp.out _ HJ.out.low k hlt2
                have s1 := S2.k
                have s2 := S2.f
                have s3 := S2.t
                clear S2
                have HGk := hid (HG.out k hlt2)
                have HSd : Hid (okS j g k = decide ((1 ≤ (g k).K ∧ (g k).K ≤ 3) ∧ lastT g k ≤ (g k).F ∧ (g k).F < (g k).T ∧ (g k).T ≤ (j : Int))) := hid (by unfold okS; rfl)
                have hlo : Below w1.heap.size w1 (wr.alloc (.cells #[.int .i64 (g k).K, .int .i64 (g k).F, .int .i64 (g k).T] 70)) := HJ.out.low.alloc HJ.out.low.size _
                have t3 := (HTb.out _ hlo).o
                have HLo := hid hlo
                have HAllS := hid HJ.out.ok
                have HTn : Hid (lastT g (k + 1) = (g k).T) := hid rfl
                clear hlo
                generalize lastT g k = l0 at *
                generalize (g k).K = sK at *
                generalize (g k).F = sF at *
                generalize (g k).T = sT at *
                by_cases y1 : sK < 1
                · have hR := HGk.out (by rw [HSd.out]; exact decide_eq_false (by omega))
                  have HRf := hid hR
                  clear hR
                  go_wp2
                  go_ret
                  exact ⟨by rw [HRf.out]; rfl, HB.out.trans (HLo.out.mono HB.out.size)⟩
                · by_cases y2 : 3 < sK
                  · have hR := HGk.out (by rw [HSd.out]; exact decide_eq_false (by omega))
                    have HRf := hid hR
                    clear hR
                    go_wp2
                    go_ret
                    exact ⟨by rw [HRf.out]; rfl, HB.out.trans (HLo.out.mono HB.out.size)⟩
                  · by_cases y3 : sF < l0
                    · have hR := HGk.out (by rw [HSd.out]; exact decide_eq_false (by omega))
                      have HRf := hid hR
                      clear hR
                      go_wp2
                      go_ret
                      exact ⟨by rw [HRf.out]; rfl, HB.out.trans (HLo.out.mono HB.out.size)⟩
                    · by_cases y4 : sT ≤ sF
                      · have hR := HGk.out (by rw [HSd.out]; exact decide_eq_false (by omega))
                        have HRf := hid hR
                        clear hR
                        go_wp2
                        go_ret
                        exact ⟨by rw [HRf.out]; rfl, HB.out.trans (HLo.out.mono HB.out.size)⟩
                      · by_cases y5 : (j : Int) < sT
                        · have hR := HGk.out (by rw [HSd.out]; exact decide_eq_false (by omega))
                          have HRf := hid hR
                          clear hR
                          go_wp2
                          go_ret
                          exact ⟨by rw [HRf.out]; rfl, HB.out.trans (HLo.out.mono HB.out.size)⟩
                        · have HN : Hid (okS j g k = true) := hid (by rw [HSd.out]; exact decide_eq_true ⟨⟨by omega, by omega⟩, by omega, by omega, by omega⟩)
                          go_wp2
                          go_roundw
                          case rel => exact ⟨k + 1, by omega, by go_num, by rw [HTn.out], ⟨by show (allB (okS j g) k && okS j g k) = true; rw [HAllS.out, HN.out]; rfl, HLo.out⟩⟩
                          case measure => simp [intOf]; omega
              · obtain rfl : k = M := by omega
                have hR := HT.out HNL.out.1 HNL.out.2 HAllF.out HJ.out.ok
                have HRt := hid hR
                clear hR
                go_wp2
                go_ret
                exact ⟨by rw [HRt.out]; rfl, HB.out.trans (HJ.out.low.mono HB.out.size)⟩
    · have hR := HH.out (fun h => hL h.2)
      have gL : (1048576 : Int) < (L : Int) := by omega
      rw [hR]
      rcases hN with rfl | rfl
      all_goals
        go_enter Try.func49, Try.ntmps49
        go_wp2
        go_ret
        exact ⟨rfl, by rw [HW1.out]; exact HB.out⟩
  · have hR := HH.out (fun h => hN h.1)
    have q1 : (N != 2) = true := by simp; omega
    have q2 : (N != 3) = true := by simp; omega
    rw [hR]
    clear hN
    go_enter Try.func49, Try.ntmps49
    go_wp2
    go_ret
    exact ⟨rfl, by rw [HW1.out]; exact HB.out⟩
end Go.Proofs.Ytffoinnllihdeaa
