import Derived.Test.YteoiekooaokhaaaProg
import Derived.Test.YteoiekooaokhaaaCmy
import Derived.Test.YteoiekooaokhaaaCmr
/- CmacWrites. -/
namespace Go.Proofs.Yteoiekooaokhaaa
open Go.RowKit
set_option maxRecDepth 100000

theorem w0_box (w : World) (κ : Nat → Nat) : At (w.alloc (.cells (ba 16 κ) 39)) w.heap.size 16 39 κ ∧ Below w.heap.size w (w.alloc (.cells (ba 16 κ) 39)) := ⟨At.new w 16 39 κ, (Below.refl _ w).alloc (Nat.le_refl _) _⟩
theorem Tn.of_set {B N g k : Nat} {w w' : World} {u : Value} (h : Tn B N w w') (h1 : B ≤ g) (h2 : g < N) : Tn B N w (w'.setCell ⟨g, k, none⟩ u) := h.trans (Tn.set (p := ⟨g, k, none⟩) w' h1 h2 u)
theorem But.of_set {b m g k : Nat} {w w' : World} {u : Value} (h : But b m w w') (hg : w.heap.size ≤ g) : But b m w (w'.setCell ⟨g, k, none⟩ u) :=
  ⟨h.os, h.tape, h.output, by simpa [World.setCell] using h.size, fun j hj h1 h2 => (heap_setCell_other w' ⟨g, k, none⟩ j u (by show j ≠ g; omega)).trans (h.block j hj h1 h2)⟩

set_option maxHeartbeats 25600000 in
theorem writes_core (κ : Nat → Nat) (la : Option Addr) (Ln lc : Nat) (As : Nat → Option Addr) (Ls Cs : Nat → Nat) (Fs : Nat → Nat → Nat) (w : World) (hκ : ∀ i, i < 16 → κ i < 256) (hrows : Rws w la Ln As Ls Cs Fs) (hln : Ln < 9223372036854775808) :
    Calls Try.prog 5 #[.agg (ba 16 κ), .slice la Ln lc] w fun e w' => e = .returned (.bool true) ∧ Below w.heap.size w w' := by
  have HX := hid (w0_box w κ)
  obtain ⟨Y, hky⟩ := ky_box HX.out.1 hκ
  have HN := hid (hky.new _ (Below.refl _ _))
  unfold NewD at HN
  have HKY := hid hky
  have HRW := hid (hrows.self HX.out.2)
  clear hκ hky hrows
  go_enter Try.func5, Try.ntmps5
  go_wp2_with (first
    | (go_at_call 20; (with_reducible refine (write_nil _ _).mono ?_); rintro q w1 ⟨rfl, rfl⟩)
    | (go_at_call 8; (with_reducible refine HN.out.mono ?_); rintro q w1 ⟨d, b, c, cap, rfl, hci, hb, hlow⟩
       have HG1 : Hid (Gc w1 d b c cap 10 11 Y) := hid ⟨by decide, hci⟩
       have HL1 := hid (And.intro hlow hb)
       clear hci hb hlow)
    | (go_at_call 21; (with_reducible refine (mnew_any d w1).mono ?_); rintro q w2 ⟨rfl, hm, hlow⟩
       have HM2 := hid (Mw.start HG1.out hlow hm)
       have HL2 := hid (And.intro (HL1.out.1.trans (hlow.mono HL1.out.1.size)) (And.intro HL1.out.2 HL1.out.1.size))
       generalize w1.heap.size = m at *
       clear hm hlow)
    | (go_at_call 22; (with_reducible refine (size_nil _).mono ?_); rintro q w2 ⟨rfl, rfl⟩)
    | (go_at_call 23; (with_reducible refine (tag_nil _).mono ?_); rintro q w2 ⟨rfl, rfl⟩))
  have HI0 : Hid (Wi (w.alloc (.cells (ba 16 κ) 39)) (w2.alloc (.cells #[] 5)) b m d c cap w2.heap.size Y (fun _ => 0) none 0 0 (fun _ => 0) 0 (fun _ => 0) (.slice (some ⟨w2.heap.size, 0, none⟩) 0 0)) := hid (by
    have hb : Below w2.heap.size w2 (w2.alloc (.cells #[] 5)) := (Below.refl _ _).alloc (Nat.le_refl _) _
    exact ⟨HM2.out.self hb, HL2.out.1.trans (hb.mono HL2.out.1.size), own_empty w2 (Nat.le_refl _), HM2.out.gc.lt, HM2.out.blk.lt, HM2.out.gc.ci.blk.lt, HM2.out.gc.ci.rows.lt, HL2.out.2.1, HL2.out.2.2, hb.size⟩)
  clear HM2 HL2 HG1 HL1 HN
  generalize w2.heap.size = B at *
  go_loopw [9, 10] (fun av iv wr => ∃ (i N n e : Nat) (x l δ : Nat → Nat) (a : Option Addr), iv = .int .i64 i ∧ i ≤ 20 ∧ N ≤ 600 ∧ Wi (w.alloc (.cells (ba 16 κ) 39)) wr b m d c cap B Y x a n e l N δ av) (fun _ iv _ => 20 - (intOf iv).toNat)
  case atStart => exact ⟨0, 0, 0, 0, _, _, _, _, rfl, by omega, by omega, HI0.out⟩
  case round =>
    obtain ⟨i, N, n, e, x, l, δ, a, rfl, hi, hN, hI⟩ := hrel
    have HI := hid hI
    clear hI HI0
    by_cases hlt : i < Ln ∧ i < 20
    · have h1 : (i : Int) < (Ln : Int) := by omega
      have h2 : (i : Int) < 20 := by omega
      have h0 : (0 : Int) ≤ (i : Int) := by omega
      obtain ⟨g, off, rfl, hg, hcl⟩ := HRW.out.out (by omega)
      have HCL : Hid (∀ W, Below (w.alloc (.cells (ba 16 κ) 39)).heap.size (w.alloc (.cells (ba 16 κ) 39)) W → W.cell? ⟨g, off + i, none⟩ = some (.slice (As i) (Ls i) (Cs i))) := hid (fun W hW => (World.cell?_of_block (w := (w.alloc (.cells (ba 16 κ) 39))) (hW.block g hg)).trans (hcl i hlt.1))
      have HRI := hid (HRW.out.row i hlt.1)
      clear hg hcl
      generalize As i = ra at *
      generalize Ls i = L at *
      generalize Cs i = rc at *
      generalize Fs i = β at *
      have hc1 := HCL.out wr HI.out.low
      obtain ⟨av2, acap, rfl⟩ := HI.out.own.noRow
      rw [ns_len] at *
      obtain ⟨S, hS⟩ : ∃ S, L + N = S := ⟨_, rfl⟩
      have e1 : (L : Int) + (N : Int) = (S : Int) := by omega
      have hw1 : IntKind.i64.wrap (S : Int) = S := by have := HRI.out.1.2; rw [IntKind.wrap_i64]; omega
      have HIN : Hid (i < 20 ∧ L + N = S) := hid ⟨hlt.2, hS⟩
      by_cases hbig : S > 600
      · have h3 : (S : Int) > 600 := by omega
        clear hlt hi hN hS hbig
        go_wp2_with (first
          | (go_at_call 7; (with_reducible refine (cawake_any wr).mono ?_); rintro q w11 ⟨rfl, hlow⟩
             have HL11 := hid (HX.out.2.trans ((HI.out.low.trans (hlow.mono HI.out.low.size)).mono HX.out.2.size))
             clear hlow))
        go_ret
        exact ⟨rfl, HL11.out⟩
      · have h3 : ¬ (S : Int) > 600 := by omega
        have hR := HRI.out.2 (by omega)
        have HLB := hid hR.2
        have hE : Below wr.heap.size wr (wr.alloc (.cells #[] 5)) := (Below.refl _ _).alloc (Nat.le_refl _) _
        have HE := hid hE
        have HR0 := hid hR.1
        have HRA := hid (hR.1.self (HI.out.low.trans (hE.mono HI.out.low.size)))
        have hc2 := HCL.out (wr.alloc (.cells #[] 5)) (HI.out.low.trans (hE.mono HI.out.low.size))
        have HSS : Hid (L ≤ 600 ∧ N ≤ 600 ∧ S ≤ 600) := hid (by omega)
        have HLI := hid (show (([] : List Int).length + (ns L β).length) * (IntKind.u8.bits / 8) ≤ 140737488355328 by rw [ns_len]; show (0 + L) * 1 ≤ _; omega)
        clear hlt hi hN hS hbig hR hE
        go_wp2_with (first
          | (at_builtin; refine wpList_append_rd rfl (.tmp 61) (.tmp 65) 22 rfl .u8 wr.heap.size 5 Try.underlying22 info8 (by decide) _ [] rfl (own_empty wr (Nat.le_refl _)) _ (ns L β) rfl HRA.out HLI.out (by simp) wr.heap.size wr HE.out (Nat.le_refl _) ?_; intro u4 w4 hown hlow _
             rw [List.nil_append] at hown
             obtain ⟨pu, cu, rfl⟩ := hown.noRow
             rw [ns_len] at hown ⊢
             have HO4 := hid hown
             have HL4 := hid hlow
             have HM4 := hid (HI.out.mac.self hlow)
             have HC4 : Hid (L ≤ cu) := hid (by
               obtain ⟨p4, c4, e4, hc4, -⟩ := hown.slice
               injection e4 with _ _ e5
               rw [ns_len] at hc4
               omega)
             have HK4 := hid (kb_own (b := b) (m := m) hown (by have := HI.out.mac.gc.lt; exact this) (by have := HI.out.mac.blk.lt; exact this) (by have := HSS.out; omega) HLB.out)
             clear hown hlow)
          | (go_at_call 20; (with_reducible refine (write_any w4 m d b c cap 10 11 n e N L cu Y x l δ β a pu HM4.out HK4.out HC4.out HLB.out (by have := HSS.out; omega)).mono ?_); rintro q w5 ⟨rfl, x5, a5, n5, e5, l5, hm, ho, hl⟩
             have HM5 := hid hm
             have HB5 := hid ((But.self (b := b) (m := m) HL4.out).trans ho)
             have HT5 := hid hl
             have HO5 := hid (own_frame HO4.out (fun j h1 h2 => ho.block j h2 (by have := HI.out.mac.gc.lt; omega) (by have := HI.out.mac.blk.lt; omega)))
             clear hm ho hl))
        obtain ⟨wz, rfl⟩ : ∃ wz, wz = wr := ⟨_, rfl⟩
        clear hc1 hc2
        go_loopw [12] (fun kv wq => ∃ (k : Nat) (zs : List Int), kv = .int .i64 k ∧ k ≤ L ∧ zs.length = L ∧ Own .u8 wz.heap.size 5 wq (.slice pu L cu) zs ∧ Tn wz.heap.size w4.heap.size w5 wq ∧ But b m wz wq) (fun kv _ => L - (intOf kv).toNat)
        case atStart => exact ⟨0, ns L β, rfl, by omega, ns_len _ _, HO5.out, Tn.refl _ _ _, HB5.out⟩
        case round =>
          obtain ⟨k, zs, rfl, hk, hzl, hown, htn, hbt⟩ := hrel
          have HO := hid hown
          have HT := hid htn
          have HB := hid hbt
          have HZL := hid hzl
          clear hown htn hbt
          by_cases hkl : k < L
          · obtain ⟨g', cap', hv, hg1, hg2, hcell, hfr, hset⟩ := HO.out.part (by omega)
            simp only [Value.slice.injEq] at hv
            obtain ⟨rfl, -, -⟩ := hv
            have hgw : g' < w4.heap.size := (own_block HO4.out (g := g') rfl).2
            have c1 := hcell k (by omega)
            have c2 := hfr k
            have HS := hid (hset k 0 (by omega))
            have HG := hid (And.intro hg1 hgw)
            have k0 : (0 : Int) ≤ (k : Int) := by omega
            have k1 : (k : Int) < (L : Int) := by omega
            have HKL := hid hkl
            have kw : IntKind.i64.wrap ((k : Int) + 1) = ((k + 1 : Nat) : Int) := by have := HSS.out; rw [IntKind.wrap_i64]; omega
            clear hcell hfr hset hg1 hg2 hk hkl hgw hzl
            go_wp2
            go_roundw
            case rel => exact ⟨k + 1, zs.set k 0, by go_num, HKL.out, by rw [List.length_set]; exact HZL.out, HS.out, HT.out.of_set HG.out.1 HG.out.2, HB.out.of_set HG.out.1⟩
            case measure => have := HKL.out; (simp [intOf] <;> omega)
          · obtain rfl : k = L := by omega
            have hc6 := HCL.out wr (HI.out.low6 HB.out)
            have HR6 := hid (HR0.out.self (HI.out.low6 HB.out))
            have HO6 := hid (HI.out.own6 HB.out)
            have HN6 := hid (Nat.le_trans HI.out.num.2.2.2.2.2.2 HB.out.size)
            clear hk hkl hzl
            go_wp2_with (first
              | (at_builtin; refine wpList_append_grow_rd rfl (.tmp 79) (.tmp 83) 22 rfl .u8 B 5 Try.underlying22 info8 (by decide) (.slice av2 N acap) (ns N δ) rfl HO6.out (.slice ra k rc) (ns k β) rfl HR6.out (by rw [ns_len, ns_len]; have := HSS.out; show (N + k) * 1 ≤ _; omega) HN6.out ?_; intro v7 w7 hown hgr
                 rw [ns_then] at hown
                 have HI7 := hid (HI.out.next HL4.out.size HM5.out HT5.out HT.out HB.out hown hgr)
                 obtain ⟨p7, c7, rfl⟩ := hown.noRow
                 have HC7 : Hid (N + k ≤ c7) := hid (by
                   obtain ⟨p4, c4, e4, hc4, -⟩ := hown.slice
                   injection e4 with _ _ e5
                   rw [ns_len] at hc4
                   omega)
                 rw [ns_len] at HI7 ⊢
                 clear hown hgr))
            clear hc6
            have HTL : Hid (N + k ≤ 600) := hid (by have := HSS.out; have := HIN.out; omega)
            have HTB : Hid (∀ j, j < N + k → thenF N δ β j < 256) := hid (thenF_b HI.out.mac.all HLB.out)
            have hiw : IntKind.i64.wrap ((i : Int) + 1) = ((i + 1 : Nat) : Int) := by have := HIN.out; rw [IntKind.wrap_i64]; omega
            generalize hNk : N + k = T at *
            clear hNk
            have hdr : Below w7.heap.size w7 w7.drew := (Below.refl _ _).drew
            have HI8 := hid (HI7.out.self hdr)
            clear hdr
            refine wp_region_noPanic ?_
            refine wp_region_held_drew (S := fun w' => True) (by kernel_rfl) (trivial) (fun h0 => ?_)
            generalize w7.drew = w8 at *
            refine wpAnyH_take (i := 0) (v := .pointer (some ⟨m, 0, none⟩)) rfl (by kernel_rfl) (by kernel_rfl) (by kernel_rfl) (fun _ _ _ h => h) (.inl ⟨by rfl, fun w hw => by clear hw; go_simp⟩) h0 ?_
            try simp only [Act.put, lay_out]
            refine wpAnyH_take (i := 2) (v := .slice (some ⟨w.heap.size, 0, none⟩) 16 16) rfl (by kernel_rfl) (by kernel_rfl) (by kernel_rfl) (fun _ _ _ h => h) (.inl ⟨by rfl, fun w hw => by clear hw; go_simp⟩) h0 ?_
            try simp only [Act.put, lay_out]
            refine wpAnyH_take (i := 3) (v := .slice p7 T c7) rfl (by kernel_rfl) (by kernel_rfl) (by kernel_rfl) (fun _ _ _ h => h) (.inl ⟨by rfl, fun w hw => by clear hw; go_simp⟩) h0 ?_
            try simp only [Act.put, lay_out]
            refine wpAnyH_ready (rs := [1]) (by kernel_rfl) (by simp) (AllReadyH.cons rfl (fun K hK => ?_) AllReadyH.nil)
            rw [if_pos (by rfl)]
            go_simp
            go_at_call 23
            (with_reducible refine (tag_any w8 m d b c cap 10 11 n5 e5 T Y x5 l5 (thenF N δ β) a5 HI8.out.mac).mono ?_); rintro e w9 ⟨gt, z, rfl, ht, hz⟩
            have HI9 := hid (HI8.out.asked ht.gc ht.low)
            have HW9 := hid (Wd.of_at (ht.tag.ext hz) (tagF_b HKY.out.yb B16.zero HTB.out))
            have HS9 := hid (refsum_any (.slice (some ⟨w.heap.size, 0, none⟩) 16 16) 10 11 T c7 Y (thenF N δ β) p7 w9 (HKY.out.later HI9.out.low) HTB.out HC7.out (by have := HTL.out; omega) (by have h1 := HI9.out.own.rd (by rw [ns_len]; have := HTL.out; show T * 1 ≤ _; omega) (ns_wf HTB.out); exact h1))
            unfold SumP at HS9
            clear ht hz
            refine hK.out _ _ (trivial) (fun h1x => ?_)
            clear hK K
            try simp only [Act.put, lay_out]
            refine wpAnyH_ready (rs := [4]) (by kernel_rfl) (by simp) (AllReadyH.cons rfl (fun K hK => ?_) AllReadyH.nil)
            rw [if_pos (by rfl)]
            go_simp
            go_at_call 13
            (with_reducible refine (HS9.out).mono ?_); rintro e w10 ⟨gr, rfl, hw, hg, hlow⟩
            have HI10 := hid (HI9.out.self hlow)
            have HSA := hid (same_wd gt gr 16 16 _ w10 (HW9.out.self hlow) hw)
            have HSZ := hid (size_any w10 m d b c cap 10 11 n5 e5 T Y x5 l5 (thenF N δ β) a5 HI10.out.mac)
            clear hw hg hlow
            refine hK.out _ _ (trivial) (fun h2x => ?_)
            clear hK K
            try simp only [Act.put, lay_out]
            refine wpAnyH_ready (rs := [5]) (by kernel_rfl) (by simp) (AllReadyH.cons rfl (fun K hK => ?_) AllReadyH.nil)
            rw [if_pos (by rfl)]
            go_simp
            go_at_call 11
            (with_reducible refine (HSA.out).mono ?_); rintro e w10 ⟨rfl, rfl⟩
            refine hK.out _ _ (trivial) (fun h3x => ?_)
            clear hK K
            try simp only [Act.put, lay_out]
            refine wpAnyH_take (i := 6) (v := .bool false) rfl (by kernel_rfl) (by kernel_rfl) (by kernel_rfl) (fun _ _ _ h => h) (y_not (by rfl) 4 (.tmp 90) true rfl rfl) h3x ?_
            try simp only [Act.put, lay_out]
            refine wpAnyH_take (i := 7) (v := .bool false) rfl (by kernel_rfl) (by kernel_rfl) (by kernel_rfl) (fun _ _ _ h => h) (.inl ⟨by rfl, fun w hw => by clear hw; go_simp⟩) h3x ?_
            try simp only [Act.put, lay_out]
            refine wpAnyH_take (i := 8) (v := .pointer (some ⟨m, 0, none⟩)) rfl (by kernel_rfl) (by kernel_rfl) (by kernel_rfl) (fun _ _ _ h => h) (.inl ⟨by rfl, fun w hw => by clear hw; go_simp⟩) h3x ?_
            try simp only [Act.put, lay_out]
            refine wpAnyH_take (i := 10) (v := .slice p7 T c7) rfl (by kernel_rfl) (by kernel_rfl) (by kernel_rfl) (fun _ _ _ h => h) (.inl ⟨by rfl, fun w hw => by clear hw; go_simp⟩) h3x ?_
            try simp only [Act.put, lay_out]
            refine wpAnyH_take (i := 11) (v := .int .i64 (T : Int)) rfl (by kernel_rfl) (by kernel_rfl) (by kernel_rfl) (fun _ _ _ h => h) (.inl ⟨by rfl, fun w hw => by clear hw; go_simp⟩) h3x ?_
            try simp only [Act.put, lay_out]
            refine wpAnyH_ready (rs := [9]) (by kernel_rfl) (by simp) (AllReadyH.cons rfl (fun K hK => ?_) AllReadyH.nil)
            rw [if_pos (by rfl)]
            go_simp
            go_at_call 22
            (with_reducible refine (HSZ.out).mono ?_); rintro e w10 ⟨rfl, rfl⟩
            refine hK.out _ _ (trivial) (fun h4x => ?_)
            clear hK K
            try simp only [Act.put, lay_out]
            refine wpAnyH_take (i := 12) (v := .bool false) rfl (by kernel_rfl) (by kernel_rfl) (by kernel_rfl) (fun _ _ _ h => h) (.inl ⟨by rfl, fun w hw => by clear hw; go_simp⟩) h4x ?_
            try simp only [Act.put, lay_out]
            refine wpAnyH_take (i := 13) (v := .bool false) rfl (by kernel_rfl) (by kernel_rfl) (by kernel_rfl) (fun _ _ _ h => h) (.inl ⟨by rfl, fun w hw => by clear hw; go_simp⟩) h4x ?_
            try simp only [Act.put, lay_out]
            refine wpAnyH_done (by kernel_rfl) ?_ _
            refine NoPanic.normal ?_
            clear h0 h1x h2x h3x h4x
            try simp only [Act.put, lay_out]
            go_wp2
            go_roundw
            case rel => exact ⟨i + 1, T, n5, e5, x5, l5, thenF N δ β, a5, by go_num, by have := HIN.out; omega, HTL.out, HI10.out⟩
            case measure => have := HIN.out; (simp [intOf] <;> omega)
    · have hcase : ¬ (i : Int) < (Ln : Int) ∨ ((i : Int) < (Ln : Int) ∧ ¬ (i : Int) < 20) := by omega
      clear hlt
      rcases hcase with h1 | ⟨h1, h2⟩
      all_goals
        go_wp2_with (first
          | (go_at_call 7; (with_reducible refine (cawake_any wr).mono ?_); rintro q w11 ⟨rfl, hlow⟩
             have HL11 := hid (HX.out.2.trans ((HI.out.low.trans (hlow.mono HI.out.low.size)).mono HX.out.2.size))
             clear hlow))
        go_ret
        exact ⟨rfl, HL11.out⟩
end Go.Proofs.Yteoiekooaokhaaa
