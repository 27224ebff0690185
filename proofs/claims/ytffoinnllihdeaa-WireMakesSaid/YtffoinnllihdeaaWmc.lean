import Derived.Test.YtffoinnllihdeaaProg
import Derived.Test.YtffoinnllihdeaaWmb
import Derived.Test.YtffoinnllihdeaaTar
import Derived.Deep.CutRange
import Derived.Deep.CutBlock
/- Wire: WireMakes, over what the program's machine tells. -/
namespace Go.Proofs.Ytffoinnllihdeaa
open Go.RowKit
set_option maxRecDepth 100000
theorem infoU : (Try.prog.info? 41).map (fun i => (i.zero, i.size, i.bytes)) = some (some (.int .u64 0), 1, 8) := by kernel_rfl
/-- What is not the machine's may be turned, and lie elsewhere. -/
theorem Pz.grow {Pm : World → Nat → Ms → (Nat → Prop) → Prop} (hM : Mach Pm) {lo : Nat} {X Y : Nat → Prop} {W wx wy : World} {p : Nat} {S : Ms} (h : Pz Pm lo X W wx p S) (hb : Tch X wx wy) (hlo : ∀ k, X k → lo ≤ k) (hY : ∀ k, Y k → X k ∨ wx.heap.size ≤ k ∧ k < wy.heap.size) : Pz Pm lo Y W wy p S := by
  obtain ⟨F, h1, h2, h3, h4, h5⟩ := h
  refine ⟨F, hM.stays h1 hb.size (fun k hk => hb.block k (hM.lt h1 k hk) (h2 k hk).2), fun k hk => ⟨(h2 k hk).1, fun hy => ?_⟩, fun k hk => ?_, h4.trans (hb.below hlo h5), Nat.le_trans h5 hb.size⟩
  · rcases hY k hy with e | e
    · exact (h2 k hk).2 e
    · have := hM.lt h1 k hk; omega
  · rcases hY k hk with e | e
    · exact Nat.lt_of_lt_of_le (h3 k e) hb.size
    · exact e.2
/-- What the law's loop holds: the machine, and the words of keys. -/
structure Wk (Pm : World → Nat → Ms → (Nat → Prop) → Prop) (W wr : World) (n : Int) (T : Nat → Nat) (p : Nat) (kv : Value) (k : Nat) (S : Ms) (ks : Nat → Nat) (KN : Nat) : Prop where
  z : Pz Pm W.heap.size (fun k => kv.ownBlock = some k) W wr p S
  q : Bq k S
  wi : Wi S ks KN
  n : S.n = n
  tw : S.tw = fun i => T (i + 1)
  TN : S.TN = 60
  row : Orw wr W.heap.size 41 1 kv KN (fun i => [.int .u64 (ks i : Int)])
  ks : ∀ i, i < KN → ks i < 2 ^ 64
section
variable {Pm : World → Nat → Ms → (Nat → Prop) → Prop} {W wr wy : World} {n : Int} {T : Nat → Nat} {p : Nat} {kv : Value} {k : Nat} {S : Ms} {ks : Nat → Nat} {KN : Nat}
theorem Wk.self (hM : Mach Pm) (h : Wk Pm W wr n T p kv k S ks KN) (hb : Below wr.heap.size wr wy) : Wk Pm W wy n T p kv k S ks KN :=
  ⟨h.z.self hM hb, h.q, h.wi, h.n, h.tw, h.TN, h.row.stays fun j hj => hb.block j (h.row.lt j hj).2, h.ks⟩
theorem Wk.does (h : Wk Pm W wr n T p kv k S ks KN) (o : Op6) (x : Nat) (ho : opwf o) (hx : x < 2 ^ 64) (hk2 : o.K ≠ 2) (hz : Pz Pm W.heap.size (fun k => kv.ownBlock = some k) W wy p (S.doS o x)) (hs : ∀ k, kv.ownBlock = some k → wy.heap[k]? = wr.heap[k]?) : Wk Pm W wy n T p kv (k + 1) (S.doS o x) ks KN := by
  have hd := h.wi.does o x
  rw [if_neg (fun e => hk2 e.1)] at hd
  exact ⟨hz, h.q.does ho hx, hd, (doS_n S o x).trans h.n, (doS_tw S o x).trans h.tw, (doS_TN S o x).trans h.TN, h.row.stays hs, h.ks⟩
theorem Wk.begins (h : Wk Pm W wr n T p kv k S ks KN) (kd : Int) (hz : Pz Pm W.heap.size (fun k => kv.ownBlock = some k) W wy p (S.beginS kd)) (hs : ∀ k, kv.ownBlock = some k → wy.heap[k]? = wr.heap[k]?) : Wk Pm W wy n T p kv k (S.beginS kd) ks KN :=
  ⟨hz, h.q.begins kd, h.wi.begins kd, (beginS_n S kd).1.trans h.n, (beginS_n S kd).2.1.trans h.tw, (beginS_n S kd).2.2.trans h.TN, h.row.stays hs, h.ks⟩
theorem Wk.ends (h : Wk Pm W wr n T p kv k S ks KN) (hk : k ≤ 1000000) (hz : Pz Pm W.heap.size (fun k => kv.ownBlock = some k) W wy p S.endS) (hs : ∀ k, kv.ownBlock = some k → wy.heap[k]? = wr.heap[k]?) : Wk Pm W wy n T p kv (k + 1) S.endS ks KN :=
  ⟨hz, h.q.ends hk, h.wi.ends, (endS_n S).1.trans h.n, (endS_n S).2.1.trans h.tw, (endS_n S).2.2.trans h.TN, h.row.stays hs, h.ks⟩
theorem Wk.mono (h : Wk Pm W wr n T p kv k S ks KN) {k' : Nat} (hk : k ≤ k') : Wk Pm W wr n T p kv k' S ks KN := ⟨h.z, h.q.mono hk, h.wi, h.n, h.tw, h.TN, h.row, h.ks⟩
/-- A key's op that is not done. -/
theorem Wk.keyNo (h : Wk Pm W wr n T p kv k S ks KN) (o : Op6) (x : Nat) (ho : opwf o) (hx : x < 2 ^ 64) (hr : S.doR o = -1) (hz : Pz Pm W.heap.size (fun k => kv.ownBlock = some k) W wy p (S.doS o x)) (hs : ∀ k, kv.ownBlock = some k → wy.heap[k]? = wr.heap[k]?) : Wk Pm W wy n T p kv (k + 1) (S.doS o x) ks KN := by
  have hd := h.wi.does o x
  rw [if_neg (fun e => e.2 hr)] at hd
  exact ⟨hz, h.q.does ho hx, hd, (doS_n S o x).trans h.n, (doS_tw S o x).trans h.tw, (doS_TN S o x).trans h.TN, h.row.stays hs, h.ks⟩
/-- A key's word, told besides. -/
theorem Wk.keyYes (hM : Mach Pm) (h : Wk Pm W wr n T p kv k S ks KN) (o : Op6) (x : Nat) (ho : opwf o) (hx : x < 2 ^ 64) (hk2 : o.K = 2) (hr : S.doR o ≠ -1) {wz w2 : World} (hz : Pz Pm W.heap.size (fun k => kv.ownBlock = some k) W wz p (S.doS o x)) (hT : Tch (fun k => kv.ownBlock = some k) wz w2) {g cap : Nat}
    (hrow : Orw w2 W.heap.size 41 1 (.slice (some ⟨g, 0, none⟩) (KN + 1) cap) (KN + 1) (fun i => [.int .u64 (updN ks KN x i : Nat)])) (hp : kv.ownBlock = some g ∨ wz.heap.size ≤ g) : Wk Pm W w2 n T p (.slice (some ⟨g, 0, none⟩) (KN + 1) cap) (k + 1) (S.doS o x) (updN ks KN x) (KN + 1) := by
  have hd := h.wi.does o x
  rw [if_pos ⟨hk2, hr⟩] at hd
  have hg : g < w2.heap.size := (hrow.lt g rfl).2
  refine ⟨hz.grow hM hT (fun k hk => (h.row.lt k hk).1) (fun k hk => ?_), h.q.does ho hx, hd, (doS_n S o x).trans h.n, (doS_tw S o x).trans h.tw, (doS_TN S o x).trans h.TN, hrow, fun i hi => ?_⟩
  · have e : g = k := Option.some.inj hk
    subst e
    rcases hp with hp | hp
    · exact .inl hp
    · exact .inr ⟨hp, hg⟩
  · by_cases e : i = KN
    · subst e; rw [updN_at]; exact hx
    · rw [updN_no _ _ e]; exact h.ks i (by omega)
end
theorem startD_wi (n most : Int) (tw : Nat → Nat) (TN e : Nat) (hn : n = 2 ∨ n = 3) : Wi (startD n most tw TN 0 e) (fun _ => 0) 0 :=
  ⟨rfl, rfl, hn, fun i hi => absurd hi (Nat.not_lt_zero i), rfl, rfl, rfl, Nat.zero_le _, fun i hi => absurd hi (Nat.not_lt_zero i), fun e => absurd rfl e, Int.le_refl 0, fun i hi => absurd hi (Nat.not_lt_zero i)⟩
set_option maxHeartbeats 25600000 in
theorem lmakes_core {Pm : World → Nat → Ms → (Nat → Prop) → Prop} (hM : Mach Pm) (hN : MachN Pm) (T : Nat → Nat) (hT : Lcg T) (t3 : Bool) (lv : Value) (LL : Nat) (af : Nat → Act8) (W : World) (h : RAc W lv LL af) :
    Calls Try.prog 4 #[.bool t3, lv] W fun e w' => e = .returned (.bool true) ∧ Below W.heap.size W w' := by
  obtain ⟨a, cap, rfl, _, _, hAc⟩ := id h.at_
  have HLT := hid hT.lt
  have HTW : Hid (∀ w, Calls Try.prog 6 #[.int .i64 60] w fun e w' => ∃ u, e = .returned u ∧ Rd .u64 w' u (wdL (fun i => T (i + 1)) 60) ∧ Below w.heap.size w w') := hid (fun w => (ltape_any T hT 60 (by decide) w).mono fun e w' ⟨u, h1, h2, h3⟩ => ⟨u, h1, h2.rd (by rw [wdL_len]; decide) (fun z hz => by
    unfold wdL at hz
    obtain ⟨i, hi, rfl⟩ := List.mem_map.1 hz
    exact WalkArith.wf_u64 (by have := HLT.out (i + 1); show 0 ≤ ((T (i + 1) : Nat) : Int) ∧ ((T (i + 1) : Nat) : Int) ≤ _; omega)), h3⟩)
  have HTN := hid (fun (v : Value) (w : World) (h : Rd .u64 w v (wdL (fun i => T (i + 1)) 60)) => new_any v _ w h)
  have HRS : Hid (∀ lo hi b w, TapeAt w lo hi b (wdL (fun i => T (i + 1)) 60) 0 0 → Calls Try.prog 7 #[.pointer (some ⟨b, 0, none⟩), .int .i64 60] w fun r w' => r = .returned (.int .i64 0) ∧ TapeAt w' lo hi b (wdL (fun i => T (i + 1)) 60) 0 60 ∧ Only b w w') := hid (fun lo hi b w h => reserve_ok lo hi b _ 0 0 60 w h (by rw [wdL_len]; decide))
  have HN := hid hN
  have HAC := hid hAc
  have HAW := hid h.wf
  have hlim := h.lim
  have HAW2 := hid (lawake_any hM hN)
  have HHO := hid (fun (N : Int) (v0 v1 v mv kv : Value) (L M TN KN : Nat) (f : Nat → Op6) (g : Nat → Sp3) (vv mk ks : Nat → Nat) (w : World) => lholds_any N v0 v1 v mv kv L M TN KN f g vv mk ks w)
  have B0 : Hid (Below W.heap.size W W) := hid (Below.refl _ _)
  clear h hAc hN hT
  obtain ⟨n, hn⟩ : ∃ n : Int, (if t3 = true then 3 else 2) = n := ⟨_, rfl⟩
  have hn23 : n = 2 ∨ n = 3 := by cases t3
                                  · exact .inl hn.symm
                                  · exact .inr hn.symm
  have HN23 := hid hn23
  have HNE := hid hn
  clear hn23 hn
  go_enter Try.func4, Try.ntmps4
  go_upto_if 13 with fail
  go_cut [5] from 13 to 13 (fun q wx => q = .int .i64 n ∧ W = wx)
  case first =>
    have hn := HNE.out
    cases t3
    · simp at hn
      subst hn
      go_wp2
      go_meet
      exact ⟨rfl, rfl⟩
    · simp at hn
      subst hn
      go_wp2
      go_meet
      exact ⟨rfl, rfl⟩
  case rest =>
    obtain ⟨rfl, rfl⟩ := hcut
    go_wp2_with (first
      | (go_at_call 6; (with_reducible refine (HTW.out _).mono ?_); rintro e w1 ⟨u, rfl, hu, hb⟩; have B1 := hid (B0.out.trans (hb.mono B0.out.size)); have U1 := hid hu; clear hu hb)
      | (go_at_call 5; (with_reducible refine (HTN.out _ _ U1.out).mono ?_); rintro e w2 ⟨q, rfl, ht, hb⟩; have B2 := hid (B1.out.trans (hb.mono B1.out.size)); have T2 := hid ht; clear ht hb)
      | (go_at_call 7; (with_reducible refine (HRS.out _ _ _ _ T2.out).mono ?_); rintro e w3 ⟨rfl, ht, ho⟩; have B3 := hid (B2.out.trans (ho.below (by have := T2.out.lt; have := B1.out.size; omega) B2.out.size)); have T3 := hid ht; clear ht ho)
      | (go_at_call 8; (with_reducible refine (HN.out.new _ _ _ 0 60 _ 200 (fun i => T (i + 1)) 60 _ T3.out HN23.out (by decide) (by decide)).mono ?_); rintro e w4 ⟨p, rfl, hb, F, hp, hF⟩; have B4 := hid (B3.out.trans (hb.mono B3.out.size)); have P4 : Hid (Pz Pm W.heap.size (fun _ => False) W w4 p (startD n 200 (fun i => T (i + 1)) 60 0 60)) := hid ⟨F, hp, fun k hk => ⟨by have := hF k hk; have := B1.out.size; have := B3.out.size; omega, fun h => h⟩, fun k hk => hk.elim, B4.out, B4.out.size⟩; clear hp hF hb))
    have HR0 : Hid (Wk Pm W (w4.alloc (.cells #[] 41)) n T p (.slice (some ⟨w4.heap.size, 0, none⟩) 0 0) 0 (startD n 200 (fun i => T (i + 1)) 60 0 60) (fun _ => 0) 0) := hid ⟨P4.out.more hM ((Below.refl _ w4).alloc (Nat.le_refl _) _) (fun k hk => .inr (by have e : w4.heap.size = k := Option.some.inj hk; subst e; exact ⟨Nat.le_refl _, by simp⟩)), startD_bq n 200 _ 60 0 60 0 HN23.out (by decide) (by decide) (by decide) (fun i _ => by have := HLT.out (i + 1); show T (i + 1) < 2 ^ 64; omega) (by decide) (by decide), startD_wi n 200 _ 60 60 HN23.out, rfl, rfl, rfl, own_empty (k := .u64) w4 B4.out.size, fun i hi => absurd hi (Nat.not_lt_zero i)⟩
    go_loopw [10, 11] (fun kv i wr => ∃ j : Nat, ∃ S ks KN, j ≤ LL ∧ j ≤ 150 ∧ i = .int .i64 j ∧ Wk Pm W wr n T p kv (2 * j) S ks KN) (fun _ i _ => LL - (intOf i).toNat)
    case atStart => exact ⟨0, _, _, _, by omega, by omega, rfl, HR0.out⟩
    case round =>
      obtain ⟨j, S, ks, KN, hj, hj2, rfl, hI⟩ := hrel
      have HI := hid hI
      clear hI
      by_cases hlt : j < LL ∧ j < 150
      · obtain ⟨hl1, hl2⟩ := hlt
        have j1 : (0 : Int) ≤ (j : Int) := by omega
        have j2 : (j : Int) < (LL : Int) := by omega
        have j3 : decide ((j : Int) < 150) = true := decide_eq_true (by omega)
        obtain ⟨b, off, rfl, hb, hc⟩ := HAC.out (by omega)
        have HA : Hid (∀ wx, Below W.heap.size W wx → Ac wx b (off + j * 8) (af j)) := hid (fun wx hx => (hc j hl1).self hx)
        have HWF := hid (HAW.out j hl1)
        clear hb hc
        have HK : Hid (2 * j ≤ 1000000) := hid (by omega)
        have HK1 : Hid (2 * j + 1 ≤ 1000000) := hid (by omega)
        have HO := hid HWF.out.2.1
        have HX : Hid ((af j).X < 2 ^ 64) := hid (by have := HWF.out.2.2; omega)
        by_cases hk2 : (af j).K = 2
        · have HKO : Hid (opwf ⟨2, 0, (af j).o.A, (af j).o.B, -1, S.words⟩) := hid (by
            have := opA_wf HI.out.q HK.out HWF.out
            unfold Ms.opA at this
            simpa [hk2] using this)
          have HK2 := hid hk2
          clear hk2
          go_wp2_with (go_at_call 15; (with_reducible refine (plen hM HI.out.z HI.out.q HK.out).mono ?_); rintro e w5 ⟨rfl, hb⟩; have Z5 := hid (HI.out.self hM hb); clear hb; have ac := HA.out w5 Z5.out.z.low; have a0 : w5.cell? ⟨b, off + j * 8, none⟩ = some (.int .i64 (af j).K) := ac.k; have a1 : w5.cell? ⟨b, off + j * 8 + 1, none⟩ = some (.int .i64 (af j).o.K) := ac.o.k; have a2 : w5.cell? ⟨b, off + j * 8 + 2, none⟩ = some (.int .i64 (af j).o.D) := ac.o.d; have a3 : w5.cell? ⟨b, off + j * 8 + 3, none⟩ = some (.int .i64 (af j).o.A) := ac.o.a; have a4 : w5.cell? ⟨b, off + j * 8 + 4, none⟩ = some (.int .i64 (af j).o.B) := ac.o.b; have a5 : w5.cell? ⟨b, off + j * 8 + 5, none⟩ = some (.int .i64 (af j).o.E) := ac.o.e; have a6 : w5.cell? ⟨b, off + j * 8 + 6, none⟩ = some (.int .u64 ((af j).o.C : Int)) := ac.o.c; have a7 : w5.cell? ⟨b, off + j * 8 + 7, none⟩ = some (.int .u64 ((af j).X : Int)) := ac.x; clear ac; rw [HK2.out] at a0)
          clear a0 a1 a2 a3 a4 a5 a6 a7
          have Z5d := hid (Z5.out.self hM ((Below.refl _ w5).drew))
          refine wp_region_noPanic ?_
          refine wp_region_held_drew (S := fun w' => Ac w' b (off + j * 8) (af j)) (by kernel_rfl) (HA.out _ Z5d.out.z.low) (fun h0 => ?_)
          generalize w5.drew = y1 at *
          refine wpAnyH_take (i := 0) (v := .pointer (some ⟨p, 0, none⟩)) rfl (by kernel_rfl) (by kernel_rfl) (by kernel_rfl) (fun _ _ _ h => h) (.inl ⟨by rfl, fun w hw => by clear hw; go_simp⟩) h0 ?_
          try simp only [Act.put, lay_out]
          refine wpAnyH_take (i := 1) (v := .slice (some ⟨b, off, none⟩) LL cap) rfl (by kernel_rfl) (by kernel_rfl) (by kernel_rfl) (fun _ _ _ h => h) (.inl ⟨by rfl, fun w hw => by clear hw; go_simp⟩) h0 ?_
          try simp only [Act.put, lay_out]
          refine wpAnyH_take (i := 2) (v := .int .i64 (j : Int)) rfl (by kernel_rfl) (by kernel_rfl) (by kernel_rfl) (fun _ _ _ h => h) (.inl ⟨by rfl, fun w hw => by clear hw; go_simp⟩) h0 ?_
          try simp only [Act.put, lay_out]
          refine wpAnyH_take (i := 3) (v := .pointer (some ⟨b, off + j * 8, none⟩)) rfl (by kernel_rfl) (by kernel_rfl) (by kernel_rfl) (fun _ _ _ h => h) (.inl ⟨by rfl, fun w hw => by clear hw; go_simp⟩) h0 ?_
          try simp only [Act.put, lay_out]
          refine wpAnyH_take (i := 4) (v := .pointer (some ⟨b, off + j * 8 + 7, none⟩)) rfl (by kernel_rfl) (by kernel_rfl) (by kernel_rfl) (fun _ _ _ h => h) (.inl ⟨by rfl, fun w hw => by clear hw; go_simp⟩) h0 ?_
          try simp only [Act.put, lay_out]
          refine wpAnyH_take (i := 5) (v := .int .u64 ((af j).X : Int)) rfl (by kernel_rfl) (by kernel_rfl) (by kernel_rfl) (fun _ _ _ h => h) (.inl ⟨by rfl, fun w' hw => by have hc : w'.cell? ⟨b, off + j * 8 + 7, none⟩ = some (.int .u64 ((af j).X : Int)) := hw.x; clear hw; go_simp⟩) h0 ?_
          try simp only [Act.put, lay_out]
          refine wpAnyH_take (i := 6) (v := .slice (some ⟨b, off, none⟩) LL cap) rfl (by kernel_rfl) (by kernel_rfl) (by kernel_rfl) (fun _ _ _ h => h) (.inl ⟨by rfl, fun w hw => by clear hw; go_simp⟩) h0 ?_
          try simp only [Act.put, lay_out]
          refine wpAnyH_take (i := 7) (v := .int .i64 (j : Int)) rfl (by kernel_rfl) (by kernel_rfl) (by kernel_rfl) (fun _ _ _ h => h) (.inl ⟨by rfl, fun w hw => by clear hw; go_simp⟩) h0 ?_
          try simp only [Act.put, lay_out]
          refine wpAnyH_take (i := 8) (v := .pointer (some ⟨b, off + j * 8, none⟩)) rfl (by kernel_rfl) (by kernel_rfl) (by kernel_rfl) (fun _ _ _ h => h) (.inl ⟨by rfl, fun w hw => by clear hw; go_simp⟩) h0 ?_
          try simp only [Act.put, lay_out]
          refine wpAnyH_take (i := 9) (v := .pointer (some ⟨b, off + j * 8 + 1, none⟩)) rfl (by kernel_rfl) (by kernel_rfl) (by kernel_rfl) (fun _ _ _ h => h) (.inl ⟨by rfl, fun w hw => by clear hw; go_simp⟩) h0 ?_
          try simp only [Act.put, lay_out]
          refine wpAnyH_take (i := 10) (v := .pointer (some ⟨b, off + j * 8 + 3, none⟩)) rfl (by kernel_rfl) (by kernel_rfl) (by kernel_rfl) (fun _ _ _ h => h) (.inl ⟨by rfl, fun w hw => by clear hw; go_simp⟩) h0 ?_
          try simp only [Act.put, lay_out]
          refine wpAnyH_take (i := 11) (v := .int .i64 (af j).o.A) rfl (by kernel_rfl) (by kernel_rfl) (by kernel_rfl) (fun _ _ _ h => h) (.inl ⟨by rfl, fun w' hw => by have hc : w'.cell? ⟨b, off + j * 8 + 3, none⟩ = some (.int .i64 (af j).o.A) := hw.o.a; clear hw; go_simp⟩) h0 ?_
          try simp only [Act.put, lay_out]
          refine wpAnyH_take (i := 12) (v := .slice (some ⟨b, off, none⟩) LL cap) rfl (by kernel_rfl) (by kernel_rfl) (by kernel_rfl) (fun _ _ _ h => h) (.inl ⟨by rfl, fun w hw => by clear hw; go_simp⟩) h0 ?_
          try simp only [Act.put, lay_out]
          refine wpAnyH_take (i := 13) (v := .int .i64 (j : Int)) rfl (by kernel_rfl) (by kernel_rfl) (by kernel_rfl) (fun _ _ _ h => h) (.inl ⟨by rfl, fun w hw => by clear hw; go_simp⟩) h0 ?_
          try simp only [Act.put, lay_out]
          refine wpAnyH_take (i := 14) (v := .pointer (some ⟨b, off + j * 8, none⟩)) rfl (by kernel_rfl) (by kernel_rfl) (by kernel_rfl) (fun _ _ _ h => h) (.inl ⟨by rfl, fun w hw => by clear hw; go_simp⟩) h0 ?_
          try simp only [Act.put, lay_out]
          refine wpAnyH_take (i := 15) (v := .pointer (some ⟨b, off + j * 8 + 1, none⟩)) rfl (by kernel_rfl) (by kernel_rfl) (by kernel_rfl) (fun _ _ _ h => h) (.inl ⟨by rfl, fun w hw => by clear hw; go_simp⟩) h0 ?_
          try simp only [Act.put, lay_out]
          refine wpAnyH_take (i := 16) (v := .pointer (some ⟨b, off + j * 8 + 4, none⟩)) rfl (by kernel_rfl) (by kernel_rfl) (by kernel_rfl) (fun _ _ _ h => h) (.inl ⟨by rfl, fun w hw => by clear hw; go_simp⟩) h0 ?_
          try simp only [Act.put, lay_out]
          refine wpAnyH_take (i := 17) (v := .int .i64 (af j).o.B) rfl (by kernel_rfl) (by kernel_rfl) (by kernel_rfl) (fun _ _ _ h => h) (.inl ⟨by rfl, fun w' hw => by have hc : w'.cell? ⟨b, off + j * 8 + 4, none⟩ = some (.int .i64 (af j).o.B) := hw.o.b; clear hw; go_simp⟩) h0 ?_
          try simp only [Act.put, lay_out]
          refine wpAnyH_ready (rs := [18]) (by kernel_rfl) (by simp) (AllReadyH.cons rfl (fun K hK => ?_) AllReadyH.nil)
          rw [if_pos (by rfl)]
          go_simp
          go_at_call 16
          (with_reducible refine (pkey hM (af j).X (af j).o.A (af j).o.B Z5d.out.z Z5d.out.q HK.out HKO.out HX.out).mono ?_); rintro e w6 ⟨rfl, hz, hs⟩
          have Z6 := hid (And.intro hz hs)
          clear hz hs
          refine hK.out _ _ (HA.out _ Z6.out.1.low) (fun h1x => ?_)
          clear hK K
          try simp only [Act.put, lay_out]
          refine wpAnyH_done (by kernel_rfl) ?_ _
          refine NoPanic.normal ?_
          clear h0 h1x
          try simp only [Act.put, lay_out]
          have b0 : w6.cell? ⟨b, off + j * 8, none⟩ = some (.int .i64 2) := by have := (HA.out _ Z6.out.1.low).k; rw [HK2.out] at this; exact this
          have b7 : w6.cell? ⟨b, off + j * 8 + 7, none⟩ = some (.int .u64 ((af j).X : Int)) := (HA.out _ Z6.out.1.low).x
          by_cases hr : S.doR ⟨2, 0, (af j).o.A, (af j).o.B, -1, S.words⟩ = -1
          · have HL : Hid ((S.doS ⟨2, 0, (af j).o.A, (af j).o.B, -1, S.words⟩ (af j).X).len = S.len) := hid (by rw [doS_len, if_pos hr])
            have Z7 := hid (Z5d.out.keyNo ⟨2, 0, (af j).o.A, (af j).o.B, -1, S.words⟩ (af j).X HKO.out HX.out hr Z6.out.1 Z6.out.2)
            have HPL : Hid (∀ wx kv, Wk Pm W wx n T p kv (2 * j + 1) (S.doS ⟨2, 0, (af j).o.A, (af j).o.B, -1, S.words⟩ (af j).X) ks KN → Calls Try.prog 15 #[.pointer (some ⟨p, 0, none⟩)] wx fun e w' => e = .returned (.int .i64 (S.len : Nat)) ∧ Below wx.heap.size wx w') := hid (fun wx kv hz => by have := plen hM hz.z hz.q HK1.out; rw [HL.out] at this; exact this)
            clear hr
            go_wp2_with (go_at_call 15; (with_reducible refine (HPL.out _ _ Z7.out).mono ?_); rintro e w7 ⟨rfl, hb⟩; have Z8 := hid (Z7.out.self hM hb); have b0' : w7.cell? ⟨b, off + j * 8, none⟩ = some (.int .i64 2) := tcell_self b0 hb; clear hb)
            go_roundw
            case rel => exact ⟨j + 1, _, _, _, by omega, by omega, by go_num, Z8.out.mono (by omega)⟩
            case measure => simp [intOf]; omega
          · have HL : Hid ((S.doS ⟨2, 0, (af j).o.A, (af j).o.B, -1, S.words⟩ (af j).X).len = S.len + 1) := hid (by rw [doS_len, if_neg hr])
            have HPL : Hid (∀ wx X', Pz Pm W.heap.size X' W wx p (S.doS ⟨2, 0, (af j).o.A, (af j).o.B, -1, S.words⟩ (af j).X) → Calls Try.prog 15 #[.pointer (some ⟨p, 0, none⟩)] wx fun e w' => e = .returned (.int .i64 ((S.len + 1 : Nat) : Int)) ∧ Below wx.heap.size wx w') := hid (fun wx X' hz => by have := plen hM hz (Z5.out.q.does HKO.out HX.out) HK1.out; rw [HL.out] at this; exact this)
            have HRR := hid hr
            have ql : decide ((S.len : Int) < ((S.len + 1 : Nat) : Int)) = true := decide_eq_true (by omega)
            clear hr
            go_wp2_with (first
              | (go_at_call 15; (with_reducible refine (HPL.out _ _ Z6.out.1).mono ?_); rintro e w7 ⟨rfl, hb⟩; have Y7 := hid hb; have b0' : w7.cell? ⟨b, off + j * 8, none⟩ = some (.int .i64 2) := tcell_self b0 hb; have b7' : w7.cell? ⟨b, off + j * 8 + 7, none⟩ = some (.int .u64 ((af j).X : Int)) := tcell_self b7 hb; clear hb)
              | (at_builtin; refine wpList_plain rfl (fun K hK => wp_append_rec (.tmp 98) (.tmp 104) 25 rfl W.heap.size 41 1 8 (.int .u64 0) Try.underlying25 infoU (by rfl) (by decide) _ KN (fun i => [.int .u64 (updN ks KN (af j).X i : Nat)]) rfl (((Z5d.out.row.stays Z6.out.2).stays (fun k hk => (Y7.out.trans (((Below.refl w7.heap.size w7).alloc (Nat.le_refl _) (.cells #[.int .u64 ((af j).X : Nat)] 41)).mono Y7.out.size)).block k ((Z5d.out.row.stays Z6.out.2).lt k hk).2)).ext (fun i hi => by rw [updN_no _ _ (by omega)])) ⟨w7.heap.size, 0, none⟩ 1 rfl rfl (by intro u hu; simp at hu; subst hu; rfl) (by rw [updN_at]; exact World.news_of_block (heap_alloc_new _ _)) (by have := Z5d.out.q.words; have := Z5d.out.wi.kn; unfold maxLen; omega) (by have := Z5d.out.q.words; have := Z5d.out.wi.kn; omega) (by have := Z6.out.1.los; have := Y7.out.size; simp; omega) (fun g cap' w9 g1 g2 g3 => hK _ _ ?_)); have Z9 := hid (Z5d.out.keyYes hM ⟨2, 0, (af j).o.A, (af j).o.B, -1, S.words⟩ (af j).X HKO.out HX.out rfl HRR.out Z6.out.1 (((Tch.of_below Y7.out).trans (Tch.of_below ((Below.refl w7.heap.size w7).alloc (Nat.le_refl _) (.cells #[.int .u64 ((af j).X : Nat)] 41))) (fun _ _ f => f)).trans (Tch.of_grown g2 (fun k e => e)) (fun _ _ f => f)) g1 (g3.imp id (fun e => by have := Y7.out.size; simp at e; omega))); have b9 : w9.cell? ⟨b, off + j * 8, none⟩ = some (.int .i64 2) := (by have := (HA.out _ Z9.out.z.low).k; rw [HK2.out] at this; exact this); clear g1 g2 g3))
            go_roundw
            case rel => exact ⟨j + 1, _, _, _, by omega, by omega, by go_num, Z9.out.mono (by omega)⟩
            case measure => simp [intOf]; omega
        · have e2 : ((af j).K == 2) = false := by simp [hk2]
          by_cases ho2 : (af j).o.K = 2
          · have HO2 := hid ho2
            clear ho2 hk2
            go_wp2_with (go_at_call 15; (with_reducible refine (plen hM HI.out.z HI.out.q HK.out).mono ?_); rintro e w5 ⟨rfl, hb⟩; have Z5 := hid (HI.out.self hM hb); clear hb; have ac := HA.out w5 Z5.out.z.low; have w5a0 : w5.cell? ⟨b, off + j * 8, none⟩ = some (.int .i64 (af j).K) := ac.k; have w5a1 : w5.cell? ⟨b, off + j * 8 + 1, none⟩ = some (.int .i64 (af j).o.K) := ac.o.k; have w5a2 : w5.cell? ⟨b, off + j * 8 + 2, none⟩ = some (.int .i64 (af j).o.D) := ac.o.d; have w5a3 : w5.cell? ⟨b, off + j * 8 + 3, none⟩ = some (.int .i64 (af j).o.A) := ac.o.a; have w5a4 : w5.cell? ⟨b, off + j * 8 + 4, none⟩ = some (.int .i64 (af j).o.B) := ac.o.b; have w5a5 : w5.cell? ⟨b, off + j * 8 + 5, none⟩ = some (.int .i64 (af j).o.E) := ac.o.e; have w5a6 : w5.cell? ⟨b, off + j * 8 + 6, none⟩ = some (.int .u64 ((af j).o.C : Int)) := ac.o.c; have w5a7 : w5.cell? ⟨b, off + j * 8 + 7, none⟩ = some (.int .u64 ((af j).X : Int)) := ac.x; clear ac; rw [HO2.out] at w5a1)
            go_roundw
            case rel => exact ⟨j + 1, _, _, _, by omega, by omega, by go_num, Z5.out.mono (by omega)⟩
            case measure => simp [intOf]; omega
          · have e3 : ((af j).o.K == 2) = false := by simp [ho2]
            have HOK := hid ho2
            have HP0 : Hid (∀ wx kv, Wk Pm W wx n T p kv (2 * j) S ks KN → Calls Try.prog 17 #[.pointer (some ⟨p, 0, none⟩), .agg (opCs (af j).o), .int .u64 0] wx fun e w' => e = .returned (.int .i64 (S.doR (af j).o)) ∧ Pz Pm W.heap.size (fun k => kv.ownBlock = some k) W w' p (S.doS (af j).o 0) ∧ ∀ k, kv.ownBlock = some k → w'.heap[k]? = wx.heap[k]?) := hid (fun wx kv hz => pdo_ hM (af j).o 0 hz.z hz.q HK.out HO.out (by decide))
            by_cases h8 : (af j).K = 8
            · have H8 := hid h8
              clear ho2 hk2 h8
              have m0 : ((af j).X % 3 : Nat) < 3 := Nat.mod_lt _ (by decide)
              have m1 : ((af j).X : Int).tmod 3 = (((af j).X % 3 : Nat) : Int) := by rw [Int.tmod_eq_emod_of_nonneg (by omega)]; omega
              have m2 : IntKind.i64.wrap (((af j).X % 3 : Nat) : Int) = (((af j).X % 3 : Nat) : Int) := by rw [IntKind.wrap_i64]; omega
              generalize (af j).X % 3 = m at *
              go_wp2_with (first
                | (go_at_call 15; (with_reducible refine (plen hM HI.out.z HI.out.q HK.out).mono ?_); rintro e w5 ⟨rfl, hb⟩; have Z5 := hid (HI.out.self hM hb); clear hb; have ac := HA.out w5 Z5.out.z.low; have w5a0 : w5.cell? ⟨b, off + j * 8, none⟩ = some (.int .i64 (af j).K) := ac.k; have w5a1 : w5.cell? ⟨b, off + j * 8 + 1, none⟩ = some (.int .i64 (af j).o.K) := ac.o.k; have w5a2 : w5.cell? ⟨b, off + j * 8 + 2, none⟩ = some (.int .i64 (af j).o.D) := ac.o.d; have w5a3 : w5.cell? ⟨b, off + j * 8 + 3, none⟩ = some (.int .i64 (af j).o.A) := ac.o.a; have w5a4 : w5.cell? ⟨b, off + j * 8 + 4, none⟩ = some (.int .i64 (af j).o.B) := ac.o.b; have w5a5 : w5.cell? ⟨b, off + j * 8 + 5, none⟩ = some (.int .i64 (af j).o.E) := ac.o.e; have w5a6 : w5.cell? ⟨b, off + j * 8 + 6, none⟩ = some (.int .u64 ((af j).o.C : Int)) := ac.o.c; have w5a7 : w5.cell? ⟨b, off + j * 8 + 7, none⟩ = some (.int .u64 ((af j).X : Int)) := ac.x; clear ac)
                | (go_at_call 17; (with_reducible refine (HP0.out _ _ Z5.out).mono ?_); rintro e w6 ⟨rfl, hz, hs⟩; have Z6 := hid (Z5.out.does (af j).o 0 HO.out (by decide) HOK.out hz hs); clear hz hs; have ac := HA.out w6 Z6.out.z.low; have w6a0 : w6.cell? ⟨b, off + j * 8, none⟩ = some (.int .i64 (af j).K) := ac.k; have w6a7 : w6.cell? ⟨b, off + j * 8 + 7, none⟩ = some (.int .u64 ((af j).X : Int)) := ac.x; clear ac; rw [H8.out] at w6a0)
                | (go_at_call 18; (with_reducible refine (pbegin_ hM _ Z6.out.z Z6.out.q HK1.out).mono ?_); rintro e w7 ⟨rfl, hz, hs⟩; have Z7 := hid (Z6.out.begins _ hz hs); clear hz hs; have w7a0 : w7.cell? ⟨b, off + j * 8, none⟩ = some (.int .i64 8) := (by have := (HA.out _ Z7.out.z.low).k; rw [H8.out] at this; exact this)))
              go_roundw
              case rel => exact ⟨j + 1, _, _, _, by omega, by omega, by go_num, Z7.out.mono (by omega)⟩
              case measure => simp [intOf]; omega
            · have e8 : ((af j).K == 8) = false := by simp [h8]
              by_cases h9 : (af j).K = 9
              · have H9 := hid h9
                clear ho2 hk2 h8 h9
                by_cases he : (S.doS (af j).o 0).e = 0
                · have HER : Hid (∀ wx kv, Wk Pm W wx n T p kv (2 * j + 1) (S.doS (af j).o 0) ks KN → Calls Try.prog 19 #[.pointer (some ⟨p, 0, none⟩)] wx fun e w' => e = .returned (.int .i64 0) ∧ Below wx.heap.size wx w') := hid (fun wx kv hz => by have := perr hM hz.z hz.q HK1.out; rw [he] at this; exact this)
                  clear he
                  go_wp2_with (first
                    | (go_at_call 15; (with_reducible refine (plen hM HI.out.z HI.out.q HK.out).mono ?_); rintro e w5 ⟨rfl, hb⟩; have Z5 := hid (HI.out.self hM hb); clear hb; have ac := HA.out w5 Z5.out.z.low; have w5a0 : w5.cell? ⟨b, off + j * 8, none⟩ = some (.int .i64 (af j).K) := ac.k; have w5a1 : w5.cell? ⟨b, off + j * 8 + 1, none⟩ = some (.int .i64 (af j).o.K) := ac.o.k; have w5a2 : w5.cell? ⟨b, off + j * 8 + 2, none⟩ = some (.int .i64 (af j).o.D) := ac.o.d; have w5a3 : w5.cell? ⟨b, off + j * 8 + 3, none⟩ = some (.int .i64 (af j).o.A) := ac.o.a; have w5a4 : w5.cell? ⟨b, off + j * 8 + 4, none⟩ = some (.int .i64 (af j).o.B) := ac.o.b; have w5a5 : w5.cell? ⟨b, off + j * 8 + 5, none⟩ = some (.int .i64 (af j).o.E) := ac.o.e; have w5a6 : w5.cell? ⟨b, off + j * 8 + 6, none⟩ = some (.int .u64 ((af j).o.C : Int)) := ac.o.c; have w5a7 : w5.cell? ⟨b, off + j * 8 + 7, none⟩ = some (.int .u64 ((af j).X : Int)) := ac.x; clear ac)
                    | (go_at_call 17; (with_reducible refine (HP0.out _ _ Z5.out).mono ?_); rintro e w6 ⟨rfl, hz, hs⟩; have Z6 := hid (Z5.out.does (af j).o 0 HO.out (by decide) HOK.out hz hs); clear hz hs; have ac := HA.out w6 Z6.out.z.low; have w6a0 : w6.cell? ⟨b, off + j * 8, none⟩ = some (.int .i64 (af j).K) := ac.k; have w6a7 : w6.cell? ⟨b, off + j * 8 + 7, none⟩ = some (.int .u64 ((af j).X : Int)) := ac.x; clear ac)
                    | (go_at_call 19; (with_reducible refine (HER.out _ _ Z6.out).mono ?_); rintro e w7 ⟨rfl, hb⟩; have Z7 := hid (Z6.out.self hM hb); clear hb)
                    | (go_at_call 20; (with_reducible refine (pend_ hM Z7.out.z Z7.out.q HK1.out).mono ?_); rintro e w8 ⟨rfl, hz, hs⟩; have Z8 := hid (Z7.out.ends HK1.out hz hs); clear hz hs))
                  go_roundw
                  case rel => exact ⟨j + 1, _, _, _, by omega, by omega, by go_num, Z8.out.mono (by omega)⟩
                  case measure => simp [intOf]; omega
                · have q0 : (((S.doS (af j).o 0).e : Int) == 0) = false := by simp; omega
                  have HER : Hid (∀ wx kv, Wk Pm W wx n T p kv (2 * j + 1) (S.doS (af j).o 0) ks KN → Calls Try.prog 19 #[.pointer (some ⟨p, 0, none⟩)] wx fun e w' => e = .returned (.int .i64 ((S.doS (af j).o 0).e : Nat)) ∧ Below wx.heap.size wx w') := hid (fun wx kv hz => perr hM hz.z hz.q HK1.out)
                  clear he
                  go_wp2_with (first
                    | (go_at_call 15; (with_reducible refine (plen hM HI.out.z HI.out.q HK.out).mono ?_); rintro e w5 ⟨rfl, hb⟩; have Z5 := hid (HI.out.self hM hb); clear hb; have ac := HA.out w5 Z5.out.z.low; have w5a0 : w5.cell? ⟨b, off + j * 8, none⟩ = some (.int .i64 (af j).K) := ac.k; have w5a1 : w5.cell? ⟨b, off + j * 8 + 1, none⟩ = some (.int .i64 (af j).o.K) := ac.o.k; have w5a2 : w5.cell? ⟨b, off + j * 8 + 2, none⟩ = some (.int .i64 (af j).o.D) := ac.o.d; have w5a3 : w5.cell? ⟨b, off + j * 8 + 3, none⟩ = some (.int .i64 (af j).o.A) := ac.o.a; have w5a4 : w5.cell? ⟨b, off + j * 8 + 4, none⟩ = some (.int .i64 (af j).o.B) := ac.o.b; have w5a5 : w5.cell? ⟨b, off + j * 8 + 5, none⟩ = some (.int .i64 (af j).o.E) := ac.o.e; have w5a6 : w5.cell? ⟨b, off + j * 8 + 6, none⟩ = some (.int .u64 ((af j).o.C : Int)) := ac.o.c; have w5a7 : w5.cell? ⟨b, off + j * 8 + 7, none⟩ = some (.int .u64 ((af j).X : Int)) := ac.x; clear ac)
                    | (go_at_call 17; (with_reducible refine (HP0.out _ _ Z5.out).mono ?_); rintro e w6 ⟨rfl, hz, hs⟩; have Z6 := hid (Z5.out.does (af j).o 0 HO.out (by decide) HOK.out hz hs); clear hz hs; have ac := HA.out w6 Z6.out.z.low; have w6a0 : w6.cell? ⟨b, off + j * 8, none⟩ = some (.int .i64 (af j).K) := ac.k; have w6a7 : w6.cell? ⟨b, off + j * 8 + 7, none⟩ = some (.int .u64 ((af j).X : Int)) := ac.x; clear ac; rw [H9.out] at w6a0)
                    | (go_at_call 19; (with_reducible refine (HER.out _ _ Z6.out).mono ?_); rintro e w7 ⟨rfl, hb⟩; have Z7 := hid (Z6.out.self hM hb); clear hb))
                  go_roundw
                  case rel => exact ⟨j + 1, _, _, _, by omega, by omega, by go_num, Z7.out.mono (by omega)⟩
                  case measure => simp [intOf]; omega
              · have e9 : ((af j).K == 9) = false := by simp [h9]
                clear ho2 hk2 h8 h9
                go_wp2_with (first
                  | (go_at_call 15; (with_reducible refine (plen hM HI.out.z HI.out.q HK.out).mono ?_); rintro e w5 ⟨rfl, hb⟩; have Z5 := hid (HI.out.self hM hb); clear hb; have ac := HA.out w5 Z5.out.z.low; have w5a0 : w5.cell? ⟨b, off + j * 8, none⟩ = some (.int .i64 (af j).K) := ac.k; have w5a1 : w5.cell? ⟨b, off + j * 8 + 1, none⟩ = some (.int .i64 (af j).o.K) := ac.o.k; have w5a2 : w5.cell? ⟨b, off + j * 8 + 2, none⟩ = some (.int .i64 (af j).o.D) := ac.o.d; have w5a3 : w5.cell? ⟨b, off + j * 8 + 3, none⟩ = some (.int .i64 (af j).o.A) := ac.o.a; have w5a4 : w5.cell? ⟨b, off + j * 8 + 4, none⟩ = some (.int .i64 (af j).o.B) := ac.o.b; have w5a5 : w5.cell? ⟨b, off + j * 8 + 5, none⟩ = some (.int .i64 (af j).o.E) := ac.o.e; have w5a6 : w5.cell? ⟨b, off + j * 8 + 6, none⟩ = some (.int .u64 ((af j).o.C : Int)) := ac.o.c; have w5a7 : w5.cell? ⟨b, off + j * 8 + 7, none⟩ = some (.int .u64 ((af j).X : Int)) := ac.x; clear ac)
                  | (go_at_call 17; (with_reducible refine (HP0.out _ _ Z5.out).mono ?_); rintro e w6 ⟨rfl, hz, hs⟩; have Z6 := hid (Z5.out.does (af j).o 0 HO.out (by decide) HOK.out hz hs); clear hz hs; have ac := HA.out w6 Z6.out.z.low; have w6a0 : w6.cell? ⟨b, off + j * 8, none⟩ = some (.int .i64 (af j).K) := ac.k; have w6a7 : w6.cell? ⟨b, off + j * 8 + 7, none⟩ = some (.int .u64 ((af j).X : Int)) := ac.x; clear ac))
                go_roundw
                case rel => exact ⟨j + 1, _, _, _, by omega, by omega, by go_num, Z6.out.mono (by omega)⟩
                case measure => simp [intOf]; omega
      · have HK : Hid (2 * j ≤ 1000000) := hid (by omega)
        have hkp : ∀ n, S.keep n = n := fun n => by unfold Ms.keep; rw [HI.out.wi.wet]; rfl
        have hSL : S.L ≤ 300 := by have := HI.out.q.len; unfold Ms.len at this; omega
        have hKN : KN ≤ 300 := by have := HI.out.q.words; have := HI.out.wi.kn; omega
        have HPT : Hid (∀ wx kv, Wk Pm W wx n T p kv (2 * j) S ks KN → Calls Try.prog 22 #[.pointer (some ⟨p, 0, none⟩)] wx fun e w' => ∃ v0 v1, e = .returned (.agg #[.int .i64 S.n, v0, v1]) ∧ ROp w' v0 S.L S.f ∧ RSp w' v1 S.M S.g ∧ Below wx.heap.size wx w') := hid (fun wx kv hz => by have := ptrace hM hz.z hz.q HK.out; rw [hkp, hkp] at this; exact this)
        have HPV : Hid (∀ wx kv, Wk Pm W wx n T p kv (2 * j) S ks KN → Calls Try.prog 23 #[.pointer (some ⟨p, 0, none⟩)] wx fun e w' => ∃ v, e = .returned v ∧ Rd .u64 w' v (wdL S.v S.L) ∧ Below wx.heap.size wx w') := hid (fun wx kv hz => by have := pvalues hM hz.z hz.q HK.out; rw [hkp] at this; exact this)
        have HKN : Hid (KN ≤ 1000000) := hid (by omega)
        have HKN2 : Hid (KN ≤ 100000) := hid (by omega)
        have HLL : Hid (S.L ≤ 100000) := hid (by omega)
        have HTB : Hid (trB S.n S.L S.M S.f S.g = true) := hid (HI.out.wi.trace (by omega))
        have HOW : Hid (∀ i, i < S.L → okW S.f S.v S.L (fun i => T (i + 1)) 60 ks KN i) := hid (fun i hi => by have := HI.out.wi.word i hi; rw [HI.out.tw, HI.out.TN] at this; exact this)
        have HCT : Hid (cnt isR S.f S.L ≤ 60) := hid (by have h1 := HI.out.wi.us; have h2 := HI.out.wi.le; rw [HI.out.TN] at h2; rw [h1] at h2; exact h2)
        have HLT2 : Hid (∀ i, T (i + 1) < 2 ^ 64) := hid (fun i => by have := HLT.out (i + 1); omega)
        clear hkp hSL hKN
        by_cases h1 : j < LL
        · have j3 : decide ((j : Int) < 150) = false := decide_eq_false (by omega)
          have j2 : (j : Int) < (LL : Int) := by omega
          clear hlt h1
          go_wp2_with (first
          | (go_at_call 22; (with_reducible refine (HPT.out _ _ HI.out).mono ?_); rintro e w5 ⟨v0, v1, rfl, h0, h1', hb⟩; have G0 := hid h0; have G1 := hid h1'; have Z5 := hid (HI.out.self hM hb); clear h0 h1' hb)
          | (go_at_call 23; (with_reducible refine (HPV.out _ _ Z5.out).mono ?_); rintro e w6 ⟨v, rfl, hv, hb⟩; have V6 := hid hv; have G0' := hid (G0.out.self hb); have G1' := hid (G1.out.self hb); have Z6 := hid (Z5.out.self hM hb); clear hv hb)
          | (go_at_call 6; (with_reducible refine (HTW.out _).mono ?_); rintro e w7 ⟨mv, rfl, hv, hb⟩; have M7 := hid hv; have V7 := hid (V6.out.self hb); have G2 := hid (G0'.out.self hb); have G3 := hid (G1'.out.self hb); have Z7 := hid (Z6.out.self hM hb); clear hv hb)
          | (go_at_call 21; (with_reducible refine (HHO.out S.n v0 v1 v mv _ S.L S.M 60 KN S.f S.g S.v (fun i => T (i + 1)) ks _ G2.out G3.out V7.out M7.out (orw_rd Z7.out.row HKN.out Z7.out.ks) HTB.out HOW.out HCT.out HLL.out (by decide) HKN2.out HI.out.q.v (fun i _ => HLT2.out i) Z7.out.ks).mono ?_); rintro e w8 ⟨rfl, hb⟩; have Z8 := hid (Z7.out.self hM hb); clear hb)
          | (go_at_call 9; (with_reducible refine (HAW2.out _).mono ?_); rintro e w9 ⟨rfl, hb⟩; have Z9 := hid (Z8.out.self hM hb); clear hb))
          go_ret
          exact ⟨rfl, Z9.out.z.low⟩
        · obtain rfl : j = LL := by omega
          clear hlt h1
          go_wp2_with (first
          | (go_at_call 22; (with_reducible refine (HPT.out _ _ HI.out).mono ?_); rintro e w5 ⟨v0, v1, rfl, h0, h1', hb⟩; have G0 := hid h0; have G1 := hid h1'; have Z5 := hid (HI.out.self hM hb); clear h0 h1' hb)
          | (go_at_call 23; (with_reducible refine (HPV.out _ _ Z5.out).mono ?_); rintro e w6 ⟨v, rfl, hv, hb⟩; have V6 := hid hv; have G0' := hid (G0.out.self hb); have G1' := hid (G1.out.self hb); have Z6 := hid (Z5.out.self hM hb); clear hv hb)
          | (go_at_call 6; (with_reducible refine (HTW.out _).mono ?_); rintro e w7 ⟨mv, rfl, hv, hb⟩; have M7 := hid hv; have V7 := hid (V6.out.self hb); have G2 := hid (G0'.out.self hb); have G3 := hid (G1'.out.self hb); have Z7 := hid (Z6.out.self hM hb); clear hv hb)
          | (go_at_call 21; (with_reducible refine (HHO.out S.n v0 v1 v mv _ S.L S.M 60 KN S.f S.g S.v (fun i => T (i + 1)) ks _ G2.out G3.out V7.out M7.out (orw_rd Z7.out.row HKN.out Z7.out.ks) HTB.out HOW.out HCT.out HLL.out (by decide) HKN2.out HI.out.q.v (fun i _ => HLT2.out i) Z7.out.ks).mono ?_); rintro e w8 ⟨rfl, hb⟩; have Z8 := hid (Z7.out.self hM hb); clear hb)
          | (go_at_call 9; (with_reducible refine (HAW2.out _).mono ?_); rintro e w9 ⟨rfl, hb⟩; have Z9 := hid (Z8.out.self hM hb); clear hb))
          go_ret
          exact ⟨rfl, Z9.out.z.low⟩
end Go.Proofs.Ytffoinnllihdeaa
