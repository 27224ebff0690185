import Derived.Test.YtpjgpiieminaoaaGreatDoorProg
import Derived.Sort.CutIn
import Derived.RegionIn
import Derived.Test.YtpjgpiieminaoaaGreatDoorAsk
import Derived.Test.YtpjgpiieminaoaaGreatDoorGun
import Derived.Test.YtpjgpiieminaoaaGreatDoorPgn
/- Guard: the program's Planes. -/
namespace Go.Proofs.YtpjgpiieminaoaaGreatDoor
open Go.RowKit Go.Shelf Go.Deep
set_option maxRecDepth 100000
attribute [local go_sem] Oper.semAt_some
theorem pl_or (fi y i j : Nat) (hy : y < 2 ^ 64) (hf : fi < 2 ^ j) (hj : j < 8) : bits .or .u8 (fi : Int) (bits .and .u64 ((y : Int) / 2 ^ i) 1 % 256 * 2 ^ j % 256) = ((fi + y / 2 ^ i % 2 * 2 ^ j : Nat) : Int) := by
  have e1 : (y : Int) / 2 ^ i = ((y / 2 ^ i : Nat) : Int) := by push_cast; rfl
  have hd : y / 2 ^ i ≤ y := Nat.div_le_self _ _
  have e0 : (1 : Int) = ((1 : Nat) : Int) := rfl
  have hjp : 2 ^ j ≤ 2 ^ 7 := Nat.pow_le_pow_right (by decide) (by omega)
  rw [e1, e0, u64_and_nat _ _ (by omega) (by decide), Nat.and_one_is_mod]
  have hb : y / 2 ^ i % 2 < 2 := Nat.mod_lt _ (by decide)
  generalize y / 2 ^ i % 2 = q at *
  have e2 : ((q : Nat) : Int) % 256 * 2 ^ j % 256 = ((q * 2 ^ j : Nat) : Int) := by
    have e3 : (2 : Int) ^ j = ((2 ^ j : Nat) : Int) := by push_cast; rfl
    rw [e3]
    generalize 2 ^ j = t at *
    rcases (by omega : q = 0 ∨ q = 1) with rfl | rfl
    · simp
    · omega
  rw [e2, u8_or_nat _ _ (by omega) (by rcases (by omega : q = 0 ∨ q = 1) with rfl | rfl <;> omega), or_add _ _ _ hf]
theorem gpbits_any (k nn Bn : Nat) (w : World) (hb : w.heap[Bn]? = some (.cells #[.int .i64 (nn : Int)] 3 (0, 0))) : Calls Tryz.prog 41 #[.int .i64 (k : Int), .pointer (some ⟨Bn, 0, none⟩)] w fun e w' => e = .returned (.int .i64 (nn : Int)) ∧ w' = w := by
  have c0 := gone_box hb
  clear hb
  go_enter Tryz.func41, Tryz.ntmps41
  go_wp2
  go_ret
  exact ⟨rfl, rfl⟩
/-- Between two rounds: j planes are told, i opened. -/
def GpJ (Pm : World → Nat → Ms → (Nat → Prop) → Prop) (lo : Nat) (X : Nat → Prop) (w : World) (b bd : Nat) (St : Nat → Ms) (S2 : Ms) (pF : Nat → Nat → Nat) (fz : Nat → Int) (nn s2 : Nat) (rec : Loop) (i j : Nat) (A : World) : Prop :=
  ∃ o, BoB 5 (.slice (some ⟨s2, 0, none⟩) nn nn) nn (pF j) s2 o ∧ Gy Pm lo X w w A b bd (St i) S2 ((s2, o) :: [(s2 + 6, .loop rec), (s2 + 5, .deferred (some [])), (s2 + 4, .cells #[.func (.func 41) #[] #[.pointer (some ⟨w.heap.size + 1, 0, none⟩)]] 34 (0, 0)), (s2 + 3, .cells #[.slice (some ⟨w.heap.size, 0, none⟩) 8 8] 29 (0, 0)), (s2 + 2, .cells #[.pointer (some ⟨b, 0, none⟩)] 27 (0, 0)), (s2 + 1, .cells #[.slice (some ⟨s2, 0, none⟩) nn nn] 47 (0, 0)), (w.heap.size + 1, .cells #[.int .i64 (nn : Int)] 3 (0, 0)), (w.heap.size, .cells (iz 24 fz) 39 (0, 0))])
set_option maxHeartbeats 6400000 in
theorem qgplanes {Pm : World → Nat → Ms → (Nat → Prop) → Prop} (hM : Mach Pm) {lo : Nat} {X : Nat → Prop} {W w : World} {b bd k : Nat} {S S2 : Ms} (V : Nat → Nat → Int) (fz : Nat → Int) (z : Int) (h : Bz Pm lo X W w b bd S S2) (hp : Pv w) (hl : gpair < lo) (hq : Bq k S) (hk : k + 300 ≤ 100000) (hn : S.n = 2 ∨ S.n = 3) (hV : ∀ j, Wb (V j)) (hfz : ∀ j, j < 8 → ∀ c, c < 3 → fz (j * 3 + c) = V j c) :
    Calls Tryz.prog 16 #[.pointer (some ⟨b, 0, none⟩), .agg (iz 24 fz), .int .i64 z] w (TellsB Pm lo X W w b bd (gpZ S V z) S2 (gpO S V z)) := by
  have HLOW : Hid (Below lo W w) := hid h.low
  obtain ⟨nn, hnn⟩ : ∃ nn : Nat, (nn : Int) = min (max z 0) 64 := ⟨(min (max z 0) 64).toNat, by omega⟩
  obtain ⟨C, hC⟩ : ∃ C : Nat, (z < 1 → C = 0) ∧ (¬ z < 1 → C = 8) := by
    by_cases h1 : z < 1
    · exact ⟨0, fun _ => rfl, fun h => absurd h1 h⟩
    · exact ⟨8, fun h => absurd h h1, fun _ => rfl⟩
  have eZ : gpZ S V z = gpS S V nn C := by
    unfold gpZ
    split
    · rename_i h1; rw [hC.1 h1]; rfl
    · rename_i h1; rw [hC.2 h1, show gpM z = nn by unfold gpM; omega]
  have eO : gpO S V z = ns nn (gpF S V nn C) := by
    unfold gpO
    split
    · rename_i h1; rw [show nn = 0 by omega]; rfl
    · rename_i h1; rw [hC.2 h1, show gpM z = nn by unfold gpM; omega]
  rw [eZ, eO]
  have HM : Hid (∀ j, j < 8 → ∀ (bs : List (Nat × Obj)) (w' : World), Gy Pm lo X w w w' b bd (gpS S V nn j) S2 bs → Calls Tryz.prog 33 #[.pointer (some ⟨b, 0, none⟩), .agg (wdV (V j)), .int .i64 (nn : Int)] w' fun e w2 => e = .returned (.int .u64 (gpV S V nn j : Int)) ∧ Gy Pm lo X w w w2 b bd (gpS S V nn (j + 1)) S2 bs) := hid (fun j hj bs w' h' => h'.lift (fun _ _ hz' => qglow hM (V j) _ (lwN nn) (lwZ_of (by omega)).symm hz' (Pv.bz hp hl h'.z) hl (gpS_bq hq hn hV (by omega) (j := j) (by omega)) (by omega) (by rw [(gpS_ext S V nn j).n]; exact hn) (hV j)))
  have HY : Hid (∀ j, j < 8 → gpV S V nn j < 2 ^ 64) := hid (fun j hj => gpV_lt hq hn hV (by omega) (by omega))
  have HCLM : Hid (∀ w, Calls Tryz.prog 35 #[.int .i64 z, .int .i64 64] w fun e w' => e = .returned (.int .i64 (nn : Int)) ∧ w' = w) := hid (fun w => by rw [hnn]; exact gclamp_any z _ (by omega) w)
  have HG0 : Hid (Gy Pm lo X w w ((w.alloc (.cells (iz 24 fz) 39)).alloc (.cells #[.int .i64 (nn : Int)] 3)) b bd S S2 [(w.heap.size + 1, .cells #[.int .i64 (nn : Int)] 3 (0, 0)), (w.heap.size, .cells (iz 24 fz) 39 (0, 0))]) := hid (by
    have g := ((Gy.start h.base).newO hM (.cells (iz 24 fz) 39)).newO hM (.cells #[.int .i64 (nn : Int)] 3)
    simp only [World.size_alloc] at g
    exact g)
  have HNN : Hid ((nn : Int) = min (max z 0) 64 ∧ nn ≤ 64 ∧ (C = 0 ∧ nn = 0 ∨ C = 8 ∧ 0 < nn)) := hid ⟨hnn, by omega, by
    by_cases h1 : z < 1
    · exact .inl ⟨hC.1 h1, by omega⟩
    · exact .inr ⟨hC.2 h1, by omega⟩⟩
  have HFZ := hid hfz
  clear h hp hl hq hk hn hV hnn hfz eZ eO hC
  obtain ⟨St, hSt⟩ : ∃ St : Nat → Ms, ∀ j, gpS S V nn j = St j := ⟨_, fun _ => rfl⟩
  have HS0 : Hid (S = St 0) := hid (hSt 0)
  obtain ⟨yv, hyv⟩ : ∃ yv : Nat → Nat, ∀ j, gpV S V nn j = yv j := ⟨_, fun _ => rfl⟩
  obtain ⟨pF, hpF⟩ : ∃ pF : Nat → Nat → Nat, ∀ j, gpF S V nn j = pF j := ⟨_, fun _ => rfl⟩
  obtain ⟨hF, hhF⟩ : ∃ hF : Nat → Nat → Nat → Nat, ∀ j i, gpH S V nn j i = hF j i := ⟨_, fun _ _ => rfl⟩
  have HP0 : Hid (∀ q, pF 0 q = 0) := hid (fun q => by rw [← hpF]; rfl)
  have HP8 : Hid (∀ j, j ≤ 8 → ∀ q, pF j q < 256) := hid (fun j hj q => by rw [← hpF]; exact Nat.lt_of_lt_of_le (gpF_lt S V nn j q) (Nat.pow_le_pow_right (by decide) hj))
  have HPN : Hid (∀ j i, pF (j + 1) i = pF j i + yv j / 2 ^ i % 2 * 2 ^ j) := hid (fun j i => by rw [← hpF, ← hpF, ← hyv]; rfl)
  have HPL : Hid (∀ j i, pF j i < 2 ^ j) := hid (fun j i => by rw [← hpF]; exact gpF_lt S V nn j i)
  have HPH : Hid (∀ j i, upd (hF j i) i (pF (j + 1) i) = hF j (i + 1)) := hid (fun j i => by rw [← hhF, ← hhF, ← hpF]; exact gpH_next S V nn j i)
  have HHA : Hid (∀ j i, hF j i i = pF j i) := hid (fun j i => by rw [← hhF, ← hpF]; exact gpH_at S V nn j i)
  have HH0 : Hid (∀ j q, hF j 0 q = pF j q) := hid (fun j q => by rw [← hhF, ← hpF]; exact if_neg (Nat.not_lt_zero q))
  have HHE : Hid (∀ j i q, q < i → hF j i q = pF (j + 1) q) := hid (fun j i q hq => by rw [← hhF, ← hpF]; exact if_pos hq)
  simp only [hSt, hyv, hpF] at HM HY ⊢
  rw [HS0.out] at HG0
  clear hSt hyv hpF hhF HS0
  refine (callsIn_wide (n := 7)).1 ?_
  refine callsIn_of_wp_marks Tryz.func16 rfl trivial ?_ rfl
  simp only [Tryz.ntmps16, List.size_toArray, List.length_cons, List.length_nil, Nat.reduceAdd, Nat.reduceSub, Array.replicate_succ, Array.replicate_zero, List.push_toArray, List.append_toArray, List.nil_append, List.cons_append]
  gi_upto_region 2 with (refine ⟨trivial, ?_⟩; gi_at_call 35; refine (callsIn_wide.2 (HCLM.out _)).mono ?_; rintro e w1 ⟨rfl, rfl⟩)
  obtain ⟨w2, hw2⟩ : ∃ w2, (w.alloc (.cells (iz 24 fz) 39)).alloc (.cells #[.int .i64 (nn : Int)] 3) = w2 := ⟨_, rfl⟩
  rw [hw2] at HG0 ⊢
  clear hw2
  have c2 := gone_box (HG0.out.mem (n := w.heap.size + 1) (u := .cells #[.int .i64 (nn : Int)] 3 (0, 0)) (by simp))
  have hmk : (Instr.makeSlice 47 (.int .i64 nn) (.int .i64 nn)).run Tryz.prog w2 = .ok (.slice (some ⟨w2.heap.size, 0, none⟩) nn nn) (w2.alloc (.cells (madeCells #[.int .u8 0] nn) 5)) := run_make_ints (P := Tryz.prog) w2 .u8 .i64 47 5 nn Tryz.underlying47 pinfo8 (by have := HNN.out.2.1; simp [IntKind.bits] <;> omega) (by decide)
  have HG : Hid (∀ (o1 o2 o3 o4 o5 o6 o7 : Obj), Gy Pm lo X w w (((((((w2.alloc o1).alloc o2).alloc o3).alloc o4).alloc o5).alloc o6).alloc o7) b bd (St 0) S2 ((w2.heap.size, o1) :: [(w2.heap.size + 6, o7), (w2.heap.size + 5, o6), (w2.heap.size + 4, o5), (w2.heap.size + 3, o4), (w2.heap.size + 2, o3), (w2.heap.size + 1, o2), (w.heap.size + 1, .cells #[.int .i64 (nn : Int)] 3 (0, 0)), (w.heap.size, .cells (iz 24 fz) 39 (0, 0))])) := hid (fun o1 o2 o3 o4 o5 o6 o7 => by
    have g := (((((((HG0.out).newO hM o1).newO hM o2).newO hM o3).newO hM o4).newO hM o5).newO hM o6).newO hM o7
    simp only [World.size_alloc, Nat.add_assoc, Nat.reduceAdd] at g
    exact g.perm (bs' := (w2.heap.size, o1) :: ([(w2.heap.size + 6, o7), (w2.heap.size + 5, o6), (w2.heap.size + 4, o5), (w2.heap.size + 3, o4), (w2.heap.size + 2, o3), (w2.heap.size + 1, o2)] ++ [(w.heap.size + 1, .cells #[.int .i64 (nn : Int)] 3 (0, 0)), (w.heap.size, .cells (iz 24 fz) 39 (0, 0))])) List.perm_middle.symm)
  gi_wp2_with (refine ⟨trivial, ?_⟩; gi_at_call 36; refine (callsIn_wide.2 (gopened_any b (some ⟨w.heap.size, 0, none⟩) 8 8 _ _ _)).mono ?_; rintro e w1 ⟨rfl, rfl⟩)
  clear c2 hmk
  refine range_wide (w2.heap.size + 6) (by simp) (gf := 66) (lb := #[.pointer (some ⟨w2.heap.size + 3, 0, none⟩), .pointer (some ⟨w2.heap.size + 4, 0, none⟩), .pointer (some ⟨w2.heap.size + 2, 0, none⟩)]) rfl (enters_of Tryz.func66 (by kernel_rfl) rfl) (fun rec r1 r0 r2 r3 r4 r5 => ?_)
  have HJ0 : Hid (GpJ Pm lo X w b bd St S2 pF fz nn w2.heap.size rec 0 0 _) := hid ⟨_, (BoB.made 5 nn w2.heap.size (by unfold maxLen; have := HNN.out.2.1; omega)).fext (fun q _ => (HP0.out q).symm), HG.out _ _ _ _ _ _ _⟩
  refine (gopened_iter (fun j => GpJ Pm lo X w b bd St S2 pF fz nn w2.heap.size rec j j) (fun j => GpJ Pm lo X w b bd St S2 pF fz nn w2.heap.size rec (j + 1) j) (w2.heap.size + 6) (w2.heap.size + 2) (w2.heap.size + 3) (w2.heap.size + 4) (w.heap.size + 1) 41 b V 8 (some ⟨w.heap.size, 0, none⟩) 8 (fun _ => (nn : Int)) yv C _ ⟨by decide, Nat.le_refl _, by unfold maxLen; decide⟩ ⟨by have := HNN.out; omega, fun k hk => by have := HNN.out; omega, fun hk => by have := HNN.out; omega⟩ (fun j A B ⟨o, a1, a2⟩ hb => ⟨o, a1, a2.self hM hb⟩) (fun j A ⟨o, _, a2⟩ => ⟨a2.mem (by simp), a2.mem (by simp), a2.mem (by simp)⟩) (fun j A ⟨o, _, a2⟩ g off e i hi c hc => ?_) (fun _ => ⟨_, _, rfl⟩) (fun j A hj ⟨o, _, a2⟩ => gpbits_any j nn (w.heap.size + 1) A (a2.mem (by simp))) (fun j A hj ⟨o, a1, a2⟩ => (HM.out j (by have := HNN.out; omega) _ _ a2).mono fun e w' ⟨e1, e2⟩ => ⟨e1, o, a1, e2⟩) (fun j A hj hJ => ?_) HJ0.out (enters_of Tryz.func41 (by kernel_rfl) rfl)).mono ?_
  · cases e
    rw [← HFZ.out i hi c hc]
    exact row_c (i := 0 + i * 3 + c) (a2.mem (n := w.heap.size) (u := .cells (iz 24 fz) 39 (0, 0)) (by simp)) (by rw [iz_get _ (by omega)]; congr 3; omega)
  · obtain ⟨o0, hbo, hA⟩ := hJ
    have HJL : Hid (j < 8 ∧ j < C) := hid ⟨by have := HNN.out; omega, hj⟩
    have HBO := hid hbo
    have HA := hid hA
    have hlp : A.heap[w2.heap.size + 6]? = some (.loop rec) := hA.mem (by simp)
    have HRC : Hid (({ rec with state := .ready, pending := none } : Loop) = rec) := hid (by cases rec; simp_all)
    refine round_wide hlp r1 r2 r3 r4 r5 rfl ?_
    clear hj hbo hA HJ0 HG r0 r1 r2 r3 r4 r5
    simp only [Array.zip, List.zipWith_toArray, List.zipWith_cons_cons, List.zipWith_nil_right, List.foldl_toArray, List.foldl_cons, List.foldl_nil, List.setIfInBounds_toArray, lay_out]
    show Code.wpIn (wideR _) _ _ _ _ _ _
    gi_wp2
    refine ⟨hlp, ?_⟩
    clear hlp
    have HWD : Hid (Gy Pm lo X w w (A.putObj (w2.heap.size + 6) (.loop { rec with state := .busy })) b bd (St (j + 1)) S2 ((w2.heap.size, o0) :: [(w2.heap.size + 6, .loop { rec with state := .busy }), (w2.heap.size + 5, .deferred (some [])), (w2.heap.size + 4, .cells #[.func (.func 41) #[] #[.pointer (some ⟨w.heap.size + 1, 0, none⟩)]] 34 (0, 0)), (w2.heap.size + 3, .cells #[.slice (some ⟨w.heap.size, 0, none⟩) 8 8] 29 (0, 0)), (w2.heap.size + 2, .cells #[.pointer (some ⟨b, 0, none⟩)] 27 (0, 0)), (w2.heap.size + 1, .cells #[.slice (some ⟨w2.heap.size, 0, none⟩) nn nn] 47 (0, 0)), (w.heap.size + 1, .cells #[.int .i64 (nn : Int)] 3 (0, 0)), (w.heap.size, .cells (iz 24 fz) 39 (0, 0))])) := hid (Gy.putMid (l := [_]) hM HA.out (.loop { rec with state := .busy }))
    obtain ⟨D, hD⟩ : ∃ D, A.putObj (w2.heap.size + 6) (.loop { rec with state := .busy }) = D := ⟨_, rfl⟩
    rw [hD] at HWD ⊢
    clear hD HA
    have HYL := hid (HY.out j HJL.out.1)
    have HST := hid (HPN.out j)
    have HHN := hid (HPH.out j)
    clear HM HY HPN HPH
    generalize yv j = y at *
    obtain ⟨s2, hs2⟩ : ∃ s2, w2.heap.size = s2 := ⟨_, rfl⟩
    rw [hs2] at HWD HBO ⊢
    have ek : IntKind.u64.wrap (j : Int) = (j : Int) := by rw [IntKind.wrap_u64]; have := HJL.out; omega
    have q0 : (0 : Int) ≤ (j : Int) := by omega
    have co := gone_box (HWD.out.mem (n := s2 + 1) (u := .cells #[.slice (some ⟨s2, 0, none⟩) nn nn] 47 (0, 0)) (by simp))
    gi_wp2
    clear co
    have HBI : Hid (BoB 5 (.slice (some ⟨s2, 0, none⟩) nn nn) nn (hF j 0) s2 o0) := hid (HBO.out.fext (fun q _ => (HH0.out j q).symm))
    gi_loopw [10, 23] (fun _ iv wr => ∃ (i : Nat) (o1 : Obj), i ≤ nn ∧ iv = .int .i64 (i : Int) ∧ BoB 5 (.slice (some ⟨s2, 0, none⟩) nn nn) nn (hF j i) s2 o1 ∧ Gy Pm lo X w w wr b bd (St (j + 1)) S2 ((s2, o1) :: [(s2 + 6, .loop { rec with state := .busy }), (s2 + 5, .deferred (some [])), (s2 + 4, .cells #[.func (.func 41) #[] #[.pointer (some ⟨w.heap.size + 1, 0, none⟩)]] 34 (0, 0)), (s2 + 3, .cells #[.slice (some ⟨w.heap.size, 0, none⟩) 8 8] 29 (0, 0)), (s2 + 2, .cells #[.pointer (some ⟨b, 0, none⟩)] 27 (0, 0)), (s2 + 1, .cells #[.slice (some ⟨s2, 0, none⟩) nn nn] 47 (0, 0)), (w.heap.size + 1, .cells #[.int .i64 (nn : Int)] 3 (0, 0)), (w.heap.size, .cells (iz 24 fz) 39 (0, 0))])) (fun _ iv _ => nn - (intOf iv).toNat)
    case atStart => exact ⟨0, o0, Nat.zero_le _, rfl, HBI.out, HWD.out⟩
    case round =>
      clear HBI HBO HWD
      obtain ⟨i, o1, hi, rfl, hbi, hI⟩ := hrel
      have HI := hid hI
      have HBI := hid hbi
      clear hI hbi
      by_cases hil : i < nn
      · have HIL : Hid (i < nn) := hid hil
        have i1 : (i : Int) < (nn : Int) := by omega
        have i0 : (0 : Int) ≤ (i : Int) := by omega
        have i3 : (i : Int) < 64 := by have := HNN.out.2.1; omega
        have i2 : decide ((i : Int) < (nn : Int)) = true := decide_eq_true i1
        have ek2 : IntKind.u64.wrap (i : Int) = (i : Int) := by rw [IntKind.wrap_u64]; have := HNN.out; omega
        have G5 := hid (HI.out.self hM ((Below.refl _ wr).drew))
        have HHX := hid (HHN.out i)
        have HE4 : Hid (bits .or .u8 ((hF j i i : Nat) : Int) (bits .and .u64 ((y : Int) / 2 ^ i) 1 % 256 * 2 ^ j % 256) = ((pF (j + 1) i : Nat) : Int)) := hid (by rw [HHA.out j i, HST.out i]; exact pl_or _ _ _ _ HYL.out (HPL.out j i) HJL.out.1)
        clear hi hil
        gi_upto_region 9 with fail
        refine region_Rt (fun w' => w'.heap[s2 + 1]? = some (.cells #[.slice (some ⟨s2, 0, none⟩) nn nn] 47 (0, 0))) (fun w' => w'.cell? ⟨s2, i, none⟩ = some (.int .u8 ((hF j i i : Nat) : Int))) 13 (by kernel_rfl) (by kernel_rfl) ⟨G5.out.mem (by simp), HBI.out.cell (G5.out.bl 0 rfl) HIL.out⟩ (fun h0 => ?_)
        have HG7 : Hid (∃ o2, BoB 5 (.slice (some ⟨s2, 0, none⟩) nn nn) nn (upd (hF j i) i (pF (j + 1) i)) s2 o2 ∧ Gy Pm lo X w w (wr.drew.setCell ⟨s2, i, none⟩ (.int .u8 ((pF (j + 1) i : Nat) : Int))) b bd (St (j + 1)) S2 ((s2, o2) :: [(s2 + 6, .loop { rec with state := .busy }), (s2 + 5, .deferred (some [])), (s2 + 4, .cells #[.func (.func 41) #[] #[.pointer (some ⟨w.heap.size + 1, 0, none⟩)]] 34 (0, 0)), (s2 + 3, .cells #[.slice (some ⟨w.heap.size, 0, none⟩) 8 8] 29 (0, 0)), (s2 + 2, .cells #[.pointer (some ⟨b, 0, none⟩)] 27 (0, 0)), (s2 + 1, .cells #[.slice (some ⟨s2, 0, none⟩) nn nn] 47 (0, 0)), (w.heap.size + 1, .cells #[.int .i64 (nn : Int)] 3 (0, 0)), (w.heap.size, .cells (iz 24 fz) 39 (0, 0))])) := hid (HBI.out.set hM HIL.out (pF (j + 1) i) G5.out)
        have HKC := hid (HBI.out.cell (G5.out.bl 0 rfl) HIL.out)
        have HKF := hid (HBI.out.notFrozen (G5.out.bl 0 rfl) i)
        generalize wr.drew = y0 at *
        · skip
          refine rt_takeA (i := 0) (v := .slice (some ⟨s2, 0, none⟩) nn nn) rfl (by kernel_rfl) (by kernel_rfl) (by kernel_rfl) rfl (fun _ _ _ h => h) (.inl ⟨by rfl, fun w hw => by have hc := gone_box hw; clear hw; go_simp⟩) h0 ?_
          try simp only [Act.put, lay_out]
          refine rt_takeA (i := 1) (v := .int .i64 (i : Int)) rfl (by kernel_rfl) (by kernel_rfl) (by kernel_rfl) rfl (fun _ _ _ h => h) (.inl ⟨by rfl, fun w hw => by clear hw; go_simp⟩) h0 ?_
          try simp only [Act.put, lay_out]
          refine rt_takeA (i := 2) (v := .pointer (some ⟨s2, i, none⟩)) rfl (by kernel_rfl) (by kernel_rfl) (by kernel_rfl) rfl (fun _ _ _ h => h) (.inl ⟨by rfl, fun w hw => by clear hw; go_simp⟩) h0 ?_
          try simp only [Act.put, lay_out]
          refine rt_takeT (i := 3) (v := .int .u8 ((hF j i i : Nat) : Int)) rfl (by kernel_rfl) (by kernel_rfl) (by kernel_rfl) rfl (by kernel_rfl) (by kernel_rfl) (fun _ _ _ h => h) (.inl ⟨by rfl, fun w hw => by have hc := hw; clear hw; go_simp⟩) h0 ?_
          try simp only [Act.put, lay_out]
          refine rt_takeA (i := 4) (v := .int .u64 (y : Int)) rfl (by kernel_rfl) (by kernel_rfl) (by kernel_rfl) rfl (fun _ _ _ h => h) (.inl ⟨by rfl, fun w hw => by clear hw; go_simp⟩) h0 ?_
          try simp only [Act.put, lay_out]
          refine rt_takeA (i := 5) (v := .int .i64 (i : Int)) rfl (by kernel_rfl) (by kernel_rfl) (by kernel_rfl) rfl (fun _ _ _ h => h) (.inl ⟨by rfl, fun w hw => by clear hw; go_simp⟩) h0 ?_
          try simp only [Act.put, lay_out]
          refine rt_takeA (i := 6) (v := .int .u64 ((y : Int) / 2 ^ i)) rfl (by kernel_rfl) (by kernel_rfl) (by kernel_rfl) rfl (fun _ _ _ h => h) (.inl ⟨by rfl, fun w hw => by clear hw; go_simp⟩) h0 ?_
          try simp only [Act.put, lay_out]
          refine rt_takeA (i := 7) (v := .int .u64 (bits .and .u64 ((y : Int) / 2 ^ i) 1)) rfl (by kernel_rfl) (by kernel_rfl) (by kernel_rfl) rfl (fun _ _ _ h => h) (.inl ⟨by rfl, fun w hw => by clear hw; go_simp⟩) h0 ?_
          try simp only [Act.put, lay_out]
          refine rt_takeA (i := 8) (v := .int .u8 (bits .and .u64 ((y : Int) / 2 ^ i) 1 % 256)) rfl (by kernel_rfl) (by kernel_rfl) (by kernel_rfl) rfl (fun _ _ _ h => h) (.inl ⟨by rfl, fun w hw => by clear hw; go_simp; have h1 := HNN.out.2.1; have h2 := HIL.out; have h3 := HJL.out.1; exact IntKind.wrap_u8 _⟩) h0 ?_
          try simp only [Act.put, lay_out]
          refine rt_takeA (i := 9) (v := .int .i64 (j : Int)) rfl (by kernel_rfl) (by kernel_rfl) (by kernel_rfl) rfl (fun _ _ _ h => h) (.inl ⟨by rfl, fun w hw => by clear hw; go_simp⟩) h0 ?_
          try simp only [Act.put, lay_out]
          refine rt_takeA (i := 10) (v := .int .u8 (bits .and .u64 ((y : Int) / 2 ^ i) 1 % 256 * 2 ^ j % 256)) rfl (by kernel_rfl) (by kernel_rfl) (by kernel_rfl) rfl (fun _ _ _ h => h) (.inl ⟨by rfl, fun w hw => by clear hw; go_simp; have h1 := HNN.out.2.1; have h2 := HIL.out; have h3 := HJL.out.1; rw [IntKind.wrap_u8, show min j 8 = j by omega]⟩) h0 ?_
          try simp only [Act.put, lay_out]
          refine rt_takeA (i := 11) (v := .int .u8 ((pF (j + 1) i : Nat) : Int)) rfl (by kernel_rfl) (by kernel_rfl) (by kernel_rfl) rfl (fun _ _ _ h => h) (.inl ⟨by rfl, fun w hw => by clear hw; rw [← HE4.out]; go_simp⟩) h0 ?_
          try simp only [Act.put, lay_out]
          refine rt_takeA (i := 12) (v := .pointer (some ⟨s2, i, none⟩)) rfl (by kernel_rfl) (by kernel_rfl) (by kernel_rfl) rfl (fun _ _ _ h => h) (.inl ⟨by rfl, fun w hw => by clear hw; go_simp⟩) h0 ?_
          try simp only [Act.put, lay_out]
          refine rt_ready (rs := [13]) (by kernel_rfl) (by simp) (RtReady.consS rfl (by kernel_rfl) (fun K hK => ?_) RtReady.nil)
          rw [if_pos (by rfl)]
          have c7 := HKC.out
          have f7 := HKF.out
          go_simp
          clear c7 f7
          obtain ⟨o9, a1, a2⟩ := HG7.out
          have HB9 := hid a1
          have G9 := hid a2
          clear a1 a2
          refine hK.out _ _ (G9.out.mem (by simp)) (fun h1x => ?_)
          clear hK K
          try simp only [Act.put, lay_out]
          refine rt_done (by kernel_rfl) ?_ _
          simp only [nrm, Exit.then, Exit.inBlock]
          clear h0 h1x HKC HKF
          gi_wp2
          go_roundw
          case rel => exact ⟨i + 1, o9, HIL.out, by have := HNN.out.2.1; have := HIL.out; go_num, by rw [← HHX.out]; exact HB9.out, G9.out⟩
          case measure => have h1 := HNN.out.2.1; have h2 := HIL.out; simp [intOf]; omega
      · obtain rfl : nn = i := by omega
        have i2 : decide ((nn : Int) < (nn : Int)) = false := decide_eq_false (by omega)
        have HBE := hid (HBI.out.fext (fun q hq => HHE.out j _ q hq))
        have G6 := hid (Gy.putMid (l := [_]) hM HI.out (.loop { rec with state := .ready, pending := none }))
        have HLQ : Hid (wr.heap[s2 + 6]? = some (.loop { rec with state := .busy })) := hid (HI.out.mem (by simp))
        have HEND : Hid (GpJ Pm lo X w b bd St S2 pF fz nn s2 rec (j + 1) (j + 1) (wr.putObj (s2 + 6) (.loop { rec with state := .ready, pending := none }))) := hid ⟨o1, HBE.out, by
          have h9 := G6.out
          rw [HRC.out] at h9 ⊢
          exact h9⟩
        clear hil hi
        gi_wp2
        exact ⟨HLQ.out, rfl, HEND.out⟩
  · rintro e w' ⟨⟨v, rfl⟩, o0, hbo, hg⟩
    refine ⟨v, rec, rfl, hg.mem (by simp), by rw [r1]; simp, ?_⟩
    rw [r0]
    dsimp only
    have G1 := hid (Gy.putMid (l := [_]) hM hg (.loop { rec with state := .exhausted }))
    have HBO := hid hbo
    clear hg hbo HJ0 HG
    obtain ⟨w6, hw6⟩ : ∃ w6, w'.putObj (w2.heap.size + 6) (.loop { rec with state := .exhausted }) = w6 := ⟨_, rfl⟩
    rw [r0] at hw6
    simp only [r0] at G1
    rw [hw6] at G1 ⊢
    clear hw6 r0 r1 r2 r3 r4 r5
    have hK : w6.heap[w2.heap.size + 5]? = some (.deferred (some [])) := G1.out.mem (by simp)
    have hc := gone_box (G1.out.mem (n := w2.heap.size + 1) (u := .cells #[.slice (some ⟨w2.heap.size, 0, none⟩) nn nn] 47 (0, 0)) (by simp))
    simp only [World.size_alloc, Nat.add_assoc, Nat.reduceAdd]
    gi_wp2
    refine ⟨by simp, .inl ⟨_, _, rfl, run_takeDeferred hK, ?_⟩⟩
    have G2 := Gy.putMid (l := [_, _]) hM G1.out
    refine ⟨_, results_tmp rfl _ _ _, ?_⟩
    have G3 := G2 (.deferred none)
    refine ⟨_, fun k => k = w2.heap.size, rfl, ?_, fun k hk => by rw [hk]; exact (G3.bx _ (List.mem_cons_self ..)).1, ?_, fun k hk => (G3.st k hk).2⟩
    · exact HBO.out.rds (G3.bl 0 rfl) (fun i _ => HP8.out C (by have := HNN.out; omega) i) (by have := HNN.out; omega)
    · exact (G3.z.less (fun k hk => hk.imp id (fun e => ⟨(w2.heap.size, o0), List.mem_cons_self .., e.symm⟩))).up HLOW.out
end Go.Proofs.YtpjgpiieminaoaaGreatDoor

/- Guard: what the program tells, put together. -/
namespace Go.Proofs.YtpjgpiieminaoaaGreatDoor
open Go.RowKit Go.Deep
set_option maxRecDepth 100000
theorem guardI : GdI Pm where
  op := fun A h hp hl hq hk hn hA => qgopen pmach A h hp hl hq (by omega) hn hA
  yes := fun A h hp hl hq hk hn _ hA hy => qgyes pmach A h hp hl hq (by omega) hn hA hy
  bytes := fun V L v z h hp hl hq hk hn _ hV hr _ => qgbytes pmach V L v z h hp hl hq hk hn hV hr
  planes := fun V fz z h hp hl hq hk hn _ hV hf _ => qgplanes pmach V fz z h hp hl hq hk hn hV hf
  draws := fun n w => gdraws_any n w
end Go.Proofs.YtpjgpiieminaoaaGreatDoor
