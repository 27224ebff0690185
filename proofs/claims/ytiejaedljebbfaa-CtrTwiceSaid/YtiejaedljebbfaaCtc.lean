import Derived.Test.YtiejaedljebbfaaProg
import Derived.Test.YtiejaedljebbfaaCtb
import Derived.Test.YtiejaedljebbfaaRfw
import Derived.Shelf.Abstract
import Derived.Shelf.RegionOpen
import Derived.WalkKit
import Derived.OwnWalkIn
import Derived.TacticsInMore
import Derived.Sort.LoopGhostIn
import Derived.LoopIn
/- The stream's blocks: the function that tells them, for whatever loop ranges over it. -/
namespace Go.Proofs.Ytiejaedljebbfaa
open Go.RowKit Go.Shelf
set_option maxRecDepth 100000
attribute [local go_sem] Oper.semAt_some

theorem blocks_any (d g off n c : Nat) (w : World) :
    Calls Try.prog 22 #[.pointer (some ⟨d, 0, none⟩), .slice (some ⟨g, off, none⟩) n c] w fun e w' => e = .returned (.func (.func 31) #[] #[.pointer (some ⟨w.heap.size + 1, 0, none⟩), .pointer (some ⟨w.heap.size, 0, none⟩)]) ∧ w' = (w.alloc (.cells #[.pointer (some ⟨d, 0, none⟩)] 25)).alloc (.cells #[.slice (some ⟨g, off, none⟩) n c] 22) := by
  go_enter Try.func22, Try.ntmps22
  go_wp2
  go_ret
  exact ⟨rfl, rfl⟩

/-- What a round leaves alone: whatever S does not name. -/
structure Kp (S : Nat → Prop) (A B : World) : Prop where
  size : A.heap.size ≤ B.heap.size
  block : ∀ j, j < A.heap.size → ¬ S j → B.heap[j]? = A.heap[j]?
section
variable {S : Nat → Prop} {A B : World}
theorem Kp.wd (h : Kp S A B) {n g off : Nat} {f : Nat → Nat} (hw : Wd A n g off f) (hS : ¬ S g) : Wd B n g off f := hw.same h.size (h.block g hw.lt hS)
theorem Kp.box (h : Kp S A B) {g : Nat} {o : Obj} (hw : A.heap[g]? = some o) (hS : ¬ S g) : B.heap[g]? = some o := (h.block g (Array.getElem?_eq_some_iff.1 hw).1 hS).trans hw
theorem Kp.ci (h : Kp S A B) {d b c cap n : Nat} {Y : Nat → Nat → Nat} (hc : Ci A d b c cap n Y) (hd : ¬ S d) (hb : ¬ S b) (hcc : ¬ S c) : Ci B d b c cap n Y :=
  ⟨h.box hc.blk hd, hc.box.same (h.block b hc.box.lt hb), hc.rows.same h.size (h.block c hc.rows.lt hcc), hc.ne⟩
end
theorem one_box {w : World} {b : Nat} {v : Value} {t : TypeId} (h : w.heap[b]? = some (.cells #[v] t (0, 0))) : w.cell? ⟨b, 0, none⟩ = some v := by simp [World.cell?, h]

/-- Between two rounds, k of them being over. -/
structure It (W : World) (S : Nat → Prop) (J : Nat → World → Prop) (d b c cap R1 Bc : Nat) (Y : Nat → Nat → Nat) (f : Nat → Nat) (k g off : Nat) (F : Nat → Nat) (wr : World) : Prop where
  ci : Ci wr d b c cap R1 Y
  own : wr.heap[Bc]? = some (.cells #[.pointer (some ⟨d, 0, none⟩)] 25 (0, 0))
  cnt : Wd wr 16 g off F
  eq : Eq16 F (lat f k)
  ne : g ≠ b ∧ Bc ≠ b
  out : ¬ S d ∧ ¬ S b ∧ ¬ S c ∧ ¬ S Bc ∧ ¬ S g
  big : W.heap.size ≤ wr.heap.size
  inv : J k wr

section
variable {W : World} {S : Nat → Prop} {J : Nat → World → Prop} {d b c cap R1 Bc : Nat} {Y : Nat → Nat → Nat} {f : Nat → Nat} {k g off : Nat} {F : Nat → Nat} {wr w' : World}
theorem It.asked (h : It W S J d b c cap R1 Bc Y f k g off F wr) (hJ : ∀ k A B, J k A → Only b A B → J k B) (hci : Ci w' d b c cap R1 Y) (o : Only b wr w') : It W S J d b c cap R1 Bc Y f k g off F w' :=
  ⟨hci, (o.block _ (Array.getElem?_eq_some_iff.1 h.own).1 h.ne.2).trans h.own, h.cnt.only o h.ne.1, h.eq, h.ne, h.out, Nat.le_trans h.big o.size, hJ _ _ _ h.inv o⟩
theorem It.drew (h : It W S J d b c cap R1 Bc Y f k g off F wr) (hJ : ∀ k A B, J k A → Only b A B → J k B) : It W S J d b c cap R1 Bc Y f k g off F wr.drew :=
  h.asked hJ h.ci.drew (Only.refl b wr).drew
end
section
variable {W : World} {S : Nat → Prop} {J : Nat → World → Prop} {d b c cap R1 Bc : Nat} {Y : Nat → Nat → Nat} {f : Nat → Nat} {k g off : Nat} {F : Nat → Nat} {wr w' : World}
/-- .. and when a round has gone on. -/
structure Mid (W : World) (S : Nat → Prop) (J : Nat → World → Prop) (d b c cap R1 Bc : Nat) (Y : Nat → Nat → Nat) (f : Nat → Nat) (k g off : Nat) (F : Nat → Nat) (wr : World) : Prop where
  ci : Ci wr d b c cap R1 Y
  own : wr.heap[Bc]? = some (.cells #[.pointer (some ⟨d, 0, none⟩)] 25 (0, 0))
  cnt : Wd wr 16 g off F
  eq : Eq16 F (lat f k)
  ne : g ≠ b ∧ Bc ≠ b
  out : ¬ S d ∧ ¬ S b ∧ ¬ S c ∧ ¬ S Bc ∧ ¬ S g
  big : W.heap.size ≤ wr.heap.size
  inv : J (k + 1) wr
theorem It.told (h : It W S J d b c cap R1 Bc Y f k g off F wr) (hj : J (k + 1) w') (hk : Kp S wr w') : Mid W S J d b c cap R1 Bc Y f k g off F w' :=
  ⟨hk.ci h.ci h.out.1 h.out.2.1 h.out.2.2.1, hk.box h.own h.out.2.2.2.1, hk.wd h.cnt h.out.2.2.2.2, h.eq, h.ne, h.out, Nat.le_trans h.big hk.size, hj⟩
theorem Mid.next (h : Mid W S J d b c cap R1 Bc Y f k g off F wr) (hS : ∀ j, S j → j < W.heap.size) (hJ : ∀ k A B, J k A → Only b A B → J k B) {g' : Nat} (hw : Wd w' 16 g' 0 (lat F 1)) (hg : wr.heap.size ≤ g') (hlow : Below wr.heap.size wr w') :
    It W S J d b c cap R1 Bc Y f (k + 1) g' 0 (lat F 1) w' :=
  ⟨h.ci.self hlow, (hlow.block _ (Array.getElem?_eq_some_iff.1 h.own).1).trans h.own, hw, (lat_e h.eq 1).trans (lat_succ f k), ⟨by have := h.ci.box.lt; omega, h.ne.2⟩,
    ⟨h.out.1, h.out.2.1, h.out.2.2.1, h.out.2.2.2.1, fun q => by have := hS _ q; have := h.big; omega⟩, Nat.le_trans h.big hlow.size, hJ _ _ _ h.inv (Only.of_below hlow)⟩
end
/-- A counter and one, a new one. -/
theorem inc_ns (g off c : Nat) (f : Nat → Nat) (w : World) (h : Wd w 16 g off f) :
    Calls Try.prog 33 #[.slice (some ⟨g, off, none⟩) 16 c] w fun e w' => ∃ g' c', e = .returned (.slice (some ⟨g', 0, none⟩) 16 c') ∧ Wd w' 16 g' 0 (lat f 1) ∧ w.heap.size ≤ g' ∧ Below w.heap.size w w' := by
  refine (inc_any _ _ w (h.rd c (by decide))).mono ?_
  rintro e w' ⟨u, rfl, hown, hlow⟩
  rw [ns_len, inc_lat h.byte] at hown
  obtain ⟨g', c', rfl, hg, _⟩ := hown.part (by rw [ns_len]; decide)
  rw [ns_len] at hown ⊢
  exact ⟨g', c', rfl, Wd.of_own hown (by decide) (lat_b f 1), hg, hlow⟩
theorem load16 {P : Program} {op : Oper} {a : Act} {g o : Nat} {f : Nat → Nat} (x : Operand) (ho : op.op = .load 39 x) (hx : a.eval x = .pointer (some ⟨g, o, none⟩)) (hu : P.underlying 39 = some (.array 16 5)) (hi : (P.info? 39).map (·.size) = some 16) {w : World} (h : Wd w 16 g o f) :
    (execOp a.eval op).run P w = .ok (.value (.agg (ba 16 f))) w := by
  have h1 := run_loadVar_mid (P := P) w g o 39 (ba 16 f).toList _ h.range hu rfl (by rw [Array.length_toList, ba_size]; exact hi)
  rw [Array.toArray_toList] at h1
  unfold execOp
  simp only [ho, hx, Instr.loadAt, Instr.sureAddr, Sem.run_bind, Sem.run_pure, Result.andThen_ok, h1]

theorem opIn_value {n : Nat} {P : Program} {o : Oper} {a : Act} {w w' : World} {K : Act → World → Prop} {Q : Exit → Act → World → Prop} {v : Value} (h : (execOp a.eval o).run P w = .ok (.value v) w') (k : K (a.put o.dst v) w') : Oper.wpIn Fence.wide n P o a w K Q :=
  ⟨fun _ _ => trivial, by
    show Oper.uponIn _ _ _ _ _ _ _ ((execOp a.eval o).run P w)
    rw [h]; exact k⟩
theorem arr_off (g o c : Nat) (w : World) : (Instr.arrayAt 39 (.slice (some ⟨g, o, none⟩) 16 c)).run Try.prog w = .ok (.pointer (some ⟨g, o, none⟩)) w := by
  simp [Instr.arrayAt, run_underlying Try.underlying39]
set_option maxHeartbeats 3200000 in
theorem iter_any (S : Nat → Prop) (J : Nat → World → Prop) (Jx : World → Prop) (l d b c cap R R1 Bc Bb g off cc K : Nat) (Y : Nat → Nat → Nat) (f : Nat → Nat) (W : World)
    (hR1 : R1 = R + 1) (hR : 0 < R) (hl : R ≤ 1000) (hS : ∀ j, S j → j < W.heap.size) (hK : ∀ k A, J k A → k < K)
    (hJ : ∀ k A B, J k A → Only b A B → J k B)
    (hY : ∀ k A, J k A → YieldAt Fence.wide 4 Try.prog l #[.agg (ba 16 (blkF Y R (lat f k)))] A (fun e B => (e = .returned (.bool true) ∧ J (k + 1) B ∧ Kp S A B) ∨ (e = .returned (.bool false) ∧ Jx B ∧ Kp S A B)))
    (h0 : It W S J d b c cap R1 Bc Y f 0 g off f W) (hBb : W.heap[Bb]? = some (.cells #[.slice (some ⟨g, off, none⟩) 16 cc] 22 (0, 0))) :
    Calls Try.prog 31 #[.func (.yield l) #[] #[], .pointer (some ⟨Bb, 0, none⟩), .pointer (some ⟨Bc, 0, none⟩)] W fun e w' => (∃ v, e = .returned v) ∧ Jx w' ∧ Ci w' d b c cap R1 Y := by
  have cb := one_box hBb
  have H0 := hid h0
  have HS := hid hS; have HKK := hid hK; have HJ := hid hJ; have HY := hid hY
  have HR := hid (And.intro hR1 (And.intro hR hl))
  clear h0 hBb hS hK hJ hY hR1 hR hl
  refine (callsIn_wide (n := 5)).1 ?_
  refine callsIn_of_wp Try.func31 rfl trivial ?_ rfl
  simp only [Try.ntmps31, List.size_toArray, List.length_cons, List.length_nil, Nat.reduceAdd, Nat.reduceSub, Array.replicate_succ, Array.replicate_zero, List.push_toArray, List.append_toArray, List.nil_append, List.cons_append]
  gi_wp2
  gi_loopg [4] K (fun m v wr => ∃ (k gk ok ck : Nat) (F : Nat → Nat), m = K - k ∧ v = .slice (some ⟨gk, ok, none⟩) 16 ck ∧ It W S J d b c cap R1 Bc Y f k gk ok F wr)
  case atStart => exact ⟨0, g, off, cc, f, by omega, rfl, H0.out⟩
  case round =>
    obtain ⟨k, gk, ok, ck, F, rfl, rfl, hit⟩ := hrel
    have HI := hid hit
    clear hit
    gi_wp2
    refine wpIn_region_any (by kernel_rfl) ?_
    have HD := hid (HI.out.drew HJ.out)
    change wpAnyIn _ _ _ _ _ _ _ _ _ (World.drew _)
    generalize wr.drew = w2 at *
    refine wpAnyIn_take (i := 0) (v := .func (.yield l) #[] #[]) rfl rfl (by kernel_rfl) (by kernel_rfl) (by kernel_rfl) (fun _ _ _ h => h) ⟨Or.inl ⟨by rfl, fun w => by go_simp⟩, fun _ => rfl⟩ ?_
    simp only [Act.put, lay_out]
    refine wpAnyIn_take (i := 2) (v := .slice (some ⟨gk, ok, none⟩) 16 ck) rfl rfl (by kernel_rfl) (by kernel_rfl) (by kernel_rfl) (fun _ _ _ h => h) ⟨Or.inl ⟨by rfl, fun w => by go_simp⟩, fun _ => rfl⟩ ?_
    simp only [Act.put, lay_out]
    refine wpAnyIn_take (i := 3) (v := .pointer (some ⟨gk, ok, none⟩)) rfl rfl (by kernel_rfl) (by kernel_rfl) (by kernel_rfl) (fun _ _ _ h => h) ⟨Or.inl ⟨by rfl, fun w => by have := arr_off gk ok ck w; go_simp⟩, fun _ => rfl⟩ ?_
    simp only [Act.put, lay_out]
    have c7 : w2.cell? ⟨Bc, 0, none⟩ = some (.pointer (some ⟨d, 0, none⟩)) := one_box HD.out.own
    have BLK : Hid (ba 16 (blkF Y R F) = ba 16 (blkF Y R (lat f k))) := hid (ba_ext fun j hj => blk_e HI.out.eq j hj)
    have BLK : Hid (ba 16 (blkF Y R F) = ba 16 (blkF Y R (lat f k))) := hid (ba_ext fun j hj => blk_e HI.out.eq j hj)
    have BLK : Hid (ba 16 (blkF Y R F) = ba 16 (blkF Y R (lat f k))) := hid (ba_ext fun j hj => blk_e HI.out.eq j hj)
    have BLK : Hid (ba 16 (blkF Y R F) = ba 16 (blkF Y R (lat f k))) := hid (ba_ext fun j hj => blk_e HI.out.eq j hj)
    have BLK : Hid (ba 16 (blkF Y R F) = ba 16 (blkF Y R (lat f k))) := hid (ba_ext fun j hj => blk_e HI.out.eq j hj)
    have BLK : Hid (ba 16 (blkF Y R F) = ba 16 (blkF Y R (lat f k))) := hid (ba_ext fun j hj => blk_e HI.out.eq j hj)
    refine wpAnyIn_ready (rs := [1, 4]) (by kernel_rfl) (by simp) (AllReadyIn.cons rfl (fun K hK => ?_) (AllReadyIn.cons rfl (fun K hK => ?_) AllReadyIn.nil))
    · rw [if_pos (by rfl)]
      go_simp
      refine hK _ _ ?_
      clear hK K
      refine wpAnyIn_ready (rs := [4]) (by kernel_rfl) (by simp) (AllReadyIn.cons rfl (fun K hK => ?_) AllReadyIn.nil)
      rw [if_pos (by rfl)]
      refine opIn_value (load16 (.tmp 9) rfl rfl Try.underlying39 infoa HD.out.cnt) ?_
      refine hK _ _ ?_
      clear hK K
      simp only [Act.put, lay_out]
      refine wpAnyIn_ready (rs := [5]) (by kernel_rfl) (by simp) (AllReadyIn.cons rfl (fun K hK => ?_) AllReadyIn.nil)
      rw [if_pos (by rfl)]
      go_simp
      refine ⟨trivial, ?_⟩
      gi_at_call 32
      refine (callsIn_wide.2 (block_any d b c cap R R1 Y F _ HR.out.1 HR.out.2.1 HR.out.2.2 (fun j hj => HD.out.cnt.byte j hj) HD.out.ci)).mono ?_
      rintro e w3 ⟨rfl, hci, ho⟩
      have HE := hid (HD.out.asked HJ.out hci ho)
      have hy := HY.out k w3 HE.out.inv
      rw [← BLK.out] at hy
      obtain ⟨fn, tmps, assign, body, hy, hRD⟩ := hy
      clear hci ho
      refine hK _ _ ?_
      clear hK K
      try simp only [Act.put, lay_out]
      refine wpAnyIn_ready (rs := [6]) (by kernel_rfl) (by simp) (AllReadyIn.cons rfl (fun K hK => ?_) AllReadyIn.nil)
      rw [if_pos (by rfl)]
      go_simp
      refine hRD.mono ?_
      clear hRD hy
      rintro e w4 (⟨rfl, hj, hk⟩ | ⟨rfl, hjx, hk⟩)
      · have HT := hid (HE.out.told hj hk)
        have HM := hid (HKK.out _ _ HE.out.inv)
        have HN := hid (HKK.out _ _ hj)
        have HIN := hid (inc_ns gk ok ck F _ HT.out.cnt)
        clear hj hk
        refine hK _ _ ?_
        clear hK K
        refine wpAnyIn_done (by kernel_rfl) ?_ _
        try simp only [Act.put, lay_out]
        gi_wp2
        refine ⟨trivial, ?_⟩
        gi_at_call 33
        refine (callsIn_wide.2 HIN.out).mono ?_
        rintro e w5 ⟨g5, c5, rfl, hw5, hg5, hlow5⟩
        have HU := hid (HT.out.next HS.out HJ.out hw5 hg5 hlow5)
        clear hw5 hg5 hlow5
        gi_wp2
        gi_roundg (K - (k + 1))
        case rel => exact ⟨k + 1, g5, 0, c5, _, rfl, rfl, HU.out⟩
        case measure => have := HM.out; have := HN.out; omega
      · have HC := hid (hk.ci HE.out.ci HE.out.out.1 HE.out.out.2.1 HE.out.out.2.2.1)
        have HX := hid hjx
        clear hjx hk
        refine hK _ _ ?_
        clear hK K
        refine wpAnyIn_done (by kernel_rfl) ?_ _
        try simp only [Act.put, lay_out]
        gi_wp2
        go_end0
        exact ⟨⟨_, rfl⟩, HX.out, HC.out⟩
    · rw [if_pos (by rfl)]
      refine opIn_value (load16 (.tmp 9) rfl rfl Try.underlying39 infoa HD.out.cnt) ?_
      refine hK _ _ ?_
      clear hK K
      simp only [Act.put, lay_out]
      refine wpAnyIn_ready (rs := [1]) (by kernel_rfl) (by simp) (AllReadyIn.cons rfl (fun K hK => ?_) AllReadyIn.nil)
      rw [if_pos (by rfl)]
      go_simp
      refine hK _ _ ?_
      clear hK K
      refine wpAnyIn_ready (rs := [5]) (by kernel_rfl) (by simp) (AllReadyIn.cons rfl (fun K hK => ?_) AllReadyIn.nil)
      rw [if_pos (by rfl)]
      go_simp
      refine ⟨trivial, ?_⟩
      gi_at_call 32
      refine (callsIn_wide.2 (block_any d b c cap R R1 Y F _ HR.out.1 HR.out.2.1 HR.out.2.2 (fun j hj => HD.out.cnt.byte j hj) HD.out.ci)).mono ?_
      rintro e w3 ⟨rfl, hci, ho⟩
      have HE := hid (HD.out.asked HJ.out hci ho)
      have hy := HY.out k w3 HE.out.inv
      rw [← BLK.out] at hy
      obtain ⟨fn, tmps, assign, body, hy, hRD⟩ := hy
      clear hci ho
      refine hK _ _ ?_
      clear hK K
      try simp only [Act.put, lay_out]
      refine wpAnyIn_ready (rs := [6]) (by kernel_rfl) (by simp) (AllReadyIn.cons rfl (fun K hK => ?_) AllReadyIn.nil)
      rw [if_pos (by rfl)]
      go_simp
      refine hRD.mono ?_
      clear hRD hy
      rintro e w4 (⟨rfl, hj, hk⟩ | ⟨rfl, hjx, hk⟩)
      · have HT := hid (HE.out.told hj hk)
        have HM := hid (HKK.out _ _ HE.out.inv)
        have HN := hid (HKK.out _ _ hj)
        have HIN := hid (inc_ns gk ok ck F _ HT.out.cnt)
        clear hj hk
        refine hK _ _ ?_
        clear hK K
        refine wpAnyIn_done (by kernel_rfl) ?_ _
        try simp only [Act.put, lay_out]
        gi_wp2
        refine ⟨trivial, ?_⟩
        gi_at_call 33
        refine (callsIn_wide.2 HIN.out).mono ?_
        rintro e w5 ⟨g5, c5, rfl, hw5, hg5, hlow5⟩
        have HU := hid (HT.out.next HS.out HJ.out hw5 hg5 hlow5)
        clear hw5 hg5 hlow5
        gi_wp2
        gi_roundg (K - (k + 1))
        case rel => exact ⟨k + 1, g5, 0, c5, _, rfl, rfl, HU.out⟩
        case measure => have := HM.out; have := HN.out; omega
      · have HC := hid (hk.ci HE.out.ci HE.out.out.1 HE.out.out.2.1 HE.out.out.2.2.1)
        have HX := hid hjx
        clear hjx hk
        refine hK _ _ ?_
        clear hK K
        refine wpAnyIn_done (by kernel_rfl) ?_ _
        try simp only [Act.put, lay_out]
        gi_wp2
        go_end0
        exact ⟨⟨_, rfl⟩, HX.out, HC.out⟩
end Go.Proofs.Ytiejaedljebbfaa
