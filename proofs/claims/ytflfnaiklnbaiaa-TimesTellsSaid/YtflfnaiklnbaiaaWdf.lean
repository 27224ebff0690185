import Derived.Test.YtflfnaiklnbaiaaProg
import Derived.Test.YtflfnaiklnbaiaaWdc
import Derived.Test.YtflfnaiklnbaiaaTrm
/- Wire: the document's machine: a block ends. -/
namespace Go.Proofs.Ytflfnaiklnbaiaa
open Go.RowKit
set_option maxRecDepth 100000
theorem infoSp : (Try.prog.info? 78).map (fun i => (i.zero, i.size, i.bytes)) = some (some (.agg #[.int .i64 0, .int .i64 0, .int .i64 0]), 3, 24) := by kernel_rfl
theorem dlen_quiet (lo : LoG) (b : Nat) (S : Ms) (ov bv vv tv : Value) (w : World) (h : Dm lo w b S ov bv vv tv) (l1 : S.L ≤ 1000000) (l2 : S.skip ≤ 1000000) :
    Calls Try.prog 31 #[.pointer (some ⟨b, 0, none⟩)] w fun e w' => e = .returned (.int .i64 (S.len : Nat)) ∧ ∃ n, w' = w.drewN n := by
  obtain ⟨a, cap, rfl⟩ := h.opsv
  have c5 := h.drew.c_skip
  have c8 := h.drew.c_ov
  have hw : IntKind.i64.wrap ((S.skip : Int) + (S.L : Int)) = ((S.len : Nat) : Int) := by unfold Ms.len; rw [IntKind.wrap_i64]; omega
  clear h l1 l2
  generalize S.len = n at *
  go_enter Try.func31, Try.ntmps31
  go_wp2_with fail
  go_region
  go_wp2
  go_ret
  exact ⟨rfl, 1, rfl⟩
theorem Dm.drewN {lo : LoG} {b : Nat} {w : World} {S : Ms} {ov bv vv tv : Value} (h : Dm lo w b S ov bv vv tv) (n : Nat) : Dm lo (w.drewN n) b S ov bv vv tv := h.self (below_drewN w n)
set_option maxHeartbeats 1600000 in
theorem dend_any (lo : LoG) (b : Nat) (S : Ms) (ov bv vv tv : Value) (w : World) (h : Dm lo w b S ov bv vv tv) (hb : Bd S) :
    Calls Try.prog 38 #[.pointer (some ⟨b, 0, none⟩)] w fun e w' => e = .returned (.tuple #[]) ∧ DmR lo b ov bv vv S.endS w w' := by
  have c7 := h.c_e
  have c6 := h.c_kind
  have f6 := h.fz 6
  have f7 := h.fz 7
  have HD := hid h
  have HBD := hid hb
  by_cases he : S.e = 0
  · rw [he] at c7
    by_cases hk : S.kind = 0
    · have e : S.endS = { S with e := 1 } := by unfold Ms.endS; rw [if_neg (by omega), if_pos hk]
      rw [e]
      have q1 : (S.kind == 0) = true := by simp [hk]
      have HN := hid (h.cellSet (S' := { S with e := 1 }) 7 (.int .i64 1) rfl rfl rfl rfl rfl rfl rfl rfl rfl)
      have HT := hid (tch_set (ov := ov) (bv := bv) (vv := vv) b 7 (.int .i64 1) w)
      clear h e hk
      go_enter Try.func38, Try.ntmps38
      go_wp2
      exact bodyPost_ret (results_none rfl _ _ _) rfl ⟨rfl, _, _, _, _, HN.out, HT.out, fun k hk => .inl hk⟩
    · have q1 : (S.kind == 0) = false := by simp [hk]
      have HLQ := hid (fun w1 (h1 : Dm lo w1 b S ov bv vv tv) => dlen_any lo b S ov bv vv tv w1 h1 hb)
      have HQ := hid (fun n => dlen_quiet lo b S ov bv vv tv _ (h.drewN n) (by have := hb.L; omega) (by have := hb.skip; omega))
      by_cases hl : S.fr < S.len
      · have e : S.endS = { S with M := S.M + 1, g := updS S.g S.M ⟨S.kind, (S.fr : Int), (S.len : Int)⟩, kind := 0 } := by unfold Ms.endS; rw [if_neg (by omega), if_neg hk, if_pos hl]
        rw [e]
        have q2 : decide ((S.fr : Int) < (S.len : Int)) = true := decide_eq_true (by omega)
        have XN := hid (fun n => h.drewN n)
        have c4 := h.c_fr
        clear h e hk hb
        go_enter Try.func38, Try.ntmps38
        go_wp2_with fail
        go_quiet ((go_at_call 31; exact Calls.quiet_of (HQ.out _)))
        go_wp2_with fail
        have X0 := hid ((XN.out nq).drew)
        have HB0 := hid ((below_drewN w nq).drew)
        refine wp_region_noPanic ?_
        refine wp_region_held_drew (S := fun w' => w'.cell? ⟨b, 6, none⟩ = some (Value.int .i64 S.kind) ∧ w'.cell? ⟨b, 4, none⟩ = some (Value.int .i64 (S.fr : Int))) (by kernel_rfl) (⟨X0.out.c_kind, X0.out.c_fr⟩) (fun h0 => ?_)
        generalize (w.drewN nq).drew = w1 at *
        refine wpAnyH_take (i := 0) (v := .pointer (some ⟨b, 0, none⟩)) rfl (by kernel_rfl) (by kernel_rfl) (by kernel_rfl) (fun _ _ _ h => h) (.inl ⟨by rfl, fun w hw => by clear hw; go_simp⟩) h0 ?_
        try simp only [Act.put, lay_out]
        refine wpAnyH_take (i := 1) (v := .pointer (some ⟨b, 0, none⟩)) rfl (by kernel_rfl) (by kernel_rfl) (by kernel_rfl) (fun _ _ _ h => h) (.inl ⟨by rfl, fun w hw => by clear hw; go_simp⟩) h0 ?_
        try simp only [Act.put, lay_out]
        refine wpAnyH_take (i := 2) (v := .pointer (some ⟨b, 0, none⟩)) rfl (by kernel_rfl) (by kernel_rfl) (by kernel_rfl) (fun _ _ _ h => h) (.inl ⟨by rfl, fun w hw => by clear hw; go_simp⟩) h0 ?_
        try simp only [Act.put, lay_out]
        refine wpAnyH_take (i := 3) (v := .pointer (some ⟨b, 9, none⟩)) rfl (by kernel_rfl) (by kernel_rfl) (by kernel_rfl) (fun _ _ _ h => h) (.inl ⟨by rfl, fun w hw => by clear hw; go_simp⟩) h0 ?_
        try simp only [Act.put, lay_out]
        refine wpAnyH_take (i := 5) (v := .pointer (some ⟨b, 0, none⟩)) rfl (by kernel_rfl) (by kernel_rfl) (by kernel_rfl) (fun _ _ _ h => h) (.inl ⟨by rfl, fun w hw => by clear hw; go_simp⟩) h0 ?_
        try simp only [Act.put, lay_out]
        refine wpAnyH_take (i := 6) (v := .pointer (some ⟨b, 0, none⟩)) rfl (by kernel_rfl) (by kernel_rfl) (by kernel_rfl) (fun _ _ _ h => h) (.inl ⟨by rfl, fun w hw => by clear hw; go_simp⟩) h0 ?_
        try simp only [Act.put, lay_out]
        refine wpAnyH_take (i := 7) (v := .pointer (some ⟨b, 6, none⟩)) rfl (by kernel_rfl) (by kernel_rfl) (by kernel_rfl) (fun _ _ _ h => h) (.inl ⟨by rfl, fun w hw => by clear hw; go_simp⟩) h0 ?_
        try simp only [Act.put, lay_out]
        refine wpAnyH_take (i := 8) (v := .int .i64 S.kind) rfl (by kernel_rfl) (by kernel_rfl) (by kernel_rfl) (fun _ _ _ h => h) (.inl ⟨by rfl, fun w hw => by go_simp⟩) h0 ?_
        try simp only [Act.put, lay_out]
        refine wpAnyH_take (i := 9) (v := .pointer (some ⟨b, 0, none⟩)) rfl (by kernel_rfl) (by kernel_rfl) (by kernel_rfl) (fun _ _ _ h => h) (.inl ⟨by rfl, fun w hw => by clear hw; go_simp⟩) h0 ?_
        try simp only [Act.put, lay_out]
        refine wpAnyH_take (i := 10) (v := .pointer (some ⟨b, 0, none⟩)) rfl (by kernel_rfl) (by kernel_rfl) (by kernel_rfl) (fun _ _ _ h => h) (.inl ⟨by rfl, fun w hw => by clear hw; go_simp⟩) h0 ?_
        try simp only [Act.put, lay_out]
        refine wpAnyH_take (i := 11) (v := .pointer (some ⟨b, 4, none⟩)) rfl (by kernel_rfl) (by kernel_rfl) (by kernel_rfl) (fun _ _ _ h => h) (.inl ⟨by rfl, fun w hw => by clear hw; go_simp⟩) h0 ?_
        try simp only [Act.put, lay_out]
        refine wpAnyH_take (i := 12) (v := .int .i64 (S.fr : Int)) rfl (by kernel_rfl) (by kernel_rfl) (by kernel_rfl) (fun _ _ _ h => h) (.inl ⟨by rfl, fun w hw => by go_simp⟩) h0 ?_
        try simp only [Act.put, lay_out]
        refine wpAnyH_take (i := 13) (v := .pointer (some ⟨b, 0, none⟩)) rfl (by kernel_rfl) (by kernel_rfl) (by kernel_rfl) (fun _ _ _ h => h) (.inl ⟨by rfl, fun w hw => by clear hw; go_simp⟩) h0 ?_
        try simp only [Act.put, lay_out]
        refine wpAnyH_ready (rs := [4, 14]) (by kernel_rfl) (by simp) (AllReadyH.cons rfl (fun K hK => ?_) (AllReadyH.cons rfl (fun K hK => ?_) AllReadyH.nil))
        · have c9 := X0.out.c_bv
          rw [if_pos (by rfl)]
          go_simp
          clear c9
          refine hK.out _ _ (⟨X0.out.c_kind, X0.out.c_fr⟩) (fun h1x => ?_)
          clear hK K
          try simp only [Act.put, lay_out]
          refine wpAnyH_ready (rs := [14]) (by kernel_rfl) (by simp) (AllReadyH.cons rfl (fun K hK => ?_) AllReadyH.nil)
          rw [if_pos (by rfl)]
          go_simp
          go_at_call 31
          (with_reducible refine (HLQ.out _ X0.out).mono ?_); rintro e w2 ⟨rfl, hb1⟩
          have X1 := hid (X0.out.self hb1)
          have HBX1 := hid hb1
          clear hb1
          refine hK.out _ _ (⟨X1.out.c_kind, X1.out.c_fr⟩) (fun h2x => ?_)
          clear hK K
          try simp only [Act.put, lay_out]
          refine wpAnyH_take (i := 15) (v := .agg #[.int .i64 S.kind, .int .i64 (S.fr : Int), .int .i64 (S.len : Int)]) rfl (by kernel_rfl) (by kernel_rfl) (by kernel_rfl) (fun _ _ _ h => h) (.inl ⟨by rfl, fun w hw => by clear hw; go_simp⟩) h2x ?_
          try simp only [Act.put, lay_out]
          refine wpAnyH_ready (rs := [16]) (by kernel_rfl) (by simp) (AllReadyH.cons rfl (fun K hK => ?_) AllReadyH.nil)
          rw [if_pos (by rfl)]
          go_simp
          have XA := hid (X1.out.self ((Below.refl w2.heap.size w2).alloc (Nat.le_refl _) (.cells #[.int .i64 S.kind, .int .i64 (S.fr : Int), .int .i64 (S.len : Int)] 78)))
          refine hK.out _ _ (⟨XA.out.c_kind, XA.out.c_fr⟩) (fun h3x => ?_)
          clear hK K
          try simp only [Act.put, lay_out]
          refine wpAnyH_ready (rs := [17]) (by kernel_rfl) (by simp) (AllReadyH.cons rfl (fun K hK => ?_) AllReadyH.nil)
          rw [if_pos (by rfl)]
          refine wp_append_rec (.tmp 26) (.tmp 38) 49 rfl lo.lo 78 3 24 (.agg #[.int .i64 0, .int .i64 0, .int .i64 0]) Try.underlying49 infoSp (by rfl) (by decide) bv S.M (fun i => (spCs (updS S.g S.M ⟨S.kind, (S.fr : Int), (S.len : Int)⟩ i)).toList) rfl (XA.out.bls.ext fun i hi => by rw [updS_no _ _ (by omega)]) ⟨w2.heap.size, 0, none⟩ 1 rfl rfl (by intro u hu; simp at hu; rcases hu with rfl | rfl | rfl <;> rfl) ?_ (by have := HBD.out.M; unfold maxLen; omega) (by have := HBD.out.M; omega) (by have := XA.out.lt; have := XA.out.lob; omega) (fun g cap' w9 g1 g2 g3 => ?_)
          · rw [updS_at]; exact World.news_of_block (heap_alloc_new _ _)
          have XG := hid (XA.out.addBl g1 g2 g3)
          have hbl : w9.heap[b]? = _ := g2.block b XA.out.lt (fun e => XA.out.hbb e.symm)
          have f6 := frozen_of_row w9 b 6 _ _ (hbl.trans XA.out.blk)
          have f9 := frozen_of_row w9 b 9 _ _ (hbl.trans XA.out.blk)
          have c6 : w9.cell? ⟨b, 6, none⟩ = some (Value.int .i64 S.kind) := by rw [World.cell?_of_block hbl]; exact XA.out.c_kind
          have K6 := hid c6
          have K4 : Hid (w9.cell? ⟨b, 4, none⟩ = some (Value.int .i64 (S.fr : Int))) := hid (by rw [World.cell?_of_block hbl]; exact XA.out.c_fr)
          have c9 : w9.cell? ⟨b, 9, none⟩ = some bv := by rw [World.cell?_of_block hbl]; exact XA.out.c_bv
          clear g1 g2 g3 hbl
          refine hK.out _ _ (⟨K6.out, K4.out⟩) (fun h4x => ?_)
          clear hK K
          try simp only [Act.put, lay_out]
          refine wpAnyH_take (i := 18) (v := .pointer (some ⟨b, 0, none⟩)) rfl (by kernel_rfl) (by kernel_rfl) (by kernel_rfl) (fun _ _ _ h => h) (.inl ⟨by rfl, fun w hw => by clear hw; go_simp⟩) h4x ?_
          try simp only [Act.put, lay_out]
          refine wpAnyH_take (i := 19) (v := .pointer (some ⟨b, 9, none⟩)) rfl (by kernel_rfl) (by kernel_rfl) (by kernel_rfl) (fun _ _ _ h => h) (.inl ⟨by rfl, fun w hw => by clear hw; go_simp⟩) h4x ?_
          try simp only [Act.put, lay_out]
          refine wpAnyH_ready (rs := [20]) (by kernel_rfl) (by simp) (AllReadyH.cons rfl (fun K hK => ?_) AllReadyH.nil)
          rw [if_pos (by rfl)]
          go_simp
          refine hK.out _ _ (⟨Dm.c_kind (S := { S with M := S.M + 1, g := updS S.g S.M ⟨S.kind, (S.fr : Int), (S.len : Int)⟩ }) XG.out.1, Dm.c_fr (S := { S with M := S.M + 1, g := updS S.g S.M ⟨S.kind, (S.fr : Int), (S.len : Int)⟩ }) XG.out.1⟩) (fun h5x => ?_)
          clear hK K
          try simp only [Act.put, lay_out]
          refine wpAnyH_done (by kernel_rfl) ?_ _
          refine NoPanic.normal ?_
          clear h0 h1x h2x h3x h4x h5x
          try simp only [Act.put, lay_out]
          go_wp2
          have HT0 := ((Tch.of_below (F := Ft b ov bv vv) HB0.out).trans (Tch.of_below (F := Ft b ov bv vv) HBX1.out) (fun _ _ f => f)).trans (Tch.of_below (F := Ft b ov bv vv) ((Below.refl w2.heap.size w2).alloc (Nat.le_refl _) (.cells #[.int .i64 S.kind, .int .i64 (S.fr : Int), .int .i64 (S.len : Int)] 78))) (fun _ _ f => f)
          exact bodyPost_end (results_none rfl _ _ _) rfl ⟨rfl, _, _, _, _, Dm.cellSet (S := { S with M := S.M + 1, g := updS S.g S.M ⟨S.kind, (S.fr : Int), (S.len : Int)⟩ }) XG.out.1 (S' := { S with M := S.M + 1, g := updS S.g S.M ⟨S.kind, (S.fr : Int), (S.len : Int)⟩, kind := 0 }) 6 (.int .i64 0) rfl rfl rfl rfl rfl rfl rfl rfl rfl, (HT0.trans XG.out.2.1 (fun _ _ f => f)).trans (tch_set b 6 _ _) (fun _ _ f => f), fun k hk => (XG.out.2.2 k hk).imp id (fun hk => Nat.le_trans HT0.size hk)⟩
        · rw [if_pos (by rfl)]
          go_simp
          go_at_call 31
          (with_reducible refine (HLQ.out _ X0.out).mono ?_); rintro e w2 ⟨rfl, hb1⟩
          have X1 := hid (X0.out.self hb1)
          have HBX1 := hid hb1
          clear hb1
          refine hK.out _ _ (⟨X1.out.c_kind, X1.out.c_fr⟩) (fun h1x => ?_)
          clear hK K
          try simp only [Act.put, lay_out]
          refine wpAnyH_take (i := 15) (v := .agg #[.int .i64 S.kind, .int .i64 (S.fr : Int), .int .i64 (S.len : Int)]) rfl (by kernel_rfl) (by kernel_rfl) (by kernel_rfl) (fun _ _ _ h => h) (.inl ⟨by rfl, fun w hw => by clear hw; go_simp⟩) h1x ?_
          try simp only [Act.put, lay_out]
          refine wpAnyH_ready (rs := [4, 16]) (by kernel_rfl) (by simp) (AllReadyH.cons rfl (fun K hK => ?_) (AllReadyH.cons rfl (fun K hK => ?_) AllReadyH.nil))
          · have c9 := X1.out.c_bv
            rw [if_pos (by rfl)]
            go_simp
            clear c9
            refine hK.out _ _ (⟨X1.out.c_kind, X1.out.c_fr⟩) (fun h2x => ?_)
            clear hK K
            try simp only [Act.put, lay_out]
            refine wpAnyH_ready (rs := [16]) (by kernel_rfl) (by simp) (AllReadyH.cons rfl (fun K hK => ?_) AllReadyH.nil)
            rw [if_pos (by rfl)]
            go_simp
            have XA := hid (X1.out.self ((Below.refl w2.heap.size w2).alloc (Nat.le_refl _) (.cells #[.int .i64 S.kind, .int .i64 (S.fr : Int), .int .i64 (S.len : Int)] 78)))
            refine hK.out _ _ (⟨XA.out.c_kind, XA.out.c_fr⟩) (fun h3x => ?_)
            clear hK K
            try simp only [Act.put, lay_out]
            refine wpAnyH_ready (rs := [17]) (by kernel_rfl) (by simp) (AllReadyH.cons rfl (fun K hK => ?_) AllReadyH.nil)
            rw [if_pos (by rfl)]
            refine wp_append_rec (.tmp 26) (.tmp 38) 49 rfl lo.lo 78 3 24 (.agg #[.int .i64 0, .int .i64 0, .int .i64 0]) Try.underlying49 infoSp (by rfl) (by decide) bv S.M (fun i => (spCs (updS S.g S.M ⟨S.kind, (S.fr : Int), (S.len : Int)⟩ i)).toList) rfl (XA.out.bls.ext fun i hi => by rw [updS_no _ _ (by omega)]) ⟨w2.heap.size, 0, none⟩ 1 rfl rfl (by intro u hu; simp at hu; rcases hu with rfl | rfl | rfl <;> rfl) ?_ (by have := HBD.out.M; unfold maxLen; omega) (by have := HBD.out.M; omega) (by have := XA.out.lt; have := XA.out.lob; omega) (fun g cap' w9 g1 g2 g3 => ?_)
            · rw [updS_at]; exact World.news_of_block (heap_alloc_new _ _)
            have XG := hid (XA.out.addBl g1 g2 g3)
            have hbl : w9.heap[b]? = _ := g2.block b XA.out.lt (fun e => XA.out.hbb e.symm)
            have f6 := frozen_of_row w9 b 6 _ _ (hbl.trans XA.out.blk)
            have f9 := frozen_of_row w9 b 9 _ _ (hbl.trans XA.out.blk)
            have c6 : w9.cell? ⟨b, 6, none⟩ = some (Value.int .i64 S.kind) := by rw [World.cell?_of_block hbl]; exact XA.out.c_kind
            have K6 := hid c6
            have K4 : Hid (w9.cell? ⟨b, 4, none⟩ = some (Value.int .i64 (S.fr : Int))) := hid (by rw [World.cell?_of_block hbl]; exact XA.out.c_fr)
            have c9 : w9.cell? ⟨b, 9, none⟩ = some bv := by rw [World.cell?_of_block hbl]; exact XA.out.c_bv
            clear g1 g2 g3 hbl
            refine hK.out _ _ (⟨K6.out, K4.out⟩) (fun h4x => ?_)
            clear hK K
            try simp only [Act.put, lay_out]
            refine wpAnyH_take (i := 18) (v := .pointer (some ⟨b, 0, none⟩)) rfl (by kernel_rfl) (by kernel_rfl) (by kernel_rfl) (fun _ _ _ h => h) (.inl ⟨by rfl, fun w hw => by clear hw; go_simp⟩) h4x ?_
            try simp only [Act.put, lay_out]
            refine wpAnyH_take (i := 19) (v := .pointer (some ⟨b, 9, none⟩)) rfl (by kernel_rfl) (by kernel_rfl) (by kernel_rfl) (fun _ _ _ h => h) (.inl ⟨by rfl, fun w hw => by clear hw; go_simp⟩) h4x ?_
            try simp only [Act.put, lay_out]
            refine wpAnyH_ready (rs := [20]) (by kernel_rfl) (by simp) (AllReadyH.cons rfl (fun K hK => ?_) AllReadyH.nil)
            rw [if_pos (by rfl)]
            go_simp
            refine hK.out _ _ (⟨Dm.c_kind (S := { S with M := S.M + 1, g := updS S.g S.M ⟨S.kind, (S.fr : Int), (S.len : Int)⟩ }) XG.out.1, Dm.c_fr (S := { S with M := S.M + 1, g := updS S.g S.M ⟨S.kind, (S.fr : Int), (S.len : Int)⟩ }) XG.out.1⟩) (fun h5x => ?_)
            clear hK K
            try simp only [Act.put, lay_out]
            refine wpAnyH_done (by kernel_rfl) ?_ _
            refine NoPanic.normal ?_
            clear h0 h1x h2x h3x h4x h5x
            try simp only [Act.put, lay_out]
            go_wp2
            have HT0 := ((Tch.of_below (F := Ft b ov bv vv) HB0.out).trans (Tch.of_below (F := Ft b ov bv vv) HBX1.out) (fun _ _ f => f)).trans (Tch.of_below (F := Ft b ov bv vv) ((Below.refl w2.heap.size w2).alloc (Nat.le_refl _) (.cells #[.int .i64 S.kind, .int .i64 (S.fr : Int), .int .i64 (S.len : Int)] 78))) (fun _ _ f => f)
            exact bodyPost_end (results_none rfl _ _ _) rfl ⟨rfl, _, _, _, _, Dm.cellSet (S := { S with M := S.M + 1, g := updS S.g S.M ⟨S.kind, (S.fr : Int), (S.len : Int)⟩ }) XG.out.1 (S' := { S with M := S.M + 1, g := updS S.g S.M ⟨S.kind, (S.fr : Int), (S.len : Int)⟩, kind := 0 }) 6 (.int .i64 0) rfl rfl rfl rfl rfl rfl rfl rfl rfl, (HT0.trans XG.out.2.1 (fun _ _ f => f)).trans (tch_set b 6 _ _) (fun _ _ f => f), fun k hk => (XG.out.2.2 k hk).imp id (fun hk => Nat.le_trans HT0.size hk)⟩
          · rw [if_pos (by rfl)]
            go_simp
            have XA := hid (X1.out.self ((Below.refl w2.heap.size w2).alloc (Nat.le_refl _) (.cells #[.int .i64 S.kind, .int .i64 (S.fr : Int), .int .i64 (S.len : Int)] 78)))
            refine hK.out _ _ (⟨XA.out.c_kind, XA.out.c_fr⟩) (fun h2x => ?_)
            clear hK K
            try simp only [Act.put, lay_out]
            refine wpAnyH_ready (rs := [4]) (by kernel_rfl) (by simp) (AllReadyH.cons rfl (fun K hK => ?_) AllReadyH.nil)
            have c9 := XA.out.c_bv
            rw [if_pos (by rfl)]
            go_simp
            clear c9
            refine hK.out _ _ (⟨XA.out.c_kind, XA.out.c_fr⟩) (fun h3x => ?_)
            clear hK K
            try simp only [Act.put, lay_out]
            refine wpAnyH_ready (rs := [17]) (by kernel_rfl) (by simp) (AllReadyH.cons rfl (fun K hK => ?_) AllReadyH.nil)
            rw [if_pos (by rfl)]
            refine wp_append_rec (.tmp 26) (.tmp 38) 49 rfl lo.lo 78 3 24 (.agg #[.int .i64 0, .int .i64 0, .int .i64 0]) Try.underlying49 infoSp (by rfl) (by decide) bv S.M (fun i => (spCs (updS S.g S.M ⟨S.kind, (S.fr : Int), (S.len : Int)⟩ i)).toList) rfl (XA.out.bls.ext fun i hi => by rw [updS_no _ _ (by omega)]) ⟨w2.heap.size, 0, none⟩ 1 rfl rfl (by intro u hu; simp at hu; rcases hu with rfl | rfl | rfl <;> rfl) ?_ (by have := HBD.out.M; unfold maxLen; omega) (by have := HBD.out.M; omega) (by have := XA.out.lt; have := XA.out.lob; omega) (fun g cap' w9 g1 g2 g3 => ?_)
            · rw [updS_at]; exact World.news_of_block (heap_alloc_new _ _)
            have XG := hid (XA.out.addBl g1 g2 g3)
            have hbl : w9.heap[b]? = _ := g2.block b XA.out.lt (fun e => XA.out.hbb e.symm)
            have f6 := frozen_of_row w9 b 6 _ _ (hbl.trans XA.out.blk)
            have f9 := frozen_of_row w9 b 9 _ _ (hbl.trans XA.out.blk)
            have c6 : w9.cell? ⟨b, 6, none⟩ = some (Value.int .i64 S.kind) := by rw [World.cell?_of_block hbl]; exact XA.out.c_kind
            have K6 := hid c6
            have K4 : Hid (w9.cell? ⟨b, 4, none⟩ = some (Value.int .i64 (S.fr : Int))) := hid (by rw [World.cell?_of_block hbl]; exact XA.out.c_fr)
            have c9 : w9.cell? ⟨b, 9, none⟩ = some bv := by rw [World.cell?_of_block hbl]; exact XA.out.c_bv
            clear g1 g2 g3 hbl
            refine hK.out _ _ (⟨K6.out, K4.out⟩) (fun h4x => ?_)
            clear hK K
            try simp only [Act.put, lay_out]
            refine wpAnyH_take (i := 18) (v := .pointer (some ⟨b, 0, none⟩)) rfl (by kernel_rfl) (by kernel_rfl) (by kernel_rfl) (fun _ _ _ h => h) (.inl ⟨by rfl, fun w hw => by clear hw; go_simp⟩) h4x ?_
            try simp only [Act.put, lay_out]
            refine wpAnyH_take (i := 19) (v := .pointer (some ⟨b, 9, none⟩)) rfl (by kernel_rfl) (by kernel_rfl) (by kernel_rfl) (fun _ _ _ h => h) (.inl ⟨by rfl, fun w hw => by clear hw; go_simp⟩) h4x ?_
            try simp only [Act.put, lay_out]
            refine wpAnyH_ready (rs := [20]) (by kernel_rfl) (by simp) (AllReadyH.cons rfl (fun K hK => ?_) AllReadyH.nil)
            rw [if_pos (by rfl)]
            go_simp
            refine hK.out _ _ (⟨Dm.c_kind (S := { S with M := S.M + 1, g := updS S.g S.M ⟨S.kind, (S.fr : Int), (S.len : Int)⟩ }) XG.out.1, Dm.c_fr (S := { S with M := S.M + 1, g := updS S.g S.M ⟨S.kind, (S.fr : Int), (S.len : Int)⟩ }) XG.out.1⟩) (fun h5x => ?_)
            clear hK K
            try simp only [Act.put, lay_out]
            refine wpAnyH_done (by kernel_rfl) ?_ _
            refine NoPanic.normal ?_
            clear h0 h1x h2x h3x h4x h5x
            try simp only [Act.put, lay_out]
            go_wp2
            have HT0 := ((Tch.of_below (F := Ft b ov bv vv) HB0.out).trans (Tch.of_below (F := Ft b ov bv vv) HBX1.out) (fun _ _ f => f)).trans (Tch.of_below (F := Ft b ov bv vv) ((Below.refl w2.heap.size w2).alloc (Nat.le_refl _) (.cells #[.int .i64 S.kind, .int .i64 (S.fr : Int), .int .i64 (S.len : Int)] 78))) (fun _ _ f => f)
            exact bodyPost_end (results_none rfl _ _ _) rfl ⟨rfl, _, _, _, _, Dm.cellSet (S := { S with M := S.M + 1, g := updS S.g S.M ⟨S.kind, (S.fr : Int), (S.len : Int)⟩ }) XG.out.1 (S' := { S with M := S.M + 1, g := updS S.g S.M ⟨S.kind, (S.fr : Int), (S.len : Int)⟩, kind := 0 }) 6 (.int .i64 0) rfl rfl rfl rfl rfl rfl rfl rfl rfl, (HT0.trans XG.out.2.1 (fun _ _ f => f)).trans (tch_set b 6 _ _) (fun _ _ f => f), fun k hk => (XG.out.2.2 k hk).imp id (fun hk => Nat.le_trans HT0.size hk)⟩
      · have e : S.endS = { S with kind := 0 } := by unfold Ms.endS; rw [if_neg (by omega), if_neg hk, if_neg hl]
        rw [e]
        have q2 : decide ((S.fr : Int) < (S.len : Int)) = false := decide_eq_false (by omega)
        have c4 := h.c_fr
        have XN := hid (fun n => h.drewN n)
        have hl' : ¬ S.fr < S.len := hl
        clear h e hk hb
        go_enter Try.func38, Try.ntmps38
        go_wp2_with fail
        go_quiet ((go_at_call 31; exact Calls.quiet_of (HQ.out _)))
        go_wp2
        exact bodyPost_end (results_none rfl _ _ _) rfl ⟨rfl, _, _, _, _, (XN.out nq).cellSet (S' := { S with kind := 0 }) 6 (.int .i64 0) rfl rfl rfl rfl rfl rfl rfl rfl rfl, (Tch.of_below (F := Ft b ov bv vv) (below_drewN w nq)).trans (tch_set b 6 _ _) (fun _ _ f => f), fun k hk => .inl hk⟩
  · have e : S.endS = S := by unfold Ms.endS; rw [if_pos he]
    rw [e]
    have q1 : ((S.e : Int) != 0) = true := by simp; omega
    clear h e he
    go_enter Try.func38, Try.ntmps38
    go_wp2
    exact bodyPost_ret (results_none rfl _ _ _) rfl ⟨rfl, _, _, _, _, HD.out, Tch.refl _ _, fun k hk => .inl hk⟩
end Go.Proofs.Ytflfnaiklnbaiaa

/- Wire: the document's machine: a mask is drawn. -/
namespace Go.Proofs.Ytflfnaiklnbaiaa
open Go.RowKit
set_option maxRecDepth 100000
theorem wdL_cons (v : Nat → Nat) (n : Nat) : wdL v (n + 1) = (v 0 : Int) :: wdL (fun i => v (i + 1)) n := by
  unfold wdL; rw [List.range_succ_eq_map, List.map_cons, List.map_map]; rfl
/-- What is left of a slice without its first. -/
theorem rds_tail {k : IntKind} {w : World} {F : Nat → Prop} {g off cap : Nat} {z : Int} {zs : List Int} (h : RdS k w F (.slice (some ⟨g, off, none⟩) (zs.length + 1) cap) (z :: zs)) (b : Option Addr) (hb : 0 < zs.length → b = some ⟨g, off + 1, none⟩) :
    RdS k w F (.slice b zs.length (cap - 1)) zs := by
  obtain ⟨a, c, h1, h2, h3, h4, h5, h7⟩ := h
  injection h1 with e1 e2 e3
  subst e3
  simp only [List.length_cons] at h2 h4
  refine ⟨b, cap - 1, rfl, by omega, by omega, by rw [Nat.add_mul] at h4; omega, fun x hx => h5 x (List.mem_cons_of_mem _ hx), fun hp => ?_⟩
  obtain ⟨g', off', e, hS, hlt, hc⟩ := h7 (by simp)
  rw [← e1] at e
  injection e with e
  injection e with e4 e5 e6
  subst e4; subst e5
  refine ⟨g, off + 1, hb hp, hS, hlt, fun j hj => ?_⟩
  have := hc (j + 1) (by simp; omega)
  rw [show off + 1 + j = off + (j + 1) by omega, this]
  rfl
section
variable {lo : LoG} {b : Nat} {w : World} {S : Ms} {ov bv vv tv : Value}
theorem Dm.drawn (h : Dm lo w b S ov bv vv tv) {v' : Value} {f' u' : Int} (hr : RdS .u64 w (fun g => g ≠ b ∧ ov.ownBlock ≠ some g ∧ bv.ownBlock ≠ some g ∧ vv.ownBlock ≠ some g ∧ lo.G g) v' (wdL (fun i => S.tw (S.used + 1 + i)) (S.TN - (S.used + 1)))) (hf : f' = ((S.free - 1 : Nat) : Int)) (hu : u' = ((S.used + 1 : Nat) : Int)) :
    Dm lo (((w.setCell ⟨b, 11, none⟩ v').setCell ⟨b, 13, none⟩ (.int .i64 f')).setCell ⟨b, 12, none⟩ (.int .i64 u')) b { S with used := S.used + 1, free := S.free - 1 } ov bv vv v' ∧ Tch (Ft b ov bv vv) w (((w.setCell ⟨b, 11, none⟩ v').setCell ⟨b, 13, none⟩ (.int .i64 f')).setCell ⟨b, 12, none⟩ (.int .i64 u')) := by
  subst hf; subst hu
  have ho : ∀ k, k ≠ b → (((w.setCell ⟨b, 11, none⟩ v').setCell ⟨b, 13, none⟩ (.int .i64 ((S.free - 1 : Nat) : Int))).setCell ⟨b, 12, none⟩ (.int .i64 ((S.used + 1 : Nat) : Int))).heap[k]? = w.heap[k]? := fun k hk => by
    rw [heap_setCell_other _ ⟨b, 12, none⟩ k _ hk, heap_setCell_other _ ⟨b, 13, none⟩ k _ hk, heap_setCell_other _ ⟨b, 11, none⟩ k _ hk]
  refine ⟨⟨?_, h.lob, ?_, ?_, ?_, h.hob, h.hbb, h.hvb, h.hobv, h.hov, h.hbv, ?_⟩, ?_⟩
  · rw [heap_setCell_same _ b 12 _ 53 _ (heap_setCell_same _ b 13 _ 53 _ (heap_setCell_same w b 11 _ 53 v' h.blk))]; rfl
  · exact h.ops.stays fun k hk => ho k (fun e => h.hob (by subst e; exact hk))
  · exact h.bls.stays fun k hk => ho k (fun e => h.hbb (by subst e; exact hk))
  · exact h.val.stays fun k hk => ho k (fun e => h.hvb (by subst e; exact hk))
  · exact rds_stays hr (by simp [World.setCell]) fun g hg _ => ho g hg.1
  · exact ((tch_set b 11 _ _).trans (tch_set b 13 _ _) (fun _ _ f => f)).trans (tch_set b 12 _ _) (fun _ _ f => f)
end
theorem ddraw_no (lo : LoG) (b : Nat) (S : Ms) (ov bv vv tv : Value) (w : World) (h : Dm lo w b S ov bv vv tv) (hn : S.free < 1 ∨ S.TN ≤ S.used) :
    Calls Try.prog 33 #[.pointer (some ⟨b, 11, none⟩)] w fun r w' => r = .returned (.tuple #[.int .u64 0, .bool false]) ∧ w' = w := by
  have c11 := h.c_tv
  have c12 := h.c_used
  have c13 := h.c_free
  obtain ⟨a, cap, rfl, _⟩ := h.tap
  rw [wdL_len] at c11
  clear h
  by_cases hf : S.free < 1
  · have q1 : decide ((S.free : Int) < 1) = true := decide_eq_true (by omega)
    clear hf hn
    generalize S.free = f at *
    generalize S.TN - S.used = n at *
    go_enter Try.func33, Try.ntmps33
    go_wp2
    go_ret2
    exact ⟨rfl, rfl⟩
  · have q1 : decide ((S.free : Int) < 1) = false := decide_eq_false (by omega)
    have q2 : S.TN - S.used = 0 := by omega
    rw [q2] at c11
    clear hf hn q2
    generalize S.free = f at *
    go_enter Try.func33, Try.ntmps33
    go_wp2
    go_ret2
    exact ⟨rfl, rfl⟩
set_option maxHeartbeats 800000 in
theorem ddraw_yes (lo : LoG) (b : Nat) (S : Ms) (ov bv vv tv : Value) (w : World) (h : Dm lo w b S ov bv vv tv) (hb : Bd S) (hf : ¬ S.free < 1) (hu : ¬ S.TN ≤ S.used) :
    Calls Try.prog 33 #[.pointer (some ⟨b, 11, none⟩)] w fun r w' => r = .returned (.tuple #[.int .u64 (S.tw S.used : Nat), .bool true]) ∧ ∃ tv', Dm lo w' b { S with used := S.used + 1, free := S.free - 1 } ov bv vv tv' ∧ Tch (Ft b ov bv vv) w w' := by
  have c11 := h.c_tv
  have c12 := h.c_used
  have c13 := h.c_free
  have f11 := h.fz 11
  have f12 := h.fz 12
  have f13 := h.fz 13
  have b1 := hb.used
  have b2 := hb.free
  have b3 := hb.TN
  have HR := h.tap
  have e0 : S.TN - S.used = (S.TN - (S.used + 1)) + 1 := by omega
  rw [e0, wdL_cons] at HR
  have e1 : (fun i => (fun i => S.tw (S.used + i)) (i + 1)) = fun i => S.tw (S.used + 1 + i) := funext fun i => congrArg S.tw (by omega)
  rw [e1] at HR
  have HD := hid (fun v' f' u' => h.drawn (v' := v') (f' := f') (u' := u'))
  clear h hb e0 e1
  have HRR := hid HR
  obtain ⟨a, cap, rfl, hcap1, hcap2, _, _, hr0⟩ := HR
  obtain ⟨g, off, rfl, hg0, hg, hrc⟩ := hr0 (by simp)
  have hrd : w.cell? ⟨g, off, none⟩ = some (.int .u64 (S.tw S.used : Nat)) := by simpa [nth] using hrc 0 (by simp)
  simp only [List.length_cons, wdL_len] at hcap1 c11 HRR
  unfold maxLen at hcap2
  clear hrc hr0
  have q1 : decide ((S.free : Int) < 1) = false := decide_eq_false (by omega)
  have e0 : (((S.TN - (S.used + 1) : Nat) : Int) + 1 == 0) = false := by simp; omega
  have en : (wdL (fun i => S.tw (S.used + 1 + i)) (S.TN - (S.used + 1))).length = S.TN - (S.used + 1) := wdL_len _ _
  have HF := hid (show ((S.free : Int) - 1 = ((S.free - 1 : Nat) : Int)) by omega)
  have HU := hid (show ((S.used : Int) + 1 = ((S.used + 1 : Nat) : Int)) by omega)
  by_cases hc : cap = 1
  · have HT := hid (fun b => rds_tail (zs := wdL (fun i => S.tw (S.used + 1 + i)) (S.TN - (S.used + 1))) (by rw [en]; exact HRR.out) b (by omega))
    rw [en] at HT
    subst hc
    have hz0 : S.TN - (S.used + 1) = 0 := by omega
    have HZ := hid hz0
    simp only [hz0] at c11 HRR
    clear e0 en
    go_enter Try.func33, Try.ntmps33
    go_wp2
    go_ret2
    exact ⟨rfl, _, HD.out _ _ _ (by have h1 := HT.out (some ⟨g, off, none⟩); have hz := HZ.out; rw [hz] at h1 ⊢; exact h1) HF.out HU.out⟩
  · have HT := hid (rds_tail (zs := wdL (fun i => S.tw (S.used + 1 + i)) (S.TN - (S.used + 1))) (by rw [en]; exact HRR.out) (some ⟨g, off + 1, none⟩) (fun _ => rfl))
    rw [en] at HT
    clear en
    go_enter Try.func33, Try.ntmps33
    go_wp2
    go_ret2
    exact ⟨rfl, _, HD.out _ _ _ HT.out HF.out HU.out⟩
end Go.Proofs.Ytflfnaiklnbaiaa

/- Op: whether it may stand at a place, by the document. -/
namespace Go.Proofs.Ytflfnaiklnbaiaa
open Go.RowKit
set_option maxRecDepth 100000

theorem okC_int (K : Int) (C : Nat) : okC K C = (if K = 9 ∨ K = 10 ∨ K = 11 then decide ((C : Int) < 64) else if K = 2 then decide ((C : Int) < 1048576) else if K = 3 ∨ K = 4 ∨ K = 8 then true else decide ((C : Int) = 0)) := by
  unfold okC
  rw [decide_eq_decide.2 (by omega : C < 64 ↔ (C : Int) < 64), decide_eq_decide.2 (by omega : C < 1048576 ↔ (C : Int) < 1048576), decide_eq_decide.2 (by omega : C = 0 ↔ (C : Int) = 0)]
set_option maxHeartbeats 12800000 in
theorem refopright_tail (o : Op6) (at_ n : Int) (w : World) (h : (n = 2 ∨ n = 3) ∧ 1 ≤ o.K ∧ o.K ≤ 12 ∧ -1 ≤ o.D ∧ o.D < n ∧ (o.K = 12 → o.D = -1)) :
    Calls Try.prog 30 #[.agg #[.int .i64 o.K, .int .i64 o.D, .int .i64 o.A, .int .i64 o.B, .int .i64 o.E, .int .u64 (o.C : Int)], .int .i64 at_, .int .i64 n] w fun e w' => e = .returned (.bool (allB (rgB o at_ n) 3 && okC o.K o.C)) ∧ Below w.heap.size w w' := by
  have HB : Hid (Below w.heap.size w (w.alloc (.cells #[.int .i64 o.K, .int .i64 o.D, .int .i64 o.A, .int .i64 o.B, .int .i64 o.E, .int .u64 (o.C : Int)] 43))) := hid ((Below.refl _ _).alloc (Nat.le_refl _) _)
  have HOc := hid (fun w' => oc_box (w := w) (w' := w') o)
  have HRg := hid (fun w => refregs_any o.K n w)
  have hrb : ∀ j, rgB o at_ n j = if (j : Int) < rgN o.K n then decide (0 ≤ rgL o j ∧ rgL o j < at_) else decide (rgL o j = -1) := fun j => rfl
  have HRb := hid hrb
  have HAl := hid (fun j (hj : j < 3) (h : rgB o at_ n j = false) => allB_no hj h)
  have HRL := hid (fun (w : World) (m : Nat) (h : w.heap[m]? = some (.cells #[.int .i64 o.A, .int .i64 o.B, .int .i64 o.E] 37 (0, 0))) => rgL_cell h)
  have HOK := hid (rfl : okC o.K o.C = okC o.K o.C)
  obtain ⟨R, hR⟩ : ∃ R, rgN o.K n = R := ⟨_, rfl⟩
  rw [hR] at HRg HRb
  generalize rgB o at_ n = rb at *
  clear hrb hR
  obtain ⟨h1, h2, h3, h4, h5, h6⟩ := h
  have g0 : ((n != 2) && (n != 3)) = false := by rcases h1 with rfl | rfl <;> rfl
  obtain ⟨rl, hrl⟩ : ∃ rl, rgL o = rl := ⟨_, rfl⟩
  rw [hrl] at HRb HRL
  clear hrl
  obtain ⟨K, D, A, B, E, C⟩ := o
  simp only at *
  obtain ⟨w1, hw1⟩ : ∃ w1, w.alloc (.cells #[.int .i64 K, .int .i64 D, .int .i64 A, .int .i64 B, .int .i64 E, .int .u64 (C : Int)] 43) = w1 := ⟨_, rfl⟩
  rw [hw1] at HB HOc
  have HW1 := hid hw1
  clear hw1
  have HAb : Hid ((w1.alloc (.cells #[.int .i64 A, .int .i64 B, .int .i64 E] 37)).heap[w1.heap.size]? = some (.cells #[.int .i64 A, .int .i64 B, .int .i64 E] 37 (0, 0))) := hid (heap_alloc_new w1 _)
  have HB2 : Hid (Below w1.heap.size w1 (w1.alloc (.cells #[.int .i64 A, .int .i64 B, .int .i64 E] 37))) := hid ((Below.refl _ _).alloc (Nat.le_refl _) _)
  have HD : Hid (K = 12 → D = -1) := hid h6
  clear h6
  have hs1 : w1.heap.size = w.heap.size + 1 := by rw [← HW1.out]; simp
  have HL2 := hid (HRL.out _ _ HAb.out)
  rw [hs1] at HL2
  clear hs1
  have HO2 := hid (HOc.out _ HB2.out)
  have HB02 := hid (HB.out.trans (HB2.out.mono HB.out.size))
  have HW2 : Hid (∃ w2, w1.alloc (.cells #[.int .i64 A, .int .i64 B, .int .i64 E] 37) = w2) := hid ⟨_, rfl⟩
  rcases (Classical.em (K = 12)) with h12 | h12
  · have hd := HD.out h12
    subst h12 hd
    clear HD
    rcases h1 with rfl | rfl
    all_goals
      go_enter Try.func30, Try.ntmps30
      go_wp2
      rw [HW1.out]
      have hk := HO2.out.k
      have hc := HO2.out.c
      simp only [Nat.zero_add] at hc
      generalize w1.alloc (.cells #[.int .i64 A, .int .i64 B, .int .i64 E] 37) = w2 at *
      clear HRL HOc HAb
      have HC2 := hid (HRg.out w2)
      go_loop [8] (fun i => ∃ j : Nat, j ≤ 3 ∧ i = .int .i64 j ∧ allB rb j = true) (fun i => 3 - (intOf i).toNat)
      case atStart => exact ⟨0, by omega, rfl, rfl⟩
      case round =>
        obtain ⟨j, hj, rfl, hall⟩ := hrel
        have HJ := hid hall
        clear hall
        by_cases hlt : j < 3
        · have hx := HL2.out j hlt
          have HX := hid (HRb.out j)
          have j1 : (0 : Int) ≤ (j : Int) := by omega
          have j2 : (j : Int) < 3 := by omega
          generalize rl j = x at *
          by_cases hR : (j : Int) < R
          · by_cases x1 : 0 ≤ x
            · by_cases x2 : x < at_
              · have He : Hid (allB rb (j + 1) = true) := hid (by show (allB rb j && rb j) = true; rw [HJ.out, HX.out, if_pos hR, decide_eq_true ⟨x1, x2⟩]; rfl)
                go_wp2_with (go_at_call 50; (with_reducible refine (HC2.out).mono ?_); rintro e w' ⟨rfl, rfl⟩)
                go_round
                case rel => exact ⟨j + 1, by omega, by go_num, He.out⟩
                case measure => simp [intOf]; omega
              · have He : Hid (rb j = false) := hid (by rw [HX.out, if_pos hR, decide_eq_false (fun h => x2 h.2)])
                go_wp2_with (go_at_call 50; (with_reducible refine (HC2.out).mono ?_); rintro e w' ⟨rfl, rfl⟩)
                go_ret
                exact ⟨by rw [HAl.out j hlt He.out]; rfl, HB02.out⟩
            · have He : Hid (rb j = false) := hid (by rw [HX.out, if_pos hR, decide_eq_false (fun h => x1 h.1)])
              go_wp2_with (go_at_call 50; (with_reducible refine (HC2.out).mono ?_); rintro e w' ⟨rfl, rfl⟩)
              go_ret
              exact ⟨by rw [HAl.out j hlt He.out]; rfl, HB02.out⟩
          · by_cases x1 : x = -1
            · have He : Hid (allB rb (j + 1) = true) := hid (by show (allB rb j && rb j) = true; rw [HJ.out, HX.out, if_neg hR, decide_eq_true x1]; rfl)
              clear HX
              subst x1
              go_wp2_with (go_at_call 50; (with_reducible refine (HC2.out).mono ?_); rintro e w' ⟨rfl, rfl⟩)
              go_round
              case rel => exact ⟨j + 1, by omega, by go_num, He.out⟩
              case measure => simp [intOf]; omega
            · have He : Hid (rb j = false) := hid (by rw [HX.out, if_neg hR, decide_eq_false x1])
              have x2 : (x != -1) = true := by simpa using x1
              go_wp2_with (go_at_call 50; (with_reducible refine (HC2.out).mono ?_); rintro e w' ⟨rfl, rfl⟩)
              go_ret
              exact ⟨by rw [HAl.out j hlt He.out]; rfl, HB02.out⟩
        · obtain rfl : j = 3 := by omega
          have HF : Hid (okC 12 C = decide ((C : Int) = 0)) := hid (by simp [okC])
          go_wp2
          go_ret
          exact ⟨by rw [HJ.out, HF.out]; rfl, HB02.out⟩
  · clear HD
    rcases h1 with rfl | rfl
    all_goals
      go_enter Try.func30, Try.ntmps30
      go_wp2
      rw [HW1.out]
      have hk := HO2.out.k
      have hc := HO2.out.c
      simp only [Nat.zero_add] at hc
      generalize w1.alloc (.cells #[.int .i64 A, .int .i64 B, .int .i64 E] 37) = w2 at *
      clear HRL HOc HAb
      have HC2 := hid (HRg.out w2)
      go_loop [8] (fun i => ∃ j : Nat, j ≤ 3 ∧ i = .int .i64 j ∧ allB rb j = true) (fun i => 3 - (intOf i).toNat)
      case atStart => exact ⟨0, by omega, rfl, rfl⟩
      case round =>
        obtain ⟨j, hj, rfl, hall⟩ := hrel
        have HJ := hid hall
        clear hall
        by_cases hlt : j < 3
        · have hx := HL2.out j hlt
          have HX := hid (HRb.out j)
          have j1 : (0 : Int) ≤ (j : Int) := by omega
          have j2 : (j : Int) < 3 := by omega
          generalize rl j = x at *
          by_cases hR : (j : Int) < R
          · by_cases x1 : 0 ≤ x
            · by_cases x2 : x < at_
              · have He : Hid (allB rb (j + 1) = true) := hid (by show (allB rb j && rb j) = true; rw [HJ.out, HX.out, if_pos hR, decide_eq_true ⟨x1, x2⟩]; rfl)
                go_wp2_with (go_at_call 50; (with_reducible refine (HC2.out).mono ?_); rintro e w' ⟨rfl, rfl⟩)
                go_round
                case rel => exact ⟨j + 1, by omega, by go_num, He.out⟩
                case measure => simp [intOf]; omega
              · have He : Hid (rb j = false) := hid (by rw [HX.out, if_pos hR, decide_eq_false (fun h => x2 h.2)])
                go_wp2_with (go_at_call 50; (with_reducible refine (HC2.out).mono ?_); rintro e w' ⟨rfl, rfl⟩)
                go_ret
                exact ⟨by rw [HAl.out j hlt He.out]; rfl, HB02.out⟩
            · have He : Hid (rb j = false) := hid (by rw [HX.out, if_pos hR, decide_eq_false (fun h => x1 h.1)])
              go_wp2_with (go_at_call 50; (with_reducible refine (HC2.out).mono ?_); rintro e w' ⟨rfl, rfl⟩)
              go_ret
              exact ⟨by rw [HAl.out j hlt He.out]; rfl, HB02.out⟩
          · by_cases x1 : x = -1
            · have He : Hid (allB rb (j + 1) = true) := hid (by show (allB rb j && rb j) = true; rw [HJ.out, HX.out, if_neg hR, decide_eq_true x1]; rfl)
              clear HX
              subst x1
              go_wp2_with (go_at_call 50; (with_reducible refine (HC2.out).mono ?_); rintro e w' ⟨rfl, rfl⟩)
              go_round
              case rel => exact ⟨j + 1, by omega, by go_num, He.out⟩
              case measure => simp [intOf]; omega
            · have He : Hid (rb j = false) := hid (by rw [HX.out, if_neg hR, decide_eq_false x1])
              have x2 : (x != -1) = true := by simpa using x1
              go_wp2_with (go_at_call 50; (with_reducible refine (HC2.out).mono ?_); rintro e w' ⟨rfl, rfl⟩)
              go_ret
              exact ⟨by rw [HAl.out j hlt He.out]; rfl, HB02.out⟩
        · obtain rfl : j = 3 := by omega
          have hK : K = 1 ∨ K = 2 ∨ K = 3 ∨ K = 4 ∨ K = 5 ∨ K = 6 ∨ K = 7 ∨ K = 8 ∨ K = 9 ∨ K = 10 ∨ K = 11 := by omega
          clear h2 h3 h12
          rcases hK with rfl | rfl | rfl | rfl | rfl | rfl | rfl | rfl | rfl | rfl | rfl
          all_goals
            go_wp2
            go_ret
            exact ⟨by rw [HJ.out, okC_int]; first | (simp; done) | rfl, HB02.out⟩
theorem refopright_any (o : Op6) (at_ n : Int) (w : World) :
    Calls Try.prog 30 #[.agg #[.int .i64 o.K, .int .i64 o.D, .int .i64 o.A, .int .i64 o.B, .int .i64 o.E, .int .u64 (o.C : Int)], .int .i64 at_, .int .i64 n] w fun e w' => e = .returned (.bool (okOp o at_ n)) ∧ Below w.heap.size w w' := by
  by_cases h : (n = 2 ∨ n = 3) ∧ 1 ≤ o.K ∧ o.K ≤ 12 ∧ -1 ≤ o.D ∧ o.D < n ∧ (o.K = 12 → o.D = -1)
  · rw [okH_yes h]; exact refopright_tail o at_ n w h
  · rw [okH_no h]; exact refopright_head o at_ n w h
end Go.Proofs.Ytflfnaiklnbaiaa
