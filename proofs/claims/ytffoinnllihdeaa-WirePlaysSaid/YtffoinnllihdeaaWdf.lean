import Derived.Test.YtffoinnllihdeaaProg
import Derived.Test.YtffoinnllihdeaaWdc
/- Wire: the document's machine: a block ends. -/
namespace Go.Proofs.Ytffoinnllihdeaa
open Go.RowKit
set_option maxRecDepth 100000
theorem infoSp : (Try.prog.info? 70).map (fun i => (i.zero, i.size, i.bytes)) = some (some (.agg #[.int .i64 0, .int .i64 0, .int .i64 0]), 3, 24) := by kernel_rfl
theorem dlen_quiet (lo : LoG) (b : Nat) (S : Ms) (ov bv vv tv : Value) (w : World) (h : Dm lo w b S ov bv vv tv) (l1 : S.L ≤ 1000000) (l2 : S.skip ≤ 1000000) :
    Calls Try.prog 12 #[.pointer (some ⟨b, 0, none⟩)] w fun e w' => e = .returned (.int .i64 (S.len : Nat)) ∧ ∃ n, w' = w.drewN n := by
  obtain ⟨a, cap, rfl⟩ := h.opsv
  have c5 := h.drew.c_skip
  have c8 := h.drew.c_ov
  have hw : IntKind.i64.wrap ((S.skip : Int) + (S.L : Int)) = ((S.len : Nat) : Int) := by unfold Ms.len; rw [IntKind.wrap_i64]; omega
  clear h l1 l2
  generalize S.len = n at *
  go_enter Try.func12, Try.ntmps12
  go_wp2_with fail
  go_region
  go_wp2
  go_ret
  exact ⟨rfl, 1, rfl⟩
theorem Dm.drewN {lo : LoG} {b : Nat} {w : World} {S : Ms} {ov bv vv tv : Value} (h : Dm lo w b S ov bv vv tv) (n : Nat) : Dm lo (w.drewN n) b S ov bv vv tv := h.self (below_drewN w n)
set_option maxHeartbeats 1600000 in
theorem dend_any (lo : LoG) (b : Nat) (S : Ms) (ov bv vv tv : Value) (w : World) (h : Dm lo w b S ov bv vv tv) (hb : Bd S) :
    Calls Try.prog 40 #[.pointer (some ⟨b, 0, none⟩)] w fun e w' => e = .returned (.tuple #[]) ∧ DmR lo b ov bv vv S.endS w w' := by
  have c7 := h.c_e
  have c6 := h.c_kind
  have f6 := h.fz 6
  have f7 := h.fz 7
  have HD := hid h
  have HBD := hid hb
  by_cases he : S.e = 0
  · rw [he] at c7
    by_cases hk : S.kind = 0
    · have e : S.endS = { S with e := 1 } := by unfold Ms.endS; rw [if_neg (by omega), if_pos hk]
      rw [e]
      have q1 : (S.kind == 0) = true := by simp [hk]
      have HN := hid (h.cellSet (S' := { S with e := 1 }) 7 (.int .i64 1) rfl rfl rfl rfl rfl rfl rfl rfl rfl)
      have HT := hid (tch_set (ov := ov) (bv := bv) (vv := vv) b 7 (.int .i64 1) w)
      clear h e hk
      go_enter Try.func40, Try.ntmps40
      go_wp2
      exact bodyPost_ret (results_none rfl _ _ _) rfl ⟨rfl, _, _, _, _, HN.out, HT.out, fun k hk => .inl hk⟩
    · have q1 : (S.kind == 0) = false := by simp [hk]
      have HLQ := hid (fun w1 (h1 : Dm lo w1 b S ov bv vv tv) => dlen_any lo b S ov bv vv tv w1 h1 hb)
      have HQ := hid (fun n => dlen_quiet lo b S ov bv vv tv _ (h.drewN n) (by have := hb.L; omega) (by have := hb.skip; omega))
      by_cases hl : S.fr < S.len
      · have e : S.endS = { S with M := S.M + 1, g := updS S.g S.M ⟨S.kind, (S.fr : Int), (S.len : Int)⟩, kind := 0 } := by unfold Ms.endS; rw [if_neg (by omega), if_neg hk, if_pos hl]
        rw [e]
        have q2 : decide ((S.fr : Int) < (S.len : Int)) = true := decide_eq_true (by omega)
        have XN := hid (fun n => h.drewN n)
        have c4 := h.c_fr
        clear h e hk hb
        go_enter Try.func40, Try.ntmps40
        go_wp2_with fail
        go_quiet ((go_at_call 12; exact Calls.quiet_of (HQ.out _)))
        go_wp2_with fail
        have X0 := hid ((XN.out nq).drew)
        have HB0 := hid ((below_drewN w nq).drew)
        refine wp_region_noPanic ?_
        refine wp_region_held_drew (S := fun w' => w'.cell? ⟨b, 6, none⟩ = some (Value.int .i64 S.kind) ∧ w'.cell? ⟨b, 4, none⟩ = some (Value.int .i64 (S.fr : Int))) (by kernel_rfl) (⟨X0.out.c_kind, X0.out.c_fr⟩) (fun h0 => ?_)
        generalize (w.drewN nq).drew = w1 at *
        refine wpAnyH_take (i := 0) (v := .pointer (some ⟨b, 0, none⟩)) rfl (by kernel_rfl) (by kernel_rfl) (by kernel_rfl) (fun _ _ _ h => h) (.inl ⟨by rfl, fun w hw => by clear hw; go_simp⟩) h0 ?_
        try simp only [Act.put, lay_out]
        refine wpAnyH_take (i := 1) (v := .pointer (some ⟨b, 0, none⟩)) rfl (by kernel_rfl) (by kernel_rfl) (by kernel_rfl) (fun _ _ _ h => h) (.inl ⟨by rfl, fun w hw => by clear hw; go_simp⟩) h0 ?_
        try simp only [Act.put, lay_out]
        refine wpAnyH_take (i := 2) (v := .pointer (some ⟨b, 0, none⟩)) rfl (by kernel_rfl) (by kernel_rfl) (by kernel_rfl) (fun _ _ _ h => h) (.inl ⟨by rfl, fun w hw => by clear hw; go_simp⟩) h0 ?_
        try simp only [Act.put, lay_out]
        refine wpAnyH_take (i := 3) (v := .pointer (some ⟨b, 9, none⟩)) rfl (by kernel_rfl) (by kernel_rfl) (by kernel_rfl) (fun _ _ _ h => h) (.inl ⟨by rfl, fun w hw => by clear hw; go_simp⟩) h0 ?_
        try simp only [Act.put, lay_out]
        refine wpAnyH_take (i := 5) (v := .pointer (some ⟨b, 0, none⟩)) rfl (by kernel_rfl) (by kernel_rfl) (by kernel_rfl) (fun _ _ _ h => h) (.inl ⟨by rfl, fun w hw => by clear hw; go_simp⟩) h0 ?_
        try simp only [Act.put, lay_out]
        refine wpAnyH_take (i := 6) (v := .pointer (some ⟨b, 0, none⟩)) rfl (by kernel_rfl) (by kernel_rfl) (by kernel_rfl) (fun _ _ _ h => h) (.inl ⟨by rfl, fun w hw => by clear hw; go_simp⟩) h0 ?_
        try simp only [Act.put, lay_out]
        refine wpAnyH_take (i := 7) (v := .pointer (some ⟨b, 6, none⟩)) rfl (by kernel_rfl) (by kernel_rfl) (by kernel_rfl) (fun _ _ _ h => h) (.inl ⟨by rfl, fun w hw => by clear hw; go_simp⟩) h0 ?_
        try simp only [Act.put, lay_out]
        refine wpAnyH_take (i := 8) (v := .int .i64 S.kind) rfl (by kernel_rfl) (by kernel_rfl) (by kernel_rfl) (fun _ _ _ h => h) (.inl ⟨by rfl, fun w hw => by go_simp⟩) h0 ?_
        try simp only [Act.put, lay_out]
        refine wpAnyH_take (i := 9) (v := .pointer (some ⟨b, 0, none⟩)) rfl (by kernel_rfl) (by kernel_rfl) (by kernel_rfl) (fun _ _ _ h => h) (.inl ⟨by rfl, fun w hw => by clear hw; go_simp⟩) h0 ?_
        try simp only [Act.put, lay_out]
        refine wpAnyH_take (i := 10) (v := .pointer (some ⟨b, 0, none⟩)) rfl (by kernel_rfl) (by kernel_rfl) (by kernel_rfl) (fun _ _ _ h => h) (.inl ⟨by rfl, fun w hw => by clear hw; go_simp⟩) h0 ?_
        try simp only [Act.put, lay_out]
        refine wpAnyH_take (i := 11) (v := .pointer (some ⟨b, 4, none⟩)) rfl (by kernel_rfl) (by kernel_rfl) (by kernel_rfl) (fun _ _ _ h => h) (.inl ⟨by rfl, fun w hw => by clear hw; go_simp⟩) h0 ?_
        try simp only [Act.put, lay_out]
        refine wpAnyH_take (i := 12) (v := .int .i64 (S.fr : Int)) rfl (by kernel_rfl) (by kernel_rfl) (by kernel_rfl) (fun _ _ _ h => h) (.inl ⟨by rfl, fun w hw => by go_simp⟩) h0 ?_
        try simp only [Act.put, lay_out]
        refine wpAnyH_take (i := 13) (v := .pointer (some ⟨b, 0, none⟩)) rfl (by kernel_rfl) (by kernel_rfl) (by kernel_rfl) (fun _ _ _ h => h) (.inl ⟨by rfl, fun w hw => by clear hw; go_simp⟩) h0 ?_
        try simp only [Act.put, lay_out]
        refine wpAnyH_ready (rs := [4, 14]) (by kernel_rfl) (by simp) (AllReadyH.cons rfl (fun K hK => ?_) (AllReadyH.cons rfl (fun K hK => ?_) AllReadyH.nil))
        · have c9 := X0.out.c_bv
          rw [if_pos (by rfl)]
          go_simp
          clear c9
          refine hK.out _ _ (⟨X0.out.c_kind, X0.out.c_fr⟩) (fun h1x => ?_)
          clear hK K
          try simp only [Act.put, lay_out]
          refine wpAnyH_ready (rs := [14]) (by kernel_rfl) (by simp) (AllReadyH.cons rfl (fun K hK => ?_) AllReadyH.nil)
          rw [if_pos (by rfl)]
          go_simp
          go_at_call 12
          (with_reducible refine (HLQ.out _ X0.out).mono ?_); rintro e w2 ⟨rfl, hb1⟩
          have X1 := hid (X0.out.self hb1)
          have HBX1 := hid hb1
          clear hb1
          refine hK.out _ _ (⟨X1.out.c_kind, X1.out.c_fr⟩) (fun h2x => ?_)
          clear hK K
          try simp only [Act.put, lay_out]
          refine wpAnyH_take (i := 15) (v := .agg #[.int .i64 S.kind, .int .i64 (S.fr : Int), .int .i64 (S.len : Int)]) rfl (by kernel_rfl) (by kernel_rfl) (by kernel_rfl) (fun _ _ _ h => h) (.inl ⟨by rfl, fun w hw => by clear hw; go_simp⟩) h2x ?_
          try simp only [Act.put, lay_out]
          refine wpAnyH_ready (rs := [16]) (by kernel_rfl) (by simp) (AllReadyH.cons rfl (fun K hK => ?_) AllReadyH.nil)
          rw [if_pos (by rfl)]
          go_simp
          have XA := hid (X1.out.self ((Below.refl w2.heap.size w2).alloc (Nat.le_refl _) (.cells #[.int .i64 S.kind, .int .i64 (S.fr : Int), .int .i64 (S.len : Int)] 70)))
          refine hK.out _ _ (⟨XA.out.c_kind, XA.out.c_fr⟩) (fun h3x => ?_)
          clear hK K
          try simp only [Act.put, lay_out]
          refine wpAnyH_ready (rs := [17]) (by kernel_rfl) (by simp) (AllReadyH.cons rfl (fun K hK => ?_) AllReadyH.nil)
          rw [if_pos (by rfl)]
          refine wp_append_rec (.tmp 26) (.tmp 38) 38 rfl lo.lo 70 3 24 (.agg #[.int .i64 0, .int .i64 0, .int .i64 0]) Try.underlying38 infoSp (by rfl) (by decide) bv S.M (fun i => (spCs (updS S.g S.M ⟨S.kind, (S.fr : Int), (S.len : Int)⟩ i)).toList) rfl (XA.out.bls.ext fun i hi => by rw [updS_no _ _ (by omega)]) ⟨w2.heap.size, 0, none⟩ 1 rfl rfl (by intro u hu; simp at hu; rcases hu with rfl | rfl | rfl <;> rfl) ?_ (by have := HBD.out.M; unfold maxLen; omega) (by have := HBD.out.M; omega) (by have := XA.out.lt; have := XA.out.lob; omega) (fun g cap' w9 g1 g2 g3 => ?_)
          · rw [updS_at]; exact World.news_of_block (heap_alloc_new _ _)
          have XG := hid (XA.out.addBl g1 g2 g3)
          have hbl : w9.heap[b]? = _ := g2.block b XA.out.lt (fun e => XA.out.hbb e.symm)
          have f6 := frozen_of_row w9 b 6 _ _ (hbl.trans XA.out.blk)
          have f9 := frozen_of_row w9 b 9 _ _ (hbl.trans XA.out.blk)
          have c6 : w9.cell? ⟨b, 6, none⟩ = some (Value.int .i64 S.kind) := by rw [World.cell?_of_block hbl]; exact XA.out.c_kind
          have K6 := hid c6
          have K4 : Hid (w9.cell? ⟨b, 4, none⟩ = some (Value.int .i64 (S.fr : Int))) := hid (by rw [World.cell?_of_block hbl]; exact XA.out.c_fr)
          have c9 : w9.cell? ⟨b, 9, none⟩ = some bv := by rw [World.cell?_of_block hbl]; exact XA.out.c_bv
          clear g1 g2 g3 hbl
          refine hK.out _ _ (⟨K6.out, K4.out⟩) (fun h4x => ?_)
          clear hK K
          try simp only [Act.put, lay_out]
          refine wpAnyH_take (i := 18) (v := .pointer (some ⟨b, 0, none⟩)) rfl (by kernel_rfl) (by kernel_rfl) (by kernel_rfl) (fun _ _ _ h => h) (.inl ⟨by rfl, fun w hw => by clear hw; go_simp⟩) h4x ?_
          try simp only [Act.put, lay_out]
          refine wpAnyH_take (i := 19) (v := .pointer (some ⟨b, 9, none⟩)) rfl (by kernel_rfl) (by kernel_rfl) (by kernel_rfl) (fun _ _ _ h => h) (.inl ⟨by rfl, fun w hw => by clear hw; go_simp⟩) h4x ?_
          try simp only [Act.put, lay_out]
          refine wpAnyH_ready (rs := [20]) (by kernel_rfl) (by simp) (AllReadyH.cons rfl (fun K hK => ?_) AllReadyH.nil)
          rw [if_pos (by rfl)]
          go_simp
          refine hK.out _ _ (⟨Dm.c_kind (S := { S with M := S.M + 1, g := updS S.g S.M ⟨S.kind, (S.fr : Int), (S.len : Int)⟩ }) XG.out.1, Dm.c_fr (S := { S with M := S.M + 1, g := updS S.g S.M ⟨S.kind, (S.fr : Int), (S.len : Int)⟩ }) XG.out.1⟩) (fun h5x => ?_)
          clear hK K
          try simp only [Act.put, lay_out]
          refine wpAnyH_done (by kernel_rfl) ?_ _
          refine NoPanic.normal ?_
          clear h0 h1x h2x h3x h4x h5x
          try simp only [Act.put, lay_out]
          go_wp2
          have HT0 := ((Tch.of_below (F := Ft b ov bv vv) HB0.out).trans (Tch.of_below (F := Ft b ov bv vv) HBX1.out) (fun _ _ f => f)).trans (Tch.of_below (F := Ft b ov bv vv) ((Below.refl w2.heap.size w2).alloc (Nat.le_refl _) (.cells #[.int .i64 S.kind, .int .i64 (S.fr : Int), .int .i64 (S.len : Int)] 70))) (fun _ _ f => f)
          exact bodyPost_end (results_none rfl _ _ _) rfl ⟨rfl, _, _, _, _, Dm.cellSet (S := { S with M := S.M + 1, g := updS S.g S.M ⟨S.kind, (S.fr : Int), (S.len : Int)⟩ }) XG.out.1 (S' := { S with M := S.M + 1, g := updS S.g S.M ⟨S.kind, (S.fr : Int), (S.len : Int)⟩, kind := 0 }) 6 (.int .i64 0) rfl rfl rfl rfl rfl rfl rfl rfl rfl, (HT0.trans XG.out.2.1 (fun _ _ f => f)).trans (tch_set b 6 _ _) (fun _ _ f => f), fun k hk => (XG.out.2.2 k hk).imp id (fun hk => Nat.le_trans HT0.size hk)⟩
        · rw [if_pos (by rfl)]
          go_simp
          go_at_call 12
          (with_reducible refine (HLQ.out _ X0.out).mono ?_); rintro e w2 ⟨rfl, hb1⟩
          have X1 := hid (X0.out.self hb1)
          have HBX1 := hid hb1
          clear hb1
          refine hK.out _ _ (⟨X1.out.c_kind, X1.out.c_fr⟩) (fun h1x => ?_)
          clear hK K
          try simp only [Act.put, lay_out]
          refine wpAnyH_take (i := 15) (v := .agg #[.int .i64 S.kind, .int .i64 (S.fr : Int), .int .i64 (S.len : Int)]) rfl (by kernel_rfl) (by kernel_rfl) (by kernel_rfl) (fun _ _ _ h => h) (.inl ⟨by rfl, fun w hw => by clear hw; go_simp⟩) h1x ?_
          try simp only [Act.put, lay_out]
          refine wpAnyH_ready (rs := [4, 16]) (by kernel_rfl) (by simp) (AllReadyH.cons rfl (fun K hK => ?_) (AllReadyH.cons rfl (fun K hK => ?_) AllReadyH.nil))
          · have c9 := X1.out.c_bv
            rw [if_pos (by rfl)]
            go_simp
            clear c9
            refine hK.out _ _ (⟨X1.out.c_kind, X1.out.c_fr⟩) (fun h2x => ?_)
            clear hK K
            try simp only [Act.put, lay_out]
            refine wpAnyH_ready (rs := [16]) (by kernel_rfl) (by simp) (AllReadyH.cons rfl (fun K hK => ?_) AllReadyH.nil)
            rw [if_pos (by rfl)]
            go_simp
            have XA := hid (X1.out.self ((Below.refl w2.heap.size w2).alloc (Nat.le_refl _) (.cells #[.int .i64 S.kind, .int .i64 (S.fr : Int), .int .i64 (S.len : Int)] 70)))
            refine hK.out _ _ (⟨XA.out.c_kind, XA.out.c_fr⟩) (fun h3x => ?_)
            clear hK K
            try simp only [Act.put, lay_out]
            refine wpAnyH_ready (rs := [17]) (by kernel_rfl) (by simp) (AllReadyH.cons rfl (fun K hK => ?_) AllReadyH.nil)
            rw [if_pos (by rfl)]
            refine wp_append_rec (.tmp 26) (.tmp 38) 38 rfl lo.lo 70 3 24 (.agg #[.int .i64 0, .int .i64 0, .int .i64 0]) Try.underlying38 infoSp (by rfl) (by decide) bv S.M (fun i => (spCs (updS S.g S.M ⟨S.kind, (S.fr : Int), (S.len : Int)⟩ i)).toList) rfl (XA.out.bls.ext fun i hi => by rw [updS_no _ _ (by omega)]) ⟨w2.heap.size, 0, none⟩ 1 rfl rfl (by intro u hu; simp at hu; rcases hu with rfl | rfl | rfl <;> rfl) ?_ (by have := HBD.out.M; unfold maxLen; omega) (by have := HBD.out.M; omega) (by have := XA.out.lt; have := XA.out.lob; omega) (fun g cap' w9 g1 g2 g3 => ?_)
            · rw [updS_at]; exact World.news_of_block (heap_alloc_new _ _)
            have XG := hid (XA.out.addBl g1 g2 g3)
            have hbl : w9.heap[b]? = _ := g2.block b XA.out.lt (fun e => XA.out.hbb e.symm)
            have f6 := frozen_of_row w9 b 6 _ _ (hbl.trans XA.out.blk)
            have f9 := frozen_of_row w9 b 9 _ _ (hbl.trans XA.out.blk)
            have c6 : w9.cell? ⟨b, 6, none⟩ = some (Value.int .i64 S.kind) := by rw [World.cell?_of_block hbl]; exact XA.out.c_kind
            have K6 := hid c6
            have K4 : Hid (w9.cell? ⟨b, 4, none⟩ = some (Value.int .i64 (S.fr : Int))) := hid (by rw [World.cell?_of_block hbl]; exact XA.out.c_fr)
            have c9 : w9.cell? ⟨b, 9, none⟩ = some bv := by rw [World.cell?_of_block hbl]; exact XA.out.c_bv
            clear g1 g2 g3 hbl
            refine hK.out _ _ (⟨K6.out, K4.out⟩) (fun h4x => ?_)
            clear hK K
            try simp only [Act.put, lay_out]
            refine wpAnyH_take (i := 18) (v := .pointer (some ⟨b, 0, none⟩)) rfl (by kernel_rfl) (by kernel_rfl) (by kernel_rfl) (fun _ _ _ h => h) (.inl ⟨by rfl, fun w hw => by clear hw; go_simp⟩) h4x ?_
            try simp only [Act.put, lay_out]
            refine wpAnyH_take (i := 19) (v := .pointer (some ⟨b, 9, none⟩)) rfl (by kernel_rfl) (by kernel_rfl) (by kernel_rfl) (fun _ _ _ h => h) (.inl ⟨by rfl, fun w hw => by clear hw; go_simp⟩) h4x ?_
            try simp only [Act.put, lay_out]
            refine wpAnyH_ready (rs := [20]) (by kernel_rfl) (by simp) (AllReadyH.cons rfl (fun K hK => ?_) AllReadyH.nil)
            rw [if_pos (by rfl)]
            go_simp
            refine hK.out _ _ (⟨Dm.c_kind (S := { S with M := S.M + 1, g := updS S.g S.M ⟨S.kind, (S.fr : Int), (S.len : Int)⟩ }) XG.out.1, Dm.c_fr (S := { S with M := S.M + 1, g := updS S.g S.M ⟨S.kind, (S.fr : Int), (S.len : Int)⟩ }) XG.out.1⟩) (fun h5x => ?_)
            clear hK K
            try simp only [Act.put, lay_out]
            refine wpAnyH_done (by kernel_rfl) ?_ _
            refine NoPanic.normal ?_
            clear h0 h1x h2x h3x h4x h5x
            try simp only [Act.put, lay_out]
            go_wp2
            have HT0 := ((Tch.of_below (F := Ft b ov bv vv) HB0.out).trans (Tch.of_below (F := Ft b ov bv vv) HBX1.out) (fun _ _ f => f)).trans (Tch.of_below (F := Ft b ov bv vv) ((Below.refl w2.heap.size w2).alloc (Nat.le_refl _) (.cells #[.int .i64 S.kind, .int .i64 (S.fr : Int), .int .i64 (S.len : Int)] 70))) (fun _ _ f => f)
            exact bodyPost_end (results_none rfl _ _ _) rfl ⟨rfl, _, _, _, _, Dm.cellSet (S := { S with M := S.M + 1, g := updS S.g S.M ⟨S.kind, (S.fr : Int), (S.len : Int)⟩ }) XG.out.1 (S' := { S with M := S.M + 1, g := updS S.g S.M ⟨S.kind, (S.fr : Int), (S.len : Int)⟩, kind := 0 }) 6 (.int .i64 0) rfl rfl rfl rfl rfl rfl rfl rfl rfl, (HT0.trans XG.out.2.1 (fun _ _ f => f)).trans (tch_set b 6 _ _) (fun _ _ f => f), fun k hk => (XG.out.2.2 k hk).imp id (fun hk => Nat.le_trans HT0.size hk)⟩
          · rw [if_pos (by rfl)]
            go_simp
            have XA := hid (X1.out.self ((Below.refl w2.heap.size w2).alloc (Nat.le_refl _) (.cells #[.int .i64 S.kind, .int .i64 (S.fr : Int), .int .i64 (S.len : Int)] 70)))
            refine hK.out _ _ (⟨XA.out.c_kind, XA.out.c_fr⟩) (fun h2x => ?_)
            clear hK K
            try simp only [Act.put, lay_out]
            refine wpAnyH_ready (rs := [4]) (by kernel_rfl) (by simp) (AllReadyH.cons rfl (fun K hK => ?_) AllReadyH.nil)
            have c9 := XA.out.c_bv
            rw [if_pos (by rfl)]
            go_simp
            clear c9
            refine hK.out _ _ (⟨XA.out.c_kind, XA.out.c_fr⟩) (fun h3x => ?_)
            clear hK K
            try simp only [Act.put, lay_out]
            refine wpAnyH_ready (rs := [17]) (by kernel_rfl) (by simp) (AllReadyH.cons rfl (fun K hK => ?_) AllReadyH.nil)
            rw [if_pos (by rfl)]
            refine wp_append_rec (.tmp 26) (.tmp 38) 38 rfl lo.lo 70 3 24 (.agg #[.int .i64 0, .int .i64 0, .int .i64 0]) Try.underlying38 infoSp (by rfl) (by decide) bv S.M (fun i => (spCs (updS S.g S.M ⟨S.kind, (S.fr : Int), (S.len : Int)⟩ i)).toList) rfl (XA.out.bls.ext fun i hi => by rw [updS_no _ _ (by omega)]) ⟨w2.heap.size, 0, none⟩ 1 rfl rfl (by intro u hu; simp at hu; rcases hu with rfl | rfl | rfl <;> rfl) ?_ (by have := HBD.out.M; unfold maxLen; omega) (by have := HBD.out.M; omega) (by have := XA.out.lt; have := XA.out.lob; omega) (fun g cap' w9 g1 g2 g3 => ?_)
            · rw [updS_at]; exact World.news_of_block (heap_alloc_new _ _)
            have XG := hid (XA.out.addBl g1 g2 g3)
            have hbl : w9.heap[b]? = _ := g2.block b XA.out.lt (fun e => XA.out.hbb e.symm)
            have f6 := frozen_of_row w9 b 6 _ _ (hbl.trans XA.out.blk)
            have f9 := frozen_of_row w9 b 9 _ _ (hbl.trans XA.out.blk)
            have c6 : w9.cell? ⟨b, 6, none⟩ = some (Value.int .i64 S.kind) := by rw [World.cell?_of_block hbl]; exact XA.out.c_kind
            have K6 := hid c6
            have K4 : Hid (w9.cell? ⟨b, 4, none⟩ = some (Value.int .i64 (S.fr : Int))) := hid (by rw [World.cell?_of_block hbl]; exact XA.out.c_fr)
            have c9 : w9.cell? ⟨b, 9, none⟩ = some bv := by rw [World.cell?_of_block hbl]; exact XA.out.c_bv
            clear g1 g2 g3 hbl
            refine hK.out _ _ (⟨K6.out, K4.out⟩) (fun h4x => ?_)
            clear hK K
            try simp only [Act.put, lay_out]
            refine wpAnyH_take (i := 18) (v := .pointer (some ⟨b, 0, none⟩)) rfl (by kernel_rfl) (by kernel_rfl) (by kernel_rfl) (fun _ _ _ h => h) (.inl ⟨by rfl, fun w hw => by clear hw; go_simp⟩) h4x ?_
            try simp only [Act.put, lay_out]
            refine wpAnyH_take (i := 19) (v := .pointer (some ⟨b, 9, none⟩)) rfl (by kernel_rfl) (by kernel_rfl) (by kernel_rfl) (fun _ _ _ h => h) (.inl ⟨by rfl, fun w hw => by clear hw; go_simp⟩) h4x ?_
            try simp only [Act.put, lay_out]
            refine wpAnyH_ready (rs := [20]) (by kernel_rfl) (by simp) (AllReadyH.cons rfl (fun K hK => ?_) AllReadyH.nil)
            rw [if_pos (by rfl)]
            go_simp
            refine hK.out _ _ (⟨Dm.c_kind (S := { S with M := S.M + 1, g := updS S.g S.M ⟨S.kind, (S.fr : Int), (S.len : Int)⟩ }) XG.out.1, Dm.c_fr (S := { S with M := S.M + 1, g := updS S.g S.M ⟨S.kind, (S.fr : Int), (S.len : Int)⟩ }) XG.out.1⟩) (fun h5x => ?_)
            clear hK K
            try simp only [Act.put, lay_out]
            refine wpAnyH_done (by kernel_rfl) ?_ _
            refine NoPanic.normal ?_
            clear h0 h1x h2x h3x h4x h5x
            try simp only [Act.put, lay_out]
            go_wp2
            have HT0 := ((Tch.of_below (F := Ft b ov bv vv) HB0.out).trans (Tch.of_below (F := Ft b ov bv vv) HBX1.out) (fun _ _ f => f)).trans (Tch.of_below (F := Ft b ov bv vv) ((Below.refl w2.heap.size w2).alloc (Nat.le_refl _) (.cells #[.int .i64 S.kind, .int .i64 (S.fr : Int), .int .i64 (S.len : Int)] 70))) (fun _ _ f => f)
            exact bodyPost_end (results_none rfl _ _ _) rfl ⟨rfl, _, _, _, _, Dm.cellSet (S := { S with M := S.M + 1, g := updS S.g S.M ⟨S.kind, (S.fr : Int), (S.len : Int)⟩ }) XG.out.1 (S' := { S with M := S.M + 1, g := updS S.g S.M ⟨S.kind, (S.fr : Int), (S.len : Int)⟩, kind := 0 }) 6 (.int .i64 0) rfl rfl rfl rfl rfl rfl rfl rfl rfl, (HT0.trans XG.out.2.1 (fun _ _ f => f)).trans (tch_set b 6 _ _) (fun _ _ f => f), fun k hk => (XG.out.2.2 k hk).imp id (fun hk => Nat.le_trans HT0.size hk)⟩
      · have e : S.endS = { S with kind := 0 } := by unfold Ms.endS; rw [if_neg (by omega), if_neg hk, if_neg hl]
        rw [e]
        have q2 : decide ((S.fr : Int) < (S.len : Int)) = false := decide_eq_false (by omega)
        have c4 := h.c_fr
        have XN := hid (fun n => h.drewN n)
        have hl' : ¬ S.fr < S.len := hl
        clear h e hk hb
        go_enter Try.func40, Try.ntmps40
        go_wp2_with fail
        go_quiet ((go_at_call 12; exact Calls.quiet_of (HQ.out _)))
        go_wp2
        exact bodyPost_end (results_none rfl _ _ _) rfl ⟨rfl, _, _, _, _, (XN.out nq).cellSet (S' := { S with kind := 0 }) 6 (.int .i64 0) rfl rfl rfl rfl rfl rfl rfl rfl rfl, (Tch.of_below (F := Ft b ov bv vv) (below_drewN w nq)).trans (tch_set b 6 _ _) (fun _ _ f => f), fun k hk => .inl hk⟩
  · have e : S.endS = S := by unfold Ms.endS; rw [if_pos he]
    rw [e]
    have q1 : ((S.e : Int) != 0) = true := by simp; omega
    clear h e he
    go_enter Try.func40, Try.ntmps40
    go_wp2
    exact bodyPost_ret (results_none rfl _ _ _) rfl ⟨rfl, _, _, _, _, HD.out, Tch.refl _ _, fun k hk => .inl hk⟩
end Go.Proofs.Ytffoinnllihdeaa
