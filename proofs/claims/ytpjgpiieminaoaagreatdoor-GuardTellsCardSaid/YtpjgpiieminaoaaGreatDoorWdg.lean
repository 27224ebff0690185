import Derived.Test.YtpjgpiieminaoaaGreatDoorProg
import Derived.Test.YtpjgpiieminaoaaGreatDoorWda
import Derived.Test.YtpjgpiieminaoaaGreatDoorTrb
import Derived.Deep.CutRange
import Derived.Deep.CutBlock
/- Wire: the document's machine: an op is done. -/
namespace Go.Proofs.YtpjgpiieminaoaaGreatDoor
open Go.RowKit
set_option maxRecDepth 100000
/-- On the way through Do: the machine, and the op's box. -/
structure Dz (lo : LoG) (b : Nat) (w wx : World) (S : Ms) (o : Op6) (ov bv vv tv : Value) : Prop where
  dm : Dm lo wx b S ov bv vv tv
  op : wx.heap[w.heap.size]? = some (.cells (opCs o) 66 (0, 0))
  tch : Tch (Ft b ov bv vv) w wx
  no : ¬ Ft b ov bv vv w.heap.size
section
variable {lo : LoG} {b : Nat} {w wx wy : World} {S S' : Ms} {o : Op6} {ov bv vv tv tv' : Value}
theorem Dz.step (h : Dz lo b w wx S o ov bv vv tv) (hd : Dm lo wy b S' ov bv vv tv') (ht : Tch (Ft b ov bv vv) wx wy) : Dz lo b w wy S' o ov bv vv tv' :=
  ⟨hd, (ht.block _ (Array.getElem?_eq_some_iff.1 h.op).1 h.no).trans h.op, h.tch.trans ht (fun _ _ f => f), h.no⟩
theorem Dz.self (h : Dz lo b w wx S o ov bv vv tv) (hb : Below wx.heap.size wx wy) : Dz lo b w wy S o ov bv vv tv := h.step (h.dm.self hb) (Tch.of_below hb)
theorem Dz.drew (h : Dz lo b w wx S o ov bv vv tv) : Dz lo b w wx.drew S o ov bv vv tv := h.self ((Below.refl _ _).drew)
theorem Dz.drewN (h : Dz lo b w wx S o ov bv vv tv) (n : Nat) : Dz lo b w (wx.drewN n) S o ov bv vv tv := h.self (below_drewN wx n)
theorem Dm.no (h : Dm lo w b S ov bv vv tv) : ¬ Ft b ov bv vv w.heap.size := by
  rintro (e | e | e | e)
  · have := h.lt; omega
  · have := (h.ops.lt _ e).2; omega
  · have := (h.bls.lt _ e).2; omega
  · have := (h.val.lt _ e).2; omega
theorem Dz.start (h : Dm lo w b S ov bv vv tv) (o : Op6) : Dz lo b w (w.alloc (.cells (opCs o) 66)) S o ov bv vv tv :=
  ⟨h.self ((Below.refl _ _).alloc (Nat.le_refl _) _), heap_alloc_new w _, Tch.of_below ((Below.refl _ _).alloc (Nat.le_refl _) _), h.no⟩
theorem Dz.oc (h : Dz lo b w wx S o ov bv vv tv) (i : Nat) {u : Value} (hu : (opCs o)[i]? = some u) : wx.cell? ⟨w.heap.size, i, none⟩ = some u := by
  rw [cell_of_row wx _ i _ _ _ h.op]; exact hu
end
namespace Ms
def p1 (S : Ms) (o : Op6) : Ms := { S with used := if o.K = 1 ∧ S.dry = false then S.used + 1 else S.used, free := if o.K = 1 ∧ S.dry = false then S.free - 1 else S.free }
def p2 (S : Ms) (o : Op6) : Ms := { S.p1 o with draws := if o.K = 1 then S.draws + 1 else S.draws }
def p3 (S : Ms) (o : Op6) : Ms := { S.p2 o with words := if o.K = 2 then S.words + 1 else S.words }
end Ms
theorem Dm2.self {lo : LoG} {b LV : Nat} {w w' : World} {S : Ms} {ov bv vv tv : Value} (h : Dm2 lo w b S LV ov bv vv tv) (hb : Below w.heap.size w w') : Dm2 lo w' b S LV ov bv vv tv :=
  ⟨(hb.block b (Array.getElem?_eq_some_iff.1 h.blk).1).trans h.blk, h.lob, h.ops.stays fun k hk => hb.block k (h.ops.lt k hk).2, h.bls.stays fun k hk => hb.block k (h.bls.lt k hk).2,
   h.val.stays fun k hk => hb.block k (h.val.lt k hk).2, h.hob, h.hbb, h.hvb, h.hobv, h.hov, h.hbv, rds_self h.tap hb⟩
theorem Dm2.lt {lo : LoG} {b LV : Nat} {w : World} {S : Ms} {ov bv vv tv : Value} (h : Dm2 lo w b S LV ov bv vv tv) : b < w.heap.size := (Array.getElem?_eq_some_iff.1 h.blk).1
theorem Dm2.c {lo : LoG} {b LV : Nat} {w : World} {S : Ms} {ov bv vv tv : Value} (h : Dm2 lo w b S LV ov bv vv tv) (i : Nat) {u : Value} (hu : (dmC S ov bv vv tv)[i]? = some u) : w.cell? ⟨b, i, none⟩ = some u := by
  rw [cell_of_row w b i _ _ _ h.blk]; exact hu
theorem infoU64 : (Tryz.prog.info? 22).map (fun i => (i.zero, i.size, i.bytes)) = some (some (.int .u64 0), 1, 8) := by kernel_rfl
theorem infoOp : (Tryz.prog.info? 66).map (fun i => (i.zero, i.size, i.bytes)) = some (some (.agg #[.int .i64 0, .int .i64 0, .int .i64 0, .int .i64 0, .int .i64 0, .int .u64 0]), 6, 48) := by kernel_rfl
theorem oc_of {wx : World} {n : Nat} {o : Op6} (h : wx.heap[n]? = some (.cells (opCs o) 66 (0, 0))) (i : Nat) {u : Value} (hu : (opCs o)[i]? = some u) : wx.cell? ⟨n, i, none⟩ = some u := by
  rw [cell_of_row wx n i _ _ _ h]; exact hu
/-- Behind the append to Val. -/
structure Dy (lo : LoG) (b : Nat) (w wx : World) (S : Ms) (o : Op6) (x : Nat) (ov bv vv tv vv' : Value) : Prop where
  dm : Dm2 lo wx b { S.p3 o with v := updN S.v S.L (S.makes o x) } (S.L + 1) ov bv vv' tv
  op : wx.heap[w.heap.size]? = some (.cells (opCs o) 66 (0, 0))
  tch : Tch (Ft b ov bv vv) w wx
  sub : ∀ k, Ft b ov bv vv' k → Ft b ov bv vv k ∨ w.heap.size ≤ k
  no : ov.ownBlock ≠ some w.heap.size ∧ b ≠ w.heap.size
theorem dfails_z (lo : LoG) (b : Nat) (S : Ms) (ov bv vv tv : Value) (x : Nat) (z : Int) (hz : z = (x : Int)) (w : World) (h : Dm lo w b S ov bv vv tv) (he : S.e = 0) :
    Calls Tryz.prog 55 #[.pointer (some ⟨b, 0, none⟩), .int .i64 z] w fun e w' => e = .returned (.int .i64 (-1)) ∧ Dm lo w' b { S with e := x } ov bv vv tv ∧ Tch (Ft b ov bv vv) w w' := by
  subst hz; exact dfails_any lo b S ov bv vv tv x w h he
theorem x_lt {S : Ms} (hb : Bd S) {o : Op6} {x : Nat} (hx : x < 2 ^ 64) (ho : S.out o = false) : S.word o x < 2 ^ 64 := by
  unfold Ms.word
  split
  · rename_i h
    unfold Ms.out at ho
    simp [h.1, h.2] at ho
    exact hb.tw _ (by omega)
  · exact hx
theorem word_lt {S : Ms} (hb : Bd S) (r : Int) : wordAt S.v S.L r < 2 ^ 64 := by
  unfold wordAt
  split
  · exact hb.v _ (by omega)
  · decide
set_option maxHeartbeats 3200000 in
theorem ddo_any (lo : LoG) (b : Nat) (S : Ms) (o : Op6) (x : Nat) (ov bv vv tv : Value) (w : World) (h : Dm lo w b S ov bv vv tv) (hb : Bd S) (hx : x < 2 ^ 64) (hC : o.C < 2 ^ 64) :
    Calls Tryz.prog 28 #[.pointer (some ⟨b, 0, none⟩), .agg (opCs o), .int .u64 (x : Int)] w fun e w' => e = .returned (.int .i64 (S.doR o)) ∧ DmR lo b ov bv vv (S.doS o x) w w' := by
  have HBD := hid hb
  have Z0 := hid (Dz.start h o)
  have c7 := Z0.out.dm.c_e
  by_cases he : S.e = 0
  · have HE := hid he
    rw [he] at c7
    clear h he
    go_enter Tryz.func28, Tryz.ntmps28
    go_upto_region 3 with fail
    go_cut [37] from 14 to 37 (fun p wx => p = .bool (S.bad o) ∧ Dz lo b w wx S o ov bv vv tv)
    case first =>
      have HL := hid (fun w1 (h1 : Dm lo w1 b S ov bv vv tv) => dlen_any lo b S ov bv vv tv w1 h1 HBD.out)
      have Z0x := hid Z0.out.drew
      have hwb := HBD.out.words
      have wm : IntKind.u64.wrap (S.words : Int) = (S.words : Int) := by rw [IntKind.wrap_u64]; omega
      clear hwb hb hx hC c7
      cases hok : okOp o (S.len : Int) S.n with
      | false =>
        have HR := hid (fun w1 => refopright_any o (S.len : Int) S.n w1)
        rw [hok] at HR
        have HBV := hid (show S.bad o = true by unfold Ms.bad; rw [hok]; rfl)
        clear hok
        refine wp_region_noPanic ?_
        refine wp_region_held_drew (S := fun w' => w'.heap[w.heap.size]? = some (.cells (opCs o) 66 (0, 0)) ∧ w'.cell? ⟨b, 0, none⟩ = some (Value.int .i64 S.n) ∧ w'.cell? ⟨b, 2, none⟩ = some (Value.int .i64 (S.words : Int)) ∧ w'.cell? ⟨w.heap.size, 0, none⟩ = some (Value.int .i64 o.K) ∧ w'.cell? ⟨w.heap.size, 5, none⟩ = some (Value.int .u64 (o.C : Int))) (by kernel_rfl) (⟨Z0x.out.op, Z0x.out.dm.c_n, Z0x.out.dm.c_words, Z0x.out.oc 0 rfl, Z0x.out.oc 5 rfl⟩) (fun h0 => ?_)
        generalize (w.alloc (.cells (opCs o) 66)).drew = w1 at *
        refine wpAnyH_take (i := 0) (v := .agg (opCs o)) rfl (by kernel_rfl) (by kernel_rfl) (by kernel_rfl) (fun _ _ _ h => h) (yields_load_row (by rfl) 66 (.tmp 4) rfl w.heap.size 66 (opCs o) _ rfl (fun w h => h.1) Tryz.underlying66 rfl (by kernel_rfl)) h0 ?_
        try simp only [Act.put, lay_out]
        refine wpAnyH_take (i := 1) (v := .pointer (some ⟨b, 0, none⟩)) rfl (by kernel_rfl) (by kernel_rfl) (by kernel_rfl) (fun _ _ _ h => h) (.inl ⟨by rfl, fun w hw => by clear hw; go_simp⟩) h0 ?_
        try simp only [Act.put, lay_out]
        refine wpAnyH_take (i := 3) (v := .pointer (some ⟨b, 0, none⟩)) rfl (by kernel_rfl) (by kernel_rfl) (by kernel_rfl) (fun _ _ _ h => h) (.inl ⟨by rfl, fun w hw => by clear hw; go_simp⟩) h0 ?_
        try simp only [Act.put, lay_out]
        refine wpAnyH_take (i := 4) (v := .pointer (some ⟨b, 0, none⟩)) rfl (by kernel_rfl) (by kernel_rfl) (by kernel_rfl) (fun _ _ _ h => h) (.inl ⟨by rfl, fun w hw => by clear hw; go_simp⟩) h0 ?_
        try simp only [Act.put, lay_out]
        refine wpAnyH_take (i := 5) (v := .pointer (some ⟨b, 0, none⟩)) rfl (by kernel_rfl) (by kernel_rfl) (by kernel_rfl) (fun _ _ _ h => h) (.inl ⟨by rfl, fun w hw => by clear hw; go_simp⟩) h0 ?_
        try simp only [Act.put, lay_out]
        refine wpAnyH_take (i := 6) (v := .int .i64 S.n) rfl (by kernel_rfl) (by kernel_rfl) (by kernel_rfl) (fun _ _ _ h => h) (.inl ⟨by rfl, fun w hw => by have hc := hw.2.1; clear hw; go_simp⟩) h0 ?_
        try simp only [Act.put, lay_out]
        refine wpAnyH_ready (rs := [2]) (by kernel_rfl) (by simp) (AllReadyH.cons rfl (fun K hK => ?_) AllReadyH.nil)
        rw [if_pos (by rfl)]
        go_simp
        go_at_call 54
        (with_reducible refine (HL.out _ Z0x.out.dm).mono ?_); rintro e w2 ⟨rfl, hb1⟩
        have Z1 := hid (Z0x.out.self hb1)
        clear hb1
        refine hK.out _ _ (⟨Z1.out.op, Z1.out.dm.c_n, Z1.out.dm.c_words, Z1.out.oc 0 rfl, Z1.out.oc 5 rfl⟩) (fun h1x => ?_)
        clear hK K
        try simp only [Act.put, lay_out]
        refine wpAnyH_ready (rs := [7]) (by kernel_rfl) (by simp) (AllReadyH.cons rfl (fun K hK => ?_) AllReadyH.nil)
        rw [if_pos (by rfl)]
        go_simp
        go_at_call 53
        (with_reducible refine (HR.out _).mono ?_); rintro e w3 ⟨rfl, hb1⟩
        have Z2 := hid (Z1.out.self hb1)
        clear hb1
        refine hK.out _ _ (⟨Z2.out.op, Z2.out.dm.c_n, Z2.out.dm.c_words, Z2.out.oc 0 rfl, Z2.out.oc 5 rfl⟩) (fun h2x => ?_)
        clear hK K
        try simp only [Act.put, lay_out]
        refine wpAnyH_take (i := 8) (v := .bool true) rfl (by kernel_rfl) (by kernel_rfl) (by kernel_rfl) (fun _ _ _ h => h) (.inl ⟨by rfl, fun w hw => by clear hw; go_simp⟩) h2x ?_
        try simp only [Act.put, lay_out]
        refine wpAnyH_take (i := 9) (v := .bool true) rfl (by kernel_rfl) (by kernel_rfl) (by kernel_rfl) (fun _ _ _ h => h) (.inl ⟨by rfl, fun w hw => by clear hw; go_simp⟩) h2x ?_
        try simp only [Act.put, lay_out]
        refine wpAnyH_take (i := 10) (v := undef) rfl (by kernel_rfl) (by kernel_rfl) (by kernel_rfl) (fun _ _ _ h => h) (y_skip (by rfl)) h2x ?_
        try simp only [Act.put, lay_out]
        refine wpAnyH_take (i := 11) (v := undef) rfl (by kernel_rfl) (by kernel_rfl) (by kernel_rfl) (fun _ _ _ h => h) (y_skip (by rfl)) h2x ?_
        try simp only [Act.put, lay_out]
        refine wpAnyH_take (i := 12) (v := undef) rfl (by kernel_rfl) (by kernel_rfl) (by kernel_rfl) (fun _ _ _ h => h) (y_skip (by rfl)) h2x ?_
        try simp only [Act.put, lay_out]
        refine wpAnyH_take (i := 13) (v := undef) rfl (by kernel_rfl) (by kernel_rfl) (by kernel_rfl) (fun _ _ _ h => h) (y_skip (by rfl)) h2x ?_
        try simp only [Act.put, lay_out]
        refine wpAnyH_take (i := 14) (v := undef) rfl (by kernel_rfl) (by kernel_rfl) (by kernel_rfl) (fun _ _ _ h => h) (y_skip (by rfl)) h2x ?_
        try simp only [Act.put, lay_out]
        refine wpAnyH_take (i := 15) (v := undef) rfl (by kernel_rfl) (by kernel_rfl) (by kernel_rfl) (fun _ _ _ h => h) (y_skip (by rfl)) h2x ?_
        try simp only [Act.put, lay_out]
        refine wpAnyH_take (i := 16) (v := undef) rfl (by kernel_rfl) (by kernel_rfl) (by kernel_rfl) (fun _ _ _ h => h) (y_skip (by rfl)) h2x ?_
        try simp only [Act.put, lay_out]
        refine wpAnyH_take (i := 17) (v := undef) rfl (by kernel_rfl) (by kernel_rfl) (by kernel_rfl) (fun _ _ _ h => h) (y_skip (by rfl)) h2x ?_
        try simp only [Act.put, lay_out]
        refine wpAnyH_take (i := 18) (v := undef) rfl (by kernel_rfl) (by kernel_rfl) (by kernel_rfl) (fun _ _ _ h => h) (y_skip (by rfl)) h2x ?_
        try simp only [Act.put, lay_out]
        refine wpAnyH_take (i := 19) (v := undef) rfl (by kernel_rfl) (by kernel_rfl) (by kernel_rfl) (fun _ _ _ h => h) (y_skip (by rfl)) h2x ?_
        try simp only [Act.put, lay_out]
        refine wpAnyH_take (i := 20) (v := undef) rfl (by kernel_rfl) (by kernel_rfl) (by kernel_rfl) (fun _ _ _ h => h) (y_skip (by rfl)) h2x ?_
        try simp only [Act.put, lay_out]
        refine wpAnyH_take (i := 21) (v := undef) rfl (by kernel_rfl) (by kernel_rfl) (by kernel_rfl) (fun _ _ _ h => h) (y_skip (by rfl)) h2x ?_
        try simp only [Act.put, lay_out]
        refine wpAnyH_take (i := 22) (v := undef) rfl (by kernel_rfl) (by kernel_rfl) (by kernel_rfl) (fun _ _ _ h => h) (y_skip (by rfl)) h2x ?_
        try simp only [Act.put, lay_out]
        refine wpAnyH_take (i := 23) (v := .bool true) rfl (by kernel_rfl) (by kernel_rfl) (by kernel_rfl) (fun _ _ _ h => h) (.inl ⟨by rfl, fun w hw => by clear hw; go_simp⟩) h2x ?_
        try simp only [Act.put, lay_out]
        refine wpAnyH_done (by kernel_rfl) ?_ _
        refine NoPanic.normal ?_
        clear h0 h1x h2x
        try simp only [Act.put, lay_out]
        go_wp2_with fail
        go_meet
        exact ⟨by rw [HBV.out], Z2.out⟩

      | true =>
        have HR := hid (fun w1 => refopright_any o (S.len : Int) S.n w1)
        rw [hok] at HR
        by_cases hk : o.K = 2
        · have k2 : (o.K == 2) = true := by simp [hk]
          have HBV := hid (show S.bad o = ((o.C : Int) != (S.words : Int)) by unfold Ms.bad; rw [hok]; by_cases e : o.C = S.words <;> simp [hk, e, bne, Int.natCast_inj])
          clear hok hk
          refine wp_region_noPanic ?_
          refine wp_region_held_drew (S := fun w' => w'.heap[w.heap.size]? = some (.cells (opCs o) 66 (0, 0)) ∧ w'.cell? ⟨b, 0, none⟩ = some (Value.int .i64 S.n) ∧ w'.cell? ⟨b, 2, none⟩ = some (Value.int .i64 (S.words : Int)) ∧ w'.cell? ⟨w.heap.size, 0, none⟩ = some (Value.int .i64 o.K) ∧ w'.cell? ⟨w.heap.size, 5, none⟩ = some (Value.int .u64 (o.C : Int))) (by kernel_rfl) (⟨Z0x.out.op, Z0x.out.dm.c_n, Z0x.out.dm.c_words, Z0x.out.oc 0 rfl, Z0x.out.oc 5 rfl⟩) (fun h0 => ?_)
          generalize (w.alloc (.cells (opCs o) 66)).drew = w1 at *
          refine wpAnyH_take (i := 0) (v := .agg (opCs o)) rfl (by kernel_rfl) (by kernel_rfl) (by kernel_rfl) (fun _ _ _ h => h) (yields_load_row (by rfl) 66 (.tmp 4) rfl w.heap.size 66 (opCs o) _ rfl (fun w h => h.1) Tryz.underlying66 rfl (by kernel_rfl)) h0 ?_
          try simp only [Act.put, lay_out]
          refine wpAnyH_take (i := 1) (v := .pointer (some ⟨b, 0, none⟩)) rfl (by kernel_rfl) (by kernel_rfl) (by kernel_rfl) (fun _ _ _ h => h) (.inl ⟨by rfl, fun w hw => by clear hw; go_simp⟩) h0 ?_
          try simp only [Act.put, lay_out]
          refine wpAnyH_take (i := 3) (v := .pointer (some ⟨b, 0, none⟩)) rfl (by kernel_rfl) (by kernel_rfl) (by kernel_rfl) (fun _ _ _ h => h) (.inl ⟨by rfl, fun w hw => by clear hw; go_simp⟩) h0 ?_
          try simp only [Act.put, lay_out]
          refine wpAnyH_take (i := 4) (v := .pointer (some ⟨b, 0, none⟩)) rfl (by kernel_rfl) (by kernel_rfl) (by kernel_rfl) (fun _ _ _ h => h) (.inl ⟨by rfl, fun w hw => by clear hw; go_simp⟩) h0 ?_
          try simp only [Act.put, lay_out]
          refine wpAnyH_take (i := 5) (v := .pointer (some ⟨b, 0, none⟩)) rfl (by kernel_rfl) (by kernel_rfl) (by kernel_rfl) (fun _ _ _ h => h) (.inl ⟨by rfl, fun w hw => by clear hw; go_simp⟩) h0 ?_
          try simp only [Act.put, lay_out]
          refine wpAnyH_take (i := 6) (v := .int .i64 S.n) rfl (by kernel_rfl) (by kernel_rfl) (by kernel_rfl) (fun _ _ _ h => h) (.inl ⟨by rfl, fun w hw => by have hc := hw.2.1; clear hw; go_simp⟩) h0 ?_
          try simp only [Act.put, lay_out]
          refine wpAnyH_ready (rs := [2]) (by kernel_rfl) (by simp) (AllReadyH.cons rfl (fun K hK => ?_) AllReadyH.nil)
          rw [if_pos (by rfl)]
          go_simp
          go_at_call 54
          (with_reducible refine (HL.out _ Z0x.out.dm).mono ?_); rintro e w2 ⟨rfl, hb1⟩
          have Z1 := hid (Z0x.out.self hb1)
          clear hb1
          refine hK.out _ _ (⟨Z1.out.op, Z1.out.dm.c_n, Z1.out.dm.c_words, Z1.out.oc 0 rfl, Z1.out.oc 5 rfl⟩) (fun h1x => ?_)
          clear hK K
          try simp only [Act.put, lay_out]
          refine wpAnyH_ready (rs := [7]) (by kernel_rfl) (by simp) (AllReadyH.cons rfl (fun K hK => ?_) AllReadyH.nil)
          rw [if_pos (by rfl)]
          go_simp
          go_at_call 53
          (with_reducible refine (HR.out _).mono ?_); rintro e w3 ⟨rfl, hb1⟩
          have Z2 := hid (Z1.out.self hb1)
          clear hb1
          refine hK.out _ _ (⟨Z2.out.op, Z2.out.dm.c_n, Z2.out.dm.c_words, Z2.out.oc 0 rfl, Z2.out.oc 5 rfl⟩) (fun h2x => ?_)
          clear hK K
          try simp only [Act.put, lay_out]
          refine wpAnyH_take (i := 8) (v := .bool false) rfl (by kernel_rfl) (by kernel_rfl) (by kernel_rfl) (fun _ _ _ h => h) (.inl ⟨by rfl, fun w hw => by clear hw; go_simp⟩) h2x ?_
          try simp only [Act.put, lay_out]
          refine wpAnyH_take (i := 9) (v := .bool false) rfl (by kernel_rfl) (by kernel_rfl) (by kernel_rfl) (fun _ _ _ h => h) (.inl ⟨by rfl, fun w hw => by clear hw; go_simp⟩) h2x ?_
          try simp only [Act.put, lay_out]
          refine wpAnyH_take (i := 10) (v := .pointer (some ⟨w.heap.size, 0, none⟩)) rfl (by kernel_rfl) (by kernel_rfl) (by kernel_rfl) (fun _ _ _ h => h) (.inl ⟨by rfl, fun w hw => by clear hw; go_simp⟩) h2x ?_
          try simp only [Act.put, lay_out]
          refine wpAnyH_take (i := 11) (v := .int .i64 o.K) rfl (by kernel_rfl) (by kernel_rfl) (by kernel_rfl) (fun _ _ _ h => h) (.inl ⟨by rfl, fun w hw => by have hc := hw.2.2.2.1; clear hw; go_simp⟩) h2x ?_
          try simp only [Act.put, lay_out]
          refine wpAnyH_take (i := 12) (v := .bool true) rfl (by kernel_rfl) (by kernel_rfl) (by kernel_rfl) (fun _ _ _ h => h) (.inl ⟨by rfl, fun w hw => by clear hw; go_simp⟩) h2x ?_
          try simp only [Act.put, lay_out]
          refine wpAnyH_take (i := 13) (v := .bool true) rfl (by kernel_rfl) (by kernel_rfl) (by kernel_rfl) (fun _ _ _ h => h) (.inl ⟨by rfl, fun w hw => by clear hw; go_simp⟩) h2x ?_
          try simp only [Act.put, lay_out]
          refine wpAnyH_take (i := 14) (v := .pointer (some ⟨w.heap.size, 5, none⟩)) rfl (by kernel_rfl) (by kernel_rfl) (by kernel_rfl) (fun _ _ _ h => h) (.inl ⟨by rfl, fun w hw => by clear hw; go_simp⟩) h2x ?_
          try simp only [Act.put, lay_out]
          refine wpAnyH_take (i := 15) (v := .int .u64 (o.C : Int)) rfl (by kernel_rfl) (by kernel_rfl) (by kernel_rfl) (fun _ _ _ h => h) (.inl ⟨by rfl, fun w hw => by have hc := hw.2.2.2.2; clear hw; go_simp⟩) h2x ?_
          try simp only [Act.put, lay_out]
          refine wpAnyH_take (i := 16) (v := .pointer (some ⟨b, 0, none⟩)) rfl (by kernel_rfl) (by kernel_rfl) (by kernel_rfl) (fun _ _ _ h => h) (.inl ⟨by rfl, fun w hw => by clear hw; go_simp⟩) h2x ?_
          try simp only [Act.put, lay_out]
          refine wpAnyH_take (i := 17) (v := .pointer (some ⟨b, 0, none⟩)) rfl (by kernel_rfl) (by kernel_rfl) (by kernel_rfl) (fun _ _ _ h => h) (.inl ⟨by rfl, fun w hw => by clear hw; go_simp⟩) h2x ?_
          try simp only [Act.put, lay_out]
          refine wpAnyH_take (i := 18) (v := .pointer (some ⟨b, 2, none⟩)) rfl (by kernel_rfl) (by kernel_rfl) (by kernel_rfl) (fun _ _ _ h => h) (.inl ⟨by rfl, fun w hw => by clear hw; go_simp⟩) h2x ?_
          try simp only [Act.put, lay_out]
          refine wpAnyH_take (i := 19) (v := .int .i64 (S.words : Int)) rfl (by kernel_rfl) (by kernel_rfl) (by kernel_rfl) (fun _ _ _ h => h) (.inl ⟨by rfl, fun w hw => by have hc := hw.2.2.1; clear hw; go_simp⟩) h2x ?_
          try simp only [Act.put, lay_out]
          refine wpAnyH_take (i := 20) (v := .int .u64 (S.words : Int)) rfl (by kernel_rfl) (by kernel_rfl) (by kernel_rfl) (fun _ _ _ h => h) (.inl ⟨by rfl, fun w hw => by clear hw; go_simp⟩) h2x ?_
          try simp only [Act.put, lay_out]
          refine wpAnyH_take (i := 21) (v := .bool ((o.C : Int) != (S.words : Int))) rfl (by kernel_rfl) (by kernel_rfl) (by kernel_rfl) (fun _ _ _ h => h) (.inl ⟨by rfl, fun w hw => by clear hw; go_simp⟩) h2x ?_
          try simp only [Act.put, lay_out]
          refine wpAnyH_take (i := 22) (v := .bool ((o.C : Int) != (S.words : Int))) rfl (by kernel_rfl) (by kernel_rfl) (by kernel_rfl) (fun _ _ _ h => h) (.inl ⟨by rfl, fun w hw => by clear hw; go_simp⟩) h2x ?_
          try simp only [Act.put, lay_out]
          refine wpAnyH_take (i := 23) (v := .bool ((o.C : Int) != (S.words : Int))) rfl (by kernel_rfl) (by kernel_rfl) (by kernel_rfl) (fun _ _ _ h => h) (.inl ⟨by rfl, fun w hw => by clear hw; go_simp⟩) h2x ?_
          try simp only [Act.put, lay_out]
          refine wpAnyH_done (by kernel_rfl) ?_ _
          refine NoPanic.normal ?_
          clear h0 h1x h2x
          try simp only [Act.put, lay_out]
          go_wp2_with fail
          go_meet
          exact ⟨by rw [HBV.out], Z2.out⟩

        · have k2 : (o.K == 2) = false := by simp [hk]
          have HBV := hid (show S.bad o = false by unfold Ms.bad; rw [hok]; simp [hk])
          clear hok hk
          refine wp_region_noPanic ?_
          refine wp_region_held_drew (S := fun w' => w'.heap[w.heap.size]? = some (.cells (opCs o) 66 (0, 0)) ∧ w'.cell? ⟨b, 0, none⟩ = some (Value.int .i64 S.n) ∧ w'.cell? ⟨b, 2, none⟩ = some (Value.int .i64 (S.words : Int)) ∧ w'.cell? ⟨w.heap.size, 0, none⟩ = some (Value.int .i64 o.K) ∧ w'.cell? ⟨w.heap.size, 5, none⟩ = some (Value.int .u64 (o.C : Int))) (by kernel_rfl) (⟨Z0x.out.op, Z0x.out.dm.c_n, Z0x.out.dm.c_words, Z0x.out.oc 0 rfl, Z0x.out.oc 5 rfl⟩) (fun h0 => ?_)
          generalize (w.alloc (.cells (opCs o) 66)).drew = w1 at *
          refine wpAnyH_take (i := 0) (v := .agg (opCs o)) rfl (by kernel_rfl) (by kernel_rfl) (by kernel_rfl) (fun _ _ _ h => h) (yields_load_row (by rfl) 66 (.tmp 4) rfl w.heap.size 66 (opCs o) _ rfl (fun w h => h.1) Tryz.underlying66 rfl (by kernel_rfl)) h0 ?_
          try simp only [Act.put, lay_out]
          refine wpAnyH_take (i := 1) (v := .pointer (some ⟨b, 0, none⟩)) rfl (by kernel_rfl) (by kernel_rfl) (by kernel_rfl) (fun _ _ _ h => h) (.inl ⟨by rfl, fun w hw => by clear hw; go_simp⟩) h0 ?_
          try simp only [Act.put, lay_out]
          refine wpAnyH_take (i := 3) (v := .pointer (some ⟨b, 0, none⟩)) rfl (by kernel_rfl) (by kernel_rfl) (by kernel_rfl) (fun _ _ _ h => h) (.inl ⟨by rfl, fun w hw => by clear hw; go_simp⟩) h0 ?_
          try simp only [Act.put, lay_out]
          refine wpAnyH_take (i := 4) (v := .pointer (some ⟨b, 0, none⟩)) rfl (by kernel_rfl) (by kernel_rfl) (by kernel_rfl) (fun _ _ _ h => h) (.inl ⟨by rfl, fun w hw => by clear hw; go_simp⟩) h0 ?_
          try simp only [Act.put, lay_out]
          refine wpAnyH_take (i := 5) (v := .pointer (some ⟨b, 0, none⟩)) rfl (by kernel_rfl) (by kernel_rfl) (by kernel_rfl) (fun _ _ _ h => h) (.inl ⟨by rfl, fun w hw => by clear hw; go_simp⟩) h0 ?_
          try simp only [Act.put, lay_out]
          refine wpAnyH_take (i := 6) (v := .int .i64 S.n) rfl (by kernel_rfl) (by kernel_rfl) (by kernel_rfl) (fun _ _ _ h => h) (.inl ⟨by rfl, fun w hw => by have hc := hw.2.1; clear hw; go_simp⟩) h0 ?_
          try simp only [Act.put, lay_out]
          refine wpAnyH_ready (rs := [2]) (by kernel_rfl) (by simp) (AllReadyH.cons rfl (fun K hK => ?_) AllReadyH.nil)
          rw [if_pos (by rfl)]
          go_simp
          go_at_call 54
          (with_reducible refine (HL.out _ Z0x.out.dm).mono ?_); rintro e w2 ⟨rfl, hb1⟩
          have Z1 := hid (Z0x.out.self hb1)
          clear hb1
          refine hK.out _ _ (⟨Z1.out.op, Z1.out.dm.c_n, Z1.out.dm.c_words, Z1.out.oc 0 rfl, Z1.out.oc 5 rfl⟩) (fun h1x => ?_)
          clear hK K
          try simp only [Act.put, lay_out]
          refine wpAnyH_ready (rs := [7]) (by kernel_rfl) (by simp) (AllReadyH.cons rfl (fun K hK => ?_) AllReadyH.nil)
          rw [if_pos (by rfl)]
          go_simp
          go_at_call 53
          (with_reducible refine (HR.out _).mono ?_); rintro e w3 ⟨rfl, hb1⟩
          have Z2 := hid (Z1.out.self hb1)
          clear hb1
          refine hK.out _ _ (⟨Z2.out.op, Z2.out.dm.c_n, Z2.out.dm.c_words, Z2.out.oc 0 rfl, Z2.out.oc 5 rfl⟩) (fun h2x => ?_)
          clear hK K
          try simp only [Act.put, lay_out]
          refine wpAnyH_take (i := 8) (v := .bool false) rfl (by kernel_rfl) (by kernel_rfl) (by kernel_rfl) (fun _ _ _ h => h) (.inl ⟨by rfl, fun w hw => by clear hw; go_simp⟩) h2x ?_
          try simp only [Act.put, lay_out]
          refine wpAnyH_take (i := 9) (v := .bool false) rfl (by kernel_rfl) (by kernel_rfl) (by kernel_rfl) (fun _ _ _ h => h) (.inl ⟨by rfl, fun w hw => by clear hw; go_simp⟩) h2x ?_
          try simp only [Act.put, lay_out]
          refine wpAnyH_take (i := 10) (v := .pointer (some ⟨w.heap.size, 0, none⟩)) rfl (by kernel_rfl) (by kernel_rfl) (by kernel_rfl) (fun _ _ _ h => h) (.inl ⟨by rfl, fun w hw => by clear hw; go_simp⟩) h2x ?_
          try simp only [Act.put, lay_out]
          refine wpAnyH_take (i := 11) (v := .int .i64 o.K) rfl (by kernel_rfl) (by kernel_rfl) (by kernel_rfl) (fun _ _ _ h => h) (.inl ⟨by rfl, fun w hw => by have hc := hw.2.2.2.1; clear hw; go_simp⟩) h2x ?_
          try simp only [Act.put, lay_out]
          refine wpAnyH_take (i := 12) (v := .bool false) rfl (by kernel_rfl) (by kernel_rfl) (by kernel_rfl) (fun _ _ _ h => h) (.inl ⟨by rfl, fun w hw => by clear hw; go_simp⟩) h2x ?_
          try simp only [Act.put, lay_out]
          refine wpAnyH_take (i := 13) (v := .bool false) rfl (by kernel_rfl) (by kernel_rfl) (by kernel_rfl) (fun _ _ _ h => h) (.inl ⟨by rfl, fun w hw => by clear hw; go_simp⟩) h2x ?_
          try simp only [Act.put, lay_out]
          refine wpAnyH_take (i := 14) (v := undef) rfl (by kernel_rfl) (by kernel_rfl) (by kernel_rfl) (fun _ _ _ h => h) (y_skip (by rfl)) h2x ?_
          try simp only [Act.put, lay_out]
          refine wpAnyH_take (i := 15) (v := undef) rfl (by kernel_rfl) (by kernel_rfl) (by kernel_rfl) (fun _ _ _ h => h) (y_skip (by rfl)) h2x ?_
          try simp only [Act.put, lay_out]
          refine wpAnyH_take (i := 16) (v := undef) rfl (by kernel_rfl) (by kernel_rfl) (by kernel_rfl) (fun _ _ _ h => h) (y_skip (by rfl)) h2x ?_
          try simp only [Act.put, lay_out]
          refine wpAnyH_take (i := 17) (v := undef) rfl (by kernel_rfl) (by kernel_rfl) (by kernel_rfl) (fun _ _ _ h => h) (y_skip (by rfl)) h2x ?_
          try simp only [Act.put, lay_out]
          refine wpAnyH_take (i := 18) (v := undef) rfl (by kernel_rfl) (by kernel_rfl) (by kernel_rfl) (fun _ _ _ h => h) (y_skip (by rfl)) h2x ?_
          try simp only [Act.put, lay_out]
          refine wpAnyH_take (i := 19) (v := undef) rfl (by kernel_rfl) (by kernel_rfl) (by kernel_rfl) (fun _ _ _ h => h) (y_skip (by rfl)) h2x ?_
          try simp only [Act.put, lay_out]
          refine wpAnyH_take (i := 20) (v := undef) rfl (by kernel_rfl) (by kernel_rfl) (by kernel_rfl) (fun _ _ _ h => h) (y_skip (by rfl)) h2x ?_
          try simp only [Act.put, lay_out]
          refine wpAnyH_take (i := 21) (v := undef) rfl (by kernel_rfl) (by kernel_rfl) (by kernel_rfl) (fun _ _ _ h => h) (y_skip (by rfl)) h2x ?_
          try simp only [Act.put, lay_out]
          refine wpAnyH_take (i := 22) (v := .bool false) rfl (by kernel_rfl) (by kernel_rfl) (by kernel_rfl) (fun _ _ _ h => h) (.inl ⟨by rfl, fun w hw => by clear hw; go_simp⟩) h2x ?_
          try simp only [Act.put, lay_out]
          refine wpAnyH_take (i := 23) (v := .bool false) rfl (by kernel_rfl) (by kernel_rfl) (by kernel_rfl) (fun _ _ _ h => h) (.inl ⟨by rfl, fun w hw => by clear hw; go_simp⟩) h2x ?_
          try simp only [Act.put, lay_out]
          refine wpAnyH_done (by kernel_rfl) ?_ _
          refine NoPanic.normal ?_
          clear h0 h1x h2x
          try simp only [Act.put, lay_out]
          go_wp2_with fail
          go_meet
          exact ⟨by rw [HBV.out], Z2.out⟩

    case rest =>
      obtain ⟨rfl, hz⟩ := hcut
      have Z1 := hid hz
      have HC := hid hC
      clear hz c7 hb hC
      generalize wc = w1 at *
      cases hbad : S.bad o with
      | true =>
        have HS : Hid (S.doS o x = { S with e := 1 } ∧ S.doR o = -1) := hid (by constructor; (unfold Ms.doS; rw [if_neg (by have := HE.out; omega), if_pos hbad]); (unfold Ms.doR; rw [if_pos (.inr (.inl hbad))]))
        have HF := hid (dfails_z lo b S ov bv vv tv 1 1 rfl w1 Z1.out.dm HE.out)
        clear hbad
        go_wp2_with ((go_at_call 55; (with_reducible refine HF.out.mono ?_); rintro e w2 ⟨rfl, hd, ht⟩; have X2 := hid hd; have T2 := hid ht; clear hd ht))
        go_ret
        exact ⟨by rw [HS.out.2]; rfl, _, _, _, _, by rw [HS.out.1]; exact X2.out, Z1.out.tch.trans T2.out (fun _ _ f => f), fun k hk => .inl hk⟩
      | false =>
        have HBAD := hid hbad
        clear hbad
        go_upto_region 5 with fail
        go_cut [53] from 40 to 53 (fun p wx => p = .bool S.full ∧ Dz lo b w wx S o ov bv vv tv)
        case first =>
          have c1 := Z1.out.dm.c_most
          have c14 := Z1.out.dm.c_dry
          have HQ := hid (fun n => dlen_quiet lo b S ov bv vv tv _ (Z1.out.dm.drewN n) (by have := HBD.out.L; omega) (by have := HBD.out.skip; omega))
          cases hd : S.dry with
          | true =>
            rw [hd] at c14
            have HFU := hid (show S.full = false by unfold Ms.full; rw [hd]; rfl)
            clear hd
            go_quiet (fail)
            go_wp2_with fail
            go_meet
            exact ⟨by rw [HFU.out], Z1.out.drewN _⟩
          | false =>
            rw [hd] at c14
            by_cases hf : S.most ≤ (S.len : Int)
            · have HFU := hid (show S.full = true by unfold Ms.full; rw [hd, decide_eq_true hf]; rfl)
              have q1 : decide (S.most ≤ (S.len : Int)) = true := decide_eq_true hf
              clear hd
              go_quiet ((go_at_call 54; exact Calls.quiet_of (HQ.out _)))
              go_wp2_with fail
              go_meet
              exact ⟨by rw [HFU.out], Z1.out.drewN _⟩
            · have HFU := hid (show S.full = false by unfold Ms.full; rw [hd, decide_eq_false hf]; rfl)
              have q1 : decide (S.most ≤ (S.len : Int)) = false := decide_eq_false hf
              clear hd
              go_quiet ((go_at_call 54; exact Calls.quiet_of (HQ.out _)))
              go_wp2_with fail
              go_meet
              exact ⟨by rw [HFU.out], Z1.out.drewN _⟩
        case rest =>
          obtain ⟨rfl, hz⟩ := hcut
          clear Z1
          have Z1 := hid hz
          clear hz
          rename_i wy
          generalize wc = w2 at *
          cases hfull : S.full with
          | true =>
            have HS : Hid (S.doS o x = { S with e := 3 } ∧ S.doR o = -1) := hid (by constructor; (unfold Ms.doS; rw [if_neg (by have := HE.out; omega), if_neg (by rw [HBAD.out]; decide), if_pos hfull]); (unfold Ms.doR; rw [if_pos (.inr (.inr (.inl hfull)))]))
            have HF := hid (dfails_z lo b S ov bv vv tv 3 3 rfl w2 Z1.out.dm HE.out)
            clear hfull
            go_wp2_with ((go_at_call 55; (with_reducible refine HF.out.mono ?_); rintro e w3 ⟨rfl, hd, ht⟩; have X2 := hid hd; have T2 := hid ht; clear hd ht))
            go_ret
            exact ⟨by rw [HS.out.2]; rfl, _, _, _, _, by rw [HS.out.1]; exact X2.out, Z1.out.tch.trans T2.out (fun _ _ f => f), fun k hk => .inl hk⟩
          | false =>
            have HFULL := hid hfull
            clear hfull
            go_upto_region 7 with fail
            go_cut [65] from 56 to 65 (fun p wx => p = .bool (decide (o.K = 1) && !S.dry) ∧ Dz lo b w wx S o ov bv vv tv)
            case first =>
              have c0 := Z1.out.oc 0 rfl
              have c14 := Z1.out.dm.c_dry
              by_cases hk : o.K = 1
              · have k1 : (o.K == 1) = true := by simp [hk]
                have HV := hid (show (decide (o.K = 1) && !S.dry) = !S.dry by simp [hk])
                clear hk
                go_wp2_with fail
                go_meet
                exact ⟨by rw [HV.out], Z1.out⟩
              · have k1 : (o.K == 1) = false := by simp [hk]
                have HV := hid (show (decide (o.K = 1) && !S.dry) = false by simp [hk])
                clear hk
                go_wp2_with fail
                go_meet
                exact ⟨by rw [HV.out], Z1.out⟩
            case rest =>
              obtain ⟨rfl, hz⟩ := hcut
              clear Z1
              have Z1 := hid hz
              clear hz
              generalize wc = w3 at *
              generalize hqq : (decide (o.K = 1) && !S.dry) = qb
              have HQB := hid hqq
              clear hqq
              go_upto_if 65 with fail
              go_cut [2, 7, 8] from 66 to 77 (fun p q r wx => ∃ tv', p = .int .u64 (S.word o x : Nat) ∧ S.out o = false ∧ Dz lo b w wx (S.p1 o) o ov bv vv tv')
              case first =>
                by_cases hk : o.K = 1 ∧ S.dry = false
                · have hv : qb = true := by rw [← HQB.out]; simp [hk.1, hk.2]
                  clear HQB
                  subst hv
                  have HK := hid hk
                  by_cases hn : S.free < 1 ∨ S.TN ≤ S.used
                  · have hout : S.out o = true := by unfold Ms.out; simp [hk.1, hk.2]; omega
                    have HS : Hid (S.doS o x = { S with e := 2 } ∧ S.doR o = -1) := hid (by constructor; (unfold Ms.doS; rw [if_neg (by have := HE.out; omega), if_neg (by rw [HBAD.out]; decide), if_neg (by rw [HFULL.out]; decide), if_pos hout]); (unfold Ms.doR; rw [if_pos (.inr (.inr (.inr hout)))]))
                    have HDR := hid (ddraw_no lo b S ov bv vv tv w3 Z1.out.dm hn)
                    have HF := hid (dfails_z lo b S ov bv vv tv 2 2 rfl w3 Z1.out.dm HE.out)
                    clear hk hn hout
                    go_wp2_with (first
                      | (go_at_call 56; (with_reducible refine HDR.out.mono ?_); rintro e w4 ⟨rfl, rfl⟩)
                      | (go_at_call 55; (with_reducible refine HF.out.mono ?_); rintro e w5 ⟨rfl, hd, ht⟩; have X2 := hid hd; have T2 := hid ht; clear hd ht))
                    go_ret
                    exact ⟨by rw [HS.out.2]; rfl, _, _, _, _, by rw [HS.out.1]; exact X2.out, Z1.out.tch.trans T2.out (fun _ _ f => f), fun k hk => .inl hk⟩
                  · have HDR := hid (ddraw_yes lo b S ov bv vv tv w3 Z1.out.dm HBD.out (by omega) (by omega))
                    have hw : S.word o x = S.tw S.used := by unfold Ms.word; rw [if_pos hk]
                    have HW := hid hw
                    have HOUT := hid (show S.out o = false by unfold Ms.out; simp [hk.1, hk.2]; omega)
                    clear hk hn hw
                    go_wp2_with (go_at_call 56; (with_reducible refine HDR.out.mono ?_); rintro e w4 ⟨rfl, tv1, hd, ht⟩; have X2 := hid hd; have T2 := hid ht; clear hd ht)
                    go_meet
                    exact ⟨tv1, by rw [HW.out], HOUT.out, by unfold Ms.p1; rw [if_pos HK.out, if_pos HK.out]; exact Z1.out.step X2.out T2.out⟩
                · have hv : qb = false := by
                    rw [← HQB.out]
                    cases hd : S.dry <;> simp_all
                  clear HQB
                  subst hv
                  have hw : S.word o x = x := by unfold Ms.word; rw [if_neg hk]
                  have HW := hid hw
                  have HK := hid hk
                  have HOUT := hid (show S.out o = false by unfold Ms.out; by_cases h1 : o.K = 1 <;> cases h2 : S.dry <;> simp_all)
                  clear hk hw
                  go_wp2_with fail
                  go_meet
                  exact ⟨tv, by rw [HW.out], HOUT.out, by unfold Ms.p1; rw [if_neg HK.out, if_neg HK.out]; exact Z1.out⟩
              case rest =>
                obtain ⟨tv1, rfl, hout, hz⟩ := hcut
                have HOUT := hid hout
                clear hout
                clear Z1
                have Z1 := hid hz
                clear hz
                generalize wc = w4 at *
                have c0 := Z1.out.oc 0 rfl
                go_upto_if 80 with fail
                go_cut [80] from 78 to 88 (fun p wx => Dz lo b w wx (S.p2 o) o ov bv vv tv1)
                case first =>
                  by_cases hk : o.K = 1
                  · have e2 := hid (show S.p2 o = { S.p1 o with draws := S.draws + 1 } from by unfold Ms.p2; rw [if_pos hk])
                    have c3 : w4.cell? ⟨b, 3, none⟩ = some (Value.int .i64 (S.draws : Int)) := Z1.out.dm.c_draws
                    have f3 := Z1.out.dm.fz 3
                    have hb3 := HBD.out.draws
                    go_wp2_with fail
                    go_meet
                    rw [e2.out]
                    exact Z1.out.step (Z1.out.dm.cellSet (S' := { S.p1 o with draws := S.draws + 1 }) 3 _ rfl rfl rfl rfl rfl rfl rfl rfl rfl) (tch_set b 3 _ _)
                  · have e2 := hid (show S.p2 o = S.p1 o from by unfold Ms.p2; rw [if_neg hk]; rfl)
                    go_wp2_with fail
                    go_meet
                    rw [e2.out]
                    exact Z1.out
                case rest =>
                  have hz := hcut
                  clear hcut
                  clear Z1
                  have Z1 := hid hz
                  clear hz
                  generalize wc = w5 at *
                  have c0 := Z1.out.oc 0 rfl
                  go_upto_if 91 with fail
                  go_cut [91] from 89 to 99 (fun p wx => Dz lo b w wx (S.p3 o) o ov bv vv tv1)
                  case first =>
                    by_cases hk : o.K = 2
                    · have e2 := hid (show S.p3 o = { S.p2 o with words := S.words + 1 } from by unfold Ms.p3; rw [if_pos hk])
                      have c3 : w5.cell? ⟨b, 2, none⟩ = some (Value.int .i64 (S.words : Int)) := Z1.out.dm.c_words
                      have f3 := Z1.out.dm.fz 2
                      have hb3 := HBD.out.words
                      go_wp2_with fail
                      go_meet
                      rw [e2.out]
                      exact Z1.out.step (Z1.out.dm.cellSet (S' := { S.p2 o with words := S.words + 1 }) 2 _ rfl rfl rfl rfl rfl rfl rfl rfl rfl) (tch_set b 2 _ _)
                    · have e2 := hid (show S.p3 o = S.p2 o from by unfold Ms.p3; rw [if_neg hk]; rfl)
                      go_wp2_with fail
                      go_meet
                      rw [e2.out]
                      exact Z1.out
                  case rest =>
                    have hz := hcut
                    clear hcut Z1
                    have Z1 := hid hz
                    clear hz
                    generalize wc = w6 at *
                    go_upto_region 16 with fail
                    go_cut [100] from 100 to 123 (fun p wx => ∃ vv', Dy lo b w wx S o x ov bv vv tv1 vv')
                    case first =>
                      have HAT : Hid (∀ r w1, Dm lo w1 b (S.p3 o) ov bv vv tv1 → Calls Tryz.prog 58 #[.pointer (some ⟨b, 0, none⟩), .int .i64 r] w1 fun e w' => e = .returned (.int .u64 (wordAt S.v S.L r : Nat)) ∧ w' = w1) := hid (fun r w1 h1 => dat_any lo b (S.p3 o) ov bv vv tv1 r w1 h1 HBD.out.L)
                      have HEV : Hid (∀ w1, Calls Tryz.prog 57 #[.agg (opCs o), .int .u64 (wordAt S.v S.L o.A : Nat), .int .u64 (wordAt S.v S.L o.B : Nat), .int .u64 (wordAt S.v S.L o.E : Nat), .int .u64 (S.word o x : Nat)] w1 fun e w' => e = .returned (.int .u64 (S.makes o x : Nat)) ∧ Below w1.heap.size w1 w') := hid (fun w1 => refev_any o.K o.D o.A o.B o.E o.C (wordAt S.v S.L o.A) (wordAt S.v S.L o.B) (wordAt S.v S.L o.E) (S.word o x) w1 HC.out (word_lt HBD.out _) (word_lt HBD.out _) (word_lt HBD.out _) (x_lt HBD.out hx HOUT.out))
                      clear hx
                      have Y0 := hid Z1.out.drew
                      refine wp_region_noPanic ?_
                      refine wp_region_held_drew (S := fun w' => w'.heap[w.heap.size]? = some (.cells (opCs o) 66 (0, 0)) ∧ w'.cell? ⟨w.heap.size, 2, none⟩ = some (Value.int .i64 o.A) ∧ w'.cell? ⟨w.heap.size, 3, none⟩ = some (Value.int .i64 o.B) ∧ w'.cell? ⟨w.heap.size, 4, none⟩ = some (Value.int .i64 o.E)) (by kernel_rfl) (⟨Y0.out.op, Y0.out.oc 2 rfl, Y0.out.oc 3 rfl, Y0.out.oc 4 rfl⟩) (fun h0 => ?_)
                      generalize w6.drew = wa at *
                      refine wpAnyH_take (i := 0) (v := .pointer (some ⟨b, 0, none⟩)) rfl (by kernel_rfl) (by kernel_rfl) (by kernel_rfl) (fun _ _ _ h => h) (.inl ⟨by rfl, fun w hw => by clear hw; go_simp⟩) h0 ?_
                      try simp only [Act.put, lay_out]
                      refine wpAnyH_take (i := 1) (v := .pointer (some ⟨b, 0, none⟩)) rfl (by kernel_rfl) (by kernel_rfl) (by kernel_rfl) (fun _ _ _ h => h) (.inl ⟨by rfl, fun w hw => by clear hw; go_simp⟩) h0 ?_
                      try simp only [Act.put, lay_out]
                      refine wpAnyH_take (i := 2) (v := .pointer (some ⟨b, 0, none⟩)) rfl (by kernel_rfl) (by kernel_rfl) (by kernel_rfl) (fun _ _ _ h => h) (.inl ⟨by rfl, fun w hw => by clear hw; go_simp⟩) h0 ?_
                      try simp only [Act.put, lay_out]
                      refine wpAnyH_take (i := 3) (v := .pointer (some ⟨b, 10, none⟩)) rfl (by kernel_rfl) (by kernel_rfl) (by kernel_rfl) (fun _ _ _ h => h) (.inl ⟨by rfl, fun w hw => by clear hw; go_simp⟩) h0 ?_
                      try simp only [Act.put, lay_out]
                      refine wpAnyH_take (i := 5) (v := .agg (opCs o)) rfl (by kernel_rfl) (by kernel_rfl) (by kernel_rfl) (fun _ _ _ h => h) (yields_load_row (by rfl) 66 (.tmp 4) rfl w.heap.size 66 (opCs o) _ rfl (fun w h => h.1) Tryz.underlying66 rfl (by kernel_rfl)) h0 ?_
                      try simp only [Act.put, lay_out]
                      refine wpAnyH_take (i := 6) (v := .pointer (some ⟨b, 0, none⟩)) rfl (by kernel_rfl) (by kernel_rfl) (by kernel_rfl) (fun _ _ _ h => h) (.inl ⟨by rfl, fun w hw => by clear hw; go_simp⟩) h0 ?_
                      try simp only [Act.put, lay_out]
                      refine wpAnyH_take (i := 7) (v := .pointer (some ⟨w.heap.size, 2, none⟩)) rfl (by kernel_rfl) (by kernel_rfl) (by kernel_rfl) (fun _ _ _ h => h) (.inl ⟨by rfl, fun w hw => by clear hw; go_simp⟩) h0 ?_
                      try simp only [Act.put, lay_out]
                      refine wpAnyH_take (i := 8) (v := .int .i64 o.A) rfl (by kernel_rfl) (by kernel_rfl) (by kernel_rfl) (fun _ _ _ h => h) (.inl ⟨by rfl, fun w hw => by have hc := hw.2.1; clear hw; go_simp⟩) h0 ?_
                      try simp only [Act.put, lay_out]
                      refine wpAnyH_take (i := 10) (v := .pointer (some ⟨b, 0, none⟩)) rfl (by kernel_rfl) (by kernel_rfl) (by kernel_rfl) (fun _ _ _ h => h) (.inl ⟨by rfl, fun w hw => by clear hw; go_simp⟩) h0 ?_
                      try simp only [Act.put, lay_out]
                      refine wpAnyH_take (i := 11) (v := .pointer (some ⟨w.heap.size, 3, none⟩)) rfl (by kernel_rfl) (by kernel_rfl) (by kernel_rfl) (fun _ _ _ h => h) (.inl ⟨by rfl, fun w hw => by clear hw; go_simp⟩) h0 ?_
                      try simp only [Act.put, lay_out]
                      refine wpAnyH_take (i := 12) (v := .int .i64 o.B) rfl (by kernel_rfl) (by kernel_rfl) (by kernel_rfl) (fun _ _ _ h => h) (.inl ⟨by rfl, fun w hw => by have hc := hw.2.2.1; clear hw; go_simp⟩) h0 ?_
                      try simp only [Act.put, lay_out]
                      refine wpAnyH_take (i := 14) (v := .pointer (some ⟨b, 0, none⟩)) rfl (by kernel_rfl) (by kernel_rfl) (by kernel_rfl) (fun _ _ _ h => h) (.inl ⟨by rfl, fun w hw => by clear hw; go_simp⟩) h0 ?_
                      try simp only [Act.put, lay_out]
                      refine wpAnyH_take (i := 15) (v := .pointer (some ⟨w.heap.size, 4, none⟩)) rfl (by kernel_rfl) (by kernel_rfl) (by kernel_rfl) (fun _ _ _ h => h) (.inl ⟨by rfl, fun w hw => by clear hw; go_simp⟩) h0 ?_
                      try simp only [Act.put, lay_out]
                      refine wpAnyH_take (i := 16) (v := .int .i64 o.E) rfl (by kernel_rfl) (by kernel_rfl) (by kernel_rfl) (fun _ _ _ h => h) (.inl ⟨by rfl, fun w hw => by have hc := hw.2.2.2; clear hw; go_simp⟩) h0 ?_
                      try simp only [Act.put, lay_out]
                      refine wpAnyH_take (i := 18) (v := .int .u64 (S.word o x : Nat)) rfl (by kernel_rfl) (by kernel_rfl) (by kernel_rfl) (fun _ _ _ h => h) (.inl ⟨by rfl, fun w hw => by clear hw; go_simp⟩) h0 ?_
                      try simp only [Act.put, lay_out]
                      refine wpAnyH_ready (rs := [4, 9]) (by kernel_rfl) (by simp) (AllReadyH.cons rfl (fun K hK => ?_) (AllReadyH.cons rfl (fun K hK => ?_) AllReadyH.nil))
                      · have c10 := Y0.out.dm.c_vv
                        rw [if_pos (by rfl)]
                        go_simp
                        clear c10
                        refine hK.out _ _ (⟨Y0.out.op, Y0.out.oc 2 rfl, Y0.out.oc 3 rfl, Y0.out.oc 4 rfl⟩) (fun h1x => ?_)
                        clear hK K
                        try simp only [Act.put, lay_out]
                        refine wpAnyH_ready (rs := [9]) (by kernel_rfl) (by simp) (AllReadyH.cons rfl (fun K hK => ?_) AllReadyH.nil)
                        rw [if_pos (by rfl)]
                        go_simp
                        go_at_call 58
                        (with_reducible refine (HAT.out _ _ Y0.out.dm).mono ?_); rintro e wb0 ⟨rfl, rfl⟩
                        refine hK.out _ _ (⟨Y0.out.op, Y0.out.oc 2 rfl, Y0.out.oc 3 rfl, Y0.out.oc 4 rfl⟩) (fun h2x => ?_)
                        clear hK K
                        try simp only [Act.put, lay_out]
                        refine wpAnyH_ready (rs := [13]) (by kernel_rfl) (by simp) (AllReadyH.cons rfl (fun K hK => ?_) AllReadyH.nil)
                        rw [if_pos (by rfl)]
                        go_simp
                        go_at_call 58
                        (with_reducible refine (HAT.out _ _ Y0.out.dm).mono ?_); rintro e wb1 ⟨rfl, rfl⟩
                        refine hK.out _ _ (⟨Y0.out.op, Y0.out.oc 2 rfl, Y0.out.oc 3 rfl, Y0.out.oc 4 rfl⟩) (fun h3x => ?_)
                        clear hK K
                        try simp only [Act.put, lay_out]
                        refine wpAnyH_ready (rs := [17]) (by kernel_rfl) (by simp) (AllReadyH.cons rfl (fun K hK => ?_) AllReadyH.nil)
                        rw [if_pos (by rfl)]
                        go_simp
                        go_at_call 58
                        (with_reducible refine (HAT.out _ _ Y0.out.dm).mono ?_); rintro e wb2 ⟨rfl, rfl⟩
                        refine hK.out _ _ (⟨Y0.out.op, Y0.out.oc 2 rfl, Y0.out.oc 3 rfl, Y0.out.oc 4 rfl⟩) (fun h4x => ?_)
                        clear hK K
                        try simp only [Act.put, lay_out]
                        refine wpAnyH_ready (rs := [19]) (by kernel_rfl) (by simp) (AllReadyH.cons rfl (fun K hK => ?_) AllReadyH.nil)
                        rw [if_pos (by rfl)]
                        go_simp
                        go_at_call 57
                        (with_reducible refine (HEV.out _).mono ?_); rintro e we ⟨rfl, hb1⟩
                        have YE := hid (Y0.out.self hb1)
                        clear hb1
                        refine hK.out _ _ (⟨YE.out.op, YE.out.oc 2 rfl, YE.out.oc 3 rfl, YE.out.oc 4 rfl⟩) (fun h5x => ?_)
                        clear hK K
                        try simp only [Act.put, lay_out]
                        refine wpAnyH_ready (rs := [20]) (by kernel_rfl) (by simp) (AllReadyH.cons rfl (fun K hK => ?_) AllReadyH.nil)
                        rw [if_pos (by rfl)]
                        go_simp
                        have YA := hid (YE.out.self ((Below.refl we.heap.size we).alloc (Nat.le_refl _) (.cells #[.int .u64 (S.makes o x : Nat)] 22)))
                        refine hK.out _ _ (⟨YA.out.op, YA.out.oc 2 rfl, YA.out.oc 3 rfl, YA.out.oc 4 rfl⟩) (fun h6x => ?_)
                        clear hK K
                        try simp only [Act.put, lay_out]
                        refine wpAnyH_ready (rs := [21]) (by kernel_rfl) (by simp) (AllReadyH.cons rfl (fun K hK => ?_) AllReadyH.nil)
                        rw [if_pos (by rfl)]
                        refine wp_append_rec (.tmp 104) (.tmp 120) 24 rfl lo.lo 22 1 8 (.int .u64 0) Tryz.underlying24 infoU64 (by rfl) (by decide) vv S.L (fun i => [.int .u64 ((updN S.v S.L (S.makes o x) i : Nat) : Int)]) rfl (YA.out.dm.val.ext fun i hi => by have hi' : i < S.L := hi; rw [updN_no _ _ (by omega)]; rfl) ⟨we.heap.size, 0, none⟩ 1 rfl rfl (by intro u hu; simp at hu; subst hu; rfl) ?_ (by have := HBD.out.L; unfold maxLen; omega) (by have := HBD.out.L; omega) (Nat.le_of_lt (Nat.lt_of_le_of_lt YA.out.dm.lob YA.out.dm.lt)) (fun g cap' w9 g1 g2 g3 => ?_)
                        · rw [updN_at]; exact World.news_of_block (heap_alloc_new _ _)
                        have XG : Hid (Dm2 lo (w9.setCell ⟨b, 10, none⟩ (.slice (some ⟨g, 0, none⟩) (S.L + 1) cap')) b { S.p3 o with v := updN S.v S.L (S.makes o x) } (S.L + 1) ov bv (.slice (some ⟨g, 0, none⟩) (S.L + 1) cap') tv1 ∧ Tch (Ft b ov bv vv) (we.alloc (.cells #[.int .u64 (S.makes o x : Nat)] 22)) (w9.setCell ⟨b, 10, none⟩ (.slice (some ⟨g, 0, none⟩) (S.L + 1) cap')) ∧ (∀ k, Ft b ov bv (.slice (some ⟨g, 0, none⟩) (S.L + 1) cap') k → Ft b ov bv vv k ∨ (we.alloc (.cells #[.int .u64 (S.makes o x : Nat)] 22)).heap.size ≤ k)) := hid (Dm2.addVal (x := S.makes o x) YA.out.dm g1 g2 g3)
                        have hbl : w9.heap[b]? = _ := g2.block b YA.out.dm.lt (fun e => YA.out.dm.hvb e.symm)
                        have f10 := frozen_of_row w9 b 10 _ _ (hbl.trans YA.out.dm.blk)
                        have c10 : w9.cell? ⟨b, 10, none⟩ = some vv := by rw [World.cell?_of_block hbl]; exact YA.out.dm.c_vv
                        have HR9 := hid ((g2.block w.heap.size (Array.getElem?_eq_some_iff.1 YA.out.op).1 (fun e => YA.out.no (.inr (.inr (.inr e.symm))))).trans YA.out.op)
                        have HRZ := hid ((XG.out.2.1.block w.heap.size (Array.getElem?_eq_some_iff.1 YA.out.op).1 YA.out.no).trans YA.out.op)
                        clear g1 g2 g3 hbl
                        refine hK.out _ _ (⟨HR9.out, oc_of HR9.out 2 rfl, oc_of HR9.out 3 rfl, oc_of HR9.out 4 rfl⟩) (fun h7x => ?_)
                        clear hK K
                        try simp only [Act.put, lay_out]
                        refine wpAnyH_take (i := 22) (v := .pointer (some ⟨b, 0, none⟩)) rfl (by kernel_rfl) (by kernel_rfl) (by kernel_rfl) (fun _ _ _ h => h) (.inl ⟨by rfl, fun w hw => by clear hw; go_simp⟩) h7x ?_
                        try simp only [Act.put, lay_out]
                        refine wpAnyH_take (i := 23) (v := .pointer (some ⟨b, 10, none⟩)) rfl (by kernel_rfl) (by kernel_rfl) (by kernel_rfl) (fun _ _ _ h => h) (.inl ⟨by rfl, fun w hw => by clear hw; go_simp⟩) h7x ?_
                        try simp only [Act.put, lay_out]
                        refine wpAnyH_ready (rs := [24]) (by kernel_rfl) (by simp) (AllReadyH.cons rfl (fun K hK => ?_) AllReadyH.nil)
                        rw [if_pos (by rfl)]
                        go_simp
                        refine hK.out _ _ (⟨HRZ.out, oc_of HRZ.out 2 rfl, oc_of HRZ.out 3 rfl, oc_of HRZ.out 4 rfl⟩) (fun h8x => ?_)
                        clear hK K
                        try simp only [Act.put, lay_out]
                        refine wpAnyH_done (by kernel_rfl) ?_ _
                        refine NoPanic.normal ?_
                        clear h0 h1x h2x h3x h4x h5x h6x h7x h8x
                        try simp only [Act.put, lay_out]
                        go_wp2_with fail
                        go_meet
                        exact ⟨_, XG.out.1, HRZ.out, YA.out.tch.trans XG.out.2.1 (fun _ _ f => f), fun k hk => (XG.out.2.2 k hk).imp id (fun h => Nat.le_trans YA.out.tch.size h), fun e => YA.out.no (.inr (.inl e)), fun e => YA.out.no (.inl e.symm)⟩
                      · rw [if_pos (by rfl)]
                        go_simp
                        go_at_call 58
                        (with_reducible refine (HAT.out _ _ Y0.out.dm).mono ?_); rintro e wb0 ⟨rfl, rfl⟩
                        refine hK.out _ _ (⟨Y0.out.op, Y0.out.oc 2 rfl, Y0.out.oc 3 rfl, Y0.out.oc 4 rfl⟩) (fun h1x => ?_)
                        clear hK K
                        try simp only [Act.put, lay_out]
                        refine wpAnyH_ready (rs := [4, 13]) (by kernel_rfl) (by simp) (AllReadyH.cons rfl (fun K hK => ?_) (AllReadyH.cons rfl (fun K hK => ?_) AllReadyH.nil))
                        · have c10 := Y0.out.dm.c_vv
                          rw [if_pos (by rfl)]
                          go_simp
                          clear c10
                          refine hK.out _ _ (⟨Y0.out.op, Y0.out.oc 2 rfl, Y0.out.oc 3 rfl, Y0.out.oc 4 rfl⟩) (fun h2x => ?_)
                          clear hK K
                          try simp only [Act.put, lay_out]
                          refine wpAnyH_ready (rs := [13]) (by kernel_rfl) (by simp) (AllReadyH.cons rfl (fun K hK => ?_) AllReadyH.nil)
                          rw [if_pos (by rfl)]
                          go_simp
                          go_at_call 58
                          (with_reducible refine (HAT.out _ _ Y0.out.dm).mono ?_); rintro e wb1 ⟨rfl, rfl⟩
                          refine hK.out _ _ (⟨Y0.out.op, Y0.out.oc 2 rfl, Y0.out.oc 3 rfl, Y0.out.oc 4 rfl⟩) (fun h3x => ?_)
                          clear hK K
                          try simp only [Act.put, lay_out]
                          refine wpAnyH_ready (rs := [17]) (by kernel_rfl) (by simp) (AllReadyH.cons rfl (fun K hK => ?_) AllReadyH.nil)
                          rw [if_pos (by rfl)]
                          go_simp
                          go_at_call 58
                          (with_reducible refine (HAT.out _ _ Y0.out.dm).mono ?_); rintro e wb2 ⟨rfl, rfl⟩
                          refine hK.out _ _ (⟨Y0.out.op, Y0.out.oc 2 rfl, Y0.out.oc 3 rfl, Y0.out.oc 4 rfl⟩) (fun h4x => ?_)
                          clear hK K
                          try simp only [Act.put, lay_out]
                          refine wpAnyH_ready (rs := [19]) (by kernel_rfl) (by simp) (AllReadyH.cons rfl (fun K hK => ?_) AllReadyH.nil)
                          rw [if_pos (by rfl)]
                          go_simp
                          go_at_call 57
                          (with_reducible refine (HEV.out _).mono ?_); rintro e we ⟨rfl, hb1⟩
                          have YE := hid (Y0.out.self hb1)
                          clear hb1
                          refine hK.out _ _ (⟨YE.out.op, YE.out.oc 2 rfl, YE.out.oc 3 rfl, YE.out.oc 4 rfl⟩) (fun h5x => ?_)
                          clear hK K
                          try simp only [Act.put, lay_out]
                          refine wpAnyH_ready (rs := [20]) (by kernel_rfl) (by simp) (AllReadyH.cons rfl (fun K hK => ?_) AllReadyH.nil)
                          rw [if_pos (by rfl)]
                          go_simp
                          have YA := hid (YE.out.self ((Below.refl we.heap.size we).alloc (Nat.le_refl _) (.cells #[.int .u64 (S.makes o x : Nat)] 22)))
                          refine hK.out _ _ (⟨YA.out.op, YA.out.oc 2 rfl, YA.out.oc 3 rfl, YA.out.oc 4 rfl⟩) (fun h6x => ?_)
                          clear hK K
                          try simp only [Act.put, lay_out]
                          refine wpAnyH_ready (rs := [21]) (by kernel_rfl) (by simp) (AllReadyH.cons rfl (fun K hK => ?_) AllReadyH.nil)
                          rw [if_pos (by rfl)]
                          refine wp_append_rec (.tmp 104) (.tmp 120) 24 rfl lo.lo 22 1 8 (.int .u64 0) Tryz.underlying24 infoU64 (by rfl) (by decide) vv S.L (fun i => [.int .u64 ((updN S.v S.L (S.makes o x) i : Nat) : Int)]) rfl (YA.out.dm.val.ext fun i hi => by have hi' : i < S.L := hi; rw [updN_no _ _ (by omega)]; rfl) ⟨we.heap.size, 0, none⟩ 1 rfl rfl (by intro u hu; simp at hu; subst hu; rfl) ?_ (by have := HBD.out.L; unfold maxLen; omega) (by have := HBD.out.L; omega) (Nat.le_of_lt (Nat.lt_of_le_of_lt YA.out.dm.lob YA.out.dm.lt)) (fun g cap' w9 g1 g2 g3 => ?_)
                          · rw [updN_at]; exact World.news_of_block (heap_alloc_new _ _)
                          have XG : Hid (Dm2 lo (w9.setCell ⟨b, 10, none⟩ (.slice (some ⟨g, 0, none⟩) (S.L + 1) cap')) b { S.p3 o with v := updN S.v S.L (S.makes o x) } (S.L + 1) ov bv (.slice (some ⟨g, 0, none⟩) (S.L + 1) cap') tv1 ∧ Tch (Ft b ov bv vv) (we.alloc (.cells #[.int .u64 (S.makes o x : Nat)] 22)) (w9.setCell ⟨b, 10, none⟩ (.slice (some ⟨g, 0, none⟩) (S.L + 1) cap')) ∧ (∀ k, Ft b ov bv (.slice (some ⟨g, 0, none⟩) (S.L + 1) cap') k → Ft b ov bv vv k ∨ (we.alloc (.cells #[.int .u64 (S.makes o x : Nat)] 22)).heap.size ≤ k)) := hid (Dm2.addVal (x := S.makes o x) YA.out.dm g1 g2 g3)
                          have hbl : w9.heap[b]? = _ := g2.block b YA.out.dm.lt (fun e => YA.out.dm.hvb e.symm)
                          have f10 := frozen_of_row w9 b 10 _ _ (hbl.trans YA.out.dm.blk)
                          have c10 : w9.cell? ⟨b, 10, none⟩ = some vv := by rw [World.cell?_of_block hbl]; exact YA.out.dm.c_vv
                          have HR9 := hid ((g2.block w.heap.size (Array.getElem?_eq_some_iff.1 YA.out.op).1 (fun e => YA.out.no (.inr (.inr (.inr e.symm))))).trans YA.out.op)
                          have HRZ := hid ((XG.out.2.1.block w.heap.size (Array.getElem?_eq_some_iff.1 YA.out.op).1 YA.out.no).trans YA.out.op)
                          clear g1 g2 g3 hbl
                          refine hK.out _ _ (⟨HR9.out, oc_of HR9.out 2 rfl, oc_of HR9.out 3 rfl, oc_of HR9.out 4 rfl⟩) (fun h7x => ?_)
                          clear hK K
                          try simp only [Act.put, lay_out]
                          refine wpAnyH_take (i := 22) (v := .pointer (some ⟨b, 0, none⟩)) rfl (by kernel_rfl) (by kernel_rfl) (by kernel_rfl) (fun _ _ _ h => h) (.inl ⟨by rfl, fun w hw => by clear hw; go_simp⟩) h7x ?_
                          try simp only [Act.put, lay_out]
                          refine wpAnyH_take (i := 23) (v := .pointer (some ⟨b, 10, none⟩)) rfl (by kernel_rfl) (by kernel_rfl) (by kernel_rfl) (fun _ _ _ h => h) (.inl ⟨by rfl, fun w hw => by clear hw; go_simp⟩) h7x ?_
                          try simp only [Act.put, lay_out]
                          refine wpAnyH_ready (rs := [24]) (by kernel_rfl) (by simp) (AllReadyH.cons rfl (fun K hK => ?_) AllReadyH.nil)
                          rw [if_pos (by rfl)]
                          go_simp
                          refine hK.out _ _ (⟨HRZ.out, oc_of HRZ.out 2 rfl, oc_of HRZ.out 3 rfl, oc_of HRZ.out 4 rfl⟩) (fun h8x => ?_)
                          clear hK K
                          try simp only [Act.put, lay_out]
                          refine wpAnyH_done (by kernel_rfl) ?_ _
                          refine NoPanic.normal ?_
                          clear h0 h1x h2x h3x h4x h5x h6x h7x h8x
                          try simp only [Act.put, lay_out]
                          go_wp2_with fail
                          go_meet
                          exact ⟨_, XG.out.1, HRZ.out, YA.out.tch.trans XG.out.2.1 (fun _ _ f => f), fun k hk => (XG.out.2.2 k hk).imp id (fun h => Nat.le_trans YA.out.tch.size h), fun e => YA.out.no (.inr (.inl e)), fun e => YA.out.no (.inl e.symm)⟩
                        · rw [if_pos (by rfl)]
                          go_simp
                          go_at_call 58
                          (with_reducible refine (HAT.out _ _ Y0.out.dm).mono ?_); rintro e wb1 ⟨rfl, rfl⟩
                          refine hK.out _ _ (⟨Y0.out.op, Y0.out.oc 2 rfl, Y0.out.oc 3 rfl, Y0.out.oc 4 rfl⟩) (fun h2x => ?_)
                          clear hK K
                          try simp only [Act.put, lay_out]
                          refine wpAnyH_ready (rs := [4, 17]) (by kernel_rfl) (by simp) (AllReadyH.cons rfl (fun K hK => ?_) (AllReadyH.cons rfl (fun K hK => ?_) AllReadyH.nil))
                          · have c10 := Y0.out.dm.c_vv
                            rw [if_pos (by rfl)]
                            go_simp
                            clear c10
                            refine hK.out _ _ (⟨Y0.out.op, Y0.out.oc 2 rfl, Y0.out.oc 3 rfl, Y0.out.oc 4 rfl⟩) (fun h3x => ?_)
                            clear hK K
                            try simp only [Act.put, lay_out]
                            refine wpAnyH_ready (rs := [17]) (by kernel_rfl) (by simp) (AllReadyH.cons rfl (fun K hK => ?_) AllReadyH.nil)
                            rw [if_pos (by rfl)]
                            go_simp
                            go_at_call 58
                            (with_reducible refine (HAT.out _ _ Y0.out.dm).mono ?_); rintro e wb2 ⟨rfl, rfl⟩
                            refine hK.out _ _ (⟨Y0.out.op, Y0.out.oc 2 rfl, Y0.out.oc 3 rfl, Y0.out.oc 4 rfl⟩) (fun h4x => ?_)
                            clear hK K
                            try simp only [Act.put, lay_out]
                            refine wpAnyH_ready (rs := [19]) (by kernel_rfl) (by simp) (AllReadyH.cons rfl (fun K hK => ?_) AllReadyH.nil)
                            rw [if_pos (by rfl)]
                            go_simp
                            go_at_call 57
                            (with_reducible refine (HEV.out _).mono ?_); rintro e we ⟨rfl, hb1⟩
                            have YE := hid (Y0.out.self hb1)
                            clear hb1
                            refine hK.out _ _ (⟨YE.out.op, YE.out.oc 2 rfl, YE.out.oc 3 rfl, YE.out.oc 4 rfl⟩) (fun h5x => ?_)
                            clear hK K
                            try simp only [Act.put, lay_out]
                            refine wpAnyH_ready (rs := [20]) (by kernel_rfl) (by simp) (AllReadyH.cons rfl (fun K hK => ?_) AllReadyH.nil)
                            rw [if_pos (by rfl)]
                            go_simp
                            have YA := hid (YE.out.self ((Below.refl we.heap.size we).alloc (Nat.le_refl _) (.cells #[.int .u64 (S.makes o x : Nat)] 22)))
                            refine hK.out _ _ (⟨YA.out.op, YA.out.oc 2 rfl, YA.out.oc 3 rfl, YA.out.oc 4 rfl⟩) (fun h6x => ?_)
                            clear hK K
                            try simp only [Act.put, lay_out]
                            refine wpAnyH_ready (rs := [21]) (by kernel_rfl) (by simp) (AllReadyH.cons rfl (fun K hK => ?_) AllReadyH.nil)
                            rw [if_pos (by rfl)]
                            refine wp_append_rec (.tmp 104) (.tmp 120) 24 rfl lo.lo 22 1 8 (.int .u64 0) Tryz.underlying24 infoU64 (by rfl) (by decide) vv S.L (fun i => [.int .u64 ((updN S.v S.L (S.makes o x) i : Nat) : Int)]) rfl (YA.out.dm.val.ext fun i hi => by have hi' : i < S.L := hi; rw [updN_no _ _ (by omega)]; rfl) ⟨we.heap.size, 0, none⟩ 1 rfl rfl (by intro u hu; simp at hu; subst hu; rfl) ?_ (by have := HBD.out.L; unfold maxLen; omega) (by have := HBD.out.L; omega) (Nat.le_of_lt (Nat.lt_of_le_of_lt YA.out.dm.lob YA.out.dm.lt)) (fun g cap' w9 g1 g2 g3 => ?_)
                            · rw [updN_at]; exact World.news_of_block (heap_alloc_new _ _)
                            have XG : Hid (Dm2 lo (w9.setCell ⟨b, 10, none⟩ (.slice (some ⟨g, 0, none⟩) (S.L + 1) cap')) b { S.p3 o with v := updN S.v S.L (S.makes o x) } (S.L + 1) ov bv (.slice (some ⟨g, 0, none⟩) (S.L + 1) cap') tv1 ∧ Tch (Ft b ov bv vv) (we.alloc (.cells #[.int .u64 (S.makes o x : Nat)] 22)) (w9.setCell ⟨b, 10, none⟩ (.slice (some ⟨g, 0, none⟩) (S.L + 1) cap')) ∧ (∀ k, Ft b ov bv (.slice (some ⟨g, 0, none⟩) (S.L + 1) cap') k → Ft b ov bv vv k ∨ (we.alloc (.cells #[.int .u64 (S.makes o x : Nat)] 22)).heap.size ≤ k)) := hid (Dm2.addVal (x := S.makes o x) YA.out.dm g1 g2 g3)
                            have hbl : w9.heap[b]? = _ := g2.block b YA.out.dm.lt (fun e => YA.out.dm.hvb e.symm)
                            have f10 := frozen_of_row w9 b 10 _ _ (hbl.trans YA.out.dm.blk)
                            have c10 : w9.cell? ⟨b, 10, none⟩ = some vv := by rw [World.cell?_of_block hbl]; exact YA.out.dm.c_vv
                            have HR9 := hid ((g2.block w.heap.size (Array.getElem?_eq_some_iff.1 YA.out.op).1 (fun e => YA.out.no (.inr (.inr (.inr e.symm))))).trans YA.out.op)
                            have HRZ := hid ((XG.out.2.1.block w.heap.size (Array.getElem?_eq_some_iff.1 YA.out.op).1 YA.out.no).trans YA.out.op)
                            clear g1 g2 g3 hbl
                            refine hK.out _ _ (⟨HR9.out, oc_of HR9.out 2 rfl, oc_of HR9.out 3 rfl, oc_of HR9.out 4 rfl⟩) (fun h7x => ?_)
                            clear hK K
                            try simp only [Act.put, lay_out]
                            refine wpAnyH_take (i := 22) (v := .pointer (some ⟨b, 0, none⟩)) rfl (by kernel_rfl) (by kernel_rfl) (by kernel_rfl) (fun _ _ _ h => h) (.inl ⟨by rfl, fun w hw => by clear hw; go_simp⟩) h7x ?_
                            try simp only [Act.put, lay_out]
                            refine wpAnyH_take (i := 23) (v := .pointer (some ⟨b, 10, none⟩)) rfl (by kernel_rfl) (by kernel_rfl) (by kernel_rfl) (fun _ _ _ h => h) (.inl ⟨by rfl, fun w hw => by clear hw; go_simp⟩) h7x ?_
                            try simp only [Act.put, lay_out]
                            refine wpAnyH_ready (rs := [24]) (by kernel_rfl) (by simp) (AllReadyH.cons rfl (fun K hK => ?_) AllReadyH.nil)
                            rw [if_pos (by rfl)]
                            go_simp
                            refine hK.out _ _ (⟨HRZ.out, oc_of HRZ.out 2 rfl, oc_of HRZ.out 3 rfl, oc_of HRZ.out 4 rfl⟩) (fun h8x => ?_)
                            clear hK K
                            try simp only [Act.put, lay_out]
                            refine wpAnyH_done (by kernel_rfl) ?_ _
                            refine NoPanic.normal ?_
                            clear h0 h1x h2x h3x h4x h5x h6x h7x h8x
                            try simp only [Act.put, lay_out]
                            go_wp2_with fail
                            go_meet
                            exact ⟨_, XG.out.1, HRZ.out, YA.out.tch.trans XG.out.2.1 (fun _ _ f => f), fun k hk => (XG.out.2.2 k hk).imp id (fun h => Nat.le_trans YA.out.tch.size h), fun e => YA.out.no (.inr (.inl e)), fun e => YA.out.no (.inl e.symm)⟩
                          · rw [if_pos (by rfl)]
                            go_simp
                            go_at_call 58
                            (with_reducible refine (HAT.out _ _ Y0.out.dm).mono ?_); rintro e wb2 ⟨rfl, rfl⟩
                            refine hK.out _ _ (⟨Y0.out.op, Y0.out.oc 2 rfl, Y0.out.oc 3 rfl, Y0.out.oc 4 rfl⟩) (fun h3x => ?_)
                            clear hK K
                            try simp only [Act.put, lay_out]
                            refine wpAnyH_ready (rs := [4, 19]) (by kernel_rfl) (by simp) (AllReadyH.cons rfl (fun K hK => ?_) (AllReadyH.cons rfl (fun K hK => ?_) AllReadyH.nil))
                            · have c10 := Y0.out.dm.c_vv
                              rw [if_pos (by rfl)]
                              go_simp
                              clear c10
                              refine hK.out _ _ (⟨Y0.out.op, Y0.out.oc 2 rfl, Y0.out.oc 3 rfl, Y0.out.oc 4 rfl⟩) (fun h4x => ?_)
                              clear hK K
                              try simp only [Act.put, lay_out]
                              refine wpAnyH_ready (rs := [19]) (by kernel_rfl) (by simp) (AllReadyH.cons rfl (fun K hK => ?_) AllReadyH.nil)
                              rw [if_pos (by rfl)]
                              go_simp
                              go_at_call 57
                              (with_reducible refine (HEV.out _).mono ?_); rintro e we ⟨rfl, hb1⟩
                              have YE := hid (Y0.out.self hb1)
                              clear hb1
                              refine hK.out _ _ (⟨YE.out.op, YE.out.oc 2 rfl, YE.out.oc 3 rfl, YE.out.oc 4 rfl⟩) (fun h5x => ?_)
                              clear hK K
                              try simp only [Act.put, lay_out]
                              refine wpAnyH_ready (rs := [20]) (by kernel_rfl) (by simp) (AllReadyH.cons rfl (fun K hK => ?_) AllReadyH.nil)
                              rw [if_pos (by rfl)]
                              go_simp
                              have YA := hid (YE.out.self ((Below.refl we.heap.size we).alloc (Nat.le_refl _) (.cells #[.int .u64 (S.makes o x : Nat)] 22)))
                              refine hK.out _ _ (⟨YA.out.op, YA.out.oc 2 rfl, YA.out.oc 3 rfl, YA.out.oc 4 rfl⟩) (fun h6x => ?_)
                              clear hK K
                              try simp only [Act.put, lay_out]
                              refine wpAnyH_ready (rs := [21]) (by kernel_rfl) (by simp) (AllReadyH.cons rfl (fun K hK => ?_) AllReadyH.nil)
                              rw [if_pos (by rfl)]
                              refine wp_append_rec (.tmp 104) (.tmp 120) 24 rfl lo.lo 22 1 8 (.int .u64 0) Tryz.underlying24 infoU64 (by rfl) (by decide) vv S.L (fun i => [.int .u64 ((updN S.v S.L (S.makes o x) i : Nat) : Int)]) rfl (YA.out.dm.val.ext fun i hi => by have hi' : i < S.L := hi; rw [updN_no _ _ (by omega)]; rfl) ⟨we.heap.size, 0, none⟩ 1 rfl rfl (by intro u hu; simp at hu; subst hu; rfl) ?_ (by have := HBD.out.L; unfold maxLen; omega) (by have := HBD.out.L; omega) (Nat.le_of_lt (Nat.lt_of_le_of_lt YA.out.dm.lob YA.out.dm.lt)) (fun g cap' w9 g1 g2 g3 => ?_)
                              · rw [updN_at]; exact World.news_of_block (heap_alloc_new _ _)
                              have XG : Hid (Dm2 lo (w9.setCell ⟨b, 10, none⟩ (.slice (some ⟨g, 0, none⟩) (S.L + 1) cap')) b { S.p3 o with v := updN S.v S.L (S.makes o x) } (S.L + 1) ov bv (.slice (some ⟨g, 0, none⟩) (S.L + 1) cap') tv1 ∧ Tch (Ft b ov bv vv) (we.alloc (.cells #[.int .u64 (S.makes o x : Nat)] 22)) (w9.setCell ⟨b, 10, none⟩ (.slice (some ⟨g, 0, none⟩) (S.L + 1) cap')) ∧ (∀ k, Ft b ov bv (.slice (some ⟨g, 0, none⟩) (S.L + 1) cap') k → Ft b ov bv vv k ∨ (we.alloc (.cells #[.int .u64 (S.makes o x : Nat)] 22)).heap.size ≤ k)) := hid (Dm2.addVal (x := S.makes o x) YA.out.dm g1 g2 g3)
                              have hbl : w9.heap[b]? = _ := g2.block b YA.out.dm.lt (fun e => YA.out.dm.hvb e.symm)
                              have f10 := frozen_of_row w9 b 10 _ _ (hbl.trans YA.out.dm.blk)
                              have c10 : w9.cell? ⟨b, 10, none⟩ = some vv := by rw [World.cell?_of_block hbl]; exact YA.out.dm.c_vv
                              have HR9 := hid ((g2.block w.heap.size (Array.getElem?_eq_some_iff.1 YA.out.op).1 (fun e => YA.out.no (.inr (.inr (.inr e.symm))))).trans YA.out.op)
                              have HRZ := hid ((XG.out.2.1.block w.heap.size (Array.getElem?_eq_some_iff.1 YA.out.op).1 YA.out.no).trans YA.out.op)
                              clear g1 g2 g3 hbl
                              refine hK.out _ _ (⟨HR9.out, oc_of HR9.out 2 rfl, oc_of HR9.out 3 rfl, oc_of HR9.out 4 rfl⟩) (fun h7x => ?_)
                              clear hK K
                              try simp only [Act.put, lay_out]
                              refine wpAnyH_take (i := 22) (v := .pointer (some ⟨b, 0, none⟩)) rfl (by kernel_rfl) (by kernel_rfl) (by kernel_rfl) (fun _ _ _ h => h) (.inl ⟨by rfl, fun w hw => by clear hw; go_simp⟩) h7x ?_
                              try simp only [Act.put, lay_out]
                              refine wpAnyH_take (i := 23) (v := .pointer (some ⟨b, 10, none⟩)) rfl (by kernel_rfl) (by kernel_rfl) (by kernel_rfl) (fun _ _ _ h => h) (.inl ⟨by rfl, fun w hw => by clear hw; go_simp⟩) h7x ?_
                              try simp only [Act.put, lay_out]
                              refine wpAnyH_ready (rs := [24]) (by kernel_rfl) (by simp) (AllReadyH.cons rfl (fun K hK => ?_) AllReadyH.nil)
                              rw [if_pos (by rfl)]
                              go_simp
                              refine hK.out _ _ (⟨HRZ.out, oc_of HRZ.out 2 rfl, oc_of HRZ.out 3 rfl, oc_of HRZ.out 4 rfl⟩) (fun h8x => ?_)
                              clear hK K
                              try simp only [Act.put, lay_out]
                              refine wpAnyH_done (by kernel_rfl) ?_ _
                              refine NoPanic.normal ?_
                              clear h0 h1x h2x h3x h4x h5x h6x h7x h8x
                              try simp only [Act.put, lay_out]
                              go_wp2_with fail
                              go_meet
                              exact ⟨_, XG.out.1, HRZ.out, YA.out.tch.trans XG.out.2.1 (fun _ _ f => f), fun k hk => (XG.out.2.2 k hk).imp id (fun h => Nat.le_trans YA.out.tch.size h), fun e => YA.out.no (.inr (.inl e)), fun e => YA.out.no (.inl e.symm)⟩
                            · rw [if_pos (by rfl)]
                              go_simp
                              go_at_call 57
                              (with_reducible refine (HEV.out _).mono ?_); rintro e we ⟨rfl, hb1⟩
                              have YE := hid (Y0.out.self hb1)
                              clear hb1
                              refine hK.out _ _ (⟨YE.out.op, YE.out.oc 2 rfl, YE.out.oc 3 rfl, YE.out.oc 4 rfl⟩) (fun h4x => ?_)
                              clear hK K
                              try simp only [Act.put, lay_out]
                              refine wpAnyH_ready (rs := [4, 20]) (by kernel_rfl) (by simp) (AllReadyH.cons rfl (fun K hK => ?_) (AllReadyH.cons rfl (fun K hK => ?_) AllReadyH.nil))
                              · have c10 := YE.out.dm.c_vv
                                rw [if_pos (by rfl)]
                                go_simp
                                clear c10
                                refine hK.out _ _ (⟨YE.out.op, YE.out.oc 2 rfl, YE.out.oc 3 rfl, YE.out.oc 4 rfl⟩) (fun h5x => ?_)
                                clear hK K
                                try simp only [Act.put, lay_out]
                                refine wpAnyH_ready (rs := [20]) (by kernel_rfl) (by simp) (AllReadyH.cons rfl (fun K hK => ?_) AllReadyH.nil)
                                rw [if_pos (by rfl)]
                                go_simp
                                have YA := hid (YE.out.self ((Below.refl we.heap.size we).alloc (Nat.le_refl _) (.cells #[.int .u64 (S.makes o x : Nat)] 22)))
                                refine hK.out _ _ (⟨YA.out.op, YA.out.oc 2 rfl, YA.out.oc 3 rfl, YA.out.oc 4 rfl⟩) (fun h6x => ?_)
                                clear hK K
                                try simp only [Act.put, lay_out]
                                refine wpAnyH_ready (rs := [21]) (by kernel_rfl) (by simp) (AllReadyH.cons rfl (fun K hK => ?_) AllReadyH.nil)
                                rw [if_pos (by rfl)]
                                refine wp_append_rec (.tmp 104) (.tmp 120) 24 rfl lo.lo 22 1 8 (.int .u64 0) Tryz.underlying24 infoU64 (by rfl) (by decide) vv S.L (fun i => [.int .u64 ((updN S.v S.L (S.makes o x) i : Nat) : Int)]) rfl (YA.out.dm.val.ext fun i hi => by have hi' : i < S.L := hi; rw [updN_no _ _ (by omega)]; rfl) ⟨we.heap.size, 0, none⟩ 1 rfl rfl (by intro u hu; simp at hu; subst hu; rfl) ?_ (by have := HBD.out.L; unfold maxLen; omega) (by have := HBD.out.L; omega) (Nat.le_of_lt (Nat.lt_of_le_of_lt YA.out.dm.lob YA.out.dm.lt)) (fun g cap' w9 g1 g2 g3 => ?_)
                                · rw [updN_at]; exact World.news_of_block (heap_alloc_new _ _)
                                have XG : Hid (Dm2 lo (w9.setCell ⟨b, 10, none⟩ (.slice (some ⟨g, 0, none⟩) (S.L + 1) cap')) b { S.p3 o with v := updN S.v S.L (S.makes o x) } (S.L + 1) ov bv (.slice (some ⟨g, 0, none⟩) (S.L + 1) cap') tv1 ∧ Tch (Ft b ov bv vv) (we.alloc (.cells #[.int .u64 (S.makes o x : Nat)] 22)) (w9.setCell ⟨b, 10, none⟩ (.slice (some ⟨g, 0, none⟩) (S.L + 1) cap')) ∧ (∀ k, Ft b ov bv (.slice (some ⟨g, 0, none⟩) (S.L + 1) cap') k → Ft b ov bv vv k ∨ (we.alloc (.cells #[.int .u64 (S.makes o x : Nat)] 22)).heap.size ≤ k)) := hid (Dm2.addVal (x := S.makes o x) YA.out.dm g1 g2 g3)
                                have hbl : w9.heap[b]? = _ := g2.block b YA.out.dm.lt (fun e => YA.out.dm.hvb e.symm)
                                have f10 := frozen_of_row w9 b 10 _ _ (hbl.trans YA.out.dm.blk)
                                have c10 : w9.cell? ⟨b, 10, none⟩ = some vv := by rw [World.cell?_of_block hbl]; exact YA.out.dm.c_vv
                                have HR9 := hid ((g2.block w.heap.size (Array.getElem?_eq_some_iff.1 YA.out.op).1 (fun e => YA.out.no (.inr (.inr (.inr e.symm))))).trans YA.out.op)
                                have HRZ := hid ((XG.out.2.1.block w.heap.size (Array.getElem?_eq_some_iff.1 YA.out.op).1 YA.out.no).trans YA.out.op)
                                clear g1 g2 g3 hbl
                                refine hK.out _ _ (⟨HR9.out, oc_of HR9.out 2 rfl, oc_of HR9.out 3 rfl, oc_of HR9.out 4 rfl⟩) (fun h7x => ?_)
                                clear hK K
                                try simp only [Act.put, lay_out]
                                refine wpAnyH_take (i := 22) (v := .pointer (some ⟨b, 0, none⟩)) rfl (by kernel_rfl) (by kernel_rfl) (by kernel_rfl) (fun _ _ _ h => h) (.inl ⟨by rfl, fun w hw => by clear hw; go_simp⟩) h7x ?_
                                try simp only [Act.put, lay_out]
                                refine wpAnyH_take (i := 23) (v := .pointer (some ⟨b, 10, none⟩)) rfl (by kernel_rfl) (by kernel_rfl) (by kernel_rfl) (fun _ _ _ h => h) (.inl ⟨by rfl, fun w hw => by clear hw; go_simp⟩) h7x ?_
                                try simp only [Act.put, lay_out]
                                refine wpAnyH_ready (rs := [24]) (by kernel_rfl) (by simp) (AllReadyH.cons rfl (fun K hK => ?_) AllReadyH.nil)
                                rw [if_pos (by rfl)]
                                go_simp
                                refine hK.out _ _ (⟨HRZ.out, oc_of HRZ.out 2 rfl, oc_of HRZ.out 3 rfl, oc_of HRZ.out 4 rfl⟩) (fun h8x => ?_)
                                clear hK K
                                try simp only [Act.put, lay_out]
                                refine wpAnyH_done (by kernel_rfl) ?_ _
                                refine NoPanic.normal ?_
                                clear h0 h1x h2x h3x h4x h5x h6x h7x h8x
                                try simp only [Act.put, lay_out]
                                go_wp2_with fail
                                go_meet
                                exact ⟨_, XG.out.1, HRZ.out, YA.out.tch.trans XG.out.2.1 (fun _ _ f => f), fun k hk => (XG.out.2.2 k hk).imp id (fun h => Nat.le_trans YA.out.tch.size h), fun e => YA.out.no (.inr (.inl e)), fun e => YA.out.no (.inl e.symm)⟩
                              · rw [if_pos (by rfl)]
                                go_simp
                                have YA := hid (YE.out.self ((Below.refl we.heap.size we).alloc (Nat.le_refl _) (.cells #[.int .u64 (S.makes o x : Nat)] 22)))
                                refine hK.out _ _ (⟨YA.out.op, YA.out.oc 2 rfl, YA.out.oc 3 rfl, YA.out.oc 4 rfl⟩) (fun h5x => ?_)
                                clear hK K
                                try simp only [Act.put, lay_out]
                                refine wpAnyH_ready (rs := [4]) (by kernel_rfl) (by simp) (AllReadyH.cons rfl (fun K hK => ?_) AllReadyH.nil)
                                have c10 := YA.out.dm.c_vv
                                rw [if_pos (by rfl)]
                                go_simp
                                clear c10
                                refine hK.out _ _ (⟨YA.out.op, YA.out.oc 2 rfl, YA.out.oc 3 rfl, YA.out.oc 4 rfl⟩) (fun h6x => ?_)
                                clear hK K
                                try simp only [Act.put, lay_out]
                                refine wpAnyH_ready (rs := [21]) (by kernel_rfl) (by simp) (AllReadyH.cons rfl (fun K hK => ?_) AllReadyH.nil)
                                rw [if_pos (by rfl)]
                                refine wp_append_rec (.tmp 104) (.tmp 120) 24 rfl lo.lo 22 1 8 (.int .u64 0) Tryz.underlying24 infoU64 (by rfl) (by decide) vv S.L (fun i => [.int .u64 ((updN S.v S.L (S.makes o x) i : Nat) : Int)]) rfl (YA.out.dm.val.ext fun i hi => by have hi' : i < S.L := hi; rw [updN_no _ _ (by omega)]; rfl) ⟨we.heap.size, 0, none⟩ 1 rfl rfl (by intro u hu; simp at hu; subst hu; rfl) ?_ (by have := HBD.out.L; unfold maxLen; omega) (by have := HBD.out.L; omega) (Nat.le_of_lt (Nat.lt_of_le_of_lt YA.out.dm.lob YA.out.dm.lt)) (fun g cap' w9 g1 g2 g3 => ?_)
                                · rw [updN_at]; exact World.news_of_block (heap_alloc_new _ _)
                                have XG : Hid (Dm2 lo (w9.setCell ⟨b, 10, none⟩ (.slice (some ⟨g, 0, none⟩) (S.L + 1) cap')) b { S.p3 o with v := updN S.v S.L (S.makes o x) } (S.L + 1) ov bv (.slice (some ⟨g, 0, none⟩) (S.L + 1) cap') tv1 ∧ Tch (Ft b ov bv vv) (we.alloc (.cells #[.int .u64 (S.makes o x : Nat)] 22)) (w9.setCell ⟨b, 10, none⟩ (.slice (some ⟨g, 0, none⟩) (S.L + 1) cap')) ∧ (∀ k, Ft b ov bv (.slice (some ⟨g, 0, none⟩) (S.L + 1) cap') k → Ft b ov bv vv k ∨ (we.alloc (.cells #[.int .u64 (S.makes o x : Nat)] 22)).heap.size ≤ k)) := hid (Dm2.addVal (x := S.makes o x) YA.out.dm g1 g2 g3)
                                have hbl : w9.heap[b]? = _ := g2.block b YA.out.dm.lt (fun e => YA.out.dm.hvb e.symm)
                                have f10 := frozen_of_row w9 b 10 _ _ (hbl.trans YA.out.dm.blk)
                                have c10 : w9.cell? ⟨b, 10, none⟩ = some vv := by rw [World.cell?_of_block hbl]; exact YA.out.dm.c_vv
                                have HR9 := hid ((g2.block w.heap.size (Array.getElem?_eq_some_iff.1 YA.out.op).1 (fun e => YA.out.no (.inr (.inr (.inr e.symm))))).trans YA.out.op)
                                have HRZ := hid ((XG.out.2.1.block w.heap.size (Array.getElem?_eq_some_iff.1 YA.out.op).1 YA.out.no).trans YA.out.op)
                                clear g1 g2 g3 hbl
                                refine hK.out _ _ (⟨HR9.out, oc_of HR9.out 2 rfl, oc_of HR9.out 3 rfl, oc_of HR9.out 4 rfl⟩) (fun h7x => ?_)
                                clear hK K
                                try simp only [Act.put, lay_out]
                                refine wpAnyH_take (i := 22) (v := .pointer (some ⟨b, 0, none⟩)) rfl (by kernel_rfl) (by kernel_rfl) (by kernel_rfl) (fun _ _ _ h => h) (.inl ⟨by rfl, fun w hw => by clear hw; go_simp⟩) h7x ?_
                                try simp only [Act.put, lay_out]
                                refine wpAnyH_take (i := 23) (v := .pointer (some ⟨b, 10, none⟩)) rfl (by kernel_rfl) (by kernel_rfl) (by kernel_rfl) (fun _ _ _ h => h) (.inl ⟨by rfl, fun w hw => by clear hw; go_simp⟩) h7x ?_
                                try simp only [Act.put, lay_out]
                                refine wpAnyH_ready (rs := [24]) (by kernel_rfl) (by simp) (AllReadyH.cons rfl (fun K hK => ?_) AllReadyH.nil)
                                rw [if_pos (by rfl)]
                                go_simp
                                refine hK.out _ _ (⟨HRZ.out, oc_of HRZ.out 2 rfl, oc_of HRZ.out 3 rfl, oc_of HRZ.out 4 rfl⟩) (fun h8x => ?_)
                                clear hK K
                                try simp only [Act.put, lay_out]
                                refine wpAnyH_done (by kernel_rfl) ?_ _
                                refine NoPanic.normal ?_
                                clear h0 h1x h2x h3x h4x h5x h6x h7x h8x
                                try simp only [Act.put, lay_out]
                                go_wp2_with fail
                                go_meet
                                exact ⟨_, XG.out.1, HRZ.out, YA.out.tch.trans XG.out.2.1 (fun _ _ f => f), fun k hk => (XG.out.2.2 k hk).imp id (fun h => Nat.le_trans YA.out.tch.size h), fun e => YA.out.no (.inr (.inl e)), fun e => YA.out.no (.inl e.symm)⟩

                    case rest =>
                      obtain ⟨vv1, hz⟩ := hcut
                      clear Z1
                      have Y1 := hid hz
                      clear hz
                      generalize wc = w7 at *
                      go_upto_region 17 with fail
                      go_cut [124] from 124 to 133 (fun p wx => ∃ ov', Dm lo wx b (S.put o x) ov' bv vv1 tv1 ∧ Tch (Ft b ov bv vv) w wx ∧ ∀ k, Ft b ov' bv vv1 k → Ft b ov bv vv k ∨ w.heap.size ≤ k)
                      case first =>
                        have D0 := hid (Dm2.self Y1.out.dm ((Below.refl _ w7).drew))
                        have O0 : Hid (w7.drew.heap[w.heap.size]? = some (.cells (opCs o) 66 (0, 0))) := hid Y1.out.op
                        have T0 := hid (Y1.out.tch.trans (Tch.of_below (F := Ft b ov bv vv) ((Below.refl _ w7).drew)) (fun _ _ f => f))
                        refine wp_region_noPanic ?_
                        refine wp_region_held_drew (S := fun w' => w'.heap[w.heap.size]? = some (.cells (opCs o) 66 (0, 0))) (by kernel_rfl) (O0.out) (fun h0 => ?_)
                        generalize w7.drew = wa at *
                        refine wpAnyH_take (i := 0) (v := .pointer (some ⟨b, 0, none⟩)) rfl (by kernel_rfl) (by kernel_rfl) (by kernel_rfl) (fun _ _ _ h => h) (.inl ⟨by rfl, fun w hw => by clear hw; go_simp⟩) h0 ?_
                        try simp only [Act.put, lay_out]
                        refine wpAnyH_take (i := 1) (v := .pointer (some ⟨b, 0, none⟩)) rfl (by kernel_rfl) (by kernel_rfl) (by kernel_rfl) (fun _ _ _ h => h) (.inl ⟨by rfl, fun w hw => by clear hw; go_simp⟩) h0 ?_
                        try simp only [Act.put, lay_out]
                        refine wpAnyH_take (i := 2) (v := .pointer (some ⟨b, 0, none⟩)) rfl (by kernel_rfl) (by kernel_rfl) (by kernel_rfl) (fun _ _ _ h => h) (.inl ⟨by rfl, fun w hw => by clear hw; go_simp⟩) h0 ?_
                        try simp only [Act.put, lay_out]
                        refine wpAnyH_take (i := 3) (v := .pointer (some ⟨b, 8, none⟩)) rfl (by kernel_rfl) (by kernel_rfl) (by kernel_rfl) (fun _ _ _ h => h) (.inl ⟨by rfl, fun w hw => by clear hw; go_simp⟩) h0 ?_
                        try simp only [Act.put, lay_out]
                        refine wpAnyH_take (i := 5) (v := .agg (opCs o)) rfl (by kernel_rfl) (by kernel_rfl) (by kernel_rfl) (fun _ _ _ h => h) (yields_load_row (by rfl) 66 (.tmp 4) rfl w.heap.size 66 (opCs o) _ rfl (fun w h => h) Tryz.underlying66 rfl (by kernel_rfl)) h0 ?_
                        try simp only [Act.put, lay_out]
                        refine wpAnyH_ready (rs := [4, 6]) (by kernel_rfl) (by simp) (AllReadyH.cons rfl (fun K hK => ?_) (AllReadyH.cons rfl (fun K hK => ?_) AllReadyH.nil))
                        · have c8 := D0.out.c 8 rfl
                          rw [if_pos (by rfl)]
                          go_simp
                          clear c8
                          refine hK.out _ _ (O0.out) (fun h1x => ?_)
                          clear hK K
                          try simp only [Act.put, lay_out]
                          refine wpAnyH_ready (rs := [6]) (by kernel_rfl) (by simp) (AllReadyH.cons rfl (fun K hK => ?_) AllReadyH.nil)
                          rw [if_pos (by rfl)]
                          go_simp
                          have hlow := (Below.refl wa.heap.size wa).alloc (Nat.le_refl _) (.cells (opCs o) 66)
                          have DA := hid (D0.out.self hlow)
                          have OA := hid ((hlow.block _ (Array.getElem?_eq_some_iff.1 O0.out).1).trans O0.out)
                          have TA := hid (T0.out.trans (Tch.of_below (F := Ft b ov bv vv) hlow) (fun _ _ f => f))
                          clear hlow
                          refine hK.out _ _ (OA.out) (fun h2x => ?_)
                          clear hK K
                          try simp only [Act.put, lay_out]
                          refine wpAnyH_ready (rs := [7]) (by kernel_rfl) (by simp) (AllReadyH.cons rfl (fun K hK => ?_) AllReadyH.nil)
                          rw [if_pos (by rfl)]
                          refine wp_append_rec (.tmp 128) (.tmp 130) 68 rfl lo.lo 66 6 48 (.agg #[.int .i64 0, .int .i64 0, .int .i64 0, .int .i64 0, .int .i64 0, .int .u64 0]) Tryz.underlying68 infoOp (by rfl) (by decide) ov S.L (fun i => (opCs (updO S.f S.L o i)).toList) rfl (DA.out.ops.ext fun i hi => by have hi' : i < S.L := hi; rw [updO_no _ _ (by omega)]; rfl) ⟨wa.heap.size, 0, none⟩ 1 rfl rfl (by intro u hu; simp at hu; rcases hu with rfl | rfl | rfl | rfl | rfl | rfl <;> rfl) ?_ (by have := HBD.out.L; unfold maxLen; omega) (by have := HBD.out.L; omega) (Nat.le_of_lt (Nat.lt_of_le_of_lt DA.out.lob DA.out.lt)) (fun g cap' w9 g1 g2 g3 => ?_)
                          · rw [updO_at]; exact World.news_of_block (heap_alloc_new _ _)
                          have XG : Hid (Dm lo (w9.setCell ⟨b, 8, none⟩ (.slice (some ⟨g, 0, none⟩) (S.L + 1) cap')) b (S.put o x) (.slice (some ⟨g, 0, none⟩) (S.L + 1) cap') bv vv1 tv1 ∧ Tch (Ft b ov bv vv1) (wa.alloc (.cells (opCs o) 66)) (w9.setCell ⟨b, 8, none⟩ (.slice (some ⟨g, 0, none⟩) (S.L + 1) cap')) ∧ (∀ k, Ft b (.slice (some ⟨g, 0, none⟩) (S.L + 1) cap') bv vv1 k → Ft b ov bv vv1 k ∨ (wa.alloc (.cells (opCs o) 66)).heap.size ≤ k)) := hid (Dm2.addOps (S := { S.p3 o with v := updN S.v S.L (S.makes o x) }) (o := o) DA.out g1 g2 g3)
                          have hbl : w9.heap[b]? = _ := g2.block b DA.out.lt (fun e => DA.out.hob e.symm)
                          have f8 := frozen_of_row w9 b 8 _ _ (hbl.trans DA.out.blk)
                          have c8 : w9.cell? ⟨b, 8, none⟩ = some ov := by rw [World.cell?_of_block hbl]; exact DA.out.c 8 rfl
                          have HR9 := hid ((g2.block w.heap.size (Array.getElem?_eq_some_iff.1 OA.out).1 (fun e => Y1.out.no.1 e.symm)).trans OA.out)
                          have HRZ := hid ((heap_setCell_other w9 ⟨b, 8, none⟩ w.heap.size (.slice (some ⟨g, 0, none⟩) (S.L + 1) cap') (fun e => Y1.out.no.2 e.symm)).trans HR9.out)
                          clear g1 g2 g3 hbl
                          refine hK.out _ _ (HR9.out) (fun h3x => ?_)
                          clear hK K
                          try simp only [Act.put, lay_out]
                          refine wpAnyH_take (i := 8) (v := .pointer (some ⟨b, 0, none⟩)) rfl (by kernel_rfl) (by kernel_rfl) (by kernel_rfl) (fun _ _ _ h => h) (.inl ⟨by rfl, fun w hw => by clear hw; go_simp⟩) h3x ?_
                          try simp only [Act.put, lay_out]
                          refine wpAnyH_take (i := 9) (v := .pointer (some ⟨b, 8, none⟩)) rfl (by kernel_rfl) (by kernel_rfl) (by kernel_rfl) (fun _ _ _ h => h) (.inl ⟨by rfl, fun w hw => by clear hw; go_simp⟩) h3x ?_
                          try simp only [Act.put, lay_out]
                          refine wpAnyH_ready (rs := [10]) (by kernel_rfl) (by simp) (AllReadyH.cons rfl (fun K hK => ?_) AllReadyH.nil)
                          rw [if_pos (by rfl)]
                          go_simp
                          refine hK.out _ _ (HRZ.out) (fun h4x => ?_)
                          clear hK K
                          try simp only [Act.put, lay_out]
                          refine wpAnyH_done (by kernel_rfl) ?_ _
                          refine NoPanic.normal ?_
                          clear h0 h1x h2x h3x h4x
                          try simp only [Act.put, lay_out]
                          go_wp2_with fail
                          go_meet
                          exact ⟨_, XG.out.1, TA.out.trans XG.out.2.1 (fun j hj f => (Y1.out.sub j f).resolve_right (by omega)), fun k hk => (XG.out.2.2 k hk).elim (Y1.out.sub k) (fun h => .inr (Nat.le_trans TA.out.size h))⟩
                        · rw [if_pos (by rfl)]
                          go_simp
                          have hlow := (Below.refl wa.heap.size wa).alloc (Nat.le_refl _) (.cells (opCs o) 66)
                          have DA := hid (D0.out.self hlow)
                          have OA := hid ((hlow.block _ (Array.getElem?_eq_some_iff.1 O0.out).1).trans O0.out)
                          have TA := hid (T0.out.trans (Tch.of_below (F := Ft b ov bv vv) hlow) (fun _ _ f => f))
                          clear hlow
                          refine hK.out _ _ (OA.out) (fun h1x => ?_)
                          clear hK K
                          try simp only [Act.put, lay_out]
                          refine wpAnyH_ready (rs := [4]) (by kernel_rfl) (by simp) (AllReadyH.cons rfl (fun K hK => ?_) AllReadyH.nil)
                          have c8 := DA.out.c 8 rfl
                          rw [if_pos (by rfl)]
                          go_simp
                          clear c8
                          refine hK.out _ _ (OA.out) (fun h2x => ?_)
                          clear hK K
                          try simp only [Act.put, lay_out]
                          refine wpAnyH_ready (rs := [7]) (by kernel_rfl) (by simp) (AllReadyH.cons rfl (fun K hK => ?_) AllReadyH.nil)
                          rw [if_pos (by rfl)]
                          refine wp_append_rec (.tmp 128) (.tmp 130) 68 rfl lo.lo 66 6 48 (.agg #[.int .i64 0, .int .i64 0, .int .i64 0, .int .i64 0, .int .i64 0, .int .u64 0]) Tryz.underlying68 infoOp (by rfl) (by decide) ov S.L (fun i => (opCs (updO S.f S.L o i)).toList) rfl (DA.out.ops.ext fun i hi => by have hi' : i < S.L := hi; rw [updO_no _ _ (by omega)]; rfl) ⟨wa.heap.size, 0, none⟩ 1 rfl rfl (by intro u hu; simp at hu; rcases hu with rfl | rfl | rfl | rfl | rfl | rfl <;> rfl) ?_ (by have := HBD.out.L; unfold maxLen; omega) (by have := HBD.out.L; omega) (Nat.le_of_lt (Nat.lt_of_le_of_lt DA.out.lob DA.out.lt)) (fun g cap' w9 g1 g2 g3 => ?_)
                          · rw [updO_at]; exact World.news_of_block (heap_alloc_new _ _)
                          have XG : Hid (Dm lo (w9.setCell ⟨b, 8, none⟩ (.slice (some ⟨g, 0, none⟩) (S.L + 1) cap')) b (S.put o x) (.slice (some ⟨g, 0, none⟩) (S.L + 1) cap') bv vv1 tv1 ∧ Tch (Ft b ov bv vv1) (wa.alloc (.cells (opCs o) 66)) (w9.setCell ⟨b, 8, none⟩ (.slice (some ⟨g, 0, none⟩) (S.L + 1) cap')) ∧ (∀ k, Ft b (.slice (some ⟨g, 0, none⟩) (S.L + 1) cap') bv vv1 k → Ft b ov bv vv1 k ∨ (wa.alloc (.cells (opCs o) 66)).heap.size ≤ k)) := hid (Dm2.addOps (S := { S.p3 o with v := updN S.v S.L (S.makes o x) }) (o := o) DA.out g1 g2 g3)
                          have hbl : w9.heap[b]? = _ := g2.block b DA.out.lt (fun e => DA.out.hob e.symm)
                          have f8 := frozen_of_row w9 b 8 _ _ (hbl.trans DA.out.blk)
                          have c8 : w9.cell? ⟨b, 8, none⟩ = some ov := by rw [World.cell?_of_block hbl]; exact DA.out.c 8 rfl
                          have HR9 := hid ((g2.block w.heap.size (Array.getElem?_eq_some_iff.1 OA.out).1 (fun e => Y1.out.no.1 e.symm)).trans OA.out)
                          have HRZ := hid ((heap_setCell_other w9 ⟨b, 8, none⟩ w.heap.size (.slice (some ⟨g, 0, none⟩) (S.L + 1) cap') (fun e => Y1.out.no.2 e.symm)).trans HR9.out)
                          clear g1 g2 g3 hbl
                          refine hK.out _ _ (HR9.out) (fun h3x => ?_)
                          clear hK K
                          try simp only [Act.put, lay_out]
                          refine wpAnyH_take (i := 8) (v := .pointer (some ⟨b, 0, none⟩)) rfl (by kernel_rfl) (by kernel_rfl) (by kernel_rfl) (fun _ _ _ h => h) (.inl ⟨by rfl, fun w hw => by clear hw; go_simp⟩) h3x ?_
                          try simp only [Act.put, lay_out]
                          refine wpAnyH_take (i := 9) (v := .pointer (some ⟨b, 8, none⟩)) rfl (by kernel_rfl) (by kernel_rfl) (by kernel_rfl) (fun _ _ _ h => h) (.inl ⟨by rfl, fun w hw => by clear hw; go_simp⟩) h3x ?_
                          try simp only [Act.put, lay_out]
                          refine wpAnyH_ready (rs := [10]) (by kernel_rfl) (by simp) (AllReadyH.cons rfl (fun K hK => ?_) AllReadyH.nil)
                          rw [if_pos (by rfl)]
                          go_simp
                          refine hK.out _ _ (HRZ.out) (fun h4x => ?_)
                          clear hK K
                          try simp only [Act.put, lay_out]
                          refine wpAnyH_done (by kernel_rfl) ?_ _
                          refine NoPanic.normal ?_
                          clear h0 h1x h2x h3x h4x
                          try simp only [Act.put, lay_out]
                          go_wp2_with fail
                          go_meet
                          exact ⟨_, XG.out.1, TA.out.trans XG.out.2.1 (fun j hj f => (Y1.out.sub j f).resolve_right (by omega)), fun k hk => (XG.out.2.2 k hk).elim (Y1.out.sub k) (fun h => .inr (Nat.le_trans TA.out.size h))⟩

                      case rest =>
                        obtain ⟨ov1, hz, ht, hs⟩ := hcut
                        clear Y1
                        have Y1 := hid hz
                        have T1 := hid ht
                        have U1 := hid hs
                        clear hz ht hs
                        generalize wc = w8 at *
                        have HLQ := hid (dlen_quiet lo b (S.put o x) ov1 bv vv1 tv1 w8 Y1.out (by show S.L + 1 ≤ _; have := HBD.out.L; omega) (by show S.skip ≤ _; have := HBD.out.skip; omega))
                        have HS : Hid (S.doS o x = S.put o x ∧ S.doR o = (S.len : Int)) := hid (by constructor; (unfold Ms.doS; rw [if_neg (by have := HE.out; omega), if_neg (by rw [HBAD.out]; decide), if_neg (by rw [HFULL.out]; decide), if_neg (by rw [HOUT.out]; decide)]); (unfold Ms.doR; rw [if_neg (by rw [HBAD.out, HFULL.out, HOUT.out]; have := HE.out; simp; omega)]))
                        have HN := hid (show IntKind.i64.wrap (((S.put o x).len : Int) - 1) = (S.len : Int) by
                          have e : (S.put o x).len = S.len + 1 := by show S.skip + (S.L + 1) = S.skip + S.L + 1; omega
                          have l1 := HBD.out.L
                          have l2 := HBD.out.skip
                          have l3 : S.len = S.skip + S.L := rfl
                          rw [e, IntKind.wrap_i64]; omega)
                        have hn := HN.out
                        go_wp2_with (go_at_call 54; (with_reducible refine HLQ.out.mono ?_); rintro e w9 ⟨rfl, n9, rfl⟩)
                        go_ret
                        exact ⟨by rw [HS.out.2]; rfl, _, _, _, _, by rw [HS.out.1]; exact Y1.out.drewN n9, T1.out.trans (Tch.of_below (F := Ft b ov bv vv) (below_drewN w8 n9)) (fun _ _ f => f), U1.out⟩
  · have e : S.doS o x = S := by unfold Ms.doS; rw [if_pos he]
    have e2 : S.doR o = -1 := by unfold Ms.doR; rw [if_pos (.inl he)]
    rw [e, e2]
    have q1 : ((S.e : Int) != 0) = true := by simp; omega
    clear h e he e2
    go_enter Tryz.func28, Tryz.ntmps28
    go_wp2
    go_ret
    exact ⟨rfl, _, _, _, _, Z0.out.dm, Z0.out.tch, fun k hk => .inl hk⟩
end Go.Proofs.YtpjgpiieminaoaaGreatDoor
