import Derived.Test.YtpjgpiieminaoaaGreatDoorProg
import Derived.Test.YtpjgpiieminaoaaGreatDoorOrw
import Derived.Test.YtpjgpiieminaoaaGreatDoorGen
/- Wire: the document's machine. -/
namespace Go.Proofs.YtpjgpiieminaoaaGreatDoor
open Go.RowKit
set_option maxRecDepth 100000
abbrev opCs (o : Op6) : Array Value := #[.int .i64 o.K, .int .i64 o.D, .int .i64 o.A, .int .i64 o.B, .int .i64 o.E, .int .u64 (o.C : Int)]
abbrev spCs (s : Sp3) : Array Value := #[.int .i64 s.K, .int .i64 s.F, .int .i64 s.T]
/-- Numbers of words. -/
def wdL (v : Nat → Nat) (L : Nat) : List Int := (List.range L).map (fun i => (v i : Int))
theorem wdL_len (v : Nat → Nat) (L : Nat) : (wdL v L).length = L := by simp [wdL]
theorem wdL_nth (v : Nat → Nat) {L i : Nat} (h : i < L) : nth (wdL v L) i = (v i : Int) := by simp [wdL, nth, List.getD, h]
/-- The machine's cells. -/
def dmC (S : Ms) (ov bv vv tv : Value) : Array Value :=
  #[.int .i64 S.n, .int .i64 S.most, .int .i64 (S.words : Int), .int .i64 (S.draws : Int), .int .i64 (S.fr : Int), .int .i64 (S.skip : Int), .int .i64 S.kind, .int .i64 (S.e : Int), ov, bv, vv, tv, .int .i64 (S.used : Int), .int .i64 (S.free : Int), .bool S.dry]
/-- What is in bounds. -/
structure Bd (S : Ms) : Prop where
  L : S.L ≤ 100000
  skip : S.skip ≤ 100000
  M : S.M ≤ 100000
  words : S.words ≤ 1000000
  draws : S.draws ≤ 1000000
  used : S.used ≤ 20000000000000
  free : S.free ≤ 20000000000000
  TN : S.TN ≤ 20000000000000
  v : ∀ i, i < S.L → S.v i < 2 ^ 64
  tw : ∀ i, i < S.TN → S.tw i < 2 ^ 64
/-- From where on an object's blocks lie; where what it only reads lies. -/
structure LoG where
  lo : Nat
  G : Nat → Prop
/-- The document's machine lies in block b. -/
structure Dm2 (lo : LoG) (w : World) (b : Nat) (S : Ms) (LV : Nat) (ov bv vv tv : Value) : Prop where
  blk : w.heap[b]? = some (.cells (dmC S ov bv vv tv) 73 (0, 0))
  lob : lo.lo ≤ b
  ops : Orw w lo.lo 66 6 ov S.L (fun i => (opCs (S.f i)).toList)
  bls : Orw w lo.lo 102 3 bv S.M (fun i => (spCs (S.g i)).toList)
  val : Orw w lo.lo 22 1 vv LV (fun i => [.int .u64 (S.v i : Int)])
  hob : ov.ownBlock ≠ some b
  hbb : bv.ownBlock ≠ some b
  hvb : vv.ownBlock ≠ some b
  hobv : ∀ k, ov.ownBlock = some k → bv.ownBlock ≠ some k
  hov : ∀ k, ov.ownBlock = some k → vv.ownBlock ≠ some k
  hbv : ∀ k, bv.ownBlock = some k → vv.ownBlock ≠ some k
  tap : RdS .u64 w (fun g => g ≠ b ∧ ov.ownBlock ≠ some g ∧ bv.ownBlock ≠ some g ∧ vv.ownBlock ≠ some g ∧ lo.G g) tv (wdL (fun i => S.tw (S.used + i)) (S.TN - S.used))
abbrev Dm (lo : LoG) (w : World) (b : Nat) (S : Ms) (ov bv vv tv : Value) : Prop := Dm2 lo w b S S.L ov bv vv tv
/-- What it owns. -/
def Ft (b : Nat) (ov bv vv : Value) (k : Nat) : Prop := k = b ∨ ov.ownBlock = some k ∨ bv.ownBlock = some k ∨ vv.ownBlock = some k
section
variable {lo : LoG} {b : Nat} {w w' : World} {S : Ms} {ov bv vv tv : Value}
theorem Dm.lt (h : Dm lo w b S ov bv vv tv) : b < w.heap.size := (Array.getElem?_eq_some_iff.1 h.blk).1
theorem rds_self {k : IntKind} {F : Nat → Prop} {v : Value} {zs : List Int} (h : RdS k w F v zs) (hb : Below w.heap.size w w') : RdS k w' F v zs := by
  obtain ⟨a, cap, e, h1, h2, h3, h4, h5⟩ := h
  refine ⟨a, cap, e, h1, h2, h3, h4, fun h0 => ?_⟩
  obtain ⟨g, off, ea, hF, hg, hc⟩ := h5 h0
  exact ⟨g, off, ea, hF, Nat.lt_of_lt_of_le hg hb.size, fun j hj => by rw [World.cell?_of_block (hb.block g hg)]; exact hc j hj⟩
theorem Dm.self (h : Dm lo w b S ov bv vv tv) (hb : Below w.heap.size w w') : Dm lo w' b S ov bv vv tv :=
  ⟨(hb.block b h.lt).trans h.blk, h.lob, h.ops.stays fun k hk => hb.block k (h.ops.lt k hk).2, h.bls.stays fun k hk => hb.block k (h.bls.lt k hk).2,
   h.val.stays fun k hk => hb.block k (h.val.lt k hk).2, h.hob, h.hbb, h.hvb, h.hobv, h.hov, h.hbv, rds_self h.tap hb⟩
theorem Dm.drew (h : Dm lo w b S ov bv vv tv) : Dm lo w.drew b S ov bv vv tv := h.self ((Below.refl _ w).drew)
/-- The cells of a machine, one by one. -/
theorem Dm.c (h : Dm lo w b S ov bv vv tv) (i : Nat) {u : Value} (hu : (dmC S ov bv vv tv)[i]? = some u) : w.cell? ⟨b, i, none⟩ = some u := by
  rw [cell_of_row w b i _ _ _ h.blk]; exact hu
theorem Dm.c_n (h : Dm lo w b S ov bv vv tv) : w.cell? ⟨b, 0, none⟩ = some (Value.int .i64 S.n) := h.c 0 rfl
theorem Dm.c_most (h : Dm lo w b S ov bv vv tv) : w.cell? ⟨b, 1, none⟩ = some (Value.int .i64 S.most) := h.c 1 rfl
theorem Dm.c_words (h : Dm lo w b S ov bv vv tv) : w.cell? ⟨b, 2, none⟩ = some (Value.int .i64 (S.words : Int)) := h.c 2 rfl
theorem Dm.c_draws (h : Dm lo w b S ov bv vv tv) : w.cell? ⟨b, 3, none⟩ = some (Value.int .i64 (S.draws : Int)) := h.c 3 rfl
theorem Dm.c_fr (h : Dm lo w b S ov bv vv tv) : w.cell? ⟨b, 4, none⟩ = some (Value.int .i64 (S.fr : Int)) := h.c 4 rfl
theorem Dm.c_skip (h : Dm lo w b S ov bv vv tv) : w.cell? ⟨b, 5, none⟩ = some (Value.int .i64 (S.skip : Int)) := h.c 5 rfl
theorem Dm.c_kind (h : Dm lo w b S ov bv vv tv) : w.cell? ⟨b, 6, none⟩ = some (Value.int .i64 S.kind) := h.c 6 rfl
theorem Dm.c_e (h : Dm lo w b S ov bv vv tv) : w.cell? ⟨b, 7, none⟩ = some (Value.int .i64 (S.e : Int)) := h.c 7 rfl
theorem Dm.c_ov (h : Dm lo w b S ov bv vv tv) : w.cell? ⟨b, 8, none⟩ = some (ov) := h.c 8 rfl
theorem Dm.c_bv (h : Dm lo w b S ov bv vv tv) : w.cell? ⟨b, 9, none⟩ = some (bv) := h.c 9 rfl
theorem Dm.c_vv (h : Dm lo w b S ov bv vv tv) : w.cell? ⟨b, 10, none⟩ = some (vv) := h.c 10 rfl
theorem Dm.c_tv (h : Dm lo w b S ov bv vv tv) : w.cell? ⟨b, 11, none⟩ = some (tv) := h.c 11 rfl
theorem Dm.c_used (h : Dm lo w b S ov bv vv tv) : w.cell? ⟨b, 12, none⟩ = some (Value.int .i64 (S.used : Int)) := h.c 12 rfl
theorem Dm.c_free (h : Dm lo w b S ov bv vv tv) : w.cell? ⟨b, 13, none⟩ = some (Value.int .i64 (S.free : Int)) := h.c 13 rfl
theorem Dm.c_dry (h : Dm lo w b S ov bv vv tv) : w.cell? ⟨b, 14, none⟩ = some (Value.bool S.dry) := h.c 14 rfl
theorem Dm.fz (h : Dm lo w b S ov bv vv tv) (i : Nat) : w.frozen? ⟨b, i, none⟩ = false := frozen_of_row w b i _ _ h.blk
theorem Dm.opsv (h : Dm lo w b S ov bv vv tv) : ∃ a cap, ov = .slice a S.L cap := by
  obtain ⟨a, cap, e, _⟩ := h.ops.slice
  exact ⟨a, cap, e⟩
theorem Dm.vals (h : Dm lo w b S ov bv vv tv) : ∃ a cap, vv = .slice a S.L cap ∧ (0 < S.L → ∃ g, a = some ⟨g, 0, none⟩ ∧ ∀ i, i < S.L → w.cell? ⟨g, i, none⟩ = some (.int .u64 (S.v i : Int))) := by
  obtain ⟨a, cap, rfl, _, _, _, hp⟩ := h.val.slice
  refine ⟨a, cap, rfl, fun h0 => ?_⟩
  obtain ⟨g, rfl⟩ := hp h0
  refine ⟨g, rfl, fun i hi => ?_⟩
  have := Orw.cell h.val (fun _ => rfl) hi (by decide : 0 < 1) (u := .int .u64 (S.v i : Int)) rfl
  simpa using this
end
theorem dlen_any (lo : LoG) (b : Nat) (S : Ms) (ov bv vv tv : Value) (w : World) (h : Dm lo w b S ov bv vv tv) (hb : Bd S) :
    Calls Tryz.prog 54 #[.pointer (some ⟨b, 0, none⟩)] w fun e w' => e = .returned (.int .i64 (S.len : Nat)) ∧ Below w.heap.size w w' := by
  obtain ⟨a, cap, rfl⟩ := h.opsv
  have c5 := h.drew.c_skip
  have c8 := h.drew.c_ov
  have l1 := hb.L
  have l2 := hb.skip
  have hw : IntKind.i64.wrap ((S.skip : Int) + (S.L : Int)) = ((S.len : Nat) : Int) := by unfold Ms.len; rw [IntKind.wrap_i64]; omega
  clear h hb l1 l2
  generalize S.len = n at *
  go_enter Tryz.func54, Tryz.ntmps54
  go_wp2_with fail
  go_region
  go_wp2
  go_ret
  exact ⟨rfl, (Below.refl _ _).drew⟩
theorem dat_any (lo : LoG) (b : Nat) (S : Ms) (ov bv vv tv : Value) (r : Int) (w : World) (h : Dm lo w b S ov bv vv tv) (l1 : S.L ≤ 100000) :
    Calls Tryz.prog 58 #[.pointer (some ⟨b, 0, none⟩), .int .i64 r] w fun e w' => e = .returned (.int .u64 (wordAt S.v S.L r : Nat)) ∧ w' = w := by
  obtain ⟨a, cap, rfl, hc⟩ := h.vals
  have c10 := h.c_vv
  clear h
  by_cases h0 : r < 0
  · have e : wordAt S.v S.L r = 0 := if_neg (by omega)
    rw [e]
    have q1 : decide (r < 0) = true := decide_eq_true h0
    clear hc h0
    go_enter Tryz.func58, Tryz.ntmps58
    go_wp2
    go_ret
    exact ⟨rfl, rfl⟩
  · have q1 : decide (r < 0) = false := decide_eq_false h0
    by_cases h1 : r < (S.L : Int)
    · obtain ⟨k, rfl⟩ := Int.eq_ofNat_of_zero_le (by omega : 0 ≤ r)
      have e : wordAt S.v S.L (k : Int) = S.v k := by unfold wordAt; rw [if_pos ⟨by omega, h1⟩]; simp
      rw [e]
      obtain ⟨g, rfl, hcc⟩ := hc (by omega)
      have hk := hcc k (by omega)
      have j1 : (0 : Int) ≤ (k : Int) := by omega
      have q2 : decide ((S.L : Int) ≤ (k : Int)) = false := decide_eq_false (by omega)
      clear hc hcc e
      generalize S.v k = z at *
      go_enter Tryz.func58, Tryz.ntmps58
      go_wp2
      go_ret
      exact ⟨rfl, rfl⟩
    · have e : wordAt S.v S.L r = 0 := if_neg (by omega)
      rw [e]
      have q2 : decide ((S.L : Int) ≤ r) = true := decide_eq_true (by omega)
      clear hc
      go_enter Tryz.func58, Tryz.ntmps58
      go_wp2
      go_ret
      exact ⟨rfl, rfl⟩
end Go.Proofs.YtpjgpiieminaoaaGreatDoor

/- Wire: the document's machine: errors that stay, blocks that begin. -/
namespace Go.Proofs.YtpjgpiieminaoaaGreatDoor
open Go.RowKit
set_option maxRecDepth 100000
section
variable {lo : LoG} {b : Nat} {w w' : World} {S S' : Ms} {ov bv vv tv : Value}
theorem rds_stays {k : IntKind} {F : Nat → Prop} {v : Value} {zs : List Int} (h : RdS k w F v zs) (hs : w.heap.size ≤ w'.heap.size) (hF : ∀ g, F g → g < w.heap.size → w'.heap[g]? = w.heap[g]?) : RdS k w' F v zs := by
  obtain ⟨a, cap, e, h1, h2, h3, h4, h5⟩ := h
  refine ⟨a, cap, e, h1, h2, h3, h4, fun h0 => ?_⟩
  obtain ⟨g, off, ea, hf, hg, hc⟩ := h5 h0
  exact ⟨g, off, ea, hf, Nat.lt_of_lt_of_le hg hs, fun j hj => by rw [World.cell?_of_block (hF g hf hg)]; exact hc j hj⟩
/-- The machine's own block alone is turned. -/
theorem Dm.turn (h : Dm lo w b S ov bv vv tv) (hblk : w'.heap[b]? = some (.cells (dmC S' ov bv vv tv) 73 (0, 0))) (hs : w.heap.size ≤ w'.heap.size) (ho : ∀ k, k ≠ b → k < w.heap.size → w'.heap[k]? = w.heap[k]?)
    (hL : S'.L = S.L) (hf : S'.f = S.f) (hM : S'.M = S.M) (hg : S'.g = S.g) (hv : S'.v = S.v) (htw : S'.tw = S.tw) (hu : S'.used = S.used) (hTN : S'.TN = S.TN) : Dm lo w' b S' ov bv vv tv := by
  refine ⟨hblk, h.lob, ?_, ?_, ?_, h.hob, h.hbb, h.hvb, h.hobv, h.hov, h.hbv, ?_⟩
  · rw [hL, hf]; exact h.ops.stays fun k hk => ho k (fun e => h.hob (e ▸ hk)) (h.ops.lt k hk).2
  · rw [hM, hg]; exact h.bls.stays fun k hk => ho k (fun e => h.hbb (e ▸ hk)) (h.bls.lt k hk).2
  · rw [hL, hv]; exact h.val.stays fun k hk => ho k (fun e => h.hvb (e ▸ hk)) (h.val.lt k hk).2
  · rw [htw, hu, hTN]; exact rds_stays h.tap hs fun g hg hlt => ho g hg.1 hlt
theorem Dm.cellSet (h : Dm lo w b S ov bv vv tv) (i : Nat) (u : Value) (e : (dmC S ov bv vv tv).setIfInBounds i u = dmC S' ov bv vv tv)
    (hL : S'.L = S.L) (hf : S'.f = S.f) (hM : S'.M = S.M) (hg : S'.g = S.g) (hv : S'.v = S.v) (htw : S'.tw = S.tw) (hu : S'.used = S.used) (hTN : S'.TN = S.TN) : Dm lo (w.setCell ⟨b, i, none⟩ u) b S' ov bv vv tv :=
  h.turn (by rw [heap_setCell_same w b i _ 73 u h.blk, e]) (by simp [World.setCell]) (fun k hk _ => heap_setCell_other w ⟨b, i, none⟩ k u hk) hL hf hM hg hv htw hu hTN
theorem tch_set (b i : Nat) (u : Value) (w : World) : Tch (Ft b ov bv vv) w (w.setCell ⟨b, i, none⟩ u) := Tch.set w u (.inl rfl)
end
/-- What a method of the machine leaves. -/
def DmR (lo : LoG) (b : Nat) (ov bv vv : Value) (S' : Ms) (w w' : World) : Prop := ∃ ov' bv' vv' tv', Dm lo w' b S' ov' bv' vv' tv' ∧ Tch (Ft b ov bv vv) w w' ∧ (∀ k, Ft b ov' bv' vv' k → Ft b ov bv vv k ∨ w.heap.size ≤ k)
theorem dfails_any (lo : LoG) (b : Nat) (S : Ms) (ov bv vv tv : Value) (x : Nat) (w : World) (h : Dm lo w b S ov bv vv tv) (he : S.e = 0) :
    Calls Tryz.prog 55 #[.pointer (some ⟨b, 0, none⟩), .int .i64 (x : Int)] w fun e w' => e = .returned (.int .i64 (-1)) ∧ Dm lo w' b { S with e := x } ov bv vv tv ∧ Tch (Ft b ov bv vv) w w' := by
  have c7 := h.c_e
  have f7 := h.fz 7
  rw [he] at c7
  have HN := hid (h.cellSet (S' := { S with e := x }) 7 (.int .i64 (x : Int)) rfl rfl rfl rfl rfl rfl rfl rfl rfl)
  have HT := hid (tch_set (ov := ov) (bv := bv) (vv := vv) b 7 (.int .i64 (x : Int)) w)
  clear h he
  go_enter Tryz.func55, Tryz.ntmps55
  go_wp2
  go_ret
  exact ⟨rfl, HN.out, HT.out⟩
theorem dop_any (K D A B : Int) (C : Nat) (w : World) : Calls Tryz.prog 29 #[.int .i64 K, .int .i64 D, .int .i64 A, .int .i64 B, .int .u64 (C : Int)] w fun e w' => e = .returned (.agg #[.int .i64 K, .int .i64 D, .int .i64 A, .int .i64 B, .int .i64 (-1), .int .u64 (C : Int)]) ∧ Below w.heap.size w w' := by
  go_enter Tryz.func29, Tryz.ntmps29
  go_wp2
  exact bodyPost_ret (results_cell_row (by rfl) _ _ w.heap.size 66 #[.int .i64 K, .int .i64 D, .int .i64 A, .int .i64 B, .int .i64 (-1), .int .u64 (C : Int)] (0, 0) _ rfl (heap_alloc_new _ _) Tryz.underlying66 rfl (by kernel_rfl)) rfl ⟨rfl, (Below.refl _ _).alloc (Nat.le_refl _) _⟩
theorem dbegin_any (lo : LoG) (b : Nat) (S : Ms) (ov bv vv tv : Value) (k : Int) (w : World) (h : Dm lo w b S ov bv vv tv) (hb : Bd S) :
    Calls Tryz.prog 62 #[.pointer (some ⟨b, 0, none⟩), .int .i64 k] w fun e w' => e = .returned (.tuple #[]) ∧ Dm lo w' b (S.beginS k) ov bv vv tv ∧ Tch (Ft b ov bv vv) w w' := by
  have c7 := h.c_e
  have c6 := h.c_kind
  have f6 := h.fz 6
  have f7 := h.fz 7
  have HD := hid h
  by_cases he : S.e = 0
  · rw [he] at c7
    by_cases hk : S.kind ≠ 0 ∨ k < 1 ∨ 3 < k
    · have e : S.beginS k = { S with e := 1 } := by unfold Ms.beginS; rw [if_neg (by omega), if_pos hk]
      rw [e]
      have HN := hid (h.cellSet (S' := { S with e := 1 }) 7 (.int .i64 1) rfl rfl rfl rfl rfl rfl rfl rfl rfl)
      have HT := hid (tch_set (ov := ov) (bv := bv) (vv := vv) b 7 (.int .i64 1) w)
      clear h e
      by_cases h1 : S.kind = 0
      · have q1 : (S.kind != 0) = false := by simp [h1]
        by_cases h2 : k < 1
        · have q2 : decide (k < 1) = true := decide_eq_true h2
          clear h2 h1 hk
          go_enter Tryz.func62, Tryz.ntmps62
          go_wp2
          exact bodyPost_ret (results_none rfl _ _ _) rfl ⟨rfl, HN.out, HT.out⟩
        · have q2 : decide (k < 1) = false := decide_eq_false h2
          have q3 : decide (3 < k) = true := decide_eq_true (by omega)
          clear h2 h1 hk
          go_enter Tryz.func62, Tryz.ntmps62
          go_wp2
          exact bodyPost_ret (results_none rfl _ _ _) rfl ⟨rfl, HN.out, HT.out⟩
      · have q1 : (S.kind != 0) = true := by simp [h1]
        clear h1 hk
        go_enter Tryz.func62, Tryz.ntmps62
        go_wp2
        exact bodyPost_ret (results_none rfl _ _ _) rfl ⟨rfl, HN.out, HT.out⟩
    · have e : S.beginS k = { S with kind := k, fr := S.len } := by unfold Ms.beginS; rw [if_neg (by omega), if_neg hk]
      rw [e]
      have q1 : (S.kind != 0) = false := by simp; omega
      have q2 : decide (k < 1) = false := decide_eq_false (by omega)
      have q3 : decide (3 < k) = false := decide_eq_false (by omega)
      have H1 := hid (h.cellSet (S' := { S with kind := k }) 6 (.int .i64 k) rfl rfl rfl rfl rfl rfl rfl rfl rfl)
      have HT1 := hid (tch_set (ov := ov) (bv := bv) (vv := vv) b 6 (.int .i64 k) w)
      have HL := hid (fun w1 (h1 : Dm lo w1 b { S with kind := k } ov bv vv tv) => dlen_any lo b { S with kind := k } ov bv vv tv w1 h1 ⟨hb.L, hb.skip, hb.M, hb.words, hb.draws, hb.used, hb.free, hb.TN, hb.v, hb.tw⟩)
      have hlen : ({ S with kind := k } : Ms).len = S.len := rfl
      rw [hlen] at HL
      clear h e hk
      go_enter Tryz.func62, Tryz.ntmps62
      go_wp2_with (go_at_call 54; (with_reducible refine (HL.out _ H1.out).mono ?_); rintro e w2 ⟨rfl, hb2⟩; have X2 := hid (H1.out.self hb2); have HB2 := hid hb2; have f4 := X2.out.fz 4; have c4 := X2.out.c_fr; clear hb2)
      exact bodyPost_end (results_none rfl _ _ _) rfl ⟨rfl, X2.out.cellSet (S' := { S with kind := k, fr := S.len }) 4 (.int .i64 (S.len : Int)) rfl rfl rfl rfl rfl rfl rfl rfl rfl, (HT1.out.trans (Tch.of_below (F := Ft b ov bv vv) HB2.out) (fun _ _ h => h)).trans (tch_set b 4 _ w2) (fun _ _ h => h)⟩
  · have e : S.beginS k = S := by unfold Ms.beginS; rw [if_pos he]
    rw [e]
    have q1 : ((S.e : Int) != 0) = true := by simp; omega
    clear h e he
    go_enter Tryz.func62, Tryz.ntmps62
    go_wp2
    exact bodyPost_ret (results_none rfl _ _ _) rfl ⟨rfl, HD.out, Tch.refl _ _⟩
end Go.Proofs.YtpjgpiieminaoaaGreatDoor

/- Wire: the document's machine: a row grows; blocks that end. -/
namespace Go.Proofs.YtpjgpiieminaoaaGreatDoor
open Go.RowKit
set_option maxRecDepth 100000
section
variable {lo : LoG} {b : Nat} {w w' : World} {S : Ms} {ov bv vv tv : Value}
theorem grown_at {r : Option Nat} (h : w.grownBy w' r) (b i : Nat) (u : Value) {k : Nat} (hk : k < w.heap.size) (hr : some k ≠ r) (hb : k ≠ b) : (w'.setCell ⟨b, i, none⟩ u).heap[k]? = w.heap[k]? := by
  rw [heap_setCell_other w' ⟨b, i, none⟩ k u hb]; exact h.block k hk hr
theorem row_in {B k n b : Nat} {E : TypeId} {v : Value} {c : Nat → List Value} (h : Orw w B E k v n c) (hb : v.ownBlock ≠ some b) (i : Nat) (u : Value) : Orw (w.setCell ⟨b, i, none⟩ u) B E k v n c :=
  h.stays fun j hj => heap_setCell_other w ⟨b, i, none⟩ j u (fun e => hb (by subst e; exact hj))
theorem Dm2.addBl (h : Dm2 lo w b S S.L ov bv vv tv) {g cap : Nat} {sp : Sp3} (hrow : Orw w' lo.lo 102 3 (.slice (some ⟨g, 0, none⟩) (S.M + 1) cap) (S.M + 1) (fun i => (spCs (updS S.g S.M sp i)).toList)) (hg : w.grownBy w' bv.ownBlock) (hp : bv.ownBlock = some g ∨ g = w.heap.size) :
    Dm2 lo (w'.setCell ⟨b, 9, none⟩ (.slice (some ⟨g, 0, none⟩) (S.M + 1) cap)) b { S with M := S.M + 1, g := updS S.g S.M sp } S.L ov (.slice (some ⟨g, 0, none⟩) (S.M + 1) cap) vv tv ∧ Tch (Ft b ov bv vv) w (w'.setCell ⟨b, 9, none⟩ (.slice (some ⟨g, 0, none⟩) (S.M + 1) cap)) ∧ (∀ k, Ft b ov (.slice (some ⟨g, 0, none⟩) (S.M + 1) cap) vv k → Ft b ov bv vv k ∨ w.heap.size ≤ k) := by
  have hgb : ((.slice (some ⟨g, 0, none⟩) (S.M + 1) cap) : Value).ownBlock ≠ some b := by
    intro e
    have e' : g = b := Option.some.inj e
    subst e'
    rcases hp with hp | hp
    · exact h.hbb hp
    · have := (Array.getElem?_eq_some_iff.1 h.blk).1; omega
  have hga_ov : ∀ k, g = k → ov.ownBlock ≠ some k := fun k e hk => by
    subst e
    rcases hp with hp | hp
    · exact (h.hobv g hk) hp
    · have := (h.ops.lt g hk).2; omega
  have hga_vv : ∀ k, g = k → vv.ownBlock ≠ some k := fun k e hk => by
    subst e
    rcases hp with hp | hp
    · exact (fun e => h.hbv g e hk) hp
    · have := (h.val.lt g hk).2; omega
  have hbl : w'.heap[b]? = w.heap[b]? := hg.block b (Array.getElem?_eq_some_iff.1 h.blk).1 (fun e => h.hbb e.symm)
  refine ⟨⟨?_, h.lob, ?_, ?_, ?_, h.hob, hgb, h.hvb, fun k hk e => hga_ov k (Option.some.inj e) hk, h.hov, fun k hk e => hga_vv k (Option.some.inj hk) e, ?_⟩, ?_, ?_⟩
  · rw [heap_setCell_same w' b 9 _ 73 _ (hbl.trans h.blk)]; rfl
  · exact h.ops.stays fun k hk => grown_at hg b 9 _ (h.ops.lt k hk).2 (fun e => (h.hobv k hk) e.symm) (fun e => h.hob (e ▸ hk))
  · exact row_in hrow hgb 9 _
  · exact h.val.stays fun k hk => grown_at hg b 9 _ (h.val.lt k hk).2 (fun e => (fun e => h.hbv k e hk) e.symm) (fun e => h.hvb (e ▸ hk))
  · obtain ⟨a, cp, e, h1, h2, h3, h4, h5⟩ := h.tap
    refine ⟨a, cp, e, h1, h2, h3, h4, fun h0 => ?_⟩
    obtain ⟨q, off, ea, ⟨f1, f2, f3, f4, f5⟩, hq, hc⟩ := h5 h0
    have hgq : g ≠ q := fun e => by
      subst e
      rcases hp with hp | hp
      · exact f3 hp
      · omega
    refine ⟨q, off, ea, ⟨f1, f2, fun e => hgq (Option.some.inj e), f4, f5⟩, by have := hg.size; simp [World.setCell]; omega, fun j hj => ?_⟩
    rw [World.cell?_of_block (grown_at hg b 9 _ hq (fun e => f3 e.symm) f1)]
    exact hc j hj
  · exact (Tch.of_grown hg (fun k e => .inr (.inr (.inl e)))).trans (tch_set b 9 _ w') (fun _ _ f => f)
  · rintro k (rfl | e | e | e)
    · exact .inl (.inl rfl)
    · exact .inl (.inr (.inl e))
    · have e' : g = k := Option.some.inj e
      subst e'
      rcases hp with hp | hp
      · exact .inl (.inr (.inr (.inl hp)))
      · exact .inr (by omega)
    · exact .inl (.inr (.inr (.inr e)))
theorem Dm2.addVal (h : Dm2 lo w b S S.L ov bv vv tv) {g cap : Nat} {x : Nat} (hrow : Orw w' lo.lo 22 1 (.slice (some ⟨g, 0, none⟩) (S.L + 1) cap) (S.L + 1) (fun i => [.int .u64 ((updN S.v S.L x i : Nat) : Int)])) (hg : w.grownBy w' vv.ownBlock) (hp : vv.ownBlock = some g ∨ g = w.heap.size) :
    Dm2 lo (w'.setCell ⟨b, 10, none⟩ (.slice (some ⟨g, 0, none⟩) (S.L + 1) cap)) b { S with v := updN S.v S.L x } (S.L + 1) ov bv (.slice (some ⟨g, 0, none⟩) (S.L + 1) cap) tv ∧ Tch (Ft b ov bv vv) w (w'.setCell ⟨b, 10, none⟩ (.slice (some ⟨g, 0, none⟩) (S.L + 1) cap)) ∧ (∀ k, Ft b ov bv (.slice (some ⟨g, 0, none⟩) (S.L + 1) cap) k → Ft b ov bv vv k ∨ w.heap.size ≤ k) := by
  have hgb : ((.slice (some ⟨g, 0, none⟩) (S.L + 1) cap) : Value).ownBlock ≠ some b := by
    intro e
    have e' : g = b := Option.some.inj e
    subst e'
    rcases hp with hp | hp
    · exact h.hvb hp
    · have := (Array.getElem?_eq_some_iff.1 h.blk).1; omega
  have hga_ov : ∀ k, g = k → ov.ownBlock ≠ some k := fun k e hk => by
    subst e
    rcases hp with hp | hp
    · exact (h.hov g hk) hp
    · have := (h.ops.lt g hk).2; omega
  have hga_bv : ∀ k, g = k → bv.ownBlock ≠ some k := fun k e hk => by
    subst e
    rcases hp with hp | hp
    · exact (h.hbv g hk) hp
    · have := (h.bls.lt g hk).2; omega
  have hbl : w'.heap[b]? = w.heap[b]? := hg.block b (Array.getElem?_eq_some_iff.1 h.blk).1 (fun e => h.hvb e.symm)
  refine ⟨⟨?_, h.lob, ?_, ?_, ?_, h.hob, h.hbb, hgb, h.hobv, fun k hk e => hga_ov k (Option.some.inj e) hk, fun k hk e => hga_bv k (Option.some.inj e) hk, ?_⟩, ?_, ?_⟩
  · rw [heap_setCell_same w' b 10 _ 73 _ (hbl.trans h.blk)]; rfl
  · exact h.ops.stays fun k hk => grown_at hg b 10 _ (h.ops.lt k hk).2 (fun e => (h.hov k hk) e.symm) (fun e => h.hob (e ▸ hk))
  · exact h.bls.stays fun k hk => grown_at hg b 10 _ (h.bls.lt k hk).2 (fun e => (h.hbv k hk) e.symm) (fun e => h.hbb (e ▸ hk))
  · exact row_in hrow hgb 10 _
  · obtain ⟨a, cp, e, h1, h2, h3, h4, h5⟩ := h.tap
    refine ⟨a, cp, e, h1, h2, h3, h4, fun h0 => ?_⟩
    obtain ⟨q, off, ea, ⟨f1, f2, f3, f4, f5⟩, hq, hc⟩ := h5 h0
    have hgq : g ≠ q := fun e => by
      subst e
      rcases hp with hp | hp
      · exact f4 hp
      · omega
    refine ⟨q, off, ea, ⟨f1, f2, f3, fun e => hgq (Option.some.inj e), f5⟩, by have := hg.size; simp [World.setCell]; omega, fun j hj => ?_⟩
    rw [World.cell?_of_block (grown_at hg b 10 _ hq (fun e => f4 e.symm) f1)]
    exact hc j hj
  · exact (Tch.of_grown hg (fun k e => .inr (.inr (.inr e)))).trans (tch_set b 10 _ w') (fun _ _ f => f)
  · rintro k (rfl | e | e | e)
    · exact .inl (.inl rfl)
    · exact .inl (.inr (.inl e))
    · exact .inl (.inr (.inr (.inl e)))
    · have e' : g = k := Option.some.inj e
      subst e'
      rcases hp with hp | hp
      · exact .inl (.inr (.inr (.inr hp)))
      · exact .inr (by omega)
theorem Dm2.addOps (h : Dm2 lo w b S (S.L + 1) ov bv vv tv) {g cap : Nat} {o : Op6} (hrow : Orw w' lo.lo 66 6 (.slice (some ⟨g, 0, none⟩) (S.L + 1) cap) (S.L + 1) (fun i => (opCs (updO S.f S.L o i)).toList)) (hg : w.grownBy w' ov.ownBlock) (hp : ov.ownBlock = some g ∨ g = w.heap.size) :
    Dm2 lo (w'.setCell ⟨b, 8, none⟩ (.slice (some ⟨g, 0, none⟩) (S.L + 1) cap)) b { S with L := S.L + 1, f := updO S.f S.L o } (S.L + 1) (.slice (some ⟨g, 0, none⟩) (S.L + 1) cap) bv vv tv ∧ Tch (Ft b ov bv vv) w (w'.setCell ⟨b, 8, none⟩ (.slice (some ⟨g, 0, none⟩) (S.L + 1) cap)) ∧ (∀ k, Ft b (.slice (some ⟨g, 0, none⟩) (S.L + 1) cap) bv vv k → Ft b ov bv vv k ∨ w.heap.size ≤ k) := by
  have hgb : ((.slice (some ⟨g, 0, none⟩) (S.L + 1) cap) : Value).ownBlock ≠ some b := by
    intro e
    have e' : g = b := Option.some.inj e
    subst e'
    rcases hp with hp | hp
    · exact h.hob hp
    · have := (Array.getElem?_eq_some_iff.1 h.blk).1; omega
  have hga_bv : ∀ k, g = k → bv.ownBlock ≠ some k := fun k e hk => by
    subst e
    rcases hp with hp | hp
    · exact (fun e => h.hobv g e hk) hp
    · have := (h.bls.lt g hk).2; omega
  have hga_vv : ∀ k, g = k → vv.ownBlock ≠ some k := fun k e hk => by
    subst e
    rcases hp with hp | hp
    · exact (fun e => h.hov g e hk) hp
    · have := (h.val.lt g hk).2; omega
  have hbl : w'.heap[b]? = w.heap[b]? := hg.block b (Array.getElem?_eq_some_iff.1 h.blk).1 (fun e => h.hob e.symm)
  refine ⟨⟨?_, h.lob, ?_, ?_, ?_, hgb, h.hbb, h.hvb, fun k hk e => hga_bv k (Option.some.inj hk) e, fun k hk e => hga_vv k (Option.some.inj hk) e, h.hbv, ?_⟩, ?_, ?_⟩
  · rw [heap_setCell_same w' b 8 _ 73 _ (hbl.trans h.blk)]; rfl
  · exact row_in hrow hgb 8 _
  · exact h.bls.stays fun k hk => grown_at hg b 8 _ (h.bls.lt k hk).2 (fun e => (fun e => h.hobv k e hk) e.symm) (fun e => h.hbb (e ▸ hk))
  · exact h.val.stays fun k hk => grown_at hg b 8 _ (h.val.lt k hk).2 (fun e => (fun e => h.hov k e hk) e.symm) (fun e => h.hvb (e ▸ hk))
  · obtain ⟨a, cp, e, h1, h2, h3, h4, h5⟩ := h.tap
    refine ⟨a, cp, e, h1, h2, h3, h4, fun h0 => ?_⟩
    obtain ⟨q, off, ea, ⟨f1, f2, f3, f4, f5⟩, hq, hc⟩ := h5 h0
    have hgq : g ≠ q := fun e => by
      subst e
      rcases hp with hp | hp
      · exact f2 hp
      · omega
    refine ⟨q, off, ea, ⟨f1, fun e => hgq (Option.some.inj e), f3, f4, f5⟩, by have := hg.size; simp [World.setCell]; omega, fun j hj => ?_⟩
    rw [World.cell?_of_block (grown_at hg b 8 _ hq (fun e => f2 e.symm) f1)]
    exact hc j hj
  · exact (Tch.of_grown hg (fun k e => .inr (.inl e))).trans (tch_set b 8 _ w') (fun _ _ f => f)
  · rintro k (rfl | e | e | e)
    · exact .inl (.inl rfl)
    · have e' : g = k := Option.some.inj e
      subst e'
      rcases hp with hp | hp
      · exact .inl (.inr (.inl hp))
      · exact .inr (by omega)
    · exact .inl (.inr (.inr (.inl e)))
    · exact .inl (.inr (.inr (.inr e)))
end
end Go.Proofs.YtpjgpiieminaoaaGreatDoor

/- Wire: the document's machine: a block ends. -/
namespace Go.Proofs.YtpjgpiieminaoaaGreatDoor
open Go.RowKit
set_option maxRecDepth 100000
theorem infoSp : (Tryz.prog.info? 102).map (fun i => (i.zero, i.size, i.bytes)) = some (some (.agg #[.int .i64 0, .int .i64 0, .int .i64 0]), 3, 24) := by kernel_rfl
theorem dlen_quiet (lo : LoG) (b : Nat) (S : Ms) (ov bv vv tv : Value) (w : World) (h : Dm lo w b S ov bv vv tv) (l1 : S.L ≤ 1000000) (l2 : S.skip ≤ 1000000) :
    Calls Tryz.prog 54 #[.pointer (some ⟨b, 0, none⟩)] w fun e w' => e = .returned (.int .i64 (S.len : Nat)) ∧ ∃ n, w' = w.drewN n := by
  obtain ⟨a, cap, rfl⟩ := h.opsv
  have c5 := h.drew.c_skip
  have c8 := h.drew.c_ov
  have hw : IntKind.i64.wrap ((S.skip : Int) + (S.L : Int)) = ((S.len : Nat) : Int) := by unfold Ms.len; rw [IntKind.wrap_i64]; omega
  clear h l1 l2
  generalize S.len = n at *
  go_enter Tryz.func54, Tryz.ntmps54
  go_wp2_with fail
  go_region
  go_wp2
  go_ret
  exact ⟨rfl, 1, rfl⟩
theorem Dm.drewN {lo : LoG} {b : Nat} {w : World} {S : Ms} {ov bv vv tv : Value} (h : Dm lo w b S ov bv vv tv) (n : Nat) : Dm lo (w.drewN n) b S ov bv vv tv := h.self (below_drewN w n)
set_option maxHeartbeats 1600000 in
theorem dend_any (lo : LoG) (b : Nat) (S : Ms) (ov bv vv tv : Value) (w : World) (h : Dm lo w b S ov bv vv tv) (hb : Bd S) :
    Calls Tryz.prog 63 #[.pointer (some ⟨b, 0, none⟩)] w fun e w' => e = .returned (.tuple #[]) ∧ DmR lo b ov bv vv S.endS w w' := by
  have c7 := h.c_e
  have c6 := h.c_kind
  have f6 := h.fz 6
  have f7 := h.fz 7
  have HD := hid h
  have HBD := hid hb
  by_cases he : S.e = 0
  · rw [he] at c7
    by_cases hk : S.kind = 0
    · have e : S.endS = { S with e := 1 } := by unfold Ms.endS; rw [if_neg (by omega), if_pos hk]
      rw [e]
      have q1 : (S.kind == 0) = true := by simp [hk]
      have HN := hid (h.cellSet (S' := { S with e := 1 }) 7 (.int .i64 1) rfl rfl rfl rfl rfl rfl rfl rfl rfl)
      have HT := hid (tch_set (ov := ov) (bv := bv) (vv := vv) b 7 (.int .i64 1) w)
      clear h e hk
      go_enter Tryz.func63, Tryz.ntmps63
      go_wp2
      exact bodyPost_ret (results_none rfl _ _ _) rfl ⟨rfl, _, _, _, _, HN.out, HT.out, fun k hk => .inl hk⟩
    · have q1 : (S.kind == 0) = false := by simp [hk]
      have HLQ := hid (fun w1 (h1 : Dm lo w1 b S ov bv vv tv) => dlen_any lo b S ov bv vv tv w1 h1 hb)
      have HQ := hid (fun n => dlen_quiet lo b S ov bv vv tv _ (h.drewN n) (by have := hb.L; omega) (by have := hb.skip; omega))
      by_cases hl : S.fr < S.len
      · have e : S.endS = { S with M := S.M + 1, g := updS S.g S.M ⟨S.kind, (S.fr : Int), (S.len : Int)⟩, kind := 0 } := by unfold Ms.endS; rw [if_neg (by omega), if_neg hk, if_pos hl]
        rw [e]
        have q2 : decide ((S.fr : Int) < (S.len : Int)) = true := decide_eq_true (by omega)
        have XN := hid (fun n => h.drewN n)
        have c4 := h.c_fr
        clear h e hk hb
        go_enter Tryz.func63, Tryz.ntmps63
        go_wp2_with fail
        go_quiet ((go_at_call 54; exact Calls.quiet_of (HQ.out _)))
        go_wp2_with fail
        have X0 := hid ((XN.out nq).drew)
        have HB0 := hid ((below_drewN w nq).drew)
        refine wp_region_noPanic ?_
        refine wp_region_held_drew (S := fun w' => w'.cell? ⟨b, 6, none⟩ = some (Value.int .i64 S.kind) ∧ w'.cell? ⟨b, 4, none⟩ = some (Value.int .i64 (S.fr : Int))) (by kernel_rfl) (⟨X0.out.c_kind, X0.out.c_fr⟩) (fun h0 => ?_)
        generalize (w.drewN nq).drew = w1 at *
        refine wpAnyH_take (i := 0) (v := .pointer (some ⟨b, 0, none⟩)) rfl (by kernel_rfl) (by kernel_rfl) (by kernel_rfl) (fun _ _ _ h => h) (.inl ⟨by rfl, fun w hw => by clear hw; go_simp⟩) h0 ?_
        try simp only [Act.put, lay_out]
        refine wpAnyH_take (i := 1) (v := .pointer (some ⟨b, 0, none⟩)) rfl (by kernel_rfl) (by kernel_rfl) (by kernel_rfl) (fun _ _ _ h => h) (.inl ⟨by rfl, fun w hw => by clear hw; go_simp⟩) h0 ?_
        try simp only [Act.put, lay_out]
        refine wpAnyH_take (i := 2) (v := .pointer (some ⟨b, 0, none⟩)) rfl (by kernel_rfl) (by kernel_rfl) (by kernel_rfl) (fun _ _ _ h => h) (.inl ⟨by rfl, fun w hw => by clear hw; go_simp⟩) h0 ?_
        try simp only [Act.put, lay_out]
        refine wpAnyH_take (i := 3) (v := .pointer (some ⟨b, 9, none⟩)) rfl (by kernel_rfl) (by kernel_rfl) (by kernel_rfl) (fun _ _ _ h => h) (.inl ⟨by rfl, fun w hw => by clear hw; go_simp⟩) h0 ?_
        try simp only [Act.put, lay_out]
        refine wpAnyH_take (i := 5) (v := .pointer (some ⟨b, 0, none⟩)) rfl (by kernel_rfl) (by kernel_rfl) (by kernel_rfl) (fun _ _ _ h => h) (.inl ⟨by rfl, fun w hw => by clear hw; go_simp⟩) h0 ?_
        try simp only [Act.put, lay_out]
        refine wpAnyH_take (i := 6) (v := .pointer (some ⟨b, 0, none⟩)) rfl (by kernel_rfl) (by kernel_rfl) (by kernel_rfl) (fun _ _ _ h => h) (.inl ⟨by rfl, fun w hw => by clear hw; go_simp⟩) h0 ?_
        try simp only [Act.put, lay_out]
        refine wpAnyH_take (i := 7) (v := .pointer (some ⟨b, 6, none⟩)) rfl (by kernel_rfl) (by kernel_rfl) (by kernel_rfl) (fun _ _ _ h => h) (.inl ⟨by rfl, fun w hw => by clear hw; go_simp⟩) h0 ?_
        try simp only [Act.put, lay_out]
        refine wpAnyH_take (i := 8) (v := .int .i64 S.kind) rfl (by kernel_rfl) (by kernel_rfl) (by kernel_rfl) (fun _ _ _ h => h) (.inl ⟨by rfl, fun w hw => by go_simp⟩) h0 ?_
        try simp only [Act.put, lay_out]
        refine wpAnyH_take (i := 9) (v := .pointer (some ⟨b, 0, none⟩)) rfl (by kernel_rfl) (by kernel_rfl) (by kernel_rfl) (fun _ _ _ h => h) (.inl ⟨by rfl, fun w hw => by clear hw; go_simp⟩) h0 ?_
        try simp only [Act.put, lay_out]
        refine wpAnyH_take (i := 10) (v := .pointer (some ⟨b, 0, none⟩)) rfl (by kernel_rfl) (by kernel_rfl) (by kernel_rfl) (fun _ _ _ h => h) (.inl ⟨by rfl, fun w hw => by clear hw; go_simp⟩) h0 ?_
        try simp only [Act.put, lay_out]
        refine wpAnyH_take (i := 11) (v := .pointer (some ⟨b, 4, none⟩)) rfl (by kernel_rfl) (by kernel_rfl) (by kernel_rfl) (fun _ _ _ h => h) (.inl ⟨by rfl, fun w hw => by clear hw; go_simp⟩) h0 ?_
        try simp only [Act.put, lay_out]
        refine wpAnyH_take (i := 12) (v := .int .i64 (S.fr : Int)) rfl (by kernel_rfl) (by kernel_rfl) (by kernel_rfl) (fun _ _ _ h => h) (.inl ⟨by rfl, fun w hw => by go_simp⟩) h0 ?_
        try simp only [Act.put, lay_out]
        refine wpAnyH_take (i := 13) (v := .pointer (some ⟨b, 0, none⟩)) rfl (by kernel_rfl) (by kernel_rfl) (by kernel_rfl) (fun _ _ _ h => h) (.inl ⟨by rfl, fun w hw => by clear hw; go_simp⟩) h0 ?_
        try simp only [Act.put, lay_out]
        refine wpAnyH_ready (rs := [4, 14]) (by kernel_rfl) (by simp) (AllReadyH.cons rfl (fun K hK => ?_) (AllReadyH.cons rfl (fun K hK => ?_) AllReadyH.nil))
        · have c9 := X0.out.c_bv
          rw [if_pos (by rfl)]
          go_simp
          clear c9
          refine hK.out _ _ (⟨X0.out.c_kind, X0.out.c_fr⟩) (fun h1x => ?_)
          clear hK K
          try simp only [Act.put, lay_out]
          refine wpAnyH_ready (rs := [14]) (by kernel_rfl) (by simp) (AllReadyH.cons rfl (fun K hK => ?_) AllReadyH.nil)
          rw [if_pos (by rfl)]
          go_simp
          go_at_call 54
          (with_reducible refine (HLQ.out _ X0.out).mono ?_); rintro e w2 ⟨rfl, hb1⟩
          have X1 := hid (X0.out.self hb1)
          have HBX1 := hid hb1
          clear hb1
          refine hK.out _ _ (⟨X1.out.c_kind, X1.out.c_fr⟩) (fun h2x => ?_)
          clear hK K
          try simp only [Act.put, lay_out]
          refine wpAnyH_take (i := 15) (v := .agg #[.int .i64 S.kind, .int .i64 (S.fr : Int), .int .i64 (S.len : Int)]) rfl (by kernel_rfl) (by kernel_rfl) (by kernel_rfl) (fun _ _ _ h => h) (.inl ⟨by rfl, fun w hw => by clear hw; go_simp⟩) h2x ?_
          try simp only [Act.put, lay_out]
          refine wpAnyH_ready (rs := [16]) (by kernel_rfl) (by simp) (AllReadyH.cons rfl (fun K hK => ?_) AllReadyH.nil)
          rw [if_pos (by rfl)]
          go_simp
          have XA := hid (X1.out.self ((Below.refl w2.heap.size w2).alloc (Nat.le_refl _) (.cells #[.int .i64 S.kind, .int .i64 (S.fr : Int), .int .i64 (S.len : Int)] 102)))
          refine hK.out _ _ (⟨XA.out.c_kind, XA.out.c_fr⟩) (fun h3x => ?_)
          clear hK K
          try simp only [Act.put, lay_out]
          refine wpAnyH_ready (rs := [17]) (by kernel_rfl) (by simp) (AllReadyH.cons rfl (fun K hK => ?_) AllReadyH.nil)
          rw [if_pos (by rfl)]
          refine wp_append_rec (.tmp 26) (.tmp 38) 69 rfl lo.lo 102 3 24 (.agg #[.int .i64 0, .int .i64 0, .int .i64 0]) Tryz.underlying69 infoSp (by rfl) (by decide) bv S.M (fun i => (spCs (updS S.g S.M ⟨S.kind, (S.fr : Int), (S.len : Int)⟩ i)).toList) rfl (XA.out.bls.ext fun i hi => by rw [updS_no _ _ (by omega)]) ⟨w2.heap.size, 0, none⟩ 1 rfl rfl (by intro u hu; simp at hu; rcases hu with rfl | rfl | rfl <;> rfl) ?_ (by have := HBD.out.M; unfold maxLen; omega) (by have := HBD.out.M; omega) (by have := XA.out.lt; have := XA.out.lob; omega) (fun g cap' w9 g1 g2 g3 => ?_)
          · rw [updS_at]; exact World.news_of_block (heap_alloc_new _ _)
          have XG := hid (XA.out.addBl g1 g2 g3)
          have hbl : w9.heap[b]? = _ := g2.block b XA.out.lt (fun e => XA.out.hbb e.symm)
          have f6 := frozen_of_row w9 b 6 _ _ (hbl.trans XA.out.blk)
          have f9 := frozen_of_row w9 b 9 _ _ (hbl.trans XA.out.blk)
          have c6 : w9.cell? ⟨b, 6, none⟩ = some (Value.int .i64 S.kind) := by rw [World.cell?_of_block hbl]; exact XA.out.c_kind
          have K6 := hid c6
          have K4 : Hid (w9.cell? ⟨b, 4, none⟩ = some (Value.int .i64 (S.fr : Int))) := hid (by rw [World.cell?_of_block hbl]; exact XA.out.c_fr)
          have c9 : w9.cell? ⟨b, 9, none⟩ = some bv := by rw [World.cell?_of_block hbl]; exact XA.out.c_bv
          clear g1 g2 g3 hbl
          refine hK.out _ _ (⟨K6.out, K4.out⟩) (fun h4x => ?_)
          clear hK K
          try simp only [Act.put, lay_out]
          refine wpAnyH_take (i := 18) (v := .pointer (some ⟨b, 0, none⟩)) rfl (by kernel_rfl) (by kernel_rfl) (by kernel_rfl) (fun _ _ _ h => h) (.inl ⟨by rfl, fun w hw => by clear hw; go_simp⟩) h4x ?_
          try simp only [Act.put, lay_out]
          refine wpAnyH_take (i := 19) (v := .pointer (some ⟨b, 9, none⟩)) rfl (by kernel_rfl) (by kernel_rfl) (by kernel_rfl) (fun _ _ _ h => h) (.inl ⟨by rfl, fun w hw => by clear hw; go_simp⟩) h4x ?_
          try simp only [Act.put, lay_out]
          refine wpAnyH_ready (rs := [20]) (by kernel_rfl) (by simp) (AllReadyH.cons rfl (fun K hK => ?_) AllReadyH.nil)
          rw [if_pos (by rfl)]
          go_simp
          refine hK.out _ _ (⟨Dm.c_kind (S := { S with M := S.M + 1, g := updS S.g S.M ⟨S.kind, (S.fr : Int), (S.len : Int)⟩ }) XG.out.1, Dm.c_fr (S := { S with M := S.M + 1, g := updS S.g S.M ⟨S.kind, (S.fr : Int), (S.len : Int)⟩ }) XG.out.1⟩) (fun h5x => ?_)
          clear hK K
          try simp only [Act.put, lay_out]
          refine wpAnyH_done (by kernel_rfl) ?_ _
          refine NoPanic.normal ?_
          clear h0 h1x h2x h3x h4x h5x
          try simp only [Act.put, lay_out]
          go_wp2
          have HT0 := ((Tch.of_below (F := Ft b ov bv vv) HB0.out).trans (Tch.of_below (F := Ft b ov bv vv) HBX1.out) (fun _ _ f => f)).trans (Tch.of_below (F := Ft b ov bv vv) ((Below.refl w2.heap.size w2).alloc (Nat.le_refl _) (.cells #[.int .i64 S.kind, .int .i64 (S.fr : Int), .int .i64 (S.len : Int)] 102))) (fun _ _ f => f)
          exact bodyPost_end (results_none rfl _ _ _) rfl ⟨rfl, _, _, _, _, Dm.cellSet (S := { S with M := S.M + 1, g := updS S.g S.M ⟨S.kind, (S.fr : Int), (S.len : Int)⟩ }) XG.out.1 (S' := { S with M := S.M + 1, g := updS S.g S.M ⟨S.kind, (S.fr : Int), (S.len : Int)⟩, kind := 0 }) 6 (.int .i64 0) rfl rfl rfl rfl rfl rfl rfl rfl rfl, (HT0.trans XG.out.2.1 (fun _ _ f => f)).trans (tch_set b 6 _ _) (fun _ _ f => f), fun k hk => (XG.out.2.2 k hk).imp id (fun hk => Nat.le_trans HT0.size hk)⟩
        · rw [if_pos (by rfl)]
          go_simp
          go_at_call 54
          (with_reducible refine (HLQ.out _ X0.out).mono ?_); rintro e w2 ⟨rfl, hb1⟩
          have X1 := hid (X0.out.self hb1)
          have HBX1 := hid hb1
          clear hb1
          refine hK.out _ _ (⟨X1.out.c_kind, X1.out.c_fr⟩) (fun h1x => ?_)
          clear hK K
          try simp only [Act.put, lay_out]
          refine wpAnyH_take (i := 15) (v := .agg #[.int .i64 S.kind, .int .i64 (S.fr : Int), .int .i64 (S.len : Int)]) rfl (by kernel_rfl) (by kernel_rfl) (by kernel_rfl) (fun _ _ _ h => h) (.inl ⟨by rfl, fun w hw => by clear hw; go_simp⟩) h1x ?_
          try simp only [Act.put, lay_out]
          refine wpAnyH_ready (rs := [4, 16]) (by kernel_rfl) (by simp) (AllReadyH.cons rfl (fun K hK => ?_) (AllReadyH.cons rfl (fun K hK => ?_) AllReadyH.nil))
          · have c9 := X1.out.c_bv
            rw [if_pos (by rfl)]
            go_simp
            clear c9
            refine hK.out _ _ (⟨X1.out.c_kind, X1.out.c_fr⟩) (fun h2x => ?_)
            clear hK K
            try simp only [Act.put, lay_out]
            refine wpAnyH_ready (rs := [16]) (by kernel_rfl) (by simp) (AllReadyH.cons rfl (fun K hK => ?_) AllReadyH.nil)
            rw [if_pos (by rfl)]
            go_simp
            have XA := hid (X1.out.self ((Below.refl w2.heap.size w2).alloc (Nat.le_refl _) (.cells #[.int .i64 S.kind, .int .i64 (S.fr : Int), .int .i64 (S.len : Int)] 102)))
            refine hK.out _ _ (⟨XA.out.c_kind, XA.out.c_fr⟩) (fun h3x => ?_)
            clear hK K
            try simp only [Act.put, lay_out]
            refine wpAnyH_ready (rs := [17]) (by kernel_rfl) (by simp) (AllReadyH.cons rfl (fun K hK => ?_) AllReadyH.nil)
            rw [if_pos (by rfl)]
            refine wp_append_rec (.tmp 26) (.tmp 38) 69 rfl lo.lo 102 3 24 (.agg #[.int .i64 0, .int .i64 0, .int .i64 0]) Tryz.underlying69 infoSp (by rfl) (by decide) bv S.M (fun i => (spCs (updS S.g S.M ⟨S.kind, (S.fr : Int), (S.len : Int)⟩ i)).toList) rfl (XA.out.bls.ext fun i hi => by rw [updS_no _ _ (by omega)]) ⟨w2.heap.size, 0, none⟩ 1 rfl rfl (by intro u hu; simp at hu; rcases hu with rfl | rfl | rfl <;> rfl) ?_ (by have := HBD.out.M; unfold maxLen; omega) (by have := HBD.out.M; omega) (by have := XA.out.lt; have := XA.out.lob; omega) (fun g cap' w9 g1 g2 g3 => ?_)
            · rw [updS_at]; exact World.news_of_block (heap_alloc_new _ _)
            have XG := hid (XA.out.addBl g1 g2 g3)
            have hbl : w9.heap[b]? = _ := g2.block b XA.out.lt (fun e => XA.out.hbb e.symm)
            have f6 := frozen_of_row w9 b 6 _ _ (hbl.trans XA.out.blk)
            have f9 := frozen_of_row w9 b 9 _ _ (hbl.trans XA.out.blk)
            have c6 : w9.cell? ⟨b, 6, none⟩ = some (Value.int .i64 S.kind) := by rw [World.cell?_of_block hbl]; exact XA.out.c_kind
            have K6 := hid c6
            have K4 : Hid (w9.cell? ⟨b, 4, none⟩ = some (Value.int .i64 (S.fr : Int))) := hid (by rw [World.cell?_of_block hbl]; exact XA.out.c_fr)
            have c9 : w9.cell? ⟨b, 9, none⟩ = some bv := by rw [World.cell?_of_block hbl]; exact XA.out.c_bv
            clear g1 g2 g3 hbl
            refine hK.out _ _ (⟨K6.out, K4.out⟩) (fun h4x => ?_)
            clear hK K
            try simp only [Act.put, lay_out]
            refine wpAnyH_take (i := 18) (v := .pointer (some ⟨b, 0, none⟩)) rfl (by kernel_rfl) (by kernel_rfl) (by kernel_rfl) (fun _ _ _ h => h) (.inl ⟨by rfl, fun w hw => by clear hw; go_simp⟩) h4x ?_
            try simp only [Act.put, lay_out]
            refine wpAnyH_take (i := 19) (v := .pointer (some ⟨b, 9, none⟩)) rfl (by kernel_rfl) (by kernel_rfl) (by kernel_rfl) (fun _ _ _ h => h) (.inl ⟨by rfl, fun w hw => by clear hw; go_simp⟩) h4x ?_
            try simp only [Act.put, lay_out]
            refine wpAnyH_ready (rs := [20]) (by kernel_rfl) (by simp) (AllReadyH.cons rfl (fun K hK => ?_) AllReadyH.nil)
            rw [if_pos (by rfl)]
            go_simp
            refine hK.out _ _ (⟨Dm.c_kind (S := { S with M := S.M + 1, g := updS S.g S.M ⟨S.kind, (S.fr : Int), (S.len : Int)⟩ }) XG.out.1, Dm.c_fr (S := { S with M := S.M + 1, g := updS S.g S.M ⟨S.kind, (S.fr : Int), (S.len : Int)⟩ }) XG.out.1⟩) (fun h5x => ?_)
            clear hK K
            try simp only [Act.put, lay_out]
            refine wpAnyH_done (by kernel_rfl) ?_ _
            refine NoPanic.normal ?_
            clear h0 h1x h2x h3x h4x h5x
            try simp only [Act.put, lay_out]
            go_wp2
            have HT0 := ((Tch.of_below (F := Ft b ov bv vv) HB0.out).trans (Tch.of_below (F := Ft b ov bv vv) HBX1.out) (fun _ _ f => f)).trans (Tch.of_below (F := Ft b ov bv vv) ((Below.refl w2.heap.size w2).alloc (Nat.le_refl _) (.cells #[.int .i64 S.kind, .int .i64 (S.fr : Int), .int .i64 (S.len : Int)] 102))) (fun _ _ f => f)
            exact bodyPost_end (results_none rfl _ _ _) rfl ⟨rfl, _, _, _, _, Dm.cellSet (S := { S with M := S.M + 1, g := updS S.g S.M ⟨S.kind, (S.fr : Int), (S.len : Int)⟩ }) XG.out.1 (S' := { S with M := S.M + 1, g := updS S.g S.M ⟨S.kind, (S.fr : Int), (S.len : Int)⟩, kind := 0 }) 6 (.int .i64 0) rfl rfl rfl rfl rfl rfl rfl rfl rfl, (HT0.trans XG.out.2.1 (fun _ _ f => f)).trans (tch_set b 6 _ _) (fun _ _ f => f), fun k hk => (XG.out.2.2 k hk).imp id (fun hk => Nat.le_trans HT0.size hk)⟩
          · rw [if_pos (by rfl)]
            go_simp
            have XA := hid (X1.out.self ((Below.refl w2.heap.size w2).alloc (Nat.le_refl _) (.cells #[.int .i64 S.kind, .int .i64 (S.fr : Int), .int .i64 (S.len : Int)] 102)))
            refine hK.out _ _ (⟨XA.out.c_kind, XA.out.c_fr⟩) (fun h2x => ?_)
            clear hK K
            try simp only [Act.put, lay_out]
            refine wpAnyH_ready (rs := [4]) (by kernel_rfl) (by simp) (AllReadyH.cons rfl (fun K hK => ?_) AllReadyH.nil)
            have c9 := XA.out.c_bv
            rw [if_pos (by rfl)]
            go_simp
            clear c9
            refine hK.out _ _ (⟨XA.out.c_kind, XA.out.c_fr⟩) (fun h3x => ?_)
            clear hK K
            try simp only [Act.put, lay_out]
            refine wpAnyH_ready (rs := [17]) (by kernel_rfl) (by simp) (AllReadyH.cons rfl (fun K hK => ?_) AllReadyH.nil)
            rw [if_pos (by rfl)]
            refine wp_append_rec (.tmp 26) (.tmp 38) 69 rfl lo.lo 102 3 24 (.agg #[.int .i64 0, .int .i64 0, .int .i64 0]) Tryz.underlying69 infoSp (by rfl) (by decide) bv S.M (fun i => (spCs (updS S.g S.M ⟨S.kind, (S.fr : Int), (S.len : Int)⟩ i)).toList) rfl (XA.out.bls.ext fun i hi => by rw [updS_no _ _ (by omega)]) ⟨w2.heap.size, 0, none⟩ 1 rfl rfl (by intro u hu; simp at hu; rcases hu with rfl | rfl | rfl <;> rfl) ?_ (by have := HBD.out.M; unfold maxLen; omega) (by have := HBD.out.M; omega) (by have := XA.out.lt; have := XA.out.lob; omega) (fun g cap' w9 g1 g2 g3 => ?_)
            · rw [updS_at]; exact World.news_of_block (heap_alloc_new _ _)
            have XG := hid (XA.out.addBl g1 g2 g3)
            have hbl : w9.heap[b]? = _ := g2.block b XA.out.lt (fun e => XA.out.hbb e.symm)
            have f6 := frozen_of_row w9 b 6 _ _ (hbl.trans XA.out.blk)
            have f9 := frozen_of_row w9 b 9 _ _ (hbl.trans XA.out.blk)
            have c6 : w9.cell? ⟨b, 6, none⟩ = some (Value.int .i64 S.kind) := by rw [World.cell?_of_block hbl]; exact XA.out.c_kind
            have K6 := hid c6
            have K4 : Hid (w9.cell? ⟨b, 4, none⟩ = some (Value.int .i64 (S.fr : Int))) := hid (by rw [World.cell?_of_block hbl]; exact XA.out.c_fr)
            have c9 : w9.cell? ⟨b, 9, none⟩ = some bv := by rw [World.cell?_of_block hbl]; exact XA.out.c_bv
            clear g1 g2 g3 hbl
            refine hK.out _ _ (⟨K6.out, K4.out⟩) (fun h4x => ?_)
            clear hK K
            try simp only [Act.put, lay_out]
            refine wpAnyH_take (i := 18) (v := .pointer (some ⟨b, 0, none⟩)) rfl (by kernel_rfl) (by kernel_rfl) (by kernel_rfl) (fun _ _ _ h => h) (.inl ⟨by rfl, fun w hw => by clear hw; go_simp⟩) h4x ?_
            try simp only [Act.put, lay_out]
            refine wpAnyH_take (i := 19) (v := .pointer (some ⟨b, 9, none⟩)) rfl (by kernel_rfl) (by kernel_rfl) (by kernel_rfl) (fun _ _ _ h => h) (.inl ⟨by rfl, fun w hw => by clear hw; go_simp⟩) h4x ?_
            try simp only [Act.put, lay_out]
            refine wpAnyH_ready (rs := [20]) (by kernel_rfl) (by simp) (AllReadyH.cons rfl (fun K hK => ?_) AllReadyH.nil)
            rw [if_pos (by rfl)]
            go_simp
            refine hK.out _ _ (⟨Dm.c_kind (S := { S with M := S.M + 1, g := updS S.g S.M ⟨S.kind, (S.fr : Int), (S.len : Int)⟩ }) XG.out.1, Dm.c_fr (S := { S with M := S.M + 1, g := updS S.g S.M ⟨S.kind, (S.fr : Int), (S.len : Int)⟩ }) XG.out.1⟩) (fun h5x => ?_)
            clear hK K
            try simp only [Act.put, lay_out]
            refine wpAnyH_done (by kernel_rfl) ?_ _
            refine NoPanic.normal ?_
            clear h0 h1x h2x h3x h4x h5x
            try simp only [Act.put, lay_out]
            go_wp2
            have HT0 := ((Tch.of_below (F := Ft b ov bv vv) HB0.out).trans (Tch.of_below (F := Ft b ov bv vv) HBX1.out) (fun _ _ f => f)).trans (Tch.of_below (F := Ft b ov bv vv) ((Below.refl w2.heap.size w2).alloc (Nat.le_refl _) (.cells #[.int .i64 S.kind, .int .i64 (S.fr : Int), .int .i64 (S.len : Int)] 102))) (fun _ _ f => f)
            exact bodyPost_end (results_none rfl _ _ _) rfl ⟨rfl, _, _, _, _, Dm.cellSet (S := { S with M := S.M + 1, g := updS S.g S.M ⟨S.kind, (S.fr : Int), (S.len : Int)⟩ }) XG.out.1 (S' := { S with M := S.M + 1, g := updS S.g S.M ⟨S.kind, (S.fr : Int), (S.len : Int)⟩, kind := 0 }) 6 (.int .i64 0) rfl rfl rfl rfl rfl rfl rfl rfl rfl, (HT0.trans XG.out.2.1 (fun _ _ f => f)).trans (tch_set b 6 _ _) (fun _ _ f => f), fun k hk => (XG.out.2.2 k hk).imp id (fun hk => Nat.le_trans HT0.size hk)⟩
      · have e : S.endS = { S with kind := 0 } := by unfold Ms.endS; rw [if_neg (by omega), if_neg hk, if_neg hl]
        rw [e]
        have q2 : decide ((S.fr : Int) < (S.len : Int)) = false := decide_eq_false (by omega)
        have c4 := h.c_fr
        have XN := hid (fun n => h.drewN n)
        have hl' : ¬ S.fr < S.len := hl
        clear h e hk hb
        go_enter Tryz.func63, Tryz.ntmps63
        go_wp2_with fail
        go_quiet ((go_at_call 54; exact Calls.quiet_of (HQ.out _)))
        go_wp2
        exact bodyPost_end (results_none rfl _ _ _) rfl ⟨rfl, _, _, _, _, (XN.out nq).cellSet (S' := { S with kind := 0 }) 6 (.int .i64 0) rfl rfl rfl rfl rfl rfl rfl rfl rfl, (Tch.of_below (F := Ft b ov bv vv) (below_drewN w nq)).trans (tch_set b 6 _ _) (fun _ _ f => f), fun k hk => .inl hk⟩
  · have e : S.endS = S := by unfold Ms.endS; rw [if_pos he]
    rw [e]
    have q1 : ((S.e : Int) != 0) = true := by simp; omega
    clear h e he
    go_enter Tryz.func63, Tryz.ntmps63
    go_wp2
    exact bodyPost_ret (results_none rfl _ _ _) rfl ⟨rfl, _, _, _, _, HD.out, Tch.refl _ _, fun k hk => .inl hk⟩
end Go.Proofs.YtpjgpiieminaoaaGreatDoor

/- Wire: the document's machine: a mask is drawn. -/
namespace Go.Proofs.YtpjgpiieminaoaaGreatDoor
open Go.RowKit
set_option maxRecDepth 100000
theorem wdL_cons (v : Nat → Nat) (n : Nat) : wdL v (n + 1) = (v 0 : Int) :: wdL (fun i => v (i + 1)) n := by
  unfold wdL; rw [List.range_succ_eq_map, List.map_cons, List.map_map]; rfl
/-- What is left of a slice without its first. -/
theorem rds_tail {k : IntKind} {w : World} {F : Nat → Prop} {g off cap : Nat} {z : Int} {zs : List Int} (h : RdS k w F (.slice (some ⟨g, off, none⟩) (zs.length + 1) cap) (z :: zs)) (b : Option Addr) (hb : 0 < zs.length → b = some ⟨g, off + 1, none⟩) :
    RdS k w F (.slice b zs.length (cap - 1)) zs := by
  obtain ⟨a, c, h1, h2, h3, h4, h5, h7⟩ := h
  injection h1 with e1 e2 e3
  subst e3
  simp only [List.length_cons] at h2 h4
  refine ⟨b, cap - 1, rfl, by omega, by omega, by rw [Nat.add_mul] at h4; omega, fun x hx => h5 x (List.mem_cons_of_mem _ hx), fun hp => ?_⟩
  obtain ⟨g', off', e, hS, hlt, hc⟩ := h7 (by simp)
  rw [← e1] at e
  injection e with e
  injection e with e4 e5 e6
  subst e4; subst e5
  refine ⟨g, off + 1, hb hp, hS, hlt, fun j hj => ?_⟩
  have := hc (j + 1) (by simp; omega)
  rw [show off + 1 + j = off + (j + 1) by omega, this]
  rfl
section
variable {lo : LoG} {b : Nat} {w : World} {S : Ms} {ov bv vv tv : Value}
theorem Dm.drawn (h : Dm lo w b S ov bv vv tv) {v' : Value} {f' u' : Int} (hr : RdS .u64 w (fun g => g ≠ b ∧ ov.ownBlock ≠ some g ∧ bv.ownBlock ≠ some g ∧ vv.ownBlock ≠ some g ∧ lo.G g) v' (wdL (fun i => S.tw (S.used + 1 + i)) (S.TN - (S.used + 1)))) (hf : f' = ((S.free - 1 : Nat) : Int)) (hu : u' = ((S.used + 1 : Nat) : Int)) :
    Dm lo (((w.setCell ⟨b, 11, none⟩ v').setCell ⟨b, 13, none⟩ (.int .i64 f')).setCell ⟨b, 12, none⟩ (.int .i64 u')) b { S with used := S.used + 1, free := S.free - 1 } ov bv vv v' ∧ Tch (Ft b ov bv vv) w (((w.setCell ⟨b, 11, none⟩ v').setCell ⟨b, 13, none⟩ (.int .i64 f')).setCell ⟨b, 12, none⟩ (.int .i64 u')) := by
  subst hf; subst hu
  have ho : ∀ k, k ≠ b → (((w.setCell ⟨b, 11, none⟩ v').setCell ⟨b, 13, none⟩ (.int .i64 ((S.free - 1 : Nat) : Int))).setCell ⟨b, 12, none⟩ (.int .i64 ((S.used + 1 : Nat) : Int))).heap[k]? = w.heap[k]? := fun k hk => by
    rw [heap_setCell_other _ ⟨b, 12, none⟩ k _ hk, heap_setCell_other _ ⟨b, 13, none⟩ k _ hk, heap_setCell_other _ ⟨b, 11, none⟩ k _ hk]
  refine ⟨⟨?_, h.lob, ?_, ?_, ?_, h.hob, h.hbb, h.hvb, h.hobv, h.hov, h.hbv, ?_⟩, ?_⟩
  · rw [heap_setCell_same _ b 12 _ 73 _ (heap_setCell_same _ b 13 _ 73 _ (heap_setCell_same w b 11 _ 73 v' h.blk))]; rfl
  · exact h.ops.stays fun k hk => ho k (fun e => h.hob (by subst e; exact hk))
  · exact h.bls.stays fun k hk => ho k (fun e => h.hbb (by subst e; exact hk))
  · exact h.val.stays fun k hk => ho k (fun e => h.hvb (by subst e; exact hk))
  · exact rds_stays hr (by simp [World.setCell]) fun g hg _ => ho g hg.1
  · exact ((tch_set b 11 _ _).trans (tch_set b 13 _ _) (fun _ _ f => f)).trans (tch_set b 12 _ _) (fun _ _ f => f)
end
theorem ddraw_no (lo : LoG) (b : Nat) (S : Ms) (ov bv vv tv : Value) (w : World) (h : Dm lo w b S ov bv vv tv) (hn : S.free < 1 ∨ S.TN ≤ S.used) :
    Calls Tryz.prog 56 #[.pointer (some ⟨b, 11, none⟩)] w fun r w' => r = .returned (.tuple #[.int .u64 0, .bool false]) ∧ w' = w := by
  have c11 := h.c_tv
  have c12 := h.c_used
  have c13 := h.c_free
  obtain ⟨a, cap, rfl, _⟩ := h.tap
  rw [wdL_len] at c11
  clear h
  by_cases hf : S.free < 1
  · have q1 : decide ((S.free : Int) < 1) = true := decide_eq_true (by omega)
    clear hf hn
    generalize S.free = f at *
    generalize S.TN - S.used = n at *
    go_enter Tryz.func56, Tryz.ntmps56
    go_wp2
    go_ret2
    exact ⟨rfl, rfl⟩
  · have q1 : decide ((S.free : Int) < 1) = false := decide_eq_false (by omega)
    have q2 : S.TN - S.used = 0 := by omega
    rw [q2] at c11
    clear hf hn q2
    generalize S.free = f at *
    go_enter Tryz.func56, Tryz.ntmps56
    go_wp2
    go_ret2
    exact ⟨rfl, rfl⟩
set_option maxHeartbeats 800000 in
theorem ddraw_yes (lo : LoG) (b : Nat) (S : Ms) (ov bv vv tv : Value) (w : World) (h : Dm lo w b S ov bv vv tv) (hb : Bd S) (hf : ¬ S.free < 1) (hu : ¬ S.TN ≤ S.used) :
    Calls Tryz.prog 56 #[.pointer (some ⟨b, 11, none⟩)] w fun r w' => r = .returned (.tuple #[.int .u64 (S.tw S.used : Nat), .bool true]) ∧ ∃ tv', Dm lo w' b { S with used := S.used + 1, free := S.free - 1 } ov bv vv tv' ∧ Tch (Ft b ov bv vv) w w' := by
  have c11 := h.c_tv
  have c12 := h.c_used
  have c13 := h.c_free
  have f11 := h.fz 11
  have f12 := h.fz 12
  have f13 := h.fz 13
  have b1 := hb.used
  have b2 := hb.free
  have b3 := hb.TN
  have HR := h.tap
  have e0 : S.TN - S.used = (S.TN - (S.used + 1)) + 1 := by omega
  rw [e0, wdL_cons] at HR
  have e1 : (fun i => (fun i => S.tw (S.used + i)) (i + 1)) = fun i => S.tw (S.used + 1 + i) := funext fun i => congrArg S.tw (by omega)
  rw [e1] at HR
  have HD := hid (fun v' f' u' => h.drawn (v' := v') (f' := f') (u' := u'))
  clear h hb e0 e1
  have HRR := hid HR
  obtain ⟨a, cap, rfl, hcap1, hcap2, _, _, hr0⟩ := HR
  obtain ⟨g, off, rfl, hg0, hg, hrc⟩ := hr0 (by simp)
  have hrd : w.cell? ⟨g, off, none⟩ = some (.int .u64 (S.tw S.used : Nat)) := by simpa [nth] using hrc 0 (by simp)
  simp only [List.length_cons, wdL_len] at hcap1 c11 HRR
  unfold maxLen at hcap2
  clear hrc hr0
  have q1 : decide ((S.free : Int) < 1) = false := decide_eq_false (by omega)
  have e0 : (((S.TN - (S.used + 1) : Nat) : Int) + 1 == 0) = false := by simp; omega
  have en : (wdL (fun i => S.tw (S.used + 1 + i)) (S.TN - (S.used + 1))).length = S.TN - (S.used + 1) := wdL_len _ _
  have HF := hid (show ((S.free : Int) - 1 = ((S.free - 1 : Nat) : Int)) by omega)
  have HU := hid (show ((S.used : Int) + 1 = ((S.used + 1 : Nat) : Int)) by omega)
  by_cases hc : cap = 1
  · have HT := hid (fun b => rds_tail (zs := wdL (fun i => S.tw (S.used + 1 + i)) (S.TN - (S.used + 1))) (by rw [en]; exact HRR.out) b (by omega))
    rw [en] at HT
    subst hc
    have hz0 : S.TN - (S.used + 1) = 0 := by omega
    have HZ := hid hz0
    simp only [hz0] at c11 HRR
    clear e0 en
    go_enter Tryz.func56, Tryz.ntmps56
    go_wp2
    go_ret2
    exact ⟨rfl, _, HD.out _ _ _ (by have h1 := HT.out (some ⟨g, off, none⟩); have hz := HZ.out; rw [hz] at h1 ⊢; exact h1) HF.out HU.out⟩
  · have HT := hid (rds_tail (zs := wdL (fun i => S.tw (S.used + 1 + i)) (S.TN - (S.used + 1))) (by rw [en]; exact HRR.out) (some ⟨g, off + 1, none⟩) (fun _ => rfl))
    rw [en] at HT
    clear en
    go_enter Tryz.func56, Tryz.ntmps56
    go_wp2
    go_ret2
    exact ⟨rfl, _, HD.out _ _ _ HT.out HF.out HU.out⟩
end Go.Proofs.YtpjgpiieminaoaaGreatDoor

/- Op: what an op makes, by the document. -/
namespace Go.Proofs.YtpjgpiieminaoaaGreatDoor
open Go.RowKit

theorem rotl_rtw {x m : Nat} (hx : x < 2 ^ 64) : rotl (x : Int) m = (rt x m : Nat) := by
  unfold rotl rt
  have d : ((x : Int) / 2 ^ (64 - m)) = ((x / 2 ^ (64 - m) : Nat) : Int) := by simp
  have e : IntKind.u64.wrap ((x : Int) * 2 ^ m) = ((x * 2 ^ m % 2 ^ 64 : Nat) : Int) := by rw [IntKind.wrap_u64]; simp
  rw [e, d, bits_or_u64_nat _ _ (Nat.mod_lt _ (by decide)) (by have := Nat.div_le_self x (2 ^ (64 - m)); omega)]
theorem orot_n {x m : Nat} {k : Int} (hx : x < 2 ^ 64) (hk : k % 64 = m) (w : World) :
    Calls Tryz.prog 103 #[.int .u64 (x : Int), .int .i64 k] w fun e w' => e = .returned (.int .u64 (rt x m : Nat)) ∧ w' = w := by
  have h := orot_any (x : Int) k w (by omega)
  rw [show (k % 64).toNat = m by omega, rotl_rtw hx] at h
  exact h
theorem refrot_n {x m : Nat} {k : Int} (hx : x < 2 ^ 64) (hk : k % 64 = m) (w : World) :
    Calls Tryz.prog 74 #[.int .u64 (x : Int), .int .i64 k] w fun e w' => e = .returned (.int .u64 (rt x m : Nat)) ∧ w' = w := by
  have h := refrot_any (x : Int) k w (by omega)
  rw [show (k % 64).toNat = m by omega, ← rot_math _ (by omega) m (by omega), rotl_rtw hx] at h
  exact h
theorem rlow_n : ∀ n : Nat, n ≤ 64 → rlow n = ((2 ^ n - 1 : Nat) : Int) := by decide +kernel
theorem reflow_n (n : Nat) (w : World) (hn : n ≤ 64) :
    Calls Tryz.prog 40 #[.int .i64 (n : Int)] w fun e w' => e = .returned (.int .u64 ((2 ^ n - 1 : Nat) : Int)) ∧ w' = w := by
  have h := reflow_any (n : Int) w
  rw [show (min (max (n : Int) 0) 64).toNat = n by omega, rlow_n n hn] at h
  exact h
/-- An op, as it comes in. -/
abbrev opV (K D A B E : Int) (C : Nat) : Value := .agg #[.int .i64 K, .int .i64 D, .int .i64 A, .int .i64 B, .int .i64 E, .int .u64 (C : Int)]
set_option maxRecDepth 100000 in
set_option maxHeartbeats 1600000 in
theorem refev_any (K D A B E : Int) (C a b d x : Nat) (w : World) (hC : C < 2 ^ 64) (ha : a < 2 ^ 64) (hb : b < 2 ^ 64) (hd : d < 2 ^ 64) (hx : x < 2 ^ 64) :
    Calls Tryz.prog 57 #[opV K D A B E C, .int .u64 (a : Int), .int .u64 (b : Int), .int .u64 (d : Int), .int .u64 (x : Int)] w fun e w' => e = .returned (.int .u64 (evN K C a b d x : Nat)) ∧ Below w.heap.size w w' := by
  have HB : Hid (Below w.heap.size w (w.alloc (.cells #[.int .i64 K, .int .i64 D, .int .i64 A, .int .i64 B, .int .i64 E, .int .u64 (C : Int)] 66))) := hid ((Below.refl _ _).alloc (Nat.le_refl _) _)
  obtain ⟨k, hk⟩ : ∃ k, C % 64 = k := ⟨_, rfl⟩
  have hk64 : k < 64 := by omega
  have m1 : (C : Int).tmod 64 = (k : Int) := by rw [← hk]; rfl
  have m2 : IntKind.i64.wrap (k : Int) = (k : Int) := by rw [IntKind.wrap_i64]; omega
  obtain ⟨r, hr⟩ : ∃ r, 64 - k = r := ⟨_, rfl⟩
  have m3 : (64 : Int) - (k : Int) = (r : Int) := by omega
  have m4 : IntKind.i64.wrap (r : Int) = (r : Int) := by rw [IntKind.wrap_i64]; omega
  have HLo := hid (fun w => reflow_n r w (by omega))
  have HR9 := hid (fun w => refrot_n (x := a &&& (2 ^ r - 1)) (m := k) (k := (k : Int)) (an_lt ha) (by omega) w)
  have HR10 := hid (fun w => refrot_n (x := a) (m := r % 64) (k := (r : Int)) ha (by omega) w)
  have HR11 := hid (fun w => refrot_n (x := a) (m := k) (k := (k : Int)) ha (by omega) w)
  have e9 : rt (a &&& (2 ^ r - 1)) k = wsl a k := by subst hr; exact wsl_doc ha hk64
  have e10 : rt a (r % 64) &&& (2 ^ r - 1) = wsr a k := by subst hr; exact wsr_doc ha hk64 rfl
  have lr : 2 ^ r - 1 < 2 ^ 64 := low_lt (by omega)
  have x1 := wx64 hx ha
  have x2 := wx64 (xr_lt hx ha) hb
  have x3 := wx64 ha hb
  have x4 := wx64 (xr_lt ha hb) hd
  have a1 := wn64 ha hb
  have a2 := wn64 ha hC
  have a3 := wn64 ha lr
  have a4 := wn64 (rt_lt (m := r % 64) ha) lr
  rw [e9] at HR9
  rw [e10] at a4
  have n1 : (18446744073709551615 : Int) - (a : Int) = (wnt a : Nat) := by unfold wnt; omega
  have n2 : IntKind.u64.wrap (wnt a : Nat) = (wnt a : Nat) := by rw [IntKind.wrap_u64]; have := wnt_lt a; omega
  unfold evN
  rw [hk]
  clear hC ha hb hd hx hk hr e9 e10 lr
  generalize 2 ^ r - 1 = L at *
  generalize a &&& L = aL at *
  generalize wnt a = na at *
  generalize x ^^^ a = xa at *
  generalize xa ^^^ b = xab at *
  generalize a ^^^ b = ab at *
  generalize ab ^^^ d = abd at *
  generalize a &&& b = anb at *
  generalize a &&& C = anc at *
  generalize rt a (r % 64) = ra at *
  generalize rt a k = ral at *
  generalize wsl a k = asl at *
  generalize wsr a k = asr at *
  rcases kinds12 K with rfl | rfl | rfl | rfl | rfl | rfl | rfl | rfl | rfl | rfl | rfl | rfl | h
  rotate_right
  · rw [if_neg (by omega), if_neg (by omega), if_neg (by omega), if_neg (by omega), if_neg (by omega), if_neg (by omega), if_neg (by omega), if_neg (by omega), if_neg (by omega), if_neg (by omega), if_neg (by omega), if_neg (by omega)]
    have q1 : ¬ K = 1 := by omega
    have q2 : ¬ K = 2 := by omega
    have q3 : ¬ K = 3 := by omega
    have q4 : ¬ K = 4 := by omega
    have q5 : ¬ K = 5 := by omega
    have q6 : ¬ K = 6 := by omega
    have q7 : ¬ K = 7 := by omega
    have q8 : ¬ K = 8 := by omega
    have q9 : ¬ K = 9 := by omega
    have q10 : ¬ K = 10 := by omega
    have q11 : ¬ K = 11 := by omega
    have q12 : ¬ K = 12 := by omega
    clear h
    go_enter Tryz.func57, Tryz.ntmps57
    go_wp2
    go_ret
    exact ⟨rfl, HB.out⟩
  all_goals
    simp only [reduceIte, Int.reduceEq]
    go_enter Tryz.func57, Tryz.ntmps57
    go_wp2_with (first
      | (go_at_call 40; (with_reducible refine (HLo.out _).mono ?_); rintro e w1 ⟨rfl, rfl⟩)
      | (go_at_call 74; (with_reducible refine (HR9.out _).mono ?_); rintro e w1 ⟨rfl, rfl⟩)
      | (go_at_call 74; (with_reducible refine (HR10.out _).mono ?_); rintro e w1 ⟨rfl, rfl⟩)
      | (go_at_call 74; (with_reducible refine (HR11.out _).mono ?_); rintro e w1 ⟨rfl, rfl⟩))
    go_ret
    exact ⟨rfl, HB.out⟩
end Go.Proofs.YtpjgpiieminaoaaGreatDoor

/- General: whole stores and results of any row of cells (arrays, structs). No program is named. -/
namespace Go.Proofs.YtpjgpiieminaoaaGreatDoor
open Go.RowKit
theorem step_store_row {P : Program} {w : World} {ops : Array Oper} {rest : List Oper} {o : Oper} {a : Act} {Q : Exit → Act → World → Prop} (hgd : o.guard = none) (ty : TypeId) (x y : Operand) (ho : o.op = .store ty x y)
    (b : Nat) (t : TypeId) (cs cs' : Array Value) (hx : a.eval x = .pointer (some ⟨b, 0, none⟩)) (hy : a.eval y = .agg cs') (hA : w.heap[b]? = some (.cells cs t (0, 0))) (hi : (P.info? ty).map (·.size) = some cs'.size) (hs : cs.size = cs'.size) (h1 : cs'.all (·.oneCell') = true)
    (k : wpList P ops Q rest (a.put o.dst undef) (w.setRow b cs')) : wpList P ops Q (o :: rest) a w :=
  wpList_plain hgd fun _ hK => wp_store_row ty x y ho b _ hx hy t _ hA hi hs h1 (hK _ _ k)
theorem ret_row_tmp {P : Program} {fn : Func} {p u : Tmp} {ty : TypeId} {R : Ending → World → Prop} {a : Act} {w : World} {b : Nat} {t : TypeId} {cs : Array Value} {d : TypeDesc} (h : fn.results = #[.cell p ty, .tmp u])
    (hp : a.tmps.getD p undef = .pointer (some ⟨b, 0, none⟩)) (hA : w.heap[b]? = some (.cells cs t (0, 0))) (hu : P.underlying ty = some d) (hag : (match d with | .struct _ | .array _ _ => true | _ => false) = true) (hi : (P.info? ty).map (·.size) = some cs.size) (hd : a.defers = [])
    (k : R (.returned (.tuple #[.agg cs, a.tmps.getD u undef])) w) : bodyPost P fn R .ret a w := by
  refine bodyPost_ret ?_ hd k
  rw [results_cell_tmp h, hp]
  simp only [asAddr, Sem.run_pure, Result.andThen_ok, run_loadVar_row w b t ty cs (0, 0) d hA hu hag hi]
theorem yields_load_row {P : Program} {ops : Array Oper} {S : World → Prop} {o : Oper} {a : Act} (hw : Region.wanted o (yielded ops a.tmps) = true) (ty : TypeId) (x : Operand) (ho : o.op = .load ty x) (b : Nat) (t : TypeId) (cs : Array Value) (d : TypeDesc)
    (hx : a.eval x = .pointer (some ⟨b, 0, none⟩)) (hS : ∀ w, S w → w.heap[b]? = some (.cells cs t (0, 0))) (hu : P.underlying ty = some d) (hag : (match d with | .struct _ | .array _ _ => true | _ => false) = true) (hi : (P.info? ty).map (·.size) = some cs.size) : YieldsIf P ops S o (.agg cs) a :=
  .inl ⟨hw, fun w h => by
    unfold execOp
    simp only [ho, hx, Instr.loadAt, Instr.sureAddr, Sem.run_bind, Sem.run_pure, Result.andThen_ok, run_loadVar_row w b t ty cs (0, 0) d (hS w h) hu hag hi]⟩
end Go.Proofs.YtpjgpiieminaoaaGreatDoor
