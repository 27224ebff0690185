import Derived.Test.YtffoinnllihdeaaProg
import Derived.Test.YtffoinnllihdeaaOrw
import Derived.Test.YtffoinnllihdeaaWst
import Derived.Test.YtffoinnllihdeaaTra
/- Wire: the document's machine. -/
namespace Go.Proofs.Ytffoinnllihdeaa
open Go.RowKit
set_option maxRecDepth 100000
abbrev opCs (o : Op6) : Array Value := #[.int .i64 o.K, .int .i64 o.D, .int .i64 o.A, .int .i64 o.B, .int .i64 o.E, .int .u64 (o.C : Int)]
abbrev spCs (s : Sp3) : Array Value := #[.int .i64 s.K, .int .i64 s.F, .int .i64 s.T]
/-- Numbers of words. -/
def wdL (v : Nat → Nat) (L : Nat) : List Int := (List.range L).map (fun i => (v i : Int))
theorem wdL_len (v : Nat → Nat) (L : Nat) : (wdL v L).length = L := by simp [wdL]
theorem wdL_nth (v : Nat → Nat) {L i : Nat} (h : i < L) : nth (wdL v L) i = (v i : Int) := by simp [wdL, nth, List.getD, h]
/-- The machine's cells. -/
def dmC (S : Ms) (ov bv vv tv : Value) : Array Value :=
  #[.int .i64 S.n, .int .i64 S.most, .int .i64 (S.words : Int), .int .i64 (S.draws : Int), .int .i64 (S.fr : Int), .int .i64 (S.skip : Int), .int .i64 S.kind, .int .i64 (S.e : Int), ov, bv, vv, tv, .int .i64 (S.used : Int), .int .i64 (S.free : Int), .bool S.dry]
/-- What is in bounds. -/
structure Bd (S : Ms) : Prop where
  L : S.L ≤ 100000
  skip : S.skip ≤ 100000
  M : S.M ≤ 100000
  words : S.words ≤ 1000000
  draws : S.draws ≤ 1000000
  used : S.used ≤ 20000000000000
  free : S.free ≤ 20000000000000
  TN : S.TN ≤ 20000000000000
  v : ∀ i, i < S.L → S.v i < 2 ^ 64
  tw : ∀ i, i < S.TN → S.tw i < 2 ^ 64
/-- From where on an object's blocks lie; where what it only reads lies. -/
structure LoG where
  lo : Nat
  G : Nat → Prop
/-- The document's machine lies in block b. -/
structure Dm2 (lo : LoG) (w : World) (b : Nat) (S : Ms) (LV : Nat) (ov bv vv tv : Value) : Prop where
  blk : w.heap[b]? = some (.cells (dmC S ov bv vv tv) 40 (0, 0))
  lob : lo.lo ≤ b
  ops : Orw w lo.lo 43 6 ov S.L (fun i => (opCs (S.f i)).toList)
  bls : Orw w lo.lo 70 3 bv S.M (fun i => (spCs (S.g i)).toList)
  val : Orw w lo.lo 41 1 vv LV (fun i => [.int .u64 (S.v i : Int)])
  hob : ov.ownBlock ≠ some b
  hbb : bv.ownBlock ≠ some b
  hvb : vv.ownBlock ≠ some b
  hobv : ∀ k, ov.ownBlock = some k → bv.ownBlock ≠ some k
  hov : ∀ k, ov.ownBlock = some k → vv.ownBlock ≠ some k
  hbv : ∀ k, bv.ownBlock = some k → vv.ownBlock ≠ some k
  tap : RdS .u64 w (fun g => g ≠ b ∧ ov.ownBlock ≠ some g ∧ bv.ownBlock ≠ some g ∧ vv.ownBlock ≠ some g ∧ lo.G g) tv (wdL (fun i => S.tw (S.used + i)) (S.TN - S.used))
abbrev Dm (lo : LoG) (w : World) (b : Nat) (S : Ms) (ov bv vv tv : Value) : Prop := Dm2 lo w b S S.L ov bv vv tv
/-- What it owns. -/
def Ft (b : Nat) (ov bv vv : Value) (k : Nat) : Prop := k = b ∨ ov.ownBlock = some k ∨ bv.ownBlock = some k ∨ vv.ownBlock = some k
section
variable {lo : LoG} {b : Nat} {w w' : World} {S : Ms} {ov bv vv tv : Value}
theorem Dm.lt (h : Dm lo w b S ov bv vv tv) : b < w.heap.size := (Array.getElem?_eq_some_iff.1 h.blk).1
theorem rds_self {k : IntKind} {F : Nat → Prop} {v : Value} {zs : List Int} (h : RdS k w F v zs) (hb : Below w.heap.size w w') : RdS k w' F v zs := by
  obtain ⟨a, cap, e, h1, h2, h3, h4, h5⟩ := h
  refine ⟨a, cap, e, h1, h2, h3, h4, fun h0 => ?_⟩
  obtain ⟨g, off, ea, hF, hg, hc⟩ := h5 h0
  exact ⟨g, off, ea, hF, Nat.lt_of_lt_of_le hg hb.size, fun j hj => by rw [World.cell?_of_block (hb.block g hg)]; exact hc j hj⟩
theorem Dm.self (h : Dm lo w b S ov bv vv tv) (hb : Below w.heap.size w w') : Dm lo w' b S ov bv vv tv :=
  ⟨(hb.block b h.lt).trans h.blk, h.lob, h.ops.stays fun k hk => hb.block k (h.ops.lt k hk).2, h.bls.stays fun k hk => hb.block k (h.bls.lt k hk).2,
   h.val.stays fun k hk => hb.block k (h.val.lt k hk).2, h.hob, h.hbb, h.hvb, h.hobv, h.hov, h.hbv, rds_self h.tap hb⟩
theorem Dm.drew (h : Dm lo w b S ov bv vv tv) : Dm lo w.drew b S ov bv vv tv := h.self ((Below.refl _ w).drew)
/-- The cells of a machine, one by one. -/
theorem Dm.c (h : Dm lo w b S ov bv vv tv) (i : Nat) {u : Value} (hu : (dmC S ov bv vv tv)[i]? = some u) : w.cell? ⟨b, i, none⟩ = some u := by
  rw [cell_of_row w b i _ _ _ h.blk]; exact hu
theorem Dm.c_n (h : Dm lo w b S ov bv vv tv) : w.cell? ⟨b, 0, none⟩ = some (Value.int .i64 S.n) := h.c 0 rfl
theorem Dm.c_most (h : Dm lo w b S ov bv vv tv) : w.cell? ⟨b, 1, none⟩ = some (Value.int .i64 S.most) := h.c 1 rfl
theorem Dm.c_words (h : Dm lo w b S ov bv vv tv) : w.cell? ⟨b, 2, none⟩ = some (Value.int .i64 (S.words : Int)) := h.c 2 rfl
theorem Dm.c_draws (h : Dm lo w b S ov bv vv tv) : w.cell? ⟨b, 3, none⟩ = some (Value.int .i64 (S.draws : Int)) := h.c 3 rfl
theorem Dm.c_fr (h : Dm lo w b S ov bv vv tv) : w.cell? ⟨b, 4, none⟩ = some (Value.int .i64 (S.fr : Int)) := h.c 4 rfl
theorem Dm.c_skip (h : Dm lo w b S ov bv vv tv) : w.cell? ⟨b, 5, none⟩ = some (Value.int .i64 (S.skip : Int)) := h.c 5 rfl
theorem Dm.c_kind (h : Dm lo w b S ov bv vv tv) : w.cell? ⟨b, 6, none⟩ = some (Value.int .i64 S.kind) := h.c 6 rfl
theorem Dm.c_e (h : Dm lo w b S ov bv vv tv) : w.cell? ⟨b, 7, none⟩ = some (Value.int .i64 (S.e : Int)) := h.c 7 rfl
theorem Dm.c_ov (h : Dm lo w b S ov bv vv tv) : w.cell? ⟨b, 8, none⟩ = some (ov) := h.c 8 rfl
theorem Dm.c_bv (h : Dm lo w b S ov bv vv tv) : w.cell? ⟨b, 9, none⟩ = some (bv) := h.c 9 rfl
theorem Dm.c_vv (h : Dm lo w b S ov bv vv tv) : w.cell? ⟨b, 10, none⟩ = some (vv) := h.c 10 rfl
theorem Dm.c_tv (h : Dm lo w b S ov bv vv tv) : w.cell? ⟨b, 11, none⟩ = some (tv) := h.c 11 rfl
theorem Dm.c_used (h : Dm lo w b S ov bv vv tv) : w.cell? ⟨b, 12, none⟩ = some (Value.int .i64 (S.used : Int)) := h.c 12 rfl
theorem Dm.c_free (h : Dm lo w b S ov bv vv tv) : w.cell? ⟨b, 13, none⟩ = some (Value.int .i64 (S.free : Int)) := h.c 13 rfl
theorem Dm.c_dry (h : Dm lo w b S ov bv vv tv) : w.cell? ⟨b, 14, none⟩ = some (Value.bool S.dry) := h.c 14 rfl
theorem Dm.fz (h : Dm lo w b S ov bv vv tv) (i : Nat) : w.frozen? ⟨b, i, none⟩ = false := frozen_of_row w b i _ _ h.blk
theorem Dm.opsv (h : Dm lo w b S ov bv vv tv) : ∃ a cap, ov = .slice a S.L cap := by
  obtain ⟨a, cap, e, _⟩ := h.ops.slice
  exact ⟨a, cap, e⟩
theorem Dm.vals (h : Dm lo w b S ov bv vv tv) : ∃ a cap, vv = .slice a S.L cap ∧ (0 < S.L → ∃ g, a = some ⟨g, 0, none⟩ ∧ ∀ i, i < S.L → w.cell? ⟨g, i, none⟩ = some (.int .u64 (S.v i : Int))) := by
  obtain ⟨a, cap, rfl, _, _, _, hp⟩ := h.val.slice
  refine ⟨a, cap, rfl, fun h0 => ?_⟩
  obtain ⟨g, rfl⟩ := hp h0
  refine ⟨g, rfl, fun i hi => ?_⟩
  have := Orw.cell h.val (fun _ => rfl) hi (by decide : 0 < 1) (u := .int .u64 (S.v i : Int)) rfl
  simpa using this
end
theorem dlen_any (lo : LoG) (b : Nat) (S : Ms) (ov bv vv tv : Value) (w : World) (h : Dm lo w b S ov bv vv tv) (hb : Bd S) :
    Calls Try.prog 12 #[.pointer (some ⟨b, 0, none⟩)] w fun e w' => e = .returned (.int .i64 (S.len : Nat)) ∧ Below w.heap.size w w' := by
  obtain ⟨a, cap, rfl⟩ := h.opsv
  have c5 := h.drew.c_skip
  have c8 := h.drew.c_ov
  have l1 := hb.L
  have l2 := hb.skip
  have hw : IntKind.i64.wrap ((S.skip : Int) + (S.L : Int)) = ((S.len : Nat) : Int) := by unfold Ms.len; rw [IntKind.wrap_i64]; omega
  clear h hb l1 l2
  generalize S.len = n at *
  go_enter Try.func12, Try.ntmps12
  go_wp2_with fail
  go_region
  go_wp2
  go_ret
  exact ⟨rfl, (Below.refl _ _).drew⟩
theorem dat_any (lo : LoG) (b : Nat) (S : Ms) (ov bv vv tv : Value) (r : Int) (w : World) (h : Dm lo w b S ov bv vv tv) (l1 : S.L ≤ 100000) :
    Calls Try.prog 51 #[.pointer (some ⟨b, 0, none⟩), .int .i64 r] w fun e w' => e = .returned (.int .u64 (wordAt S.v S.L r : Nat)) ∧ w' = w := by
  obtain ⟨a, cap, rfl, hc⟩ := h.vals
  have c10 := h.c_vv
  clear h
  by_cases h0 : r < 0
  · have e : wordAt S.v S.L r = 0 := if_neg (by omega)
    rw [e]
    have q1 : decide (r < 0) = true := decide_eq_true h0
    clear hc h0
    go_enter Try.func51, Try.ntmps51
    go_wp2
    go_ret
    exact ⟨rfl, rfl⟩
  · have q1 : decide (r < 0) = false := decide_eq_false h0
    by_cases h1 : r < (S.L : Int)
    · obtain ⟨k, rfl⟩ := Int.eq_ofNat_of_zero_le (by omega : 0 ≤ r)
      have e : wordAt S.v S.L (k : Int) = S.v k := by unfold wordAt; rw [if_pos ⟨by omega, h1⟩]; simp
      rw [e]
      obtain ⟨g, rfl, hcc⟩ := hc (by omega)
      have hk := hcc k (by omega)
      have j1 : (0 : Int) ≤ (k : Int) := by omega
      have q2 : decide ((S.L : Int) ≤ (k : Int)) = false := decide_eq_false (by omega)
      clear hc hcc e
      generalize S.v k = z at *
      go_enter Try.func51, Try.ntmps51
      go_wp2
      go_ret
      exact ⟨rfl, rfl⟩
    · have e : wordAt S.v S.L r = 0 := if_neg (by omega)
      rw [e]
      have q2 : decide ((S.L : Int) ≤ r) = true := decide_eq_true (by omega)
      clear hc
      go_enter Try.func51, Try.ntmps51
      go_wp2
      go_ret
      exact ⟨rfl, rfl⟩
end Go.Proofs.Ytffoinnllihdeaa
