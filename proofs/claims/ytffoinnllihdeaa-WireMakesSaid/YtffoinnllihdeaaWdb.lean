import Derived.Test.YtffoinnllihdeaaProg
import Derived.Test.YtffoinnllihdeaaWda
/- Wire: the document's machine: errors that stay, blocks that begin. -/
namespace Go.Proofs.Ytffoinnllihdeaa
open Go.RowKit
set_option maxRecDepth 100000
section
variable {lo : LoG} {b : Nat} {w w' : World} {S S' : Ms} {ov bv vv tv : Value}
theorem rds_stays {k : IntKind} {F : Nat → Prop} {v : Value} {zs : List Int} (h : RdS k w F v zs) (hs : w.heap.size ≤ w'.heap.size) (hF : ∀ g, F g → g < w.heap.size → w'.heap[g]? = w.heap[g]?) : RdS k w' F v zs := by
  obtain ⟨a, cap, e, h1, h2, h3, h4, h5⟩ := h
  refine ⟨a, cap, e, h1, h2, h3, h4, fun h0 => ?_⟩
  obtain ⟨g, off, ea, hf, hg, hc⟩ := h5 h0
  exact ⟨g, off, ea, hf, Nat.lt_of_lt_of_le hg hs, fun j hj => by rw [World.cell?_of_block (hF g hf hg)]; exact hc j hj⟩
/-- The machine's own block alone is turned. -/
theorem Dm.turn (h : Dm lo w b S ov bv vv tv) (hblk : w'.heap[b]? = some (.cells (dmC S' ov bv vv tv) 40 (0, 0))) (hs : w.heap.size ≤ w'.heap.size) (ho : ∀ k, k ≠ b → k < w.heap.size → w'.heap[k]? = w.heap[k]?)
    (hL : S'.L = S.L) (hf : S'.f = S.f) (hM : S'.M = S.M) (hg : S'.g = S.g) (hv : S'.v = S.v) (htw : S'.tw = S.tw) (hu : S'.used = S.used) (hTN : S'.TN = S.TN) : Dm lo w' b S' ov bv vv tv := by
  refine ⟨hblk, h.lob, ?_, ?_, ?_, h.hob, h.hbb, h.hvb, h.hobv, h.hov, h.hbv, ?_⟩
  · rw [hL, hf]; exact h.ops.stays fun k hk => ho k (fun e => h.hob (e ▸ hk)) (h.ops.lt k hk).2
  · rw [hM, hg]; exact h.bls.stays fun k hk => ho k (fun e => h.hbb (e ▸ hk)) (h.bls.lt k hk).2
  · rw [hL, hv]; exact h.val.stays fun k hk => ho k (fun e => h.hvb (e ▸ hk)) (h.val.lt k hk).2
  · rw [htw, hu, hTN]; exact rds_stays h.tap hs fun g hg hlt => ho g hg.1 hlt
theorem Dm.cellSet (h : Dm lo w b S ov bv vv tv) (i : Nat) (u : Value) (e : (dmC S ov bv vv tv).setIfInBounds i u = dmC S' ov bv vv tv)
    (hL : S'.L = S.L) (hf : S'.f = S.f) (hM : S'.M = S.M) (hg : S'.g = S.g) (hv : S'.v = S.v) (htw : S'.tw = S.tw) (hu : S'.used = S.used) (hTN : S'.TN = S.TN) : Dm lo (w.setCell ⟨b, i, none⟩ u) b S' ov bv vv tv :=
  h.turn (by rw [heap_setCell_same w b i _ 40 u h.blk, e]) (by simp [World.setCell]) (fun k hk _ => heap_setCell_other w ⟨b, i, none⟩ k u hk) hL hf hM hg hv htw hu hTN
theorem tch_set (b i : Nat) (u : Value) (w : World) : Tch (Ft b ov bv vv) w (w.setCell ⟨b, i, none⟩ u) := Tch.set w u (.inl rfl)
end
/-- What a method of the machine leaves. -/
def DmR (lo : LoG) (b : Nat) (ov bv vv : Value) (S' : Ms) (w w' : World) : Prop := ∃ ov' bv' vv' tv', Dm lo w' b S' ov' bv' vv' tv' ∧ Tch (Ft b ov bv vv) w w' ∧ (∀ k, Ft b ov' bv' vv' k → Ft b ov bv vv k ∨ w.heap.size ≤ k)
theorem dfails_any (lo : LoG) (b : Nat) (S : Ms) (ov bv vv tv : Value) (x : Nat) (w : World) (h : Dm lo w b S ov bv vv tv) (he : S.e = 0) :
    Calls Try.prog 57 #[.pointer (some ⟨b, 0, none⟩), .int .i64 (x : Int)] w fun e w' => e = .returned (.int .i64 (-1)) ∧ Dm lo w' b { S with e := x } ov bv vv tv ∧ Tch (Ft b ov bv vv) w w' := by
  have c7 := h.c_e
  have f7 := h.fz 7
  rw [he] at c7
  have HN := hid (h.cellSet (S' := { S with e := x }) 7 (.int .i64 (x : Int)) rfl rfl rfl rfl rfl rfl rfl rfl rfl)
  have HT := hid (tch_set (ov := ov) (bv := bv) (vv := vv) b 7 (.int .i64 (x : Int)) w)
  clear h he
  go_enter Try.func57, Try.ntmps57
  go_wp2
  go_ret
  exact ⟨rfl, HN.out, HT.out⟩
theorem dop_any (K D A B : Int) (C : Nat) (w : World) : Calls Try.prog 36 #[.int .i64 K, .int .i64 D, .int .i64 A, .int .i64 B, .int .u64 (C : Int)] w fun e w' => e = .returned (.agg #[.int .i64 K, .int .i64 D, .int .i64 A, .int .i64 B, .int .i64 (-1), .int .u64 (C : Int)]) ∧ Below w.heap.size w w' := by
  go_enter Try.func36, Try.ntmps36
  go_wp2
  exact bodyPost_ret (results_cell_row (by rfl) _ _ w.heap.size 43 #[.int .i64 K, .int .i64 D, .int .i64 A, .int .i64 B, .int .i64 (-1), .int .u64 (C : Int)] (0, 0) _ rfl (heap_alloc_new _ _) Try.underlying43 rfl (by kernel_rfl)) rfl ⟨rfl, (Below.refl _ _).alloc (Nat.le_refl _) _⟩
theorem dbegin_any (lo : LoG) (b : Nat) (S : Ms) (ov bv vv tv : Value) (k : Int) (w : World) (h : Dm lo w b S ov bv vv tv) (hb : Bd S) :
    Calls Try.prog 39 #[.pointer (some ⟨b, 0, none⟩), .int .i64 k] w fun e w' => e = .returned (.tuple #[]) ∧ Dm lo w' b (S.beginS k) ov bv vv tv ∧ Tch (Ft b ov bv vv) w w' := by
  have c7 := h.c_e
  have c6 := h.c_kind
  have f6 := h.fz 6
  have f7 := h.fz 7
  have HD := hid h
  by_cases he : S.e = 0
  · rw [he] at c7
    by_cases hk : S.kind ≠ 0 ∨ k < 1 ∨ 3 < k
    · have e : S.beginS k = { S with e := 1 } := by unfold Ms.beginS; rw [if_neg (by omega), if_pos hk]
      rw [e]
      have HN := hid (h.cellSet (S' := { S with e := 1 }) 7 (.int .i64 1) rfl rfl rfl rfl rfl rfl rfl rfl rfl)
      have HT := hid (tch_set (ov := ov) (bv := bv) (vv := vv) b 7 (.int .i64 1) w)
      clear h e
      by_cases h1 : S.kind = 0
      · have q1 : (S.kind != 0) = false := by simp [h1]
        by_cases h2 : k < 1
        · have q2 : decide (k < 1) = true := decide_eq_true h2
          clear h2 h1 hk
          go_enter Try.func39, Try.ntmps39
          go_wp2
          exact bodyPost_ret (results_none rfl _ _ _) rfl ⟨rfl, HN.out, HT.out⟩
        · have q2 : decide (k < 1) = false := decide_eq_false h2
          have q3 : decide (3 < k) = true := decide_eq_true (by omega)
          clear h2 h1 hk
          go_enter Try.func39, Try.ntmps39
          go_wp2
          exact bodyPost_ret (results_none rfl _ _ _) rfl ⟨rfl, HN.out, HT.out⟩
      · have q1 : (S.kind != 0) = true := by simp [h1]
        clear h1 hk
        go_enter Try.func39, Try.ntmps39
        go_wp2
        exact bodyPost_ret (results_none rfl _ _ _) rfl ⟨rfl, HN.out, HT.out⟩
    · have e : S.beginS k = { S with kind := k, fr := S.len } := by unfold Ms.beginS; rw [if_neg (by omega), if_neg hk]
      rw [e]
      have q1 : (S.kind != 0) = false := by simp; omega
      have q2 : decide (k < 1) = false := decide_eq_false (by omega)
      have q3 : decide (3 < k) = false := decide_eq_false (by omega)
      have H1 := hid (h.cellSet (S' := { S with kind := k }) 6 (.int .i64 k) rfl rfl rfl rfl rfl rfl rfl rfl rfl)
      have HT1 := hid (tch_set (ov := ov) (bv := bv) (vv := vv) b 6 (.int .i64 k) w)
      have HL := hid (fun w1 (h1 : Dm lo w1 b { S with kind := k } ov bv vv tv) => dlen_any lo b { S with kind := k } ov bv vv tv w1 h1 ⟨hb.L, hb.skip, hb.M, hb.words, hb.draws, hb.used, hb.free, hb.TN, hb.v, hb.tw⟩)
      have hlen : ({ S with kind := k } : Ms).len = S.len := rfl
      rw [hlen] at HL
      clear h e hk
      go_enter Try.func39, Try.ntmps39
      go_wp2_with (go_at_call 12; (with_reducible refine (HL.out _ H1.out).mono ?_); rintro e w2 ⟨rfl, hb2⟩; have X2 := hid (H1.out.self hb2); have HB2 := hid hb2; have f4 := X2.out.fz 4; have c4 := X2.out.c_fr; clear hb2)
      exact bodyPost_end (results_none rfl _ _ _) rfl ⟨rfl, X2.out.cellSet (S' := { S with kind := k, fr := S.len }) 4 (.int .i64 (S.len : Int)) rfl rfl rfl rfl rfl rfl rfl rfl rfl, (HT1.out.trans (Tch.of_below (F := Ft b ov bv vv) HB2.out) (fun _ _ h => h)).trans (tch_set b 4 _ w2) (fun _ _ h => h)⟩
  · have e : S.beginS k = S := by unfold Ms.beginS; rw [if_pos he]
    rw [e]
    have q1 : ((S.e : Int) != 0) = true := by simp; omega
    clear h e he
    go_enter Try.func39, Try.ntmps39
    go_wp2
    exact bodyPost_ret (results_none rfl _ _ _) rfl ⟨rfl, HD.out, Tch.refl _ _⟩
end Go.Proofs.Ytffoinnllihdeaa
