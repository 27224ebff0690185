import Derived.Test.YtffoinnllihdeaaProg
import Derived.Test.YtffoinnllihdeaaWdc
/- Wire: the document's machine: a mask is drawn. -/
namespace Go.Proofs.Ytffoinnllihdeaa
open Go.RowKit
set_option maxRecDepth 100000
theorem wdL_cons (v : Nat → Nat) (n : Nat) : wdL v (n + 1) = (v 0 : Int) :: wdL (fun i => v (i + 1)) n := by
  unfold wdL; rw [List.range_succ_eq_map, List.map_cons, List.map_map]; rfl
/-- What is left of a slice without its first. -/
theorem rds_tail {k : IntKind} {w : World} {F : Nat → Prop} {g off cap : Nat} {z : Int} {zs : List Int} (h : RdS k w F (.slice (some ⟨g, off, none⟩) (zs.length + 1) cap) (z :: zs)) (b : Option Addr) (hb : 0 < zs.length → b = some ⟨g, off + 1, none⟩) :
    RdS k w F (.slice b zs.length (cap - 1)) zs := by
  obtain ⟨a, c, h1, h2, h3, h4, h5, h7⟩ := h
  injection h1 with e1 e2 e3
  subst e3
  simp only [List.length_cons] at h2 h4
  refine ⟨b, cap - 1, rfl, by omega, by omega, by rw [Nat.add_mul] at h4; omega, fun x hx => h5 x (List.mem_cons_of_mem _ hx), fun hp => ?_⟩
  obtain ⟨g', off', e, hS, hlt, hc⟩ := h7 (by simp)
  rw [← e1] at e
  injection e with e
  injection e with e4 e5 e6
  subst e4; subst e5
  refine ⟨g, off + 1, hb hp, hS, hlt, fun j hj => ?_⟩
  have := hc (j + 1) (by simp; omega)
  rw [show off + 1 + j = off + (j + 1) by omega, this]
  rfl
section
variable {lo : LoG} {b : Nat} {w : World} {S : Ms} {ov bv vv tv : Value}
theorem Dm.drawn (h : Dm lo w b S ov bv vv tv) {v' : Value} {f' u' : Int} (hr : RdS .u64 w (fun g => g ≠ b ∧ ov.ownBlock ≠ some g ∧ bv.ownBlock ≠ some g ∧ vv.ownBlock ≠ some g ∧ lo.G g) v' (wdL (fun i => S.tw (S.used + 1 + i)) (S.TN - (S.used + 1)))) (hf : f' = ((S.free - 1 : Nat) : Int)) (hu : u' = ((S.used + 1 : Nat) : Int)) :
    Dm lo (((w.setCell ⟨b, 11, none⟩ v').setCell ⟨b, 13, none⟩ (.int .i64 f')).setCell ⟨b, 12, none⟩ (.int .i64 u')) b { S with used := S.used + 1, free := S.free - 1 } ov bv vv v' ∧ Tch (Ft b ov bv vv) w (((w.setCell ⟨b, 11, none⟩ v').setCell ⟨b, 13, none⟩ (.int .i64 f')).setCell ⟨b, 12, none⟩ (.int .i64 u')) := by
  subst hf; subst hu
  have ho : ∀ k, k ≠ b → (((w.setCell ⟨b, 11, none⟩ v').setCell ⟨b, 13, none⟩ (.int .i64 ((S.free - 1 : Nat) : Int))).setCell ⟨b, 12, none⟩ (.int .i64 ((S.used + 1 : Nat) : Int))).heap[k]? = w.heap[k]? := fun k hk => by
    rw [heap_setCell_other _ ⟨b, 12, none⟩ k _ hk, heap_setCell_other _ ⟨b, 13, none⟩ k _ hk, heap_setCell_other _ ⟨b, 11, none⟩ k _ hk]
  refine ⟨⟨?_, h.lob, ?_, ?_, ?_, h.hob, h.hbb, h.hvb, h.hobv, h.hov, h.hbv, ?_⟩, ?_⟩
  · rw [heap_setCell_same _ b 12 _ 40 _ (heap_setCell_same _ b 13 _ 40 _ (heap_setCell_same w b 11 _ 40 v' h.blk))]; rfl
  · exact h.ops.stays fun k hk => ho k (fun e => h.hob (by subst e; exact hk))
  · exact h.bls.stays fun k hk => ho k (fun e => h.hbb (by subst e; exact hk))
  · exact h.val.stays fun k hk => ho k (fun e => h.hvb (by subst e; exact hk))
  · exact rds_stays hr (by simp [World.setCell]) fun g hg _ => ho g hg.1
  · exact ((tch_set b 11 _ _).trans (tch_set b 13 _ _) (fun _ _ f => f)).trans (tch_set b 12 _ _) (fun _ _ f => f)
end
theorem ddraw_no (lo : LoG) (b : Nat) (S : Ms) (ov bv vv tv : Value) (w : World) (h : Dm lo w b S ov bv vv tv) (hn : S.free < 1 ∨ S.TN ≤ S.used) :
    Calls Try.prog 58 #[.pointer (some ⟨b, 11, none⟩)] w fun r w' => r = .returned (.tuple #[.int .u64 0, .bool false]) ∧ w' = w := by
  have c11 := h.c_tv
  have c12 := h.c_used
  have c13 := h.c_free
  obtain ⟨a, cap, rfl, _⟩ := h.tap
  rw [wdL_len] at c11
  clear h
  by_cases hf : S.free < 1
  · have q1 : decide ((S.free : Int) < 1) = true := decide_eq_true (by omega)
    clear hf hn
    generalize S.free = f at *
    generalize S.TN - S.used = n at *
    go_enter Try.func58, Try.ntmps58
    go_wp2
    go_ret2
    exact ⟨rfl, rfl⟩
  · have q1 : decide ((S.free : Int) < 1) = false := decide_eq_false (by omega)
    have q2 : S.TN - S.used = 0 := by omega
    rw [q2] at c11
    clear hf hn q2
    generalize S.free = f at *
    go_enter Try.func58, Try.ntmps58
    go_wp2
    go_ret2
    exact ⟨rfl, rfl⟩
set_option maxHeartbeats 800000 in
theorem ddraw_yes (lo : LoG) (b : Nat) (S : Ms) (ov bv vv tv : Value) (w : World) (h : Dm lo w b S ov bv vv tv) (hb : Bd S) (hf : ¬ S.free < 1) (hu : ¬ S.TN ≤ S.used) :
    Calls Try.prog 58 #[.pointer (some ⟨b, 11, none⟩)] w fun r w' => r = .returned (.tuple #[.int .u64 (S.tw S.used : Nat), .bool true]) ∧ ∃ tv', Dm lo w' b { S with used := S.used + 1, free := S.free - 1 } ov bv vv tv' ∧ Tch (Ft b ov bv vv) w w' := by
  have c11 := h.c_tv
  have c12 := h.c_used
  have c13 := h.c_free
  have f11 := h.fz 11
  have f12 := h.fz 12
  have f13 := h.fz 13
  have b1 := hb.used
  have b2 := hb.free
  have b3 := hb.TN
  have HR := h.tap
  have e0 : S.TN - S.used = (S.TN - (S.used + 1)) + 1 := by omega
  rw [e0, wdL_cons] at HR
  have e1 : (fun i => (fun i => S.tw (S.used + i)) (i + 1)) = fun i => S.tw (S.used + 1 + i) := funext fun i => congrArg S.tw (by omega)
  rw [e1] at HR
  have HD := hid (fun v' f' u' => h.drawn (v' := v') (f' := f') (u' := u'))
  clear h hb e0 e1
  have HRR := hid HR
  obtain ⟨a, cap, rfl, hcap1, hcap2, _, _, hr0⟩ := HR
  obtain ⟨g, off, rfl, hg0, hg, hrc⟩ := hr0 (by simp)
  have hrd : w.cell? ⟨g, off, none⟩ = some (.int .u64 (S.tw S.used : Nat)) := by simpa [nth] using hrc 0 (by simp)
  simp only [List.length_cons, wdL_len] at hcap1 c11 HRR
  unfold maxLen at hcap2
  clear hrc hr0
  have q1 : decide ((S.free : Int) < 1) = false := decide_eq_false (by omega)
  have e0 : (((S.TN - (S.used + 1) : Nat) : Int) + 1 == 0) = false := by simp; omega
  have en : (wdL (fun i => S.tw (S.used + 1 + i)) (S.TN - (S.used + 1))).length = S.TN - (S.used + 1) := wdL_len _ _
  have HF := hid (show ((S.free : Int) - 1 = ((S.free - 1 : Nat) : Int)) by omega)
  have HU := hid (show ((S.used : Int) + 1 = ((S.used + 1 : Nat) : Int)) by omega)
  by_cases hc : cap = 1
  · have HT := hid (fun b => rds_tail (zs := wdL (fun i => S.tw (S.used + 1 + i)) (S.TN - (S.used + 1))) (by rw [en]; exact HRR.out) b (by omega))
    rw [en] at HT
    subst hc
    have hz0 : S.TN - (S.used + 1) = 0 := by omega
    have HZ := hid hz0
    simp only [hz0] at c11 HRR
    clear e0 en
    go_enter Try.func58, Try.ntmps58
    go_wp2
    go_ret2
    exact ⟨rfl, _, HD.out _ _ _ (by have h1 := HT.out (some ⟨g, off, none⟩); have hz := HZ.out; rw [hz] at h1 ⊢; exact h1) HF.out HU.out⟩
  · have HT := hid (rds_tail (zs := wdL (fun i => S.tw (S.used + 1 + i)) (S.TN - (S.used + 1))) (by rw [en]; exact HRR.out) (some ⟨g, off + 1, none⟩) (fun _ => rfl))
    rw [en] at HT
    clear en
    go_enter Try.func58, Try.ntmps58
    go_wp2
    go_ret2
    exact ⟨rfl, _, HD.out _ _ _ HT.out HF.out HU.out⟩
end Go.Proofs.Ytffoinnllihdeaa
