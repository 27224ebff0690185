import Derived.Test.YtmggmjilgjogfaaProg
import Derived.Test.YtmggmjilgjogfaaBth
namespace Go.Proofs.Ytmggmjilgjogfaa
open Go.RowKit

/-- Two new blocks of eight, written. -/
abbrev two8 (w1 : World) (f g : Nat → Nat) : World := (((w1.alloc (.cells (ba 8 (fun _ => 0)) 25)).alloc (.cells (ba 8 (fun _ => 0)) 25)).setRow w1.heap.size (ba 8 f)).setRow (w1.heap.size + 1) (ba 8 g)
theorem two_at (w1 : World) (f g : Nat → Nat) : At (two8 w1 f g) w1.heap.size 8 25 f ∧ At (two8 w1 f g) (w1.heap.size + 1) 8 25 g :=
  ⟨(((At.new w1 8 25 (fun _ => 0)).alloc _).row f).rowApart (by omega) _, (second_at w1 f).row g⟩
theorem At.far2 {w1 : World} {b n : Nat} {t : TypeId} {h : Nat → Nat} (a : At w1 b n t h) (f g : Nat → Nat) : At (two8 w1 f g) b n t h :=
  have := a.lt
  (((a.alloc _).alloc _).rowApart (by omega) _).rowApart (by omega) _
theorem out_low {w w' : World} {o : Obj} (h : Below (w.alloc o).heap.size (w.alloc o) w') : Below w.heap.size w w' :=
  ((Below.refl w.heap.size w).alloc (Nat.le_refl _) o).trans (h.mono (by simp))

set_option maxHeartbeats 1600000 in
theorem in_gen (pv : Value) (f g : Nat → Nat) (w : World) (R : World → Prop)
    (hB : Calls Try.prog 23 #[pv] (w.alloc (.cells #[.int .u8 0, .int .u8 0, .int .u8 0, .int .u8 0, .int .u8 0, .int .u8 0, .int .u8 0, .int .u8 0] 25)) fun e w' => e = .returned (.tuple #[.agg (ba 8 f), .agg (ba 8 g)]) ∧ At w' w.heap.size 8 25 (fun _ => 0) ∧ R w')
    (hA : ∀ (w' : World) o, R w' → R (w'.alloc o)) (hR : ∀ (w' : World) c cs, R w' → w.heap.size ≤ c → R (w'.setRow c cs)) :
    Calls Try.prog 12 #[pv] w fun e w' => e = .returned (.agg (ba 8 f)) ∧ R w' := by
  have HB := hid hB
  have HA := hid hA
  have HR := hid hR
  clear hA hR hB
  go_enter Try.func12, Try.ntmps12
  go_wp2_with (first
    | (go_at_call 23; (with_reducible refine HB.out.mono ?_); rintro e w1 ⟨rfl, ho, hr⟩; have hlt := ho.lt; have HO := hid (ho.far2 f g); have HT := hid (two_at w1 f g); have HQ := hid (HR.out _ (w1.heap.size + 1) (ba 8 g) (HR.out _ w1.heap.size (ba 8 f) (HA.out _ (.cells (ba 8 (fun _ => 0)) 25) (HA.out _ (.cells (ba 8 (fun _ => 0)) 25) hr)) (by omega)) (by omega)); clear ho hr)
    | (refine step_store_ba rfl 25 _ _ rfl w1.heap.size 8 25 (fun _ => 0) f rfl rfl ((At.new w1 8 25 (fun _ => 0)).alloc _) info23 ?_)
    | (refine step_store_ba rfl 25 _ _ rfl (w1.heap.size + 1) 8 25 (fun _ => 0) g rfl rfl (second_at w1 f) info23 ?_)
    | (refine step_load_ba rfl 25 _ rfl w1.heap.size 8 25 5 f rfl HT.out.1 Try.underlying25 info23 ?_)
    | (refine step_store_ba rfl 25 _ _ rfl w.heap.size 8 25 (fun _ => 0) f rfl rfl HO.out info23 ?_))
  exact ret_ba rfl rfl Try.underlying25 info23 rfl (HO.out.row f) ⟨rfl, HR.out _ _ _ HQ.out (Nat.le_refl _)⟩

set_option maxHeartbeats 1600000 in
theorem out_gen (pv : Value) (f g : Nat → Nat) (w : World) (R : World → Prop)
    (hB : Calls Try.prog 23 #[pv] (w.alloc (.cells #[.int .u8 0, .int .u8 0, .int .u8 0, .int .u8 0, .int .u8 0, .int .u8 0, .int .u8 0, .int .u8 0] 25)) fun e w' => e = .returned (.tuple #[.agg (ba 8 f), .agg (ba 8 g)]) ∧ At w' w.heap.size 8 25 (fun _ => 0) ∧ R w')
    (hA : ∀ (w' : World) o, R w' → R (w'.alloc o)) (hR : ∀ (w' : World) c cs, R w' → w.heap.size ≤ c → R (w'.setRow c cs)) :
    Calls Try.prog 13 #[pv] w fun e w' => e = .returned (.agg (ba 8 g)) ∧ R w' := by
  have HB := hid hB
  have HA := hid hA
  have HR := hid hR
  clear hA hR hB
  go_enter Try.func13, Try.ntmps13
  go_wp2_with (first
    | (go_at_call 23; (with_reducible refine HB.out.mono ?_); rintro e w1 ⟨rfl, ho, hr⟩; have hlt := ho.lt; have HO := hid (ho.far2 f g); have HT := hid (two_at w1 f g); have HQ := hid (HR.out _ (w1.heap.size + 1) (ba 8 g) (HR.out _ w1.heap.size (ba 8 f) (HA.out _ (.cells (ba 8 (fun _ => 0)) 25) (HA.out _ (.cells (ba 8 (fun _ => 0)) 25) hr)) (by omega)) (by omega)); clear ho hr)
    | (refine step_store_ba rfl 25 _ _ rfl w1.heap.size 8 25 (fun _ => 0) f rfl rfl ((At.new w1 8 25 (fun _ => 0)).alloc _) info23 ?_)
    | (refine step_store_ba rfl 25 _ _ rfl (w1.heap.size + 1) 8 25 (fun _ => 0) g rfl rfl (second_at w1 f) info23 ?_)
    | (refine step_load_ba rfl 25 _ rfl (w1.heap.size + 1) 8 25 5 g rfl HT.out.2 Try.underlying25 info23 ?_)
    | (refine step_store_ba rfl 25 _ _ rfl w.heap.size 8 25 (fun _ => 0) g rfl rfl HO.out info23 ?_))
  exact ret_ba rfl rfl Try.underlying25 info23 rfl (HO.out.row g) ⟨rfl, HR.out _ _ _ HQ.out (Nat.le_refl _)⟩

theorem in_nil (w : World) : Calls Try.prog 12 #[.pointer none] w fun e w' => e = .returned (.agg (ba 8 inM)) ∧ Below w.heap.size w w' :=
  in_gen _ inM (inv inM) w (fun w' => Below w.heap.size w w') ((both_nil _).mono fun e w' ⟨he, hb⟩ => ⟨he, (At.new w 8 25 (fun _ => 0)).self hb, out_low hb⟩)
    (fun _ _ h => h.alloc h.size _) (fun _ _ _ h hc => below_setRow h hc _)
theorem in_done (b : Nat) (s : Int) (f g : Nat → Nat) (w : World) (hF : FAt w b 1 0 s f g) :
    Calls Try.prog 12 #[.pointer (some ⟨b, 0, none⟩)] w fun e w' => e = .returned (.agg (ba 8 f)) ∧ FAt w' b 1 0 s f g ∧ Below w.heap.size w w' :=
  in_gen _ f g w (fun w' => FAt w' b 1 0 s f g ∧ Below w.heap.size w w') ((both_done b s f g _ (hF.alloc _)).mono fun e w' ⟨he, hf, hb⟩ => ⟨he, (At.new w 8 25 (fun _ => 0)).self hb, hf, out_low hb⟩)
    (fun _ _ h => ⟨h.1.alloc _, h.2.alloc h.2.size _⟩) (fun _ _ _ h hc => ⟨h.1.row (by have := hF.lt; omega) _, below_setRow h.2 hc _⟩)
theorem in_first (b : Nat) (s : Int) (f g : Nat → Nat) (w : World) (hF : FAt w b 0 0 s f g) :
    Calls Try.prog 12 #[.pointer (some ⟨b, 0, none⟩)] w fun e w' => e = .returned (.agg (ba 8 inM)) ∧ FAt w' b 1 0 s inM (inv inM) ∧ Only b w w' :=
  in_gen _ inM (inv inM) w (fun w' => FAt w' b 1 0 s inM (inv inM) ∧ Only b w w') ((both_first b s f g _ (hF.alloc _)).mono fun e w' ⟨he, hf, hb⟩ =>
      ⟨he, (hb.block _ (At.new w 8 25 (fun _ => 0)).lt (Nat.ne_of_gt hF.lt)).trans (At.new w 8 25 (fun _ => 0)), hf, (Only.of_below ((Below.refl _ _).alloc (Nat.le_refl _) _)).trans hb⟩)
    (fun _ _ h => ⟨h.1.alloc _, h.2.trans (Only.of_below ((Below.refl _ _).alloc (Nat.le_refl _) _))⟩) (fun _ _ _ h hc => ⟨h.1.row (by have := hF.lt; omega) _, only_row h.2 hc _⟩)
theorem out_nil (w : World) : Calls Try.prog 13 #[.pointer none] w fun e w' => e = .returned (.agg (ba 8 (inv inM))) ∧ Below w.heap.size w w' :=
  out_gen _ inM (inv inM) w (fun w' => Below w.heap.size w w') ((both_nil _).mono fun e w' ⟨he, hb⟩ => ⟨he, (At.new w 8 25 (fun _ => 0)).self hb, out_low hb⟩)
    (fun _ _ h => h.alloc h.size _) (fun _ _ _ h hc => below_setRow h hc _)
theorem out_done (b : Nat) (s : Int) (f g : Nat → Nat) (w : World) (hF : FAt w b 1 0 s f g) :
    Calls Try.prog 13 #[.pointer (some ⟨b, 0, none⟩)] w fun e w' => e = .returned (.agg (ba 8 g)) ∧ FAt w' b 1 0 s f g ∧ Below w.heap.size w w' :=
  out_gen _ f g w (fun w' => FAt w' b 1 0 s f g ∧ Below w.heap.size w w') ((both_done b s f g _ (hF.alloc _)).mono fun e w' ⟨he, hf, hb⟩ => ⟨he, (At.new w 8 25 (fun _ => 0)).self hb, hf, out_low hb⟩)
    (fun _ _ h => ⟨h.1.alloc _, h.2.alloc h.2.size _⟩) (fun _ _ _ h hc => ⟨h.1.row (by have := hF.lt; omega) _, below_setRow h.2 hc _⟩)
theorem out_first (b : Nat) (s : Int) (f g : Nat → Nat) (w : World) (hF : FAt w b 0 0 s f g) :
    Calls Try.prog 13 #[.pointer (some ⟨b, 0, none⟩)] w fun e w' => e = .returned (.agg (ba 8 (inv inM))) ∧ FAt w' b 1 0 s inM (inv inM) ∧ Only b w w' :=
  out_gen _ inM (inv inM) w (fun w' => FAt w' b 1 0 s inM (inv inM) ∧ Only b w w') ((both_first b s f g _ (hF.alloc _)).mono fun e w' ⟨he, hf, hb⟩ =>
      ⟨he, (hb.block _ (At.new w 8 25 (fun _ => 0)).lt (Nat.ne_of_gt hF.lt)).trans (At.new w 8 25 (fun _ => 0)), hf, (Only.of_below ((Below.refl _ _).alloc (Nat.le_refl _) _)).trans hb⟩)
    (fun _ _ h => ⟨h.1.alloc _, h.2.trans (Only.of_below ((Below.refl _ _).alloc (Nat.le_refl _) _))⟩) (fun _ _ _ h hc => ⟨h.1.row (by have := hF.lt; omega) _, only_row h.2 hc _⟩)

def zfn : Nat → Nat := fun _ => 0
theorem new_any (w : World) : Calls Try.prog 11 #[] w fun e w' => e = .returned (.pointer (some ⟨w.heap.size, 0, none⟩)) ∧ FAt w' w.heap.size 0 0 0 (fun _ => 0) (fun _ => 0) ∧ Below w.heap.size w w' := by
  go_enter Try.func11, Try.ntmps11
  go_wp2
  go_ret
  exact ⟨rfl, heap_alloc_new w _, (Below.refl _ _).alloc (Nat.le_refl _) _⟩
end Go.Proofs.Ytmggmjilgjogfaa
