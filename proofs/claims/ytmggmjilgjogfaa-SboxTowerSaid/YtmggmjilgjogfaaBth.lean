import Derived.Test.YtmggmjilgjogfaaProg
import Derived.Test.YtmggmjilgjogfaaSlo
namespace Go.Proofs.Ytmggmjilgjogfaa
open Go.RowKit

/-- The parameter's cell, and two blocks of eight for the results. -/
structure Bth (pv : Value) (f g : Nat → Nat) (w wr : World) : Prop where
  par : wr.cell? ⟨w.heap.size, 0, none⟩ = some pv
  o1 : At wr (w.heap.size + 1) 8 25 f
  o2 : At wr (w.heap.size + 1 + 1) 8 25 g
def both0 (pv : Value) (w : World) : World := ((w.alloc (.cells #[pv] 32)).alloc (.cells (ba 8 (fun _ => 0)) 25)).alloc (.cells (ba 8 (fun _ => 0)) 25)
theorem Bth.start (pv : Value) (w : World) : Bth pv (fun _ => 0) (fun _ => 0) w (both0 pv w) := by
  unfold both0
  refine ⟨?_, ?_, ?_⟩
  · have h := cell_new w pv 32 0 (by omega)
    have h2 : (w.alloc (.cells #[pv] 32)).cell? ⟨w.heap.size, 0, none⟩ = some pv := h
    rw [World.cell?_alloc_past _ _ _ (by simp only [World.size_alloc]; omega), World.cell?_alloc_past _ _ _ (by simp only [World.size_alloc]; omega)]
    exact h2
  · have := At.new (w.alloc (.cells #[pv] 32)) 8 25 (fun _ => 0)
    rw [World.size_alloc] at this
    exact this.alloc _
  · have := At.new ((w.alloc (.cells #[pv] 32)).alloc (.cells (ba 8 (fun _ => 0)) 25)) 8 25 (fun _ => 0)
    rw [World.size_alloc, World.size_alloc] at this
    exact this
theorem both0_low (pv : Value) (w : World) : Below w.heap.size w (both0 pv w) :=
  (((Below.refl _ _).alloc (Nat.le_refl _) _).alloc (by simp) _).alloc (by simp; omega) _
theorem Bth.drew {pv : Value} {f g : Nat → Nat} {w wr : World} (m : Bth pv f g w wr) : Bth pv f g w wr.drew := ⟨m.par, m.o1, m.o2⟩
theorem Bth.on {pv : Value} {f g : Nat → Nat} {w wr w1 : World} (m : Bth pv f g w wr) (h : Below wr.heap.size wr w1) : Bth pv f g w w1 :=
  ⟨(h.cell (p := ⟨w.heap.size, 0, none⟩) (lt_of_cell m.par)).trans m.par, m.o1.self h, m.o2.self h⟩
theorem Bth.only {pv : Value} {f g : Nat → Nat} {w wr w1 : World} {b : Nat} (m : Bth pv f g w wr) (h : Only b wr w1) (hb : b < w.heap.size) : Bth pv f g w w1 :=
  ⟨(h.cell (p := ⟨w.heap.size, 0, none⟩) (lt_of_cell m.par) (by simp; omega)).trans m.par, (h.block _ m.o1.lt (by omega)).trans m.o1, (h.block _ m.o2.lt (by omega)).trans m.o2⟩
theorem cell_rowApart {w : World} {p : Addr} {v : Value} (h : w.cell? p = some v) (c : Nat) (hc : p.block ≠ c) (cs : Array Value) : (w.setRow c cs).cell? p = some v :=
  (World.cell?_of_block (w := w) (setRow_other w c p.block cs hc)).trans h
theorem Bth.row1 {pv : Value} {f g : Nat → Nat} {w wr : World} (m : Bth pv f g w wr) (f' : Nat → Nat) : Bth pv f' g w (wr.setRow (w.heap.size + 1) (ba 8 f')) :=
  ⟨cell_rowApart m.par _ (by simp) _, m.o1.row f', m.o2.rowApart (by omega) _⟩
theorem Bth.row2 {pv : Value} {f g : Nat → Nat} {w wr : World} (m : Bth pv f g w wr) (g' : Nat → Nat) : Bth pv f g' w (wr.setRow (w.heap.size + 1 + 1) (ba 8 g')) :=
  ⟨cell_rowApart m.par _ (by simp; omega) _, m.o1.rowApart (by omega) _, m.o2.row g'⟩
theorem FAt.row {w : World} {b c : Nat} {d m s : Int} {f g : Nat → Nat} (h : FAt w b d m s f g) (hc : b ≠ c) (cs : Array Value) : FAt (w.setRow c cs) b d m s f g := (setRow_other w c b cs hc).trans h

theorem only_row {b c : Nat} {w wr : World} (h : Only b w wr) (hc : w.heap.size ≤ c) (cs : Array Value) : Only b w (wr.setRow c cs) :=
  ⟨h.os, h.tape, h.output, by rw [size_setRow]; exact h.size, fun j hj hn => (setRow_other wr c j cs (by omega)).trans (h.block j hj hn)⟩

set_option maxHeartbeats 1600000 in
theorem both_nil (w : World) :
    Calls Try.prog 23 #[.pointer none] w fun e w' => e = .returned (.tuple #[.agg (ba 8 inM), .agg (ba 8 (inv inM))]) ∧ Below w.heap.size w w' := by
  have HM := hid matrices_any
  have HS := hid (Bth.start (.pointer none) w)
  have HL0 := hid (both0_low (.pointer none) w)
  generalize inv inM = y at *
  generalize inM = x at *
  go_enter Try.func23, Try.ntmps23
  go_wp2_with (first
    | (go_at_call 31; (with_reducible refine (HM.out _).mono ?_); rintro e wr ⟨rfl, hlow1⟩; have HB := hid (HS.out.on hlow1); have HL := hid (HL0.out.trans (hlow1.mono HL0.out.size)); clear hlow1; have HB1 := hid (HB.out.row1 x); have HL1 := hid (below_setRow HL.out (b := w.heap.size + 1) (by omega) (ba 8 x)))
    | (refine step_store_ba rfl 25 _ _ rfl (w.heap.size + 1) 8 25 (fun _ => 0) x rfl rfl HB.out.o1 info23 ?_)
    | (refine step_store_ba rfl 25 _ _ rfl (w.heap.size + 1 + 1) 8 25 (fun _ => 0) y rfl rfl HB1.out.o2 info23 ?_))
  exact ret_ba_ba rfl rfl Try.underlying25 info23 rfl Try.underlying25 info23 rfl (HB1.out.row2 y).o1 (HB1.out.row2 y).o2 ⟨rfl, below_setRow HL1.out (by omega) _⟩

set_option maxHeartbeats 1600000 in
theorem both_done (b : Nat) (s : Int) (f g : Nat → Nat) (w : World) (hF : FAt w b 1 0 s f g) :
    Calls Try.prog 23 #[.pointer (some ⟨b, 0, none⟩)] w fun e w' => e = .returned (.tuple #[.agg (ba 8 f), .agg (ba 8 g)]) ∧ FAt w' b 1 0 s f g ∧ Below w.heap.size w w' := by
  have HBO := hid hF.lt
  have HF : Hid (FAt (((w.alloc (.cells #[.pointer (some ⟨b, 0, none⟩)] 32)).alloc (.cells #[.int .u8 0, .int .u8 0, .int .u8 0, .int .u8 0, .int .u8 0, .int .u8 0, .int .u8 0, .int .u8 0] 25)).alloc (.cells #[.int .u8 0, .int .u8 0, .int .u8 0, .int .u8 0, .int .u8 0, .int .u8 0, .int .u8 0, .int .u8 0] 25)) b 1 0 s f g) := hid (((hF.alloc _).alloc _).alloc _)
  have HB : Hid (Bth (.pointer (some ⟨b, 0, none⟩)) (fun _ => 0) (fun _ => 0) w (((w.alloc (.cells #[.pointer (some ⟨b, 0, none⟩)] 32)).alloc (.cells #[.int .u8 0, .int .u8 0, .int .u8 0, .int .u8 0, .int .u8 0, .int .u8 0, .int .u8 0, .int .u8 0] 25)).alloc (.cells #[.int .u8 0, .int .u8 0, .int .u8 0, .int .u8 0, .int .u8 0, .int .u8 0, .int .u8 0, .int .u8 0] 25))) := hid (Bth.start (.pointer (some ⟨b, 0, none⟩)) w)
  have HL : Hid (Below w.heap.size w (((w.alloc (.cells #[.pointer (some ⟨b, 0, none⟩)] 32)).alloc (.cells #[.int .u8 0, .int .u8 0, .int .u8 0, .int .u8 0, .int .u8 0, .int .u8 0, .int .u8 0, .int .u8 0] 25)).alloc (.cells #[.int .u8 0, .int .u8 0, .int .u8 0, .int .u8 0, .int .u8 0, .int .u8 0, .int .u8 0, .int .u8 0] 25))) := hid (both0_low (.pointer (some ⟨b, 0, none⟩)) w)
  have HD : Hid (∀ fv, Calls Try.prog 20 #[.pointer (some ⟨b, 0, none⟩), fv] (((w.alloc (.cells #[.pointer (some ⟨b, 0, none⟩)] 32)).alloc (.cells #[.int .u8 0, .int .u8 0, .int .u8 0, .int .u8 0, .int .u8 0, .int .u8 0, .int .u8 0, .int .u8 0] 25)).alloc (.cells #[.int .u8 0, .int .u8 0, .int .u8 0, .int .u8 0, .int .u8 0, .int .u8 0, .int .u8 0, .int .u8 0] 25)) fun e w' => e = .returned (.tuple #[]) ∧ w' = (((w.alloc (.cells #[.pointer (some ⟨b, 0, none⟩)] 32)).alloc (.cells #[.int .u8 0, .int .u8 0, .int .u8 0, .int .u8 0, .int .u8 0, .int .u8 0, .int .u8 0, .int .u8 0] 25)).alloc (.cells #[.int .u8 0, .int .u8 0, .int .u8 0, .int .u8 0, .int .u8 0, .int .u8 0, .int .u8 0, .int .u8 0] 25))) := hid (fun fv => do_done ⟨b, 0, none⟩ 1 (by decide) fv _ HF.out.c0)
  have hmf : ∀ (fn : Fn) (first cap : Array Value) (w : World), (Instr.makeFunc fn first cap).run Try.prog w = .ok (.func fn first cap) w := fun _ _ _ _ => rfl
  clear hF
  go_enter Try.func23, Try.ntmps23
  go_wp2_with (go_at_call 20; (with_reducible refine (HD.out _).mono ?_); rintro e wr ⟨rfl, hwr⟩; rw [← hwr] at HF HB HL; clear HD hwr)
  have HBD := hid HB.out.drew
  have HFD := hid HF.out.drew
  have hbo := HBO.out
  refine wp_region_noPanic ?_
  refine wp_region_held_drew (S := fun w' => w'.cell? ⟨w.heap.size, 0, none⟩ = some (.pointer (some ⟨b, 0, none⟩)) ∧ w'.rangeAt b 3 (ba 8 f).toList ∧ w'.rangeAt b 11 (ba 8 g).toList) (by kernel_rfl) ⟨HBD.out.par, HFD.out.rangeF, HFD.out.rangeG⟩ (fun h0 => ?_)
  refine wpAnyH_take (i := 0) (v := .pointer (some ⟨b, 0, none⟩)) rfl (by kernel_rfl) (by kernel_rfl) (by kernel_rfl) (fun _ _ _ h => h) (.inl ⟨by rfl, fun w hw => by obtain ⟨hw, _, _⟩ := hw; go_simp⟩) h0 ?_
  try simp only [Act.put, List.getElem_toArray, List.getElem_cons_zero, List.getElem_cons_succ, List.setIfInBounds_toArray, List.set_cons_zero, List.set_cons_succ]
  refine wpAnyH_take (i := 1) (v := .pointer (some ⟨b, 0, none⟩)) rfl (by kernel_rfl) (by kernel_rfl) (by kernel_rfl) (fun _ _ _ h => h) (.inl ⟨by rfl, fun w hw => by obtain ⟨hw, _, _⟩ := hw; go_simp⟩) h0 ?_
  try simp only [Act.put, List.getElem_toArray, List.getElem_cons_zero, List.getElem_cons_succ, List.setIfInBounds_toArray, List.set_cons_zero, List.set_cons_succ]
  refine wpAnyH_take (i := 2) (v := .pointer (some ⟨b, 3, none⟩)) rfl (by kernel_rfl) (by kernel_rfl) (by kernel_rfl) (fun _ _ _ h => h) (.inl ⟨by rfl, fun w hw => by obtain ⟨hw, _, _⟩ := hw; go_simp⟩) h0 ?_
  try simp only [Act.put, List.getElem_toArray, List.getElem_cons_zero, List.getElem_cons_succ, List.setIfInBounds_toArray, List.set_cons_zero, List.set_cons_succ]
  refine wpAnyH_take (i := 3) rfl (by kernel_rfl) (by kernel_rfl) (by kernel_rfl) (fun _ _ _ h => h) (yieldsIf_load_mid (by rfl) 25 _ rfl b 3 rfl (ba 8 f).toList _ (fun w h => h.2.1) Try.underlying25 rfl info23') h0 ?_
  try simp only [Act.put, List.getElem_toArray, List.getElem_cons_zero, List.getElem_cons_succ, List.setIfInBounds_toArray, List.set_cons_zero, List.set_cons_succ]
  refine wpAnyH_take (i := 4) (v := .pointer (some ⟨b, 0, none⟩)) rfl (by kernel_rfl) (by kernel_rfl) (by kernel_rfl) (fun _ _ _ h => h) (.inl ⟨by rfl, fun w hw => by obtain ⟨hw, _, _⟩ := hw; go_simp⟩) h0 ?_
  try simp only [Act.put, List.getElem_toArray, List.getElem_cons_zero, List.getElem_cons_succ, List.setIfInBounds_toArray, List.set_cons_zero, List.set_cons_succ]
  refine wpAnyH_take (i := 5) (v := .pointer (some ⟨b, 0, none⟩)) rfl (by kernel_rfl) (by kernel_rfl) (by kernel_rfl) (fun _ _ _ h => h) (.inl ⟨by rfl, fun w hw => by obtain ⟨hw, _, _⟩ := hw; go_simp⟩) h0 ?_
  try simp only [Act.put, List.getElem_toArray, List.getElem_cons_zero, List.getElem_cons_succ, List.setIfInBounds_toArray, List.set_cons_zero, List.set_cons_succ]
  refine wpAnyH_take (i := 6) (v := .pointer (some ⟨b, 11, none⟩)) rfl (by kernel_rfl) (by kernel_rfl) (by kernel_rfl) (fun _ _ _ h => h) (.inl ⟨by rfl, fun w hw => by obtain ⟨hw, _, _⟩ := hw; go_simp⟩) h0 ?_
  try simp only [Act.put, List.getElem_toArray, List.getElem_cons_zero, List.getElem_cons_succ, List.setIfInBounds_toArray, List.set_cons_zero, List.set_cons_succ]
  refine wpAnyH_take (i := 7) rfl (by kernel_rfl) (by kernel_rfl) (by kernel_rfl) (fun _ _ _ h => h) (yieldsIf_load_mid (by rfl) 25 _ rfl b 11 rfl (ba 8 g).toList _ (fun w h => h.2.2) Try.underlying25 rfl info23') h0 ?_
  try simp only [Act.put, List.getElem_toArray, List.getElem_cons_zero, List.getElem_cons_succ, List.setIfInBounds_toArray, List.set_cons_zero, List.set_cons_succ]
  refine wpAnyH_ready (rs := [8]) (by kernel_rfl) (by simp) (AllReadyH.cons rfl (fun K hK => ?_) AllReadyH.nil)
  rw [if_pos (by rfl)]
  refine wp_store_row 25 _ _ rfl (w.heap.size + 1) (ba 8 f) rfl rfl 25 _ HBD.out.o1 info23' rfl (ba_one 8 f) ?_
  have HB1 := hid (HBD.out.row1 f)
  have HF1 := hid (HFD.out.row (c := w.heap.size + 1) (by omega) (ba 8 f))
  have HL1 := hid (below_setRow HL.out.drew (b := w.heap.size + 1) (by omega) (ba 8 f))
  refine hK.out _ _ ⟨HB1.out.par, HF1.out.rangeF, HF1.out.rangeG⟩ (fun h1 => ?_)
  clear hK K
  generalize wr.drew.setRow (w.heap.size + 1) (ba 8 f) = w7 at *
  refine wpAnyH_ready (rs := [9]) (by kernel_rfl) (by simp) (AllReadyH.cons rfl (fun K hK => ?_) AllReadyH.nil)
  rw [if_pos (by rfl)]
  refine wp_store_row 25 _ _ rfl (w.heap.size + 1 + 1) (ba 8 g) rfl rfl 25 _ HB1.out.o2 info23' rfl (ba_one 8 g) ?_
  have HB2 := hid (HB1.out.row2 g)
  have HF2 := hid (HF1.out.row (c := w.heap.size + 1 + 1) (by omega) (ba 8 g))
  have HL2 := hid (below_setRow HL1.out (b := w.heap.size + 1 + 1) (by omega) (ba 8 g))
  refine hK.out _ _ ⟨HB2.out.par, HF2.out.rangeF, HF2.out.rangeG⟩ (fun h2 => ?_)
  clear hK K
  generalize w7.setRow (w.heap.size + 1 + 1) (ba 8 g) = w8 at *
  refine wpAnyH_done (by kernel_rfl) ?_ _
  refine NoPanic.normal ?_
  clear h0 h1 h2
  try simp only [Act.put, List.getElem_toArray, List.getElem_cons_zero, List.getElem_cons_succ, List.setIfInBounds_toArray, List.set_cons_zero, List.set_cons_succ]
  go_wp2
  exact ret_ba_ba rfl rfl Try.underlying25 info23 rfl Try.underlying25 info23 rfl HB2.out.o1 HB2.out.o2 ⟨rfl, HF2.out, HL2.out⟩

set_option maxHeartbeats 1600000 in
theorem both_first (b : Nat) (s : Int) (f g : Nat → Nat) (w : World) (hF : FAt w b 0 0 s f g) :
    Calls Try.prog 23 #[.pointer (some ⟨b, 0, none⟩)] w fun e w' => e = .returned (.tuple #[.agg (ba 8 inM), .agg (ba 8 (inv inM))]) ∧ FAt w' b 1 0 s inM (inv inM) ∧ Only b w w' := by
  have HBO := hid hF.lt
  have HF0 : Hid (FAt (((w.alloc (.cells #[.pointer (some ⟨b, 0, none⟩)] 32)).alloc (.cells #[.int .u8 0, .int .u8 0, .int .u8 0, .int .u8 0, .int .u8 0, .int .u8 0, .int .u8 0, .int .u8 0] 25)).alloc (.cells #[.int .u8 0, .int .u8 0, .int .u8 0, .int .u8 0, .int .u8 0, .int .u8 0, .int .u8 0, .int .u8 0] 25)) b 0 0 s f g) := hid (((hF.alloc _).alloc _).alloc _)
  have HB0 : Hid (Bth (.pointer (some ⟨b, 0, none⟩)) (fun _ => 0) (fun _ => 0) w (((w.alloc (.cells #[.pointer (some ⟨b, 0, none⟩)] 32)).alloc (.cells #[.int .u8 0, .int .u8 0, .int .u8 0, .int .u8 0, .int .u8 0, .int .u8 0, .int .u8 0, .int .u8 0] 25)).alloc (.cells #[.int .u8 0, .int .u8 0, .int .u8 0, .int .u8 0, .int .u8 0, .int .u8 0, .int .u8 0, .int .u8 0] 25))) := hid (Bth.start (.pointer (some ⟨b, 0, none⟩)) w)
  have HL0 : Hid (Only b w (((w.alloc (.cells #[.pointer (some ⟨b, 0, none⟩)] 32)).alloc (.cells #[.int .u8 0, .int .u8 0, .int .u8 0, .int .u8 0, .int .u8 0, .int .u8 0, .int .u8 0, .int .u8 0] 25)).alloc (.cells #[.int .u8 0, .int .u8 0, .int .u8 0, .int .u8 0, .int .u8 0, .int .u8 0, .int .u8 0, .int .u8 0] 25))) := hid (Only.of_below (both0_low (.pointer (some ⟨b, 0, none⟩)) w))
  have HD := hid (do_first b w.heap.size s f g _ HB0.out.par (Nat.ne_of_gt hF.lt) HF0.out)
  have hmf : ∀ (fn : Fn) (first cap : Array Value) (w : World), (Instr.makeFunc fn first cap).run Try.prog w = .ok (.func fn first cap) w := fun _ _ _ _ => rfl
  clear hF
  generalize inv inM = y at *
  generalize inM = x at *
  go_enter Try.func23, Try.ntmps23
  go_wp2_with (go_at_call 20; (with_reducible refine HD.out.mono ?_); rintro e wr ⟨rfl, hf, ho⟩; have HF := hid hf; have HB := hid (HB0.out.only ho HBO.out); have HL := hid (HL0.out.trans ho); clear hf ho)
  have HBD := hid HB.out.drew
  have HFD := hid HF.out.drew
  have hbo := HBO.out
  refine wp_region_noPanic ?_
  refine wp_region_held_drew (S := fun w' => w'.cell? ⟨w.heap.size, 0, none⟩ = some (.pointer (some ⟨b, 0, none⟩)) ∧ w'.rangeAt b 3 (ba 8 x).toList ∧ w'.rangeAt b 11 (ba 8 y).toList) (by kernel_rfl) ⟨HBD.out.par, HFD.out.rangeF, HFD.out.rangeG⟩ (fun h0 => ?_)
  refine wpAnyH_take (i := 0) (v := .pointer (some ⟨b, 0, none⟩)) rfl (by kernel_rfl) (by kernel_rfl) (by kernel_rfl) (fun _ _ _ h => h) (.inl ⟨by rfl, fun w hw => by obtain ⟨hw, _, _⟩ := hw; go_simp⟩) h0 ?_
  try simp only [Act.put, List.getElem_toArray, List.getElem_cons_zero, List.getElem_cons_succ, List.setIfInBounds_toArray, List.set_cons_zero, List.set_cons_succ]
  refine wpAnyH_take (i := 1) (v := .pointer (some ⟨b, 0, none⟩)) rfl (by kernel_rfl) (by kernel_rfl) (by kernel_rfl) (fun _ _ _ h => h) (.inl ⟨by rfl, fun w hw => by obtain ⟨hw, _, _⟩ := hw; go_simp⟩) h0 ?_
  try simp only [Act.put, List.getElem_toArray, List.getElem_cons_zero, List.getElem_cons_succ, List.setIfInBounds_toArray, List.set_cons_zero, List.set_cons_succ]
  refine wpAnyH_take (i := 2) (v := .pointer (some ⟨b, 3, none⟩)) rfl (by kernel_rfl) (by kernel_rfl) (by kernel_rfl) (fun _ _ _ h => h) (.inl ⟨by rfl, fun w hw => by obtain ⟨hw, _, _⟩ := hw; go_simp⟩) h0 ?_
  try simp only [Act.put, List.getElem_toArray, List.getElem_cons_zero, List.getElem_cons_succ, List.setIfInBounds_toArray, List.set_cons_zero, List.set_cons_succ]
  refine wpAnyH_take (i := 3) rfl (by kernel_rfl) (by kernel_rfl) (by kernel_rfl) (fun _ _ _ h => h) (yieldsIf_load_mid (by rfl) 25 _ rfl b 3 rfl (ba 8 x).toList _ (fun w h => h.2.1) Try.underlying25 rfl info23') h0 ?_
  try simp only [Act.put, List.getElem_toArray, List.getElem_cons_zero, List.getElem_cons_succ, List.setIfInBounds_toArray, List.set_cons_zero, List.set_cons_succ]
  refine wpAnyH_take (i := 4) (v := .pointer (some ⟨b, 0, none⟩)) rfl (by kernel_rfl) (by kernel_rfl) (by kernel_rfl) (fun _ _ _ h => h) (.inl ⟨by rfl, fun w hw => by obtain ⟨hw, _, _⟩ := hw; go_simp⟩) h0 ?_
  try simp only [Act.put, List.getElem_toArray, List.getElem_cons_zero, List.getElem_cons_succ, List.setIfInBounds_toArray, List.set_cons_zero, List.set_cons_succ]
  refine wpAnyH_take (i := 5) (v := .pointer (some ⟨b, 0, none⟩)) rfl (by kernel_rfl) (by kernel_rfl) (by kernel_rfl) (fun _ _ _ h => h) (.inl ⟨by rfl, fun w hw => by obtain ⟨hw, _, _⟩ := hw; go_simp⟩) h0 ?_
  try simp only [Act.put, List.getElem_toArray, List.getElem_cons_zero, List.getElem_cons_succ, List.setIfInBounds_toArray, List.set_cons_zero, List.set_cons_succ]
  refine wpAnyH_take (i := 6) (v := .pointer (some ⟨b, 11, none⟩)) rfl (by kernel_rfl) (by kernel_rfl) (by kernel_rfl) (fun _ _ _ h => h) (.inl ⟨by rfl, fun w hw => by obtain ⟨hw, _, _⟩ := hw; go_simp⟩) h0 ?_
  try simp only [Act.put, List.getElem_toArray, List.getElem_cons_zero, List.getElem_cons_succ, List.setIfInBounds_toArray, List.set_cons_zero, List.set_cons_succ]
  refine wpAnyH_take (i := 7) rfl (by kernel_rfl) (by kernel_rfl) (by kernel_rfl) (fun _ _ _ h => h) (yieldsIf_load_mid (by rfl) 25 _ rfl b 11 rfl (ba 8 y).toList _ (fun w h => h.2.2) Try.underlying25 rfl info23') h0 ?_
  try simp only [Act.put, List.getElem_toArray, List.getElem_cons_zero, List.getElem_cons_succ, List.setIfInBounds_toArray, List.set_cons_zero, List.set_cons_succ]
  refine wpAnyH_ready (rs := [8]) (by kernel_rfl) (by simp) (AllReadyH.cons rfl (fun K hK => ?_) AllReadyH.nil)
  rw [if_pos (by rfl)]
  refine wp_store_row 25 _ _ rfl (w.heap.size + 1) (ba 8 x) rfl rfl 25 _ HBD.out.o1 info23' rfl (ba_one 8 x) ?_
  have HB1 := hid (HBD.out.row1 x)
  have HF1 := hid (HFD.out.row (c := w.heap.size + 1) (by omega) (ba 8 x))
  have HL1 := hid (only_row HL.out.drew (c := w.heap.size + 1) (by omega) (ba 8 x))
  refine hK.out _ _ ⟨HB1.out.par, HF1.out.rangeF, HF1.out.rangeG⟩ (fun h1 => ?_)
  clear hK K
  generalize wr.drew.setRow (w.heap.size + 1) (ba 8 x) = w7 at *
  refine wpAnyH_ready (rs := [9]) (by kernel_rfl) (by simp) (AllReadyH.cons rfl (fun K hK => ?_) AllReadyH.nil)
  rw [if_pos (by rfl)]
  refine wp_store_row 25 _ _ rfl (w.heap.size + 1 + 1) (ba 8 y) rfl rfl 25 _ HB1.out.o2 info23' rfl (ba_one 8 y) ?_
  have HB2 := hid (HB1.out.row2 y)
  have HF2 := hid (HF1.out.row (c := w.heap.size + 1 + 1) (by omega) (ba 8 y))
  have HL2 := hid (only_row HL1.out (c := w.heap.size + 1 + 1) (by omega) (ba 8 y))
  refine hK.out _ _ ⟨HB2.out.par, HF2.out.rangeF, HF2.out.rangeG⟩ (fun h2 => ?_)
  clear hK K
  generalize w7.setRow (w.heap.size + 1 + 1) (ba 8 y) = w8 at *
  refine wpAnyH_done (by kernel_rfl) ?_ _
  refine NoPanic.normal ?_
  clear h0 h1 h2
  try simp only [Act.put, List.getElem_toArray, List.getElem_cons_zero, List.getElem_cons_succ, List.setIfInBounds_toArray, List.set_cons_zero, List.set_cons_succ]
  go_wp2
  exact ret_ba_ba rfl rfl Try.underlying25 info23 rfl Try.underlying25 info23 rfl HB2.out.o1 HB2.out.o2 ⟨rfl, HF2.out, HL2.out⟩
end Go.Proofs.Ytmggmjilgjogfaa
