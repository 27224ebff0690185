import Derived.Test.YtmggmjilgjogfaaProg
import Derived.Test.YtmggmjilgjogfaaTwf
import Derived.Test.YtmggmjilgjogfaaLid
import Derived.Deep.MidRow
namespace Go.Proofs.Ytmggmjilgjogfaa
open Go.RowKit

/-- A field's nineteen cells: done, the lock's two words, both matrices. -/
def fcs (d m s : Int) (f g : Nat → Nat) : Array Value :=
  #[.int .u32 d, .int .i32 m, .int .u32 s, .int .u8 (f 0), .int .u8 (f 1), .int .u8 (f 2), .int .u8 (f 3), .int .u8 (f 4), .int .u8 (f 5), .int .u8 (f 6), .int .u8 (f 7),
    .int .u8 (g 0), .int .u8 (g 1), .int .u8 (g 2), .int .u8 (g 3), .int .u8 (g 4), .int .u8 (g 5), .int .u8 (g 6), .int .u8 (g 7)]
def FAt (w : World) (b : Nat) (d m s : Int) (f g : Nat → Nat) : Prop := w.heap[b]? = some (.cells (fcs d m s f g) 56 (0, 0))
theorem FAt.lt {w : World} {b : Nat} {d m s : Int} {f g : Nat → Nat} (h : FAt w b d m s f g) : b < w.heap.size := (Array.getElem?_eq_some_iff.1 h).1
theorem FAt.free {w : World} {b : Nat} {d m s : Int} {f g : Nat → Nat} (h : FAt w b d m s f g) (o : Nat) : w.frozen? ⟨b, o, none⟩ = false := frozen_of_row w b o _ 56 h
theorem FAt.c0 {w : World} {b : Nat} {d m s : Int} {f g : Nat → Nat} (h : FAt w b d m s f g) : w.cell? ⟨b, 0, none⟩ = some (.int .u32 d) := by
  unfold FAt at h; simp [World.cell?, h, fcs]
theorem FAt.c1 {w : World} {b : Nat} {d m s : Int} {f g : Nat → Nat} (h : FAt w b d m s f g) : w.cell? ⟨b, 1, none⟩ = some (.int .i32 m) := by
  unfold FAt at h; simp [World.cell?, h, fcs]
theorem FAt.rangeF {w : World} {b : Nat} {d m s : Int} {f g : Nat → Nat} (h : FAt w b d m s f g) : w.rangeAt b 3 (ba 8 f).toList := World.rangeAt_of_block h 3 8
theorem FAt.rangeG {w : World} {b : Nat} {d m s : Int} {f g : Nat → Nat} (h : FAt w b d m s f g) : w.rangeAt b 11 (ba 8 g).toList := World.rangeAt_of_block h 11 8
theorem ba8_size (f : Nat → Nat) : (ba 8 f).toList.length = 8 := rfl
theorem FAt.thereF {w : World} {b : Nat} {d m s : Int} {f g : Nat → Nat} (h : FAt w b d m s f g) : w.there b 3 8 := fun j hj => ⟨h.rangeF.isSome j hj, h.free _⟩
theorem FAt.thereG {w : World} {b : Nat} {d m s : Int} {f g : Nat → Nat} (h : FAt w b d m s f g) : w.there b 11 8 := fun j hj => ⟨h.rangeG.isSome j hj, h.free _⟩
theorem FAt.set0 {w : World} {b : Nat} {d m s : Int} {f g : Nat → Nat} (h : FAt w b d m s f g) (d' : Int) : FAt (w.setCell ⟨b, 0, none⟩ (.int .u32 d')) b d' m s f g := heap_setCell_same w b 0 _ 56 _ h
theorem FAt.set1 {w : World} {b : Nat} {d m s : Int} {f g : Nat → Nat} (h : FAt w b d m s f g) (m' : Int) : FAt (w.setCell ⟨b, 1, none⟩ (.int .i32 m')) b d m' s f g := heap_setCell_same w b 1 _ 56 _ h
theorem FAt.setF {w : World} {b : Nat} {d m s : Int} {f g : Nat → Nat} (h : FAt w b d m s f g) (f' : Nat → Nat) : FAt (w.setCells b 3 (ba 8 f').toList) b d m s f' g := by
  have e : (ba 8 f').toList = [.int .u8 (f' 0), .int .u8 (f' 1), .int .u8 (f' 2), .int .u8 (f' 3), .int .u8 (f' 4), .int .u8 (f' 5), .int .u8 (f' 6), .int .u8 (f' 7)] := rfl
  rw [e]
  simp only [World.setCells]
  unfold FAt at h ⊢
  have h0 := heap_setCell_same _ b 3 _ 56 (.int .u8 (f' 0)) h
  have h1 := heap_setCell_same _ b 4 _ 56 (.int .u8 (f' 1)) h0
  have h2 := heap_setCell_same _ b 5 _ 56 (.int .u8 (f' 2)) h1
  have h3 := heap_setCell_same _ b 6 _ 56 (.int .u8 (f' 3)) h2
  have h4 := heap_setCell_same _ b 7 _ 56 (.int .u8 (f' 4)) h3
  have h5 := heap_setCell_same _ b 8 _ 56 (.int .u8 (f' 5)) h4
  have h6 := heap_setCell_same _ b 9 _ 56 (.int .u8 (f' 6)) h5
  have h7 := heap_setCell_same _ b 10 _ 56 (.int .u8 (f' 7)) h6
  rw [h7]
  simp [fcs]
theorem FAt.setG {w : World} {b : Nat} {d m s : Int} {f g : Nat → Nat} (h : FAt w b d m s f g) (g' : Nat → Nat) : FAt (w.setCells b 11 (ba 8 g').toList) b d m s f g' := by
  have e : (ba 8 g').toList = [.int .u8 (g' 0), .int .u8 (g' 1), .int .u8 (g' 2), .int .u8 (g' 3), .int .u8 (g' 4), .int .u8 (g' 5), .int .u8 (g' 6), .int .u8 (g' 7)] := rfl
  rw [e]
  simp only [World.setCells]
  unfold FAt at h ⊢
  have h0 := heap_setCell_same _ b 11 _ 56 (.int .u8 (g' 0)) h
  have h1 := heap_setCell_same _ b 12 _ 56 (.int .u8 (g' 1)) h0
  have h2 := heap_setCell_same _ b 13 _ 56 (.int .u8 (g' 2)) h1
  have h3 := heap_setCell_same _ b 14 _ 56 (.int .u8 (g' 3)) h2
  have h4 := heap_setCell_same _ b 15 _ 56 (.int .u8 (g' 4)) h3
  have h5 := heap_setCell_same _ b 16 _ 56 (.int .u8 (g' 5)) h4
  have h6 := heap_setCell_same _ b 17 _ 56 (.int .u8 (g' 6)) h5
  have h7 := heap_setCell_same _ b 18 _ 56 (.int .u8 (g' 7)) h6
  rw [h7]
  simp [fcs]
theorem only_setCells (b : Nat) : ∀ (vs : List Value) (o : Nat) (w : World), Only b w (w.setCells b o vs)
  | [], _, w => Only.refl b w
  | v :: r, o, w => (Only.set w (p := ⟨b, o, none⟩) rfl v).trans (only_setCells b r (o + 1) _)
theorem FAt.below {w w' : World} {b B : Nat} {d m s : Int} {f g : Nat → Nat} (h : FAt w b d m s f g) (hb : Below B w w') (hB : b < B) : FAt w' b d m s f g := (hb.block b hB).trans h
theorem FAt.self {w w' : World} {b : Nat} {d m s : Int} {f g : Nat → Nat} (h : FAt w b d m s f g) (hb : Below w.heap.size w w') : FAt w' b d m s f g := h.below hb h.lt
theorem FAt.drew {w : World} {b : Nat} {d m s : Int} {f g : Nat → Nat} (h : FAt w b d m s f g) : FAt w.drew b d m s f g := h
theorem FAt.only {w w' : World} {b c : Nat} {d m s : Int} {f g : Nat → Nat} (h : FAt w b d m s f g) (o : Only c w w') (hc : b ≠ c) : FAt w' b d m s f g := (o.block b h.lt hc).trans h
theorem FAt.alloc {w : World} {b : Nat} {d m s : Int} {f g : Nat → Nat} (h : FAt w b d m s f g) (o : Obj) : FAt (w.alloc o) b d m s f g := (heap_alloc_old w o h.lt).trans h

theorem lt_of_cell {w : World} {p : Addr} {v : Value} (h : w.cell? p = some v) : p.block < w.heap.size := by
  by_cases e : p.block < w.heap.size
  · exact e
  · have : w.heap[p.block]? = none := by simp; omega
    simp [World.cell?, this] at h

set_option maxHeartbeats 1600000 in
theorem closure_any (b p : Nat) (d m s : Int) (f g : Nat → Nat) (w : World) (hp : w.cell? ⟨p, 0, none⟩ = some (.pointer (some ⟨b, 0, none⟩))) (hpb : p ≠ b) (hF : FAt w b d m s f g) :
    Calls Try.prog 32 #[.pointer (some ⟨p, 0, none⟩)] w fun e w' => e = .returned (.tuple #[]) ∧ FAt w' b d m s inM (inv inM) ∧ Only b w w' := by
  have HM := hid matrices_any
  generalize inv inM = y at *
  generalize inM = x at *
  go_enter Try.func32, Try.ntmps32
  go_wp2
  have hlt := hF.lt
  have hplt : p < w.heap.size := lt_of_cell hp
  have HF := hid hF.drew
  refine wp_region_noPanic ?_
  refine wp_region_held_drew (S := fun w' => w'.cell? ⟨p, 0, none⟩ = some (.pointer (some ⟨b, 0, none⟩))) (by kernel_rfl) hp (fun h0 => ?_)
  refine wpAnyH_take (i := 0) (v := .pointer (some ⟨b, 0, none⟩)) rfl (by kernel_rfl) (by kernel_rfl) (by kernel_rfl) (fun _ _ _ h => h) (.inl ⟨by rfl, fun w hw => by go_simp⟩) h0 ?_
  try simp only [Act.put, List.getElem_toArray, List.getElem_cons_zero, List.getElem_cons_succ, List.setIfInBounds_toArray, List.set_cons_zero, List.set_cons_succ]
  refine wpAnyH_take (i := 1) (v := .pointer (some ⟨b, 0, none⟩)) rfl (by kernel_rfl) (by kernel_rfl) (by kernel_rfl) (fun _ _ _ h => h) (.inl ⟨by rfl, fun w hw => by go_simp⟩) h0 ?_
  try simp only [Act.put, List.getElem_toArray, List.getElem_cons_zero, List.getElem_cons_succ, List.setIfInBounds_toArray, List.set_cons_zero, List.set_cons_succ]
  refine wpAnyH_ready (rs := [2]) (by kernel_rfl) (by simp) (AllReadyH.cons rfl (fun K hK => ?_) AllReadyH.nil)
  go_simp
  go_at_call 31
  (with_reducible refine (HM.out _).mono ?_); rintro e w1 ⟨rfl, hlow⟩
  have HF1 := hid (HF.out.self hlow)
  have HO1 := hid ((Only.drew (Only.refl b w)).trans (Only.of_below hlow))
  have hc1 : w1.cell? ⟨p, 0, none⟩ = some (.pointer (some ⟨b, 0, none⟩)) := (hlow.cell (p := ⟨p, 0, none⟩) hplt).trans h0
  refine hK.out _ _ hc1 (fun h1 => ?_)
  clear hK K hlow
  try simp only [Act.put, List.getElem_toArray, List.getElem_cons_zero, List.getElem_cons_succ, List.setIfInBounds_toArray, List.set_cons_zero, List.set_cons_succ]
  refine wpAnyH_take (i := 3) (v := .tuple #[.agg (ba 8 x), .agg (ba 8 y)]) rfl (by kernel_rfl) (by kernel_rfl) (by kernel_rfl) (fun _ _ _ h => h) (.inl ⟨by rfl, fun w hw => by go_simp⟩) h1 ?_
  try simp only [Act.put, List.getElem_toArray, List.getElem_cons_zero, List.getElem_cons_succ, List.setIfInBounds_toArray, List.set_cons_zero, List.set_cons_succ]
  refine wpAnyH_take (i := 4) (v := .agg (ba 8 x)) rfl (by kernel_rfl) (by kernel_rfl) (by kernel_rfl) (fun _ _ _ h => h) (.inl ⟨by rfl, fun w hw => by go_simp⟩) h1 ?_
  try simp only [Act.put, List.getElem_toArray, List.getElem_cons_zero, List.getElem_cons_succ, List.setIfInBounds_toArray, List.set_cons_zero, List.set_cons_succ]
  refine wpAnyH_take (i := 5) (v := .agg (ba 8 y)) rfl (by kernel_rfl) (by kernel_rfl) (by kernel_rfl) (fun _ _ _ h => h) (.inl ⟨by rfl, fun w hw => by go_simp⟩) h1 ?_
  try simp only [Act.put, List.getElem_toArray, List.getElem_cons_zero, List.getElem_cons_succ, List.setIfInBounds_toArray, List.set_cons_zero, List.set_cons_succ]
  refine wpAnyH_take (i := 6) (v := .pointer (some ⟨b, 0, none⟩)) rfl (by kernel_rfl) (by kernel_rfl) (by kernel_rfl) (fun _ _ _ h => h) (.inl ⟨by rfl, fun w hw => by go_simp⟩) h1 ?_
  try simp only [Act.put, List.getElem_toArray, List.getElem_cons_zero, List.getElem_cons_succ, List.setIfInBounds_toArray, List.set_cons_zero, List.set_cons_succ]
  refine wpAnyH_take (i := 7) (v := .pointer (some ⟨b, 3, none⟩)) rfl (by kernel_rfl) (by kernel_rfl) (by kernel_rfl) (fun _ _ _ h => h) (.inl ⟨by rfl, fun w hw => by go_simp⟩) h1 ?_
  try simp only [Act.put, List.getElem_toArray, List.getElem_cons_zero, List.getElem_cons_succ, List.setIfInBounds_toArray, List.set_cons_zero, List.set_cons_succ]
  refine wpAnyH_ready (rs := [8]) (by kernel_rfl) (by simp) (AllReadyH.cons rfl (fun K hK => ?_) AllReadyH.nil)
  rw [if_pos (by rfl)]
  refine wp_store_mid 25 _ _ rfl b 3 (ba 8 x) rfl rfl HF1.out.thereF info23' (ba_one 8 x) ?_
  refine hK.out _ _ (((only_setCells b _ 3 w1).cell (p := ⟨p, 0, none⟩) (lt_of_cell h1) hpb).trans h1) (fun h2 => ?_)
  clear hK K
  have HF2 := hid (HF1.out.setF x)
  have HO2 := hid (HO1.out.trans (only_setCells b (ba 8 x).toList 3 w1))
  generalize w1.setCells b 3 (ba 8 x).toList = w2 at *
  try simp only [Act.put, List.getElem_toArray, List.getElem_cons_zero, List.getElem_cons_succ, List.setIfInBounds_toArray, List.set_cons_zero, List.set_cons_succ]
  refine wpAnyH_take (i := 9) (v := .pointer (some ⟨b, 0, none⟩)) rfl (by kernel_rfl) (by kernel_rfl) (by kernel_rfl) (fun _ _ _ h => h) (.inl ⟨by rfl, fun w hw => by go_simp⟩) h2 ?_
  try simp only [Act.put, List.getElem_toArray, List.getElem_cons_zero, List.getElem_cons_succ, List.setIfInBounds_toArray, List.set_cons_zero, List.set_cons_succ]
  refine wpAnyH_take (i := 10) (v := .pointer (some ⟨b, 11, none⟩)) rfl (by kernel_rfl) (by kernel_rfl) (by kernel_rfl) (fun _ _ _ h => h) (.inl ⟨by rfl, fun w hw => by go_simp⟩) h2 ?_
  try simp only [Act.put, List.getElem_toArray, List.getElem_cons_zero, List.getElem_cons_succ, List.setIfInBounds_toArray, List.set_cons_zero, List.set_cons_succ]
  refine wpAnyH_ready (rs := [11]) (by kernel_rfl) (by simp) (AllReadyH.cons rfl (fun K hK => ?_) AllReadyH.nil)
  rw [if_pos (by rfl)]
  refine wp_store_mid 25 _ _ rfl b 11 (ba 8 y) rfl rfl HF2.out.thereG info23' (ba_one 8 y) ?_
  refine hK.out _ _ (((only_setCells b (ba 8 y).toList 11 w2).cell (p := ⟨p, 0, none⟩) (lt_of_cell h2) hpb).trans h2) (fun h3 => ?_)
  clear hK K
  have HF3 := hid (HF2.out.setG y)
  have HO3 := hid (HO2.out.trans (only_setCells b (ba 8 y).toList 11 w2))
  generalize w2.setCells b 11 (ba 8 y).toList = w3 at *
  refine wpAnyH_done (by kernel_rfl) ?_ _
  refine NoPanic.normal ?_
  clear h0 h1 h2 h3
  try simp only [Act.put, List.getElem_toArray, List.getElem_cons_zero, List.getElem_cons_succ, List.setIfInBounds_toArray, List.set_cons_zero, List.set_cons_succ]
  go_wp2
  go_end0
  exact ⟨rfl, HF3.out, HO3.out⟩
end Go.Proofs.Ytmggmjilgjogfaa
