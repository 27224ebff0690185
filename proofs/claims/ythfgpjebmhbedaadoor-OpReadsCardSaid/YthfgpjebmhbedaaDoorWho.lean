import Derived.Test.YthfgpjebmhbedaaDoorProg
import Derived.Test.YthfgpjebmhbedaaDoorPin
import Derived.Test.YthfgpjebmhbedaaDoorRwg
/- Op: the numbers that fields tell. -/
namespace Go.Proofs.YthfgpjebmhbedaaDoor
open Go.RowKit
set_option maxRecDepth 100000
/-- n numbers as an array's cells. -/
def iz (n : Nat) (z : Nat → Int) : Array Value := ((List.range n).map fun i => Value.int .i64 (z i)).toArray
def upz (z : Nat → Int) (j : Nat) (v : Int) : Nat → Int := fun i => if i = j then v else z i
theorem iz_size (n : Nat) (z : Nat → Int) : (iz n z).size = n := by simp [iz]
theorem iz_get {n : Nat} (z : Nat → Int) {i : Nat} (hi : i < n) : (iz n z)[i]? = some (.int .i64 (z i)) := by simp [iz, hi]
theorem iz_set {n : Nat} (z : Nat → Int) (j : Nat) (v : Int) : (iz n z).setIfInBounds j (.int .i64 v) = iz n (upz z j v) := by
  apply Array.ext_getElem?
  intro i
  rw [Array.getElem?_setIfInBounds, iz_size]
  by_cases hi : i < n
  · rw [iz_get _ hi, iz_get _ hi]
    by_cases e : j = i
    · subst e; rw [if_pos rfl, if_pos hi]; simp [upz]
    · rw [if_neg e]; simp [upz, Ne.symm e]
  · have h1 : (iz n z)[i]? = none := by simp [iz_size]; omega
    have h2 : (iz n (upz z j v))[i]? = none := by simp [iz_size]; omega
    rw [h1, h2]
    by_cases e : j = i
    · rw [if_pos e, if_neg (by omega)]
    · rw [if_neg e]
theorem iz_one (n : Nat) (z : Nat → Int) : (iz n z).all (·.oneCell') = true := by
  refine Array.all_eq_true_iff_forall_mem.2 (fun v hv => ?_)
  simp [iz] at hv
  obtain ⟨i, _, rfl⟩ := hv
  rfl
def Az (w : World) (b n : Nat) (t : TypeId) (z : Nat → Int) : Prop := w.heap[b]? = some (.cells (iz n z) t (0, 0))
theorem Az.set {w : World} {b n : Nat} {t : TypeId} {z : Nat → Int} (h : Az w b n t z) (j : Nat) (v : Int) : Az (w.setCell ⟨b, j, none⟩ (.int .i64 v)) b n t (upz z j v) := by
  unfold Az
  rw [heap_setCell_same w b j _ t _ h, iz_set]
theorem Az.self {w w' : World} {b n : Nat} {t : TypeId} {z : Nat → Int} (h : Az w b n t z) (hb : Below w.heap.size w w') : Az w' b n t z := (hb.block b (Array.getElem?_eq_some_iff.1 h).1).trans h
theorem Az.cell {w : World} {b n : Nat} {t : TypeId} {z : Nat → Int} (h : Az w b n t z) {j : Nat} (hj : j < n) : w.cell? ⟨b, j, none⟩ = some (.int .i64 (z j)) := by
  rw [cell_of_row w b j _ t (0, 0) h, iz_get z hj]
theorem Az.free {w : World} {b n : Nat} {t : TypeId} {z : Nat → Int} (h : Az w b n t z) (o : Nat) : w.frozen? ⟨b, o, none⟩ = false := frozen_of_row w b o _ t h
/-- Does a field tell a number that may be read? -/
def FdP (s : ByteArray) (z : Int) : Prop := Lib.parseIntB 64 s.data.toList = .ok z ∧ -4611686018427387904 ≤ z ∧ z ≤ 4611686018427387904
theorem below_row {w w' : World} {g : Nat} (h : Below w.heap.size w w') (hg : w.heap.size ≤ g) (cs : Array Value) : Below w.heap.size w (w'.setRow g cs) :=
  h.trans ⟨rfl, rfl, rfl, by simp [World.setRow], fun k hk => setRow_other w' g k cs (by omega)⟩
structure WI (w wr : World) (f : Nat → ByteArray) (j : Nat) (z : Nat → Int) : Prop where
  out : wr.heap[w.heap.size]? = some (.cells #[.int .i64 0, .int .i64 0, .int .i64 0, .int .i64 0] 29 (0, 0))
  row : Az wr (w.heap.size + 1) 4 29 z
  low : Below w.heap.size w wr
  all : ∀ k, k < j → FdP (f k) (z k)
theorem WI.start {w : World} {f : Nat → ByteArray} : WI w ((w.alloc (.cells #[.int .i64 0, .int .i64 0, .int .i64 0, .int .i64 0] 29)).alloc (.cells #[.int .i64 0, .int .i64 0, .int .i64 0, .int .i64 0] 29)) f 0 (fun _ => 0) := by
  refine ⟨?_, ?_, ((Below.refl _ w).alloc (Nat.le_refl _) _).alloc (by simp) _, fun k hk => by omega⟩
  · rw [heap_alloc_old _ _ (by simp)]; exact heap_alloc_new w _
  · have := heap_alloc_new (w.alloc (.cells #[.int .i64 0, .int .i64 0, .int .i64 0, .int .i64 0] 29)) (.cells #[.int .i64 0, .int .i64 0, .int .i64 0, .int .i64 0] 29)
    rw [show (w.alloc (.cells #[.int .i64 0, .int .i64 0, .int .i64 0, .int .i64 0] 29)).heap.size = w.heap.size + 1 by simp] at this
    exact this
theorem WI.on {w wr w' : World} {f : Nat → ByteArray} {j : Nat} {z : Nat → Int} (h : WI w wr f j z) (hb : Below wr.heap.size wr w') : WI w w' f j z :=
  ⟨(hb.block _ (Array.getElem?_eq_some_iff.1 h.out).1).trans h.out, h.row.self hb, h.low.trans (hb.mono h.low.size), h.all⟩
theorem WI.next {w wr : World} {f : Nat → ByteArray} {j : Nat} {z : Nat → Int} {v : Int} (h : WI w wr f j z) (hv : FdP (f j) v) : WI w (wr.setCell ⟨w.heap.size + 1, j, none⟩ (.int .i64 v)) f (j + 1) (upz z j v) := by
  refine ⟨?_, h.row.set j v, h.low.trans (Below.setCell (Below.refl _ _) (by simp) _), fun k hk => ?_⟩
  · rw [heap_setCell_other _ _ _ _ (by simp)]; exact h.out
  · by_cases e : k = j
    · subst e; simpa [upz] using hv
    · have := h.all k (by omega); simpa [upz, e] using this
set_option maxHeartbeats 6400000 in
theorem owhole_any (g off cap : Nat) (f : Nat → ByteArray) (w : World) (hc : ∀ j, j < 4 → w.cell? ⟨g, off + j, none⟩ = some (.string (f j))) (hs : ∀ j, j < 4 → (f j).size ≤ 1000) (hv : VP w) :
    Calls Tryd.prog 11 #[.slice (some ⟨g, off, none⟩) 4 cap] w fun e w' => ((∃ z : Nat → Int, (∀ j, j < 4 → FdP (f j) (z j)) ∧ e = .returned (.tuple #[.agg #[.int .i64 (z 0), .int .i64 (z 1), .int .i64 (z 2), .int .i64 (z 3)], .bool true])) ∨ ((¬ ∀ j, j < 4 → ∃ z, FdP (f j) z) ∧ e = .returned (.tuple #[.agg #[.int .i64 0, .int .i64 0, .int .i64 0, .int .i64 0], .bool false]))) ∧ Below w.heap.size w w' := by
  have HPy := hid (fun j (hj : j < 4) (w' : World) (hb : Below w.heap.size w w') z (hz : Lib.parseIntB 64 (f j).data.toList = .ok z) => pint_ok (f j) w' (hv.self hb) (hs j hj) hz)
  have HPn := hid (fun j (hj : j < 4) (w' : World) (hb : Below w.heap.size w w') (hz : ¬ ∃ z, Lib.parseIntB 64 (f j).data.toList = .ok z) => pint_no (f j) w' (hv.self hb) (hs j hj) hz)
  have HC := hid (fun j (hj : j < 4) (w' : World) (hb : Below w.heap.size w w') => cell_stays (hc j hj) hb)
  clear hc hs hv
  go_enter Tryd.func11, Tryd.ntmps11
  go_wp2
  go_loopw [11] (fun i wr => ∃ (j : Nat) (z : Nat → Int), j ≤ 4 ∧ i = .int .i64 j ∧ WI w wr f j z) (fun i _ => 4 - (intOf i).toNat)
  case atStart => exact ⟨0, fun _ => 0, by omega, rfl, WI.start⟩
  case round =>
    obtain ⟨j, z, hj, rfl, hw⟩ := hrel
    have HW := hid hw
    clear hw
    by_cases hlt : j < 4
    · have hcl := HC.out j hlt wr HW.out.low
      have j1 : (0 : Int) ≤ (j : Int) := by omega
      have j2 : (j : Int) < 4 := by omega
      by_cases hz : ∃ z, Lib.parseIntB 64 (f j).data.toList = .ok z
      · obtain ⟨v, hv⟩ := hz
        have HPj := hid (HPy.out j hlt wr HW.out.low v hv)
        have HV := hid hv
        clear hv
        by_cases h1 : v < -4611686018427387904
        · go_wp2_with (first | (go_at_call 21; (with_reducible refine (HPj.out).mono ?_); rintro e w1 ⟨rfl, hb⟩; have HW1 := hid (HW.out.on hb); clear hb) | (refine step_store_row rfl 29 _ _ rfl w.heap.size 29 #[.int .i64 0, .int .i64 0, .int .i64 0, .int .i64 0] #[.int .i64 0, .int .i64 0, .int .i64 0, .int .i64 0] rfl rfl HW1.out.out (by kernel_rfl) rfl (by kernel_rfl) ?_))
          exact ret_row_tmp (p := 2) (u := 3) rfl rfl (setRow_heap w1 _ _ _ _ _ HW1.out.out) Tryd.underlying29 rfl (by kernel_rfl) rfl ⟨.inr ⟨fun h => by obtain ⟨y, hy, y1, y2⟩ := h j hlt; rw [HV.out] at hy; injection hy with hy; omega, rfl⟩, below_row HW1.out.low (Nat.le_refl _) _⟩
        · by_cases h2 : 4611686018427387904 < v
          · go_wp2_with (first | (go_at_call 21; (with_reducible refine (HPj.out).mono ?_); rintro e w1 ⟨rfl, hb⟩; have HW1 := hid (HW.out.on hb); clear hb) | (refine step_store_row rfl 29 _ _ rfl w.heap.size 29 #[.int .i64 0, .int .i64 0, .int .i64 0, .int .i64 0] #[.int .i64 0, .int .i64 0, .int .i64 0, .int .i64 0] rfl rfl HW1.out.out (by kernel_rfl) rfl (by kernel_rfl) ?_))
            exact ret_row_tmp (p := 2) (u := 3) rfl rfl (setRow_heap w1 _ _ _ _ _ HW1.out.out) Tryd.underlying29 rfl (by kernel_rfl) rfl ⟨.inr ⟨fun h => by obtain ⟨y, hy, y1, y2⟩ := h j hlt; rw [HV.out] at hy; injection hy with hy; omega, rfl⟩, below_row HW1.out.low (Nat.le_refl _) _⟩
          · have h1' : decide (v < -4611686018427387904) = false := decide_eq_false h1
            have h2' : decide (4611686018427387904 < v) = false := decide_eq_false h2
            have HFd : Hid (FdP (f j) v) := hid ⟨HV.out, by omega, by omega⟩
            clear h1 h2
            go_wp2_with (first | (go_at_call 21; (with_reducible refine (HPj.out).mono ?_); rintro e w1 ⟨rfl, hb⟩; have HW1 := hid (HW.out.on hb); have hcj := HW1.out.row.cell hlt; have hfj := HW1.out.row.free j; clear hb))
            go_roundw
            case rel => exact ⟨j + 1, _, by omega, by go_num, HW1.out.next HFd.out⟩
            case measure => simp [intOf]; omega
      · have HPj := hid (HPn.out j hlt wr HW.out.low hz)
        have HZ := hid hz
        clear hz
        go_wp2_with (first | (go_at_call 21; (with_reducible refine (HPj.out).mono ?_); rintro e w1 ⟨z2, N, rfl, hb⟩; have HW1 := hid (HW.out.on hb); clear hb) | (refine step_store_row rfl 29 _ _ rfl w.heap.size 29 #[.int .i64 0, .int .i64 0, .int .i64 0, .int .i64 0] #[.int .i64 0, .int .i64 0, .int .i64 0, .int .i64 0] rfl rfl HW1.out.out (by kernel_rfl) rfl (by kernel_rfl) ?_))
        exact ret_row_tmp (p := 2) (u := 3) rfl rfl (setRow_heap w1 _ _ _ _ _ HW1.out.out) Tryd.underlying29 rfl (by kernel_rfl) rfl ⟨.inr ⟨fun h => by obtain ⟨y, hy, _⟩ := h j hlt; exact HZ.out ⟨y, hy⟩, rfl⟩, below_row HW1.out.low (Nat.le_refl _) _⟩
    · obtain rfl : j = 4 := by omega
      go_wp2_with (first
        | (refine wpList_load_row rfl 29 _ rfl (w.heap.size + 1) rfl 29 (iz 4 z) (0, 0) _ HW.out.row Tryd.underlying29 rfl (by kernel_rfl) ?_)
        | (refine step_store_row rfl 29 _ _ rfl w.heap.size 29 #[.int .i64 0, .int .i64 0, .int .i64 0, .int .i64 0] (iz 4 z) rfl rfl HW.out.out (by kernel_rfl) rfl (iz_one 4 z) ?_))
      exact ret_row_tmp (p := 2) (u := 3) rfl rfl (setRow_heap wr _ _ _ _ _ HW.out.out) Tryd.underlying29 rfl (by kernel_rfl) rfl ⟨.inl ⟨z, HW.out.all, rfl⟩, below_row HW.out.low (Nat.le_refl _) _⟩
end Go.Proofs.YthfgpjebmhbedaaDoor
