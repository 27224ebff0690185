import Derived.Test.YthfgpjebmhbedaaDoorProg
import Derived.Test.YthfgpjebmhbedaaDoorFds
/- Op: Parse: what it tells. -/
namespace Go.Proofs.YthfgpjebmhbedaaDoor
open Go.RowKit
set_option maxRecDepth 100000
abbrev o0C : Array Value := #[.int .i64 0, .int .i64 0, .int .i64 0, .int .i64 0, .int .i64 0, .int .u64 0]
/-- The result's block, and the fields'. -/
structure PB (w wr : World) (F : List ByteArray) (N : Nat) : Prop where
  out : wr.heap[w.heap.size]? = some (.cells o0C 24 (0, 0))
  fds : wr.heap[w.heap.size + 1]? = some (.cells (Lib.cellsOf F N) 9 (0, 0))
  low : Below w.heap.size w wr
theorem PB.start {w : World} {F : List ByteArray} {N : Nat} : PB w ((w.alloc (.cells o0C 24)).alloc (.cells (Lib.cellsOf F N) 9)) F N := by
  refine ⟨?_, ?_, ((Below.refl _ w).alloc (Nat.le_refl _) _).alloc (by simp) _⟩
  · rw [heap_alloc_old _ _ (by simp)]; exact heap_alloc_new w _
  · have := heap_alloc_new (w.alloc (.cells o0C 24)) (.cells (Lib.cellsOf F N) 9)
    rw [show (w.alloc (.cells o0C 24)).heap.size = w.heap.size + 1 by simp] at this
    exact this
theorem PB.on {w wr w' : World} {F : List ByteArray} {N : Nat} (h : PB w wr F N) (hb : Below wr.heap.size wr w') : PB w w' F N :=
  ⟨(hb.block _ (Array.getElem?_eq_some_iff.1 h.out).1).trans h.out, (hb.block _ (Array.getElem?_eq_some_iff.1 h.fds).1).trans h.fds, h.low.trans (hb.mono h.low.size)⟩
theorem PB.field {w wr : World} {F : List ByteArray} {N : Nat} (h : PB w wr F N) (j : Nat) (f : ByteArray) (hf : F[j]? = some f) : wr.cell? ⟨w.heap.size + 1, j, none⟩ = some (.string f) := by
  rw [cell_of_row wr _ j _ _ _ h.fds]
  exact cells_get F N j f hf
theorem PB.no {w wr : World} {F : List ByteArray} {N : Nat} (h : PB w wr F N) (s : ByteArray) (hn : ∀ o, mayP o → sB (lnL o) ≠ s) : ParP s w (.returned (.tuple #[.agg o0C, .bool false])) (wr.setRow w.heap.size o0C) :=
  ⟨.inr ⟨hn, rfl⟩, below_row h.low (Nat.le_refl _) _⟩
theorem PB.row {w wr : World} {F : List ByteArray} {N : Nat} (h : PB w wr F N) (cs : Array Value) : (wr.setRow w.heap.size cs).heap[w.heap.size]? = some (.cells cs 24 (0, 0)) := setRow_heap wr _ _ cs _ _ h.out
theorem split7 (s : ByteArray) (w : World) (hv : VP w) (hs : s.size ≤ 1000) : Calls Tryd.prog 9 #[.string s, .string ⟨#[32]⟩, .int .i64 7] (w.alloc (.cells o0C 24)) fun e w' =>
    e = .returned (.slice (some ⟨w.heap.size + 1, 0, none⟩) (fdL s).length (min 7 (s.size + 1))) ∧ PB w w' (fdL s) (min 7 (s.size + 1)) := by
  obtain ⟨m, hm⟩ := (hv.self ((Below.refl _ w).alloc (Nat.le_refl _) (.cells o0C 24))).len
  refine (Tryd.strings_SplitN s ⟨#[32]⟩ 7 m (w.alloc (.cells o0C 24)) (by omega) hm (by decide) (by decide) (by decide)).mono ?_
  rintro e w' ⟨rfl, rfl⟩
  rw [show (w.alloc (.cells o0C 24)).heap.size = w.heap.size + 1 by simp]
  exact ⟨rfl, PB.start⟩
set_option maxHeartbeats 3200000 in
theorem oparse_few (s : ByteArray) (w : World) (hv : VP w) (hs : s.size ≤ 1000) (h6 : (fdL s).length ≠ 6) (hn : ∀ o, mayP o → sB (lnL o) ≠ s) : Calls Tryd.prog 5 #[.string s] w (ParP s w) := by
  have HS := hid (split7 s w hv hs)
  have hl := fd_len s
  generalize fdL s = F at *
  generalize hm : min 7 (s.size + 1) = M at *
  generalize hL : F.length = L at *
  have g6 : (((L : Nat) : Int) != 6) = true := by simp; omega
  have Hn := hid hn
  clear hn hs hv hl hm h6
  go_enter Tryd.func5, Tryd.ntmps5
  go_wp2_with (first
    | (go_at_call 9; (with_reducible refine (HS.out).mono ?_); rintro e w1 ⟨rfl, hp⟩; have HP := hid hp; clear hp)
    | (refine step_store_row rfl 24 _ _ rfl w.heap.size 24 o0C o0C rfl rfl HP.out.out (by kernel_rfl) rfl (by kernel_rfl) ?_))
  exact ret_row_tmp (p := 2) (u := 3) rfl rfl (HP.out.row _) Tryd.underlying24 rfl (by kernel_rfl) rfl (HP.out.no s Hn.out)
end Go.Proofs.YthfgpjebmhbedaaDoor
