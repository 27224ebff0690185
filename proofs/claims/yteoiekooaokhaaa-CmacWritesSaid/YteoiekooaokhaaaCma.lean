import Derived.Test.YteoiekooaokhaaaProg
import Derived.Test.YteoiekooaokhaaaCmm
import Derived.Test.YteoiekooaokhaaaKyy
/- Doubling as numbers; entered, Masks, cut, filled. -/
namespace Go.Proofs.Yteoiekooaokhaaa
open Go.RowKit
set_option maxRecDepth 100000

/-- 16 zeros, as the walk spells them. -/
abbrev z16 : Array Value := #[.int .u8 0, .int .u8 0, .int .u8 0, .int .u8 0, .int .u8 0, .int .u8 0, .int .u8 0, .int .u8 0, .int .u8 0, .int .u8 0, .int .u8 0, .int .u8 0, .int .u8 0, .int .u8 0, .int .u8 0, .int .u8 0]
theorem bx2_zero (w : World) (s : Nat → Nat) : Bx2 w ((w.alloc (.cells (ba 16 s) 39)).alloc (.cells z16 39)) s (fun _ => 0) := Bx2.start w s (fun _ => 0)
theorem double_ns (v : Value) (f : Nat → Nat) (w : World) (h : Rd .u8 w v (ns 16 f)) (hf : B16 f) :
    Calls Try.prog 26 #[v] w fun e w' => ∃ g c, e = .returned (.slice (some ⟨g, 0, none⟩) 16 c) ∧ Own .u8 w.heap.size 5 w' (.slice (some ⟨g, 0, none⟩) 16 c) (ns 16 (dbF f)) ∧ Below w.heap.size w w' := by
  refine (double_any v _ w h).mono ?_
  rintro e w' ⟨u, rfl, hown, hlow⟩
  rw [double_math (bs_ns hf), dbF_ns hf] at hown
  obtain ⟨g, c, rfl, _⟩ := hown.part (by rw [ns_len]; decide)
  rw [ns_len] at hown ⊢
  exact ⟨g, c, rfl, hown, hlow⟩
theorem refdouble_ns (v : Value) (f : Nat → Nat) (w : World) (h : Rd .u8 w v (ns 16 f)) (hf : B16 f) :
    Calls Try.prog 27 #[v] w fun e w' => ∃ g c, e = .returned (.slice (some ⟨g, 0, none⟩) 16 c) ∧ Own .u8 w.heap.size 5 w' (.slice (some ⟨g, 0, none⟩) 16 c) (ns 16 (dbF f)) ∧ Below w.heap.size w w' := by
  refine (refdouble_any v _ w h).mono ?_
  rintro e w' ⟨u, rfl, hown, hlow⟩
  rw [dbF_ns hf] at hown
  obtain ⟨g, c, rfl, _⟩ := hown.part (by rw [ns_len]; decide)
  rw [ns_len] at hown ⊢
  exact ⟨g, c, rfl, hown, hlow⟩
theorem xor_16 (v v' : Value) (x y : Nat → Nat) (w : World) (h : Rd .u8 w v (ns 16 x)) (h' : Rd .u8 w v' (ns 16 y)) (hx : B16 x) (hy : B16 y) :
    Calls Try.prog 48 #[v, v'] w fun e w' => ∃ g c, e = .returned (.slice (some ⟨g, 0, none⟩) 16 c) ∧ Own .u8 w.heap.size 5 w' (.slice (some ⟨g, 0, none⟩) 16 c) (ns 16 (xorF x y)) ∧ Below w.heap.size w w' := by
  refine (xor_ns v v' 16 x y w h h' hx hy).mono ?_
  rintro e w' ⟨u, rfl, hown, hlow⟩
  obtain ⟨g, c, rfl, _⟩ := hown.part (by rw [ns_len]; decide)
  rw [ns_len] at hown ⊢
  exact ⟨g, c, rfl, hown, hlow⟩
/-- A cipher that may be, at work. -/
structure Gc (w : World) (d b c cap R R1 : Nat) (Y : Nat → Nat → Nat) : Prop where
  num : R1 = R + 1 ∧ 0 < R ∧ R ≤ 1000
  ci : Ci w d b c cap R1 Y
section
variable {w w' : World} {d b c cap R R1 : Nat} {Y : Nat → Nat → Nat}
theorem Gc.yb (h : Gc w d b c cap R R1 Y) : YB Y R := fun r hr => h.ci.rows.byte r (by have := h.num; omega)
theorem Gc.self (h : Gc w d b c cap R R1 Y) (hb : Below w.heap.size w w') : Gc w' d b c cap R R1 Y := ⟨h.num, h.ci.self hb⟩
theorem Gc.drew (h : Gc w d b c cap R R1 Y) : Gc w.drew d b c cap R R1 Y := ⟨h.num, h.ci.drew⟩
theorem Gc.lt (h : Gc w d b c cap R R1 Y) : b < w.heap.size := h.ci.box.lt
end
theorem Gc.only {w w' : World} {d b c cap R R1 : Nat} {Y : Nat → Nat → Nat} (h : Gc w d b c cap R R1 Y) (o : Only b w w') (hB : Box w' b) : Gc w' d b c cap R R1 Y := ⟨h.num, h.ci.only o hB⟩
theorem Only.rowNew {b n : Nat} {w w' : World} (o : Only b w w') (hn : w.heap.size ≤ n) (cs : Array Value) : Only b w (w'.setRow n cs) :=
  ⟨o.os, o.tape, o.output, by simpa using o.size, fun j hj hn' => (setRow_other w' n j cs (by omega)).trans (o.block j hj hn')⟩
theorem Gc.row {w w' : World} {d b c cap R R1 n : Nat} {Y : Nat → Nat → Nat} (h : Gc w d b c cap R R1 Y) (h' : Gc w' d b c cap R R1 Y) (o : Only b w w') (hn : w.heap.size ≤ n) (cs : Array Value) : Gc (w'.setRow n cs) d b c cap R R1 Y ∧ Only b w (w'.setRow n cs) :=
  ⟨h.only (o.rowNew hn cs) (h'.ci.box.same (setRow_other w' n b cs (by have := h.lt; omega))), o.rowNew hn cs⟩
theorem gblock_any (d b c cap R R1 : Nat) (Y : Nat → Nat → Nat) (f : Nat → Nat) (w : World) (h : Gc w d b c cap R R1 Y) (hf : B16 f) :
    Calls Try.prog 19 #[.pointer (some ⟨d, 0, none⟩), .agg (ba 16 f)] w fun e w' => e = .returned (.agg (ba 16 (blkF Y R f))) ∧ Gc w' d b c cap R R1 Y ∧ Only b w w' := by
  refine (block_any d b c cap R R1 Y f w h.num.1 h.num.2.1 h.num.2.2 hf h.ci).mono ?_
  rintro e w' ⟨rfl, hc, ho⟩
  exact ⟨rfl, ⟨h.num, hc⟩, ho⟩

set_option maxHeartbeats 800000 in
theorem entered_any (d b c cap R R1 : Nat) (Y : Nat → Nat → Nat) (s β : Nat → Nat) (v : Value) (w : World) (h : Gc w d b c cap R R1 Y) (hs : B16 s) (hβ : B16 β) (hv : Rd .u8 w v (ns 16 β)) :
    Calls Try.prog 40 #[.pointer (some ⟨d, 0, none⟩), .agg (ba 16 s), v] w fun e w' => e = .returned (.agg (ba 16 (blkF Y R (xorF s β)))) ∧ Gc w' d b c cap R R1 Y ∧ Only b w w' := by
  have HX := hid (bx2_zero w s)
  have HG := hid (h.self HX.out.low)
  have HV := hid (hv.self HX.out.low)
  have HS := hid hs
  have HB := hid hβ
  have HXB := hid (xorF_16 hs hβ)
  obtain ⟨av, cv, rfl, -, -, -⟩ := hv
  rw [ns_len] at *
  have HR := hid ((Wd.of_at HX.out.key hs).rd 16 (by decide))
  have HW0 := hid HX.out.low
  have HLT := hid h.lt
  have HG0 := hid h
  clear h hs hβ
  go_enter Try.func40, Try.ntmps40
  go_wp2_with (first
    | (go_at_call 48; go_loud (with_reducible refine (xor_16 (.slice (some ⟨w.heap.size, 0, none⟩) 16 16) _ s β _ HR.out HV.out HS.out HB.out).mono ?_); rintro e w1 ⟨g, cx, rfl, hown, hlow⟩
       have HL1 := hid hlow
       have HW1 := hid (wd_own hown HXB.out)
       have HG1 := hid (HG.out.self hlow)
       have har := arr_at g cx w1
       clear hown hlow)
    | (refine step_load_ma rfl 39 (.tmp 11) rfl g 0 16 (xorF s β) 5 rfl HW1.out.1.range Try.underlying39 infoa ?_)
    | (go_at_call 19; (with_reducible refine (gblock_any d b c cap R R1 Y (xorF s β) _ HG1.out HXB.out).mono ?_); rintro e w2 ⟨rfl, hg2, ho⟩
       have HG2 := hid hg2
       have HO2 := hid ho
       have HA2 : Hid (At w2 (w.heap.size + 1) 16 39 (fun _ => 0)) := hid ((ho.block _ (by have := (HX.out.beg.self HL1.out).lt; omega) (by have := HLT.out; omega)).trans (HX.out.beg.self HL1.out))
       clear hg2 ho)
    | (refine step_store_ba rfl 39 (.tmp 6) (.tmp 13) rfl (w.heap.size + 1) 16 39 (fun _ => 0) _ rfl rfl HA2.out infoa ?_))
  exact ret_ba rfl rfl Try.underlying39 infoa rfl (HA2.out.row _) ⟨rfl, HG0.out.row HG2.out ((Only.of_below HW0.out).trans ((Only.of_below HL1.out).trans HO2.out)) (by omega) _⟩
end Go.Proofs.Yteoiekooaokhaaa
