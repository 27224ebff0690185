import Derived.Test.YtpjgpiieminaoaaDoorProg
import Derived.Test.YtpjgpiieminaoaaDoorOrw
import Derived.Test.YtpjgpiieminaoaaDoorWdg
import Derived.Test.YtpjgpiieminaoaaDoorWma
import Derived.Test.YtpjgpiieminaoaaDoorOro
/- Wire: the program's machine. -/
namespace Go.Proofs.YtpjgpiieminaoaaDoor
open Go.RowKit
set_option maxRecDepth 100000
/-- Where an open block began; 0 of none. -/
def Ms.frc (S : Ms) : Nat := if S.kind = 0 then 0 else S.fr
/-- The program's machine's cells. -/
def pmC (S : Ms) (tv ov vv bv : Value) : Array Value :=
  #[.int .i64 S.n, tv, .int .i64 S.most, .bool S.dry, .int .i64 (S.len : Int), .int .i64 (S.draws : Int), .int .u64 (S.words : Int), ov, vv, bv, .int .i64 S.kind, .int .i64 (S.frc : Int), .int .i64 0, .int .i64 (S.e : Int)]
/-- How many are kept: nothing by a dry machine. -/
def kpL (S : Ms) (n : Nat) : Nat := if S.dry = true then 0 else n
/-- The program's machine in block b: the cells tell the numbers A, the slices oc, vc; rows ov, vv of LO ops and LV words. -/
structure Pr (w : World) (b : Nat) (A S : Ms) (LO LV : Nat) (tv oc vc bv ov vv : Value) (lo hi : Nat) : Prop where
  blk : w.heap[b]? = some (.cells (pmC A tv oc vc bv) 71 (0, 0))
  hn : A.n = 2 ∨ A.n = 3
  ops : Orw w 0 52 6 ov LO (fun i => (opCs (S.f i)).toList)
  val : Orw w 0 22 1 vv LV (fun i => [.int .u64 (S.v i : Int)])
  bls : Orw w 0 69 3 bv (kpL S S.M) (fun i => (spCs (S.g i)).toList)
  hob : ov.ownBlock ≠ some b
  hbb : bv.ownBlock ≠ some b
  hvb : vv.ownBlock ≠ some b
  hobv : ∀ k, ov.ownBlock = some k → bv.ownBlock ≠ some k
  hov : ∀ k, ov.ownBlock = some k → vv.ownBlock ≠ some k
  hbv : ∀ k, bv.ownBlock = some k → vv.ownBlock ≠ some k
  wet : S.dry = false → ∃ q, tv = .pointer (some ⟨q, 0, none⟩) ∧ TapeAt w lo hi q (wdL S.tw S.TN) S.used (S.used + S.free)
  dr : S.dry = true → tv = .pointer none
  apart : ∀ k, Ft b ov bv vv k → ¬ (lo ≤ k ∧ k < hi)
  his : hi ≤ w.heap.size
abbrev Pq (w : World) (b : Nat) (S : Ms) (tv ov vv bv : Value) (lo hi : Nat) : Prop := Pr w b S S (kpL S S.L) (kpL S S.L) tv ov vv bv ov vv lo hi
/-- What it owns. -/
def Fz (b : Nat) (ov bv vv : Value) (lo hi : Nat) (k : Nat) : Prop := Ft b ov bv vv k ∨ (lo ≤ k ∧ k < hi)
def Pm (w : World) (b : Nat) (S : Ms) (F : Nat → Prop) : Prop := ∃ tv ov vv bv lo hi, Pq w b S tv ov vv bv lo hi ∧ F = Fz b ov bv vv lo hi
section
variable {b LO LV lo hi : Nat} {w w' : World} {A S A' S' : Ms} {tv oc vc bv ov vv : Value}
theorem Pr.lt (h : Pr w b A S LO LV tv oc vc bv ov vv lo hi) : b < w.heap.size := (Array.getElem?_eq_some_iff.1 h.blk).1
theorem Pr.ftlt (h : Pr w b A S LO LV tv oc vc bv ov vv lo hi) {k : Nat} (hk : Fz b ov bv vv lo hi k) : k < w.heap.size := by
  rcases hk with (rfl | e | e | e) | e
  · exact h.lt
  · exact (h.ops.lt k e).2
  · exact (h.bls.lt k e).2
  · exact (h.val.lt k e).2
  · have := h.his; omega
theorem TapeAt.stays {q : Nat} {zs : List Int} {d e : Nat} (h : TapeAt w lo hi q zs d e) (hs : w.heap.size ≤ w'.heap.size) (o : ∀ k, lo ≤ k → k < hi → w'.heap[k]? = w.heap[k]?) : TapeAt w' lo hi q zs d e := by
  obtain ⟨wv, hb, hr, h3, h4, h5, h6, h7⟩ := h
  exact ⟨wv, (o q h5 h6).trans hb, rds_stays hr hs (fun g hg _ => o g hg.1 hg.2.1), h3, h4, h5, h6, Nat.le_trans h7 hs⟩
theorem Pr.stays (h : Pr w b A S LO LV tv oc vc bv ov vv lo hi) (hs : w.heap.size ≤ w'.heap.size) (ho : ∀ k, Fz b ov bv vv lo hi k → w'.heap[k]? = w.heap[k]?) : Pr w' b A S LO LV tv oc vc bv ov vv lo hi :=
  ⟨(ho b (.inl (.inl rfl))).trans h.blk, h.hn, h.ops.stays fun k hk => ho k (.inl (.inr (.inl hk))), h.val.stays fun k hk => ho k (.inl (.inr (.inr (.inr hk)))), h.bls.stays fun k hk => ho k (.inl (.inr (.inr (.inl hk)))),
   h.hob, h.hbb, h.hvb, h.hobv, h.hov, h.hbv, fun e => by
    obtain ⟨q, e1, e2⟩ := h.wet e
    exact ⟨q, e1, e2.stays hs (fun k h1 h2 => ho k (.inr ⟨h1, h2⟩))⟩, h.dr, h.apart, Nat.le_trans h.his hs⟩
theorem Pr.self (h : Pr w b A S LO LV tv oc vc bv ov vv lo hi) (hb : Below w.heap.size w w') : Pr w' b A S LO LV tv oc vc bv ov vv lo hi := h.stays hb.size fun k hk => hb.block k (h.ftlt hk)
theorem Pr.drew (h : Pr w b A S LO LV tv oc vc bv ov vv lo hi) : Pr w.drew b A S LO LV tv oc vc bv ov vv lo hi := h.self ((Below.refl _ w).drew)
theorem Pr.c (h : Pr w b A S LO LV tv oc vc bv ov vv lo hi) (i : Nat) {u : Value} (hu : (pmC A tv oc vc bv)[i]? = some u) : w.cell? ⟨b, i, none⟩ = some u := by
  rw [cell_of_row w b i _ _ _ h.blk]; exact hu
theorem Pr.c_n (h : Pr w b A S LO LV tv oc vc bv ov vv lo hi) : w.cell? ⟨b, 0, none⟩ = some (.int .i64 A.n) := h.c 0 rfl
theorem Pr.c_tv (h : Pr w b A S LO LV tv oc vc bv ov vv lo hi) : w.cell? ⟨b, 1, none⟩ = some (tv) := h.c 1 rfl
theorem Pr.c_most (h : Pr w b A S LO LV tv oc vc bv ov vv lo hi) : w.cell? ⟨b, 2, none⟩ = some (.int .i64 A.most) := h.c 2 rfl
theorem Pr.c_dry (h : Pr w b A S LO LV tv oc vc bv ov vv lo hi) : w.cell? ⟨b, 3, none⟩ = some (.bool A.dry) := h.c 3 rfl
theorem Pr.c_len (h : Pr w b A S LO LV tv oc vc bv ov vv lo hi) : w.cell? ⟨b, 4, none⟩ = some (.int .i64 (A.len : Int)) := h.c 4 rfl
theorem Pr.c_draws (h : Pr w b A S LO LV tv oc vc bv ov vv lo hi) : w.cell? ⟨b, 5, none⟩ = some (.int .i64 (A.draws : Int)) := h.c 5 rfl
theorem Pr.c_words (h : Pr w b A S LO LV tv oc vc bv ov vv lo hi) : w.cell? ⟨b, 6, none⟩ = some (.int .u64 (A.words : Int)) := h.c 6 rfl
theorem Pr.c_ov (h : Pr w b A S LO LV tv oc vc bv ov vv lo hi) : w.cell? ⟨b, 7, none⟩ = some (oc) := h.c 7 rfl
theorem Pr.c_vv (h : Pr w b A S LO LV tv oc vc bv ov vv lo hi) : w.cell? ⟨b, 8, none⟩ = some (vc) := h.c 8 rfl
theorem Pr.c_bv (h : Pr w b A S LO LV tv oc vc bv ov vv lo hi) : w.cell? ⟨b, 9, none⟩ = some (bv) := h.c 9 rfl
theorem Pr.c_kind (h : Pr w b A S LO LV tv oc vc bv ov vv lo hi) : w.cell? ⟨b, 10, none⟩ = some (.int .i64 A.kind) := h.c 10 rfl
theorem Pr.c_fr (h : Pr w b A S LO LV tv oc vc bv ov vv lo hi) : w.cell? ⟨b, 11, none⟩ = some (.int .i64 (A.frc : Int)) := h.c 11 rfl
theorem Pr.c_e (h : Pr w b A S LO LV tv oc vc bv ov vv lo hi) : w.cell? ⟨b, 13, none⟩ = some (.int .i64 (A.e : Int)) := h.c 13 rfl
theorem Pr.fz (h : Pr w b A S LO LV tv oc vc bv ov vv lo hi) (i : Nat) : w.frozen? ⟨b, i, none⟩ = false := frozen_of_row w b i _ _ h.blk
/-- The machine's own block alone is turned. -/
theorem Pr.turn {oc' vc' : Value} (h : Pr w b A S LO LV tv oc vc bv ov vv lo hi) (hblk : w'.heap[b]? = some (.cells (pmC A' tv oc' vc' bv) 71 (0, 0))) (hn' : A'.n = A.n) (hs : w.heap.size ≤ w'.heap.size) (ho : ∀ k, k ≠ b → k < w.heap.size → w'.heap[k]? = w.heap[k]?)
    (hf : S'.f = S.f) (hv : S'.v = S.v) (hM : S'.M = S.M) (hg : S'.g = S.g) (hd : S'.dry = S.dry) (htw : S'.tw = S.tw) (hTN : S'.TN = S.TN) (hu : S'.used = S.used) (hfr : S'.free = S.free) : Pr w' b A' S' LO LV tv oc' vc' bv ov vv lo hi := by
  refine ⟨hblk, by rw [hn']; exact h.hn, ?_, ?_, ?_, h.hob, h.hbb, h.hvb, h.hobv, h.hov, h.hbv, ?_, ?_, h.apart, Nat.le_trans h.his hs⟩
  · rw [hf]; exact h.ops.stays fun k hk => ho k (fun e => h.hob (e ▸ hk)) (h.ops.lt k hk).2
  · rw [hv]; exact h.val.stays fun k hk => ho k (fun e => h.hvb (e ▸ hk)) (h.val.lt k hk).2
  · have e : kpL S' S'.M = kpL S S.M := by unfold kpL; rw [hd, hM]
    rw [e, hg]; exact h.bls.stays fun k hk => ho k (fun e => h.hbb (e ▸ hk)) (h.bls.lt k hk).2
  · intro e
    obtain ⟨q, e1, e2⟩ := h.wet (hd ▸ e)
    rw [htw, hTN, hu, hfr]
    exact ⟨q, e1, e2.stays hs (fun k h1 h2 => ho k (fun e => h.apart k (.inl e) ⟨h1, h2⟩) (by have := h.his; omega))⟩
  · intro e; exact h.dr (hd ▸ e)
theorem Pr.cellSet (h : Pr w b A S LO LV tv oc vc bv ov vv lo hi) (i : Nat) (u : Value) (e : (pmC A tv oc vc bv).setIfInBounds i u = pmC A' tv oc vc bv) (hn' : A'.n = A.n)
    (hf : S'.f = S.f) (hv : S'.v = S.v) (hM : S'.M = S.M) (hg : S'.g = S.g) (hd : S'.dry = S.dry) (htw : S'.tw = S.tw) (hTN : S'.TN = S.TN) (hu : S'.used = S.used) (hfr : S'.free = S.free) : Pr (w.setCell ⟨b, i, none⟩ u) b A' S' LO LV tv oc vc bv ov vv lo hi :=
  h.turn (by rw [heap_setCell_same w b i _ 71 u h.blk, e]) hn' (by simp [World.setCell]) (fun k hk _ => heap_setCell_other w ⟨b, i, none⟩ k u hk) hf hv hM hg hd htw hTN hu hfr
theorem fz_set (b i : Nat) (u : Value) (w : World) : Tch (Fz b ov bv vv lo hi) w (w.setCell ⟨b, i, none⟩ u) := Tch.set w u (.inl (.inl rfl))
end
theorem pm_stays {w w' : World} {b : Nat} {S : Ms} {F : Nat → Prop} (h : Pm w b S F) (hs : w.heap.size ≤ w'.heap.size) (ho : ∀ k, F k → w'.heap[k]? = w.heap[k]?) : Pm w' b S F := by
  obtain ⟨tv, ov, vv, bv, lo, hi, h1, rfl⟩ := h
  exact ⟨tv, ov, vv, bv, lo, hi, h1.stays hs ho, rfl⟩
theorem pm_lt {w : World} {b : Nat} {S : Ms} {F : Nat → Prop} (h : Pm w b S F) : ∀ k, F k → k < w.heap.size := by
  obtain ⟨tv, ov, vv, bv, lo, hi, h1, rfl⟩ := h
  exact fun k hk => h1.ftlt hk
/-! ### who asks only -/
theorem pnobodys_nil (w : World) : Calls Tryd.prog 27 #[.pointer none] w fun e w' => e = .returned (.bool true) ∧ w' = w := by
  go_enter Tryd.func27, Tryd.ntmps27
  go_wp2
  go_ret
  exact ⟨rfl, rfl⟩
theorem pnobodys_no {w : World} {b : Nat} {n : Int} (c0 : w.cell? ⟨b, 0, none⟩ = some (.int .i64 n)) (hn : n = 2 ∨ n = 3) : Calls Tryd.prog 27 #[.pointer (some ⟨b, 0, none⟩)] w fun e w' => e = .returned (.bool false) ∧ w' = w := by
  have q : (n == 0) = false := by rcases hn with rfl | rfl <;> rfl
  clear hn
  go_enter Tryd.func27, Tryd.ntmps27
  go_wp2
  go_ret
  exact ⟨rfl, rfl⟩
theorem perr_nil (w : World) : Calls Tryd.prog 8 #[.pointer none] w fun e w' => e = .returned (.int .i64 1) ∧ w' = w := by
  have H := hid (fun w => pnobodys_nil w)
  go_enter Tryd.func8, Tryd.ntmps8
  go_wp2_with (go_at_call 27; (with_reducible refine (H.out _).mono ?_); rintro e w' ⟨rfl, rfl⟩)
  go_ret
  exact ⟨rfl, rfl⟩
theorem perr_c {w : World} {b : Nat} {n x : Int} (c0 : w.cell? ⟨b, 0, none⟩ = some (.int .i64 n)) (hn : n = 2 ∨ n = 3) (c13 : w.cell? ⟨b, 13, none⟩ = some (.int .i64 x)) : Calls Tryd.prog 8 #[.pointer (some ⟨b, 0, none⟩)] w fun e w' => e = .returned (.int .i64 x) ∧ w' = w := by
  have H := hid (pnobodys_no c0 hn)
  clear c0 hn
  go_enter Tryd.func8, Tryd.ntmps8
  go_wp2_with (go_at_call 27; (with_reducible refine (H.out).mono ?_); rintro e w' ⟨rfl, rfl⟩)
  go_ret
  exact ⟨rfl, rfl⟩
theorem pisopen_c {w : World} {b : Nat} {k : Int} (c10 : w.cell? ⟨b, 10, none⟩ = some (.int .i64 k)) : Calls Tryd.prog 39 #[.pointer (some ⟨b, 0, none⟩)] w fun e w' => e = .returned (.bool (k != 0)) ∧ w' = w := by
  go_enter Tryd.func39, Tryd.ntmps39
  go_wp2
  go_ret
  exact ⟨rfl, rfl⟩
theorem pn_nil (w : World) : Calls Tryd.prog 40 #[.pointer none] w fun e w' => e = .returned (.int .i64 0) ∧ w' = w := by
  go_enter Tryd.func40, Tryd.ntmps40
  go_wp2
  go_ret
  exact ⟨rfl, rfl⟩
theorem pn_c {w : World} {b : Nat} {k : Int} (c : w.cell? ⟨b, 0, none⟩ = some (.int .i64 k)) : Calls Tryd.prog 40 #[.pointer (some ⟨b, 0, none⟩)] w fun e w' => e = .returned (.int .i64 k) ∧ w' = w := by
  go_enter Tryd.func40, Tryd.ntmps40
  go_wp2
  go_ret
  exact ⟨rfl, rfl⟩
theorem pword_none {w : World} (v : Value) : Calls Tryd.prog 65 #[v, .int .i64 (-1)] w fun e w' => e = .returned (.int .u64 0) ∧ w' = w := by
  go_enter Tryd.func65, Tryd.ntmps65
  go_wp2
  go_ret
  exact ⟨rfl, rfl⟩
theorem pword_c {w : World} {b L cap : Nat} {a : Option Addr} {v : Nat → Nat} {r : Int} (c8 : w.cell? ⟨b, 8, none⟩ = some (.slice a L cap)) (hc : 0 < L → ∃ g, a = some ⟨g, 0, none⟩ ∧ ∀ i, i < L → w.cell? ⟨g, i, none⟩ = some (.int .u64 (v i : Int))) (hr : r = -1 ∨ 0 ≤ r ∧ r < (L : Int)) :
    Calls Tryd.prog 65 #[.pointer (some ⟨b, 0, none⟩), .int .i64 r] w fun e w' => e = .returned (.int .u64 (wordAt v L r : Nat)) ∧ w' = w := by
  rcases hr with rfl | ⟨h0, h1⟩
  · have e : wordAt v L (-1) = 0 := if_neg (by omega)
    rw [e]
    exact pword_none _
  · obtain ⟨k, rfl⟩ := Int.eq_ofNat_of_zero_le h0
    have e : wordAt v L (k : Int) = v k := by unfold wordAt; rw [if_pos ⟨by omega, h1⟩]; simp
    rw [e]
    obtain ⟨g, rfl, hcc⟩ := hc (by omega)
    have hk := hcc k (by omega)
    have q : ((k : Int) == -1) = false := by simp
    clear hc hcc e
    generalize v k = z at *
    go_enter Tryd.func65, Tryd.ntmps65
    go_wp2
    go_ret
    exact ⟨rfl, rfl⟩
theorem Pr.vals {b LO LV lo hi : Nat} {w : World} {A S : Ms} {tv oc vc bv ov vv : Value} (h : Pr w b A S LO LV tv oc vc bv ov vv lo hi) : ∃ a cap, vv = .slice a LV cap ∧ (0 < LV → ∃ g, a = some ⟨g, 0, none⟩ ∧ ∀ i, i < LV → w.cell? ⟨g, i, none⟩ = some (.int .u64 (S.v i : Int))) := by
  obtain ⟨a, cap, rfl, _, _, _, hp⟩ := h.val.slice
  refine ⟨a, cap, rfl, fun h0 => ?_⟩
  obtain ⟨g, rfl⟩ := hp h0
  refine ⟨g, rfl, fun i hi => ?_⟩
  have := Orw.cell h.val (fun _ => rfl) hi (by decide : 0 < 1) (u := .int .u64 (S.v i : Int)) rfl
  simpa using this
end Go.Proofs.YtpjgpiieminaoaaDoor

/- Wire: the program's machine: why an op may not be done. -/
namespace Go.Proofs.YtpjgpiieminaoaaDoor
open Go.RowKit
set_option maxRecDepth 100000
theorem orc {w : World} {g : Nat} {o : Op6} (h : w.heap[g]? = some (.cells (opCs o) 52 (0, 0))) (i : Nat) {u : Value} (hu : (opCs o)[i]? = some u) : w.cell? ⟨g, i, none⟩ = some u := by
  rw [cell_of_row w g i _ _ _ h]; exact hu
/-- Why an op may not be done, as a number. -/
def rfN (A : Ms) (o : Op6) : Int := if A.bad o = true then 1 else if A.full = true then 3 else 0
/-- The machine, and the op's box in block g. -/
structure Rz (g b : Nat) (A S : Ms) (LO LV : Nat) (tv oc vc bv ov vv : Value) (lo hi : Nat) (o : Op6) (w : World) : Prop where
  pr : Pr w b A S LO LV tv oc vc bv ov vv lo hi
  op : w.heap[g]? = some (.cells (opCs o) 52 (0, 0))
section
variable {g b LO LV lo hi : Nat} {w w' : World} {A S : Ms} {tv oc vc bv ov vv : Value} {o : Op6}
theorem Rz.self (h : Rz g b A S LO LV tv oc vc bv ov vv lo hi o w) (hb : Below w.heap.size w w') : Rz g b A S LO LV tv oc vc bv ov vv lo hi o w' :=
  ⟨h.pr.self hb, (hb.block g (Array.getElem?_eq_some_iff.1 h.op).1).trans h.op⟩
theorem Rz.drew (h : Rz g b A S LO LV tv oc vc bv ov vv lo hi o w) : Rz g b A S LO LV tv oc vc bv ov vv lo hi o w.drew := h.self ((Below.refl _ w).drew)
theorem Rz.start (h : Pr w b A S LO LV tv oc vc bv ov vv lo hi) (o : Op6) : Rz w.heap.size b A S LO LV tv oc vc bv ov vv lo hi o (w.alloc (.cells (opCs o) 52)) :=
  ⟨h.self ((Below.refl _ _).alloc (Nat.le_refl _) _), heap_alloc_new _ _⟩
end
set_option maxHeartbeats 3200000 in
theorem prefuses_bad1 (b LO LV lo hi : Nat) (A S : Ms) (tv oc vc bv ov vv : Value) (o : Op6) (w : World) (h : Pr w b A S LO LV tv oc vc bv ov vv lo hi) (hok : okOp o (A.len : Int) A.n = false) :
    Calls Tryd.prog 56 #[.pointer (some ⟨b, 0, none⟩), .agg (opCs o)] w fun e w' => e = .returned (.int .i64 1) ∧ Below w.heap.size w w' := by
  have HB0 : Hid (Below w.heap.size w (w.alloc (.cells (opCs o) 52))) := hid ((Below.refl _ _).alloc (Nat.le_refl _) _)
  have ZS := hid (Rz.start h o)
  have HR := hid (fun w => oright_any o A.len A.n w)
  rw [hok] at HR
  clear h hok
  go_enter Tryd.func56, Tryd.ntmps56
  go_wp2_with fail
  generalize hw1 : w.alloc (.cells (opCs o) 52) = w1 at *
  have Z0 := hid ZS.out.drew
  have HB1 := hid HB0.out.drew
  refine wp_region_noPanic ?_
  refine wp_region_held_drew (S := fun w' => w'.heap[w.heap.size]? = some (.cells (opCs o) 52 (0, 0)) ∧ w'.cell? ⟨b, 4, none⟩ = some (Value.int .i64 (A.len : Int)) ∧ w'.cell? ⟨b, 0, none⟩ = some (Value.int .i64 A.n)) (by kernel_rfl) (⟨Z0.out.op, Z0.out.pr.c_len, Z0.out.pr.c_n⟩) (fun h0 => ?_)
  generalize w1.drew = wa at *
  refine wpAnyH_take (i := 0) (v := .agg (opCs o)) rfl (by kernel_rfl) (by kernel_rfl) (by kernel_rfl) (fun _ _ _ h => h) (yields_load_row (by rfl) 52 (.tmp 3) rfl w.heap.size 52 (opCs o) _ rfl (fun w h => h.1) Tryd.underlying52 rfl (by kernel_rfl)) h0 ?_
  try simp only [Act.put, lay_out]
  refine wpAnyH_take (i := 1) (v := .pointer (some ⟨b, 0, none⟩)) rfl (by kernel_rfl) (by kernel_rfl) (by kernel_rfl) (fun _ _ _ h => h) (.inl ⟨by rfl, fun w hw => by clear hw; go_simp⟩) h0 ?_
  try simp only [Act.put, lay_out]
  refine wpAnyH_take (i := 2) (v := .pointer (some ⟨b, 0, none⟩)) rfl (by kernel_rfl) (by kernel_rfl) (by kernel_rfl) (fun _ _ _ h => h) (.inl ⟨by rfl, fun w hw => by clear hw; go_simp⟩) h0 ?_
  try simp only [Act.put, lay_out]
  refine wpAnyH_take (i := 3) (v := .pointer (some ⟨b, 4, none⟩)) rfl (by kernel_rfl) (by kernel_rfl) (by kernel_rfl) (fun _ _ _ h => h) (.inl ⟨by rfl, fun w hw => by clear hw; go_simp⟩) h0 ?_
  try simp only [Act.put, lay_out]
  refine wpAnyH_take (i := 4) (v := .int .i64 (A.len : Int)) rfl (by kernel_rfl) (by kernel_rfl) (by kernel_rfl) (fun _ _ _ h => h) (.inl ⟨by rfl, fun w hw => by have hc := hw.2.1; clear hw; go_simp⟩) h0 ?_
  try simp only [Act.put, lay_out]
  refine wpAnyH_take (i := 5) (v := .pointer (some ⟨b, 0, none⟩)) rfl (by kernel_rfl) (by kernel_rfl) (by kernel_rfl) (fun _ _ _ h => h) (.inl ⟨by rfl, fun w hw => by clear hw; go_simp⟩) h0 ?_
  try simp only [Act.put, lay_out]
  refine wpAnyH_take (i := 6) (v := .pointer (some ⟨b, 0, none⟩)) rfl (by kernel_rfl) (by kernel_rfl) (by kernel_rfl) (fun _ _ _ h => h) (.inl ⟨by rfl, fun w hw => by clear hw; go_simp⟩) h0 ?_
  try simp only [Act.put, lay_out]
  refine wpAnyH_take (i := 7) (v := .pointer (some ⟨b, 0, none⟩)) rfl (by kernel_rfl) (by kernel_rfl) (by kernel_rfl) (fun _ _ _ h => h) (.inl ⟨by rfl, fun w hw => by clear hw; go_simp⟩) h0 ?_
  try simp only [Act.put, lay_out]
  refine wpAnyH_take (i := 8) (v := .int .i64 A.n) rfl (by kernel_rfl) (by kernel_rfl) (by kernel_rfl) (fun _ _ _ h => h) (.inl ⟨by rfl, fun w hw => by have hc := hw.2.2; clear hw; go_simp⟩) h0 ?_
  try simp only [Act.put, lay_out]
  refine wpAnyH_ready (rs := [9]) (by kernel_rfl) (by simp) (AllReadyH.cons rfl (fun K hK => ?_) AllReadyH.nil)
  rw [if_pos (by rfl)]
  go_simp
  go_at_call 62
  (with_reducible refine (HR.out _).mono ?_); rintro e w2 ⟨rfl, hb1⟩
  have Z1 := hid (Z0.out.self hb1)
  have B1 := hid hb1
  clear hb1
  refine hK.out _ _ (⟨Z1.out.op, Z1.out.pr.c_len, Z1.out.pr.c_n⟩) (fun h1x => ?_)
  clear hK K
  try simp only [Act.put, lay_out]
  refine wpAnyH_take (i := 10) (v := .bool true) rfl (by kernel_rfl) (by kernel_rfl) (by kernel_rfl) (fun _ _ _ h => h) (.inl ⟨by rfl, fun w hw => by clear hw; go_simp⟩) h1x ?_
  try simp only [Act.put, lay_out]
  refine wpAnyH_take (i := 11) (v := .bool true) rfl (by kernel_rfl) (by kernel_rfl) (by kernel_rfl) (fun _ _ _ h => h) (.inl ⟨by rfl, fun w hw => by clear hw; go_simp⟩) h1x ?_
  try simp only [Act.put, lay_out]
  refine wpAnyH_done (by kernel_rfl) ?_ _
  refine NoPanic.normal ?_
  clear h0 h1x
  try simp only [Act.put, lay_out]
  have BB : Hid (Below w.heap.size w w2) := hid (HB1.out.trans (B1.out.mono HB1.out.size))
  go_wp2
  go_ret
  exact ⟨rfl, BB.out⟩
set_option maxHeartbeats 3200000 in
theorem prefuses_bad2 (b LO LV lo hi : Nat) (A S : Ms) (tv oc vc bv ov vv : Value) (o : Op6) (w : World) (h : Pr w b A S LO LV tv oc vc bv ov vv lo hi) (hok : okOp o (A.len : Int) A.n = true) (q20 : (o.K == 2) = true) (q28 : ((o.C : Int) != (A.words : Int)) = true) :
    Calls Tryd.prog 56 #[.pointer (some ⟨b, 0, none⟩), .agg (opCs o)] w fun e w' => e = .returned (.int .i64 1) ∧ Below w.heap.size w w' := by
  have HB0 : Hid (Below w.heap.size w (w.alloc (.cells (opCs o) 52))) := hid ((Below.refl _ _).alloc (Nat.le_refl _) _)
  have ZS := hid (Rz.start h o)
  have HR := hid (fun w => oright_any o A.len A.n w)
  rw [hok] at HR
  clear h hok
  go_enter Tryd.func56, Tryd.ntmps56
  go_wp2_with fail
  generalize hw1 : w.alloc (.cells (opCs o) 52) = w1 at *
  have Z0 := hid ZS.out.drew
  have HB1 := hid HB0.out.drew
  refine wp_region_noPanic ?_
  refine wp_region_held_drew (S := fun w' => w'.heap[w.heap.size]? = some (.cells (opCs o) 52 (0, 0)) ∧ w'.cell? ⟨b, 4, none⟩ = some (Value.int .i64 (A.len : Int)) ∧ w'.cell? ⟨b, 0, none⟩ = some (Value.int .i64 A.n)) (by kernel_rfl) (⟨Z0.out.op, Z0.out.pr.c_len, Z0.out.pr.c_n⟩) (fun h0 => ?_)
  generalize w1.drew = wa at *
  refine wpAnyH_take (i := 0) (v := .agg (opCs o)) rfl (by kernel_rfl) (by kernel_rfl) (by kernel_rfl) (fun _ _ _ h => h) (yields_load_row (by rfl) 52 (.tmp 3) rfl w.heap.size 52 (opCs o) _ rfl (fun w h => h.1) Tryd.underlying52 rfl (by kernel_rfl)) h0 ?_
  try simp only [Act.put, lay_out]
  refine wpAnyH_take (i := 1) (v := .pointer (some ⟨b, 0, none⟩)) rfl (by kernel_rfl) (by kernel_rfl) (by kernel_rfl) (fun _ _ _ h => h) (.inl ⟨by rfl, fun w hw => by clear hw; go_simp⟩) h0 ?_
  try simp only [Act.put, lay_out]
  refine wpAnyH_take (i := 2) (v := .pointer (some ⟨b, 0, none⟩)) rfl (by kernel_rfl) (by kernel_rfl) (by kernel_rfl) (fun _ _ _ h => h) (.inl ⟨by rfl, fun w hw => by clear hw; go_simp⟩) h0 ?_
  try simp only [Act.put, lay_out]
  refine wpAnyH_take (i := 3) (v := .pointer (some ⟨b, 4, none⟩)) rfl (by kernel_rfl) (by kernel_rfl) (by kernel_rfl) (fun _ _ _ h => h) (.inl ⟨by rfl, fun w hw => by clear hw; go_simp⟩) h0 ?_
  try simp only [Act.put, lay_out]
  refine wpAnyH_take (i := 4) (v := .int .i64 (A.len : Int)) rfl (by kernel_rfl) (by kernel_rfl) (by kernel_rfl) (fun _ _ _ h => h) (.inl ⟨by rfl, fun w hw => by have hc := hw.2.1; clear hw; go_simp⟩) h0 ?_
  try simp only [Act.put, lay_out]
  refine wpAnyH_take (i := 5) (v := .pointer (some ⟨b, 0, none⟩)) rfl (by kernel_rfl) (by kernel_rfl) (by kernel_rfl) (fun _ _ _ h => h) (.inl ⟨by rfl, fun w hw => by clear hw; go_simp⟩) h0 ?_
  try simp only [Act.put, lay_out]
  refine wpAnyH_take (i := 6) (v := .pointer (some ⟨b, 0, none⟩)) rfl (by kernel_rfl) (by kernel_rfl) (by kernel_rfl) (fun _ _ _ h => h) (.inl ⟨by rfl, fun w hw => by clear hw; go_simp⟩) h0 ?_
  try simp only [Act.put, lay_out]
  refine wpAnyH_take (i := 7) (v := .pointer (some ⟨b, 0, none⟩)) rfl (by kernel_rfl) (by kernel_rfl) (by kernel_rfl) (fun _ _ _ h => h) (.inl ⟨by rfl, fun w hw => by clear hw; go_simp⟩) h0 ?_
  try simp only [Act.put, lay_out]
  refine wpAnyH_take (i := 8) (v := .int .i64 A.n) rfl (by kernel_rfl) (by kernel_rfl) (by kernel_rfl) (fun _ _ _ h => h) (.inl ⟨by rfl, fun w hw => by have hc := hw.2.2; clear hw; go_simp⟩) h0 ?_
  try simp only [Act.put, lay_out]
  refine wpAnyH_ready (rs := [9]) (by kernel_rfl) (by simp) (AllReadyH.cons rfl (fun K hK => ?_) AllReadyH.nil)
  rw [if_pos (by rfl)]
  go_simp
  go_at_call 62
  (with_reducible refine (HR.out _).mono ?_); rintro e w2 ⟨rfl, hb1⟩
  have Z1 := hid (Z0.out.self hb1)
  have B1 := hid hb1
  clear hb1
  refine hK.out _ _ (⟨Z1.out.op, Z1.out.pr.c_len, Z1.out.pr.c_n⟩) (fun h1x => ?_)
  clear hK K
  try simp only [Act.put, lay_out]
  refine wpAnyH_take (i := 10) (v := .bool false) rfl (by kernel_rfl) (by kernel_rfl) (by kernel_rfl) (fun _ _ _ h => h) (.inl ⟨by rfl, fun w hw => by clear hw; go_simp⟩) h1x ?_
  try simp only [Act.put, lay_out]
  refine wpAnyH_take (i := 11) (v := .bool false) rfl (by kernel_rfl) (by kernel_rfl) (by kernel_rfl) (fun _ _ _ h => h) (.inl ⟨by rfl, fun w hw => by clear hw; go_simp⟩) h1x ?_
  try simp only [Act.put, lay_out]
  refine wpAnyH_done (by kernel_rfl) ?_ _
  refine NoPanic.normal ?_
  clear h0 h1x
  try simp only [Act.put, lay_out]
  have BB : Hid (Below w.heap.size w w2) := hid (HB1.out.trans (B1.out.mono HB1.out.size))
  have ZD := hid Z1.out.drew
  have k0 : w2.drew.cell? ⟨w.heap.size, 0, none⟩ = some (.int .i64 o.K) := orc ZD.out.op 0 rfl
  have k5 : w2.drew.cell? ⟨w.heap.size, 5, none⟩ = some (.int .u64 (o.C : Int)) := orc ZD.out.op 5 rfl
  have k6 := ZD.out.pr.c_words
  go_wp2_with fail
  go_region
  clear k0 k5 k6
  go_wp2
  go_ret
  exact ⟨rfl, BB.out.drew⟩
set_option maxHeartbeats 3200000 in
theorem prefuses_dryk (b LO LV lo hi : Nat) (A S : Ms) (tv oc vc bv ov vv : Value) (o : Op6) (w : World) (h : Pr w b A S LO LV tv oc vc bv ov vv lo hi) (hok : okOp o (A.len : Int) A.n = true) (q20 : (o.K == 2) = true) (q28 : ((o.C : Int) != (A.words : Int)) = false) (hd : A.dry = true) :
    Calls Tryd.prog 56 #[.pointer (some ⟨b, 0, none⟩), .agg (opCs o)] w fun e w' => e = .returned (.int .i64 0) ∧ Below w.heap.size w w' := by
  have HB0 : Hid (Below w.heap.size w (w.alloc (.cells (opCs o) 52))) := hid ((Below.refl _ _).alloc (Nat.le_refl _) _)
  have ZS := hid (Rz.start h o)
  have HR := hid (fun w => oright_any o A.len A.n w)
  rw [hok] at HR
  clear h hok
  go_enter Tryd.func56, Tryd.ntmps56
  go_wp2_with fail
  generalize hw1 : w.alloc (.cells (opCs o) 52) = w1 at *
  have Z0 := hid ZS.out.drew
  have HB1 := hid HB0.out.drew
  refine wp_region_noPanic ?_
  refine wp_region_held_drew (S := fun w' => w'.heap[w.heap.size]? = some (.cells (opCs o) 52 (0, 0)) ∧ w'.cell? ⟨b, 4, none⟩ = some (Value.int .i64 (A.len : Int)) ∧ w'.cell? ⟨b, 0, none⟩ = some (Value.int .i64 A.n)) (by kernel_rfl) (⟨Z0.out.op, Z0.out.pr.c_len, Z0.out.pr.c_n⟩) (fun h0 => ?_)
  generalize w1.drew = wa at *
  refine wpAnyH_take (i := 0) (v := .agg (opCs o)) rfl (by kernel_rfl) (by kernel_rfl) (by kernel_rfl) (fun _ _ _ h => h) (yields_load_row (by rfl) 52 (.tmp 3) rfl w.heap.size 52 (opCs o) _ rfl (fun w h => h.1) Tryd.underlying52 rfl (by kernel_rfl)) h0 ?_
  try simp only [Act.put, lay_out]
  refine wpAnyH_take (i := 1) (v := .pointer (some ⟨b, 0, none⟩)) rfl (by kernel_rfl) (by kernel_rfl) (by kernel_rfl) (fun _ _ _ h => h) (.inl ⟨by rfl, fun w hw => by clear hw; go_simp⟩) h0 ?_
  try simp only [Act.put, lay_out]
  refine wpAnyH_take (i := 2) (v := .pointer (some ⟨b, 0, none⟩)) rfl (by kernel_rfl) (by kernel_rfl) (by kernel_rfl) (fun _ _ _ h => h) (.inl ⟨by rfl, fun w hw => by clear hw; go_simp⟩) h0 ?_
  try simp only [Act.put, lay_out]
  refine wpAnyH_take (i := 3) (v := .pointer (some ⟨b, 4, none⟩)) rfl (by kernel_rfl) (by kernel_rfl) (by kernel_rfl) (fun _ _ _ h => h) (.inl ⟨by rfl, fun w hw => by clear hw; go_simp⟩) h0 ?_
  try simp only [Act.put, lay_out]
  refine wpAnyH_take (i := 4) (v := .int .i64 (A.len : Int)) rfl (by kernel_rfl) (by kernel_rfl) (by kernel_rfl) (fun _ _ _ h => h) (.inl ⟨by rfl, fun w hw => by have hc := hw.2.1; clear hw; go_simp⟩) h0 ?_
  try simp only [Act.put, lay_out]
  refine wpAnyH_take (i := 5) (v := .pointer (some ⟨b, 0, none⟩)) rfl (by kernel_rfl) (by kernel_rfl) (by kernel_rfl) (fun _ _ _ h => h) (.inl ⟨by rfl, fun w hw => by clear hw; go_simp⟩) h0 ?_
  try simp only [Act.put, lay_out]
  refine wpAnyH_take (i := 6) (v := .pointer (some ⟨b, 0, none⟩)) rfl (by kernel_rfl) (by kernel_rfl) (by kernel_rfl) (fun _ _ _ h => h) (.inl ⟨by rfl, fun w hw => by clear hw; go_simp⟩) h0 ?_
  try simp only [Act.put, lay_out]
  refine wpAnyH_take (i := 7) (v := .pointer (some ⟨b, 0, none⟩)) rfl (by kernel_rfl) (by kernel_rfl) (by kernel_rfl) (fun _ _ _ h => h) (.inl ⟨by rfl, fun w hw => by clear hw; go_simp⟩) h0 ?_
  try simp only [Act.put, lay_out]
  refine wpAnyH_take (i := 8) (v := .int .i64 A.n) rfl (by kernel_rfl) (by kernel_rfl) (by kernel_rfl) (fun _ _ _ h => h) (.inl ⟨by rfl, fun w hw => by have hc := hw.2.2; clear hw; go_simp⟩) h0 ?_
  try simp only [Act.put, lay_out]
  refine wpAnyH_ready (rs := [9]) (by kernel_rfl) (by simp) (AllReadyH.cons rfl (fun K hK => ?_) AllReadyH.nil)
  rw [if_pos (by rfl)]
  go_simp
  go_at_call 62
  (with_reducible refine (HR.out _).mono ?_); rintro e w2 ⟨rfl, hb1⟩
  have Z1 := hid (Z0.out.self hb1)
  have B1 := hid hb1
  clear hb1
  refine hK.out _ _ (⟨Z1.out.op, Z1.out.pr.c_len, Z1.out.pr.c_n⟩) (fun h1x => ?_)
  clear hK K
  try simp only [Act.put, lay_out]
  refine wpAnyH_take (i := 10) (v := .bool false) rfl (by kernel_rfl) (by kernel_rfl) (by kernel_rfl) (fun _ _ _ h => h) (.inl ⟨by rfl, fun w hw => by clear hw; go_simp⟩) h1x ?_
  try simp only [Act.put, lay_out]
  refine wpAnyH_take (i := 11) (v := .bool false) rfl (by kernel_rfl) (by kernel_rfl) (by kernel_rfl) (fun _ _ _ h => h) (.inl ⟨by rfl, fun w hw => by clear hw; go_simp⟩) h1x ?_
  try simp only [Act.put, lay_out]
  refine wpAnyH_done (by kernel_rfl) ?_ _
  refine NoPanic.normal ?_
  clear h0 h1x
  try simp only [Act.put, lay_out]
  have BB : Hid (Below w.heap.size w w2) := hid (HB1.out.trans (B1.out.mono HB1.out.size))
  have ZD := hid Z1.out.drew
  have k0 : w2.drew.cell? ⟨w.heap.size, 0, none⟩ = some (.int .i64 o.K) := orc ZD.out.op 0 rfl
  have k5 : w2.drew.cell? ⟨w.heap.size, 5, none⟩ = some (.int .u64 (o.C : Int)) := orc ZD.out.op 5 rfl
  have k6 := ZD.out.pr.c_words
  go_wp2_with fail
  go_region
  clear k0 k5 k6
  have ZE := hid ZD.out.drew
  have k3 := ZE.out.pr.c_dry
  rw [hd] at k3
  have k4 := ZE.out.pr.c_len
  have k2 := ZE.out.pr.c_most
  go_wp2_with fail
  go_region
  go_wp2
  go_ret
  exact ⟨rfl, BB.out.drew.drew⟩
set_option maxHeartbeats 3200000 in
theorem prefuses_fullk (b LO LV lo hi : Nat) (A S : Ms) (tv oc vc bv ov vv : Value) (o : Op6) (w : World) (h : Pr w b A S LO LV tv oc vc bv ov vv lo hi) (hok : okOp o (A.len : Int) A.n = true) (q20 : (o.K == 2) = true) (q28 : ((o.C : Int) != (A.words : Int)) = false) (hd : A.dry = false) (hm : A.most ≤ (A.len : Int)) :
    Calls Tryd.prog 56 #[.pointer (some ⟨b, 0, none⟩), .agg (opCs o)] w fun e w' => e = .returned (.int .i64 3) ∧ Below w.heap.size w w' := by
  have HB0 : Hid (Below w.heap.size w (w.alloc (.cells (opCs o) 52))) := hid ((Below.refl _ _).alloc (Nat.le_refl _) _)
  have ZS := hid (Rz.start h o)
  have HR := hid (fun w => oright_any o A.len A.n w)
  rw [hok] at HR
  clear h hok
  go_enter Tryd.func56, Tryd.ntmps56
  go_wp2_with fail
  generalize hw1 : w.alloc (.cells (opCs o) 52) = w1 at *
  have Z0 := hid ZS.out.drew
  have HB1 := hid HB0.out.drew
  refine wp_region_noPanic ?_
  refine wp_region_held_drew (S := fun w' => w'.heap[w.heap.size]? = some (.cells (opCs o) 52 (0, 0)) ∧ w'.cell? ⟨b, 4, none⟩ = some (Value.int .i64 (A.len : Int)) ∧ w'.cell? ⟨b, 0, none⟩ = some (Value.int .i64 A.n)) (by kernel_rfl) (⟨Z0.out.op, Z0.out.pr.c_len, Z0.out.pr.c_n⟩) (fun h0 => ?_)
  generalize w1.drew = wa at *
  refine wpAnyH_take (i := 0) (v := .agg (opCs o)) rfl (by kernel_rfl) (by kernel_rfl) (by kernel_rfl) (fun _ _ _ h => h) (yields_load_row (by rfl) 52 (.tmp 3) rfl w.heap.size 52 (opCs o) _ rfl (fun w h => h.1) Tryd.underlying52 rfl (by kernel_rfl)) h0 ?_
  try simp only [Act.put, lay_out]
  refine wpAnyH_take (i := 1) (v := .pointer (some ⟨b, 0, none⟩)) rfl (by kernel_rfl) (by kernel_rfl) (by kernel_rfl) (fun _ _ _ h => h) (.inl ⟨by rfl, fun w hw => by clear hw; go_simp⟩) h0 ?_
  try simp only [Act.put, lay_out]
  refine wpAnyH_take (i := 2) (v := .pointer (some ⟨b, 0, none⟩)) rfl (by kernel_rfl) (by kernel_rfl) (by kernel_rfl) (fun _ _ _ h => h) (.inl ⟨by rfl, fun w hw => by clear hw; go_simp⟩) h0 ?_
  try simp only [Act.put, lay_out]
  refine wpAnyH_take (i := 3) (v := .pointer (some ⟨b, 4, none⟩)) rfl (by kernel_rfl) (by kernel_rfl) (by kernel_rfl) (fun _ _ _ h => h) (.inl ⟨by rfl, fun w hw => by clear hw; go_simp⟩) h0 ?_
  try simp only [Act.put, lay_out]
  refine wpAnyH_take (i := 4) (v := .int .i64 (A.len : Int)) rfl (by kernel_rfl) (by kernel_rfl) (by kernel_rfl) (fun _ _ _ h => h) (.inl ⟨by rfl, fun w hw => by have hc := hw.2.1; clear hw; go_simp⟩) h0 ?_
  try simp only [Act.put, lay_out]
  refine wpAnyH_take (i := 5) (v := .pointer (some ⟨b, 0, none⟩)) rfl (by kernel_rfl) (by kernel_rfl) (by kernel_rfl) (fun _ _ _ h => h) (.inl ⟨by rfl, fun w hw => by clear hw; go_simp⟩) h0 ?_
  try simp only [Act.put, lay_out]
  refine wpAnyH_take (i := 6) (v := .pointer (some ⟨b, 0, none⟩)) rfl (by kernel_rfl) (by kernel_rfl) (by kernel_rfl) (fun _ _ _ h => h) (.inl ⟨by rfl, fun w hw => by clear hw; go_simp⟩) h0 ?_
  try simp only [Act.put, lay_out]
  refine wpAnyH_take (i := 7) (v := .pointer (some ⟨b, 0, none⟩)) rfl (by kernel_rfl) (by kernel_rfl) (by kernel_rfl) (fun _ _ _ h => h) (.inl ⟨by rfl, fun w hw => by clear hw; go_simp⟩) h0 ?_
  try simp only [Act.put, lay_out]
  refine wpAnyH_take (i := 8) (v := .int .i64 A.n) rfl (by kernel_rfl) (by kernel_rfl) (by kernel_rfl) (fun _ _ _ h => h) (.inl ⟨by rfl, fun w hw => by have hc := hw.2.2; clear hw; go_simp⟩) h0 ?_
  try simp only [Act.put, lay_out]
  refine wpAnyH_ready (rs := [9]) (by kernel_rfl) (by simp) (AllReadyH.cons rfl (fun K hK => ?_) AllReadyH.nil)
  rw [if_pos (by rfl)]
  go_simp
  go_at_call 62
  (with_reducible refine (HR.out _).mono ?_); rintro e w2 ⟨rfl, hb1⟩
  have Z1 := hid (Z0.out.self hb1)
  have B1 := hid hb1
  clear hb1
  refine hK.out _ _ (⟨Z1.out.op, Z1.out.pr.c_len, Z1.out.pr.c_n⟩) (fun h1x => ?_)
  clear hK K
  try simp only [Act.put, lay_out]
  refine wpAnyH_take (i := 10) (v := .bool false) rfl (by kernel_rfl) (by kernel_rfl) (by kernel_rfl) (fun _ _ _ h => h) (.inl ⟨by rfl, fun w hw => by clear hw; go_simp⟩) h1x ?_
  try simp only [Act.put, lay_out]
  refine wpAnyH_take (i := 11) (v := .bool false) rfl (by kernel_rfl) (by kernel_rfl) (by kernel_rfl) (fun _ _ _ h => h) (.inl ⟨by rfl, fun w hw => by clear hw; go_simp⟩) h1x ?_
  try simp only [Act.put, lay_out]
  refine wpAnyH_done (by kernel_rfl) ?_ _
  refine NoPanic.normal ?_
  clear h0 h1x
  try simp only [Act.put, lay_out]
  have BB : Hid (Below w.heap.size w w2) := hid (HB1.out.trans (B1.out.mono HB1.out.size))
  have ZD := hid Z1.out.drew
  have k0 : w2.drew.cell? ⟨w.heap.size, 0, none⟩ = some (.int .i64 o.K) := orc ZD.out.op 0 rfl
  have k5 : w2.drew.cell? ⟨w.heap.size, 5, none⟩ = some (.int .u64 (o.C : Int)) := orc ZD.out.op 5 rfl
  have k6 := ZD.out.pr.c_words
  go_wp2_with fail
  go_region
  clear k0 k5 k6
  have ZE := hid ZD.out.drew
  have k3 := ZE.out.pr.c_dry
  rw [hd] at k3
  have k4 := ZE.out.pr.c_len
  have k2 := ZE.out.pr.c_most
  have q45 : decide (A.most ≤ (A.len : Int)) = true := decide_eq_true hm
  clear hm
  go_wp2_with fail
  go_region
  go_wp2
  go_ret
  exact ⟨rfl, BB.out.drew.drew⟩
set_option maxHeartbeats 3200000 in
theorem prefuses_fitsk (b LO LV lo hi : Nat) (A S : Ms) (tv oc vc bv ov vv : Value) (o : Op6) (w : World) (h : Pr w b A S LO LV tv oc vc bv ov vv lo hi) (hok : okOp o (A.len : Int) A.n = true) (q20 : (o.K == 2) = true) (q28 : ((o.C : Int) != (A.words : Int)) = false) (hd : A.dry = false) (hm : ¬ A.most ≤ (A.len : Int)) :
    Calls Tryd.prog 56 #[.pointer (some ⟨b, 0, none⟩), .agg (opCs o)] w fun e w' => e = .returned (.int .i64 0) ∧ Below w.heap.size w w' := by
  have HB0 : Hid (Below w.heap.size w (w.alloc (.cells (opCs o) 52))) := hid ((Below.refl _ _).alloc (Nat.le_refl _) _)
  have ZS := hid (Rz.start h o)
  have HR := hid (fun w => oright_any o A.len A.n w)
  rw [hok] at HR
  clear h hok
  go_enter Tryd.func56, Tryd.ntmps56
  go_wp2_with fail
  generalize hw1 : w.alloc (.cells (opCs o) 52) = w1 at *
  have Z0 := hid ZS.out.drew
  have HB1 := hid HB0.out.drew
  refine wp_region_noPanic ?_
  refine wp_region_held_drew (S := fun w' => w'.heap[w.heap.size]? = some (.cells (opCs o) 52 (0, 0)) ∧ w'.cell? ⟨b, 4, none⟩ = some (Value.int .i64 (A.len : Int)) ∧ w'.cell? ⟨b, 0, none⟩ = some (Value.int .i64 A.n)) (by kernel_rfl) (⟨Z0.out.op, Z0.out.pr.c_len, Z0.out.pr.c_n⟩) (fun h0 => ?_)
  generalize w1.drew = wa at *
  refine wpAnyH_take (i := 0) (v := .agg (opCs o)) rfl (by kernel_rfl) (by kernel_rfl) (by kernel_rfl) (fun _ _ _ h => h) (yields_load_row (by rfl) 52 (.tmp 3) rfl w.heap.size 52 (opCs o) _ rfl (fun w h => h.1) Tryd.underlying52 rfl (by kernel_rfl)) h0 ?_
  try simp only [Act.put, lay_out]
  refine wpAnyH_take (i := 1) (v := .pointer (some ⟨b, 0, none⟩)) rfl (by kernel_rfl) (by kernel_rfl) (by kernel_rfl) (fun _ _ _ h => h) (.inl ⟨by rfl, fun w hw => by clear hw; go_simp⟩) h0 ?_
  try simp only [Act.put, lay_out]
  refine wpAnyH_take (i := 2) (v := .pointer (some ⟨b, 0, none⟩)) rfl (by kernel_rfl) (by kernel_rfl) (by kernel_rfl) (fun _ _ _ h => h) (.inl ⟨by rfl, fun w hw => by clear hw; go_simp⟩) h0 ?_
  try simp only [Act.put, lay_out]
  refine wpAnyH_take (i := 3) (v := .pointer (some ⟨b, 4, none⟩)) rfl (by kernel_rfl) (by kernel_rfl) (by kernel_rfl) (fun _ _ _ h => h) (.inl ⟨by rfl, fun w hw => by clear hw; go_simp⟩) h0 ?_
  try simp only [Act.put, lay_out]
  refine wpAnyH_take (i := 4) (v := .int .i64 (A.len : Int)) rfl (by kernel_rfl) (by kernel_rfl) (by kernel_rfl) (fun _ _ _ h => h) (.inl ⟨by rfl, fun w hw => by have hc := hw.2.1; clear hw; go_simp⟩) h0 ?_
  try simp only [Act.put, lay_out]
  refine wpAnyH_take (i := 5) (v := .pointer (some ⟨b, 0, none⟩)) rfl (by kernel_rfl) (by kernel_rfl) (by kernel_rfl) (fun _ _ _ h => h) (.inl ⟨by rfl, fun w hw => by clear hw; go_simp⟩) h0 ?_
  try simp only [Act.put, lay_out]
  refine wpAnyH_take (i := 6) (v := .pointer (some ⟨b, 0, none⟩)) rfl (by kernel_rfl) (by kernel_rfl) (by kernel_rfl) (fun _ _ _ h => h) (.inl ⟨by rfl, fun w hw => by clear hw; go_simp⟩) h0 ?_
  try simp only [Act.put, lay_out]
  refine wpAnyH_take (i := 7) (v := .pointer (some ⟨b, 0, none⟩)) rfl (by kernel_rfl) (by kernel_rfl) (by kernel_rfl) (fun _ _ _ h => h) (.inl ⟨by rfl, fun w hw => by clear hw; go_simp⟩) h0 ?_
  try simp only [Act.put, lay_out]
  refine wpAnyH_take (i := 8) (v := .int .i64 A.n) rfl (by kernel_rfl) (by kernel_rfl) (by kernel_rfl) (fun _ _ _ h => h) (.inl ⟨by rfl, fun w hw => by have hc := hw.2.2; clear hw; go_simp⟩) h0 ?_
  try simp only [Act.put, lay_out]
  refine wpAnyH_ready (rs := [9]) (by kernel_rfl) (by simp) (AllReadyH.cons rfl (fun K hK => ?_) AllReadyH.nil)
  rw [if_pos (by rfl)]
  go_simp
  go_at_call 62
  (with_reducible refine (HR.out _).mono ?_); rintro e w2 ⟨rfl, hb1⟩
  have Z1 := hid (Z0.out.self hb1)
  have B1 := hid hb1
  clear hb1
  refine hK.out _ _ (⟨Z1.out.op, Z1.out.pr.c_len, Z1.out.pr.c_n⟩) (fun h1x => ?_)
  clear hK K
  try simp only [Act.put, lay_out]
  refine wpAnyH_take (i := 10) (v := .bool false) rfl (by kernel_rfl) (by kernel_rfl) (by kernel_rfl) (fun _ _ _ h => h) (.inl ⟨by rfl, fun w hw => by clear hw; go_simp⟩) h1x ?_
  try simp only [Act.put, lay_out]
  refine wpAnyH_take (i := 11) (v := .bool false) rfl (by kernel_rfl) (by kernel_rfl) (by kernel_rfl) (fun _ _ _ h => h) (.inl ⟨by rfl, fun w hw => by clear hw; go_simp⟩) h1x ?_
  try simp only [Act.put, lay_out]
  refine wpAnyH_done (by kernel_rfl) ?_ _
  refine NoPanic.normal ?_
  clear h0 h1x
  try simp only [Act.put, lay_out]
  have BB : Hid (Below w.heap.size w w2) := hid (HB1.out.trans (B1.out.mono HB1.out.size))
  have ZD := hid Z1.out.drew
  have k0 : w2.drew.cell? ⟨w.heap.size, 0, none⟩ = some (.int .i64 o.K) := orc ZD.out.op 0 rfl
  have k5 : w2.drew.cell? ⟨w.heap.size, 5, none⟩ = some (.int .u64 (o.C : Int)) := orc ZD.out.op 5 rfl
  have k6 := ZD.out.pr.c_words
  go_wp2_with fail
  go_region
  clear k0 k5 k6
  have ZE := hid ZD.out.drew
  have k3 := ZE.out.pr.c_dry
  rw [hd] at k3
  have k4 := ZE.out.pr.c_len
  have k2 := ZE.out.pr.c_most
  have q45 : decide (A.most ≤ (A.len : Int)) = false := decide_eq_false (by omega)
  clear hm
  go_wp2_with fail
  go_region
  go_wp2
  go_ret
  exact ⟨rfl, BB.out.drew.drew⟩
set_option maxHeartbeats 3200000 in
theorem prefuses_dryo (b LO LV lo hi : Nat) (A S : Ms) (tv oc vc bv ov vv : Value) (o : Op6) (w : World) (h : Pr w b A S LO LV tv oc vc bv ov vv lo hi) (hok : okOp o (A.len : Int) A.n = true) (q20 : (o.K == 2) = false) (hd : A.dry = true) :
    Calls Tryd.prog 56 #[.pointer (some ⟨b, 0, none⟩), .agg (opCs o)] w fun e w' => e = .returned (.int .i64 0) ∧ Below w.heap.size w w' := by
  have HB0 : Hid (Below w.heap.size w (w.alloc (.cells (opCs o) 52))) := hid ((Below.refl _ _).alloc (Nat.le_refl _) _)
  have ZS := hid (Rz.start h o)
  have HR := hid (fun w => oright_any o A.len A.n w)
  rw [hok] at HR
  clear h hok
  go_enter Tryd.func56, Tryd.ntmps56
  go_wp2_with fail
  generalize hw1 : w.alloc (.cells (opCs o) 52) = w1 at *
  have Z0 := hid ZS.out.drew
  have HB1 := hid HB0.out.drew
  refine wp_region_noPanic ?_
  refine wp_region_held_drew (S := fun w' => w'.heap[w.heap.size]? = some (.cells (opCs o) 52 (0, 0)) ∧ w'.cell? ⟨b, 4, none⟩ = some (Value.int .i64 (A.len : Int)) ∧ w'.cell? ⟨b, 0, none⟩ = some (Value.int .i64 A.n)) (by kernel_rfl) (⟨Z0.out.op, Z0.out.pr.c_len, Z0.out.pr.c_n⟩) (fun h0 => ?_)
  generalize w1.drew = wa at *
  refine wpAnyH_take (i := 0) (v := .agg (opCs o)) rfl (by kernel_rfl) (by kernel_rfl) (by kernel_rfl) (fun _ _ _ h => h) (yields_load_row (by rfl) 52 (.tmp 3) rfl w.heap.size 52 (opCs o) _ rfl (fun w h => h.1) Tryd.underlying52 rfl (by kernel_rfl)) h0 ?_
  try simp only [Act.put, lay_out]
  refine wpAnyH_take (i := 1) (v := .pointer (some ⟨b, 0, none⟩)) rfl (by kernel_rfl) (by kernel_rfl) (by kernel_rfl) (fun _ _ _ h => h) (.inl ⟨by rfl, fun w hw => by clear hw; go_simp⟩) h0 ?_
  try simp only [Act.put, lay_out]
  refine wpAnyH_take (i := 2) (v := .pointer (some ⟨b, 0, none⟩)) rfl (by kernel_rfl) (by kernel_rfl) (by kernel_rfl) (fun _ _ _ h => h) (.inl ⟨by rfl, fun w hw => by clear hw; go_simp⟩) h0 ?_
  try simp only [Act.put, lay_out]
  refine wpAnyH_take (i := 3) (v := .pointer (some ⟨b, 4, none⟩)) rfl (by kernel_rfl) (by kernel_rfl) (by kernel_rfl) (fun _ _ _ h => h) (.inl ⟨by rfl, fun w hw => by clear hw; go_simp⟩) h0 ?_
  try simp only [Act.put, lay_out]
  refine wpAnyH_take (i := 4) (v := .int .i64 (A.len : Int)) rfl (by kernel_rfl) (by kernel_rfl) (by kernel_rfl) (fun _ _ _ h => h) (.inl ⟨by rfl, fun w hw => by have hc := hw.2.1; clear hw; go_simp⟩) h0 ?_
  try simp only [Act.put, lay_out]
  refine wpAnyH_take (i := 5) (v := .pointer (some ⟨b, 0, none⟩)) rfl (by kernel_rfl) (by kernel_rfl) (by kernel_rfl) (fun _ _ _ h => h) (.inl ⟨by rfl, fun w hw => by clear hw; go_simp⟩) h0 ?_
  try simp only [Act.put, lay_out]
  refine wpAnyH_take (i := 6) (v := .pointer (some ⟨b, 0, none⟩)) rfl (by kernel_rfl) (by kernel_rfl) (by kernel_rfl) (fun _ _ _ h => h) (.inl ⟨by rfl, fun w hw => by clear hw; go_simp⟩) h0 ?_
  try simp only [Act.put, lay_out]
  refine wpAnyH_take (i := 7) (v := .pointer (some ⟨b, 0, none⟩)) rfl (by kernel_rfl) (by kernel_rfl) (by kernel_rfl) (fun _ _ _ h => h) (.inl ⟨by rfl, fun w hw => by clear hw; go_simp⟩) h0 ?_
  try simp only [Act.put, lay_out]
  refine wpAnyH_take (i := 8) (v := .int .i64 A.n) rfl (by kernel_rfl) (by kernel_rfl) (by kernel_rfl) (fun _ _ _ h => h) (.inl ⟨by rfl, fun w hw => by have hc := hw.2.2; clear hw; go_simp⟩) h0 ?_
  try simp only [Act.put, lay_out]
  refine wpAnyH_ready (rs := [9]) (by kernel_rfl) (by simp) (AllReadyH.cons rfl (fun K hK => ?_) AllReadyH.nil)
  rw [if_pos (by rfl)]
  go_simp
  go_at_call 62
  (with_reducible refine (HR.out _).mono ?_); rintro e w2 ⟨rfl, hb1⟩
  have Z1 := hid (Z0.out.self hb1)
  have B1 := hid hb1
  clear hb1
  refine hK.out _ _ (⟨Z1.out.op, Z1.out.pr.c_len, Z1.out.pr.c_n⟩) (fun h1x => ?_)
  clear hK K
  try simp only [Act.put, lay_out]
  refine wpAnyH_take (i := 10) (v := .bool false) rfl (by kernel_rfl) (by kernel_rfl) (by kernel_rfl) (fun _ _ _ h => h) (.inl ⟨by rfl, fun w hw => by clear hw; go_simp⟩) h1x ?_
  try simp only [Act.put, lay_out]
  refine wpAnyH_take (i := 11) (v := .bool false) rfl (by kernel_rfl) (by kernel_rfl) (by kernel_rfl) (fun _ _ _ h => h) (.inl ⟨by rfl, fun w hw => by clear hw; go_simp⟩) h1x ?_
  try simp only [Act.put, lay_out]
  refine wpAnyH_done (by kernel_rfl) ?_ _
  refine NoPanic.normal ?_
  clear h0 h1x
  try simp only [Act.put, lay_out]
  have BB : Hid (Below w.heap.size w w2) := hid (HB1.out.trans (B1.out.mono HB1.out.size))
  have ZD := hid Z1.out.drew
  have k0 : w2.drew.cell? ⟨w.heap.size, 0, none⟩ = some (.int .i64 o.K) := orc ZD.out.op 0 rfl
  have k5 : w2.drew.cell? ⟨w.heap.size, 5, none⟩ = some (.int .u64 (o.C : Int)) := orc ZD.out.op 5 rfl
  have k6 := ZD.out.pr.c_words
  go_wp2_with fail
  go_region
  clear k0 k5 k6
  have ZE := hid ZD.out.drew
  have k3 := ZE.out.pr.c_dry
  rw [hd] at k3
  have k4 := ZE.out.pr.c_len
  have k2 := ZE.out.pr.c_most
  go_wp2_with fail
  go_region
  go_wp2
  go_ret
  exact ⟨rfl, BB.out.drew.drew⟩
set_option maxHeartbeats 3200000 in
theorem prefuses_fullo (b LO LV lo hi : Nat) (A S : Ms) (tv oc vc bv ov vv : Value) (o : Op6) (w : World) (h : Pr w b A S LO LV tv oc vc bv ov vv lo hi) (hok : okOp o (A.len : Int) A.n = true) (q20 : (o.K == 2) = false) (hd : A.dry = false) (hm : A.most ≤ (A.len : Int)) :
    Calls Tryd.prog 56 #[.pointer (some ⟨b, 0, none⟩), .agg (opCs o)] w fun e w' => e = .returned (.int .i64 3) ∧ Below w.heap.size w w' := by
  have HB0 : Hid (Below w.heap.size w (w.alloc (.cells (opCs o) 52))) := hid ((Below.refl _ _).alloc (Nat.le_refl _) _)
  have ZS := hid (Rz.start h o)
  have HR := hid (fun w => oright_any o A.len A.n w)
  rw [hok] at HR
  clear h hok
  go_enter Tryd.func56, Tryd.ntmps56
  go_wp2_with fail
  generalize hw1 : w.alloc (.cells (opCs o) 52) = w1 at *
  have Z0 := hid ZS.out.drew
  have HB1 := hid HB0.out.drew
  refine wp_region_noPanic ?_
  refine wp_region_held_drew (S := fun w' => w'.heap[w.heap.size]? = some (.cells (opCs o) 52 (0, 0)) ∧ w'.cell? ⟨b, 4, none⟩ = some (Value.int .i64 (A.len : Int)) ∧ w'.cell? ⟨b, 0, none⟩ = some (Value.int .i64 A.n)) (by kernel_rfl) (⟨Z0.out.op, Z0.out.pr.c_len, Z0.out.pr.c_n⟩) (fun h0 => ?_)
  generalize w1.drew = wa at *
  refine wpAnyH_take (i := 0) (v := .agg (opCs o)) rfl (by kernel_rfl) (by kernel_rfl) (by kernel_rfl) (fun _ _ _ h => h) (yields_load_row (by rfl) 52 (.tmp 3) rfl w.heap.size 52 (opCs o) _ rfl (fun w h => h.1) Tryd.underlying52 rfl (by kernel_rfl)) h0 ?_
  try simp only [Act.put, lay_out]
  refine wpAnyH_take (i := 1) (v := .pointer (some ⟨b, 0, none⟩)) rfl (by kernel_rfl) (by kernel_rfl) (by kernel_rfl) (fun _ _ _ h => h) (.inl ⟨by rfl, fun w hw => by clear hw; go_simp⟩) h0 ?_
  try simp only [Act.put, lay_out]
  refine wpAnyH_take (i := 2) (v := .pointer (some ⟨b, 0, none⟩)) rfl (by kernel_rfl) (by kernel_rfl) (by kernel_rfl) (fun _ _ _ h => h) (.inl ⟨by rfl, fun w hw => by clear hw; go_simp⟩) h0 ?_
  try simp only [Act.put, lay_out]
  refine wpAnyH_take (i := 3) (v := .pointer (some ⟨b, 4, none⟩)) rfl (by kernel_rfl) (by kernel_rfl) (by kernel_rfl) (fun _ _ _ h => h) (.inl ⟨by rfl, fun w hw => by clear hw; go_simp⟩) h0 ?_
  try simp only [Act.put, lay_out]
  refine wpAnyH_take (i := 4) (v := .int .i64 (A.len : Int)) rfl (by kernel_rfl) (by kernel_rfl) (by kernel_rfl) (fun _ _ _ h => h) (.inl ⟨by rfl, fun w hw => by have hc := hw.2.1; clear hw; go_simp⟩) h0 ?_
  try simp only [Act.put, lay_out]
  refine wpAnyH_take (i := 5) (v := .pointer (some ⟨b, 0, none⟩)) rfl (by kernel_rfl) (by kernel_rfl) (by kernel_rfl) (fun _ _ _ h => h) (.inl ⟨by rfl, fun w hw => by clear hw; go_simp⟩) h0 ?_
  try simp only [Act.put, lay_out]
  refine wpAnyH_take (i := 6) (v := .pointer (some ⟨b, 0, none⟩)) rfl (by kernel_rfl) (by kernel_rfl) (by kernel_rfl) (fun _ _ _ h => h) (.inl ⟨by rfl, fun w hw => by clear hw; go_simp⟩) h0 ?_
  try simp only [Act.put, lay_out]
  refine wpAnyH_take (i := 7) (v := .pointer (some ⟨b, 0, none⟩)) rfl (by kernel_rfl) (by kernel_rfl) (by kernel_rfl) (fun _ _ _ h => h) (.inl ⟨by rfl, fun w hw => by clear hw; go_simp⟩) h0 ?_
  try simp only [Act.put, lay_out]
  refine wpAnyH_take (i := 8) (v := .int .i64 A.n) rfl (by kernel_rfl) (by kernel_rfl) (by kernel_rfl) (fun _ _ _ h => h) (.inl ⟨by rfl, fun w hw => by have hc := hw.2.2; clear hw; go_simp⟩) h0 ?_
  try simp only [Act.put, lay_out]
  refine wpAnyH_ready (rs := [9]) (by kernel_rfl) (by simp) (AllReadyH.cons rfl (fun K hK => ?_) AllReadyH.nil)
  rw [if_pos (by rfl)]
  go_simp
  go_at_call 62
  (with_reducible refine (HR.out _).mono ?_); rintro e w2 ⟨rfl, hb1⟩
  have Z1 := hid (Z0.out.self hb1)
  have B1 := hid hb1
  clear hb1
  refine hK.out _ _ (⟨Z1.out.op, Z1.out.pr.c_len, Z1.out.pr.c_n⟩) (fun h1x => ?_)
  clear hK K
  try simp only [Act.put, lay_out]
  refine wpAnyH_take (i := 10) (v := .bool false) rfl (by kernel_rfl) (by kernel_rfl) (by kernel_rfl) (fun _ _ _ h => h) (.inl ⟨by rfl, fun w hw => by clear hw; go_simp⟩) h1x ?_
  try simp only [Act.put, lay_out]
  refine wpAnyH_take (i := 11) (v := .bool false) rfl (by kernel_rfl) (by kernel_rfl) (by kernel_rfl) (fun _ _ _ h => h) (.inl ⟨by rfl, fun w hw => by clear hw; go_simp⟩) h1x ?_
  try simp only [Act.put, lay_out]
  refine wpAnyH_done (by kernel_rfl) ?_ _
  refine NoPanic.normal ?_
  clear h0 h1x
  try simp only [Act.put, lay_out]
  have BB : Hid (Below w.heap.size w w2) := hid (HB1.out.trans (B1.out.mono HB1.out.size))
  have ZD := hid Z1.out.drew
  have k0 : w2.drew.cell? ⟨w.heap.size, 0, none⟩ = some (.int .i64 o.K) := orc ZD.out.op 0 rfl
  have k5 : w2.drew.cell? ⟨w.heap.size, 5, none⟩ = some (.int .u64 (o.C : Int)) := orc ZD.out.op 5 rfl
  have k6 := ZD.out.pr.c_words
  go_wp2_with fail
  go_region
  clear k0 k5 k6
  have ZE := hid ZD.out.drew
  have k3 := ZE.out.pr.c_dry
  rw [hd] at k3
  have k4 := ZE.out.pr.c_len
  have k2 := ZE.out.pr.c_most
  have q45 : decide (A.most ≤ (A.len : Int)) = true := decide_eq_true hm
  clear hm
  go_wp2_with fail
  go_region
  go_wp2
  go_ret
  exact ⟨rfl, BB.out.drew.drew⟩
set_option maxHeartbeats 3200000 in
theorem prefuses_fitso (b LO LV lo hi : Nat) (A S : Ms) (tv oc vc bv ov vv : Value) (o : Op6) (w : World) (h : Pr w b A S LO LV tv oc vc bv ov vv lo hi) (hok : okOp o (A.len : Int) A.n = true) (q20 : (o.K == 2) = false) (hd : A.dry = false) (hm : ¬ A.most ≤ (A.len : Int)) :
    Calls Tryd.prog 56 #[.pointer (some ⟨b, 0, none⟩), .agg (opCs o)] w fun e w' => e = .returned (.int .i64 0) ∧ Below w.heap.size w w' := by
  have HB0 : Hid (Below w.heap.size w (w.alloc (.cells (opCs o) 52))) := hid ((Below.refl _ _).alloc (Nat.le_refl _) _)
  have ZS := hid (Rz.start h o)
  have HR := hid (fun w => oright_any o A.len A.n w)
  rw [hok] at HR
  clear h hok
  go_enter Tryd.func56, Tryd.ntmps56
  go_wp2_with fail
  generalize hw1 : w.alloc (.cells (opCs o) 52) = w1 at *
  have Z0 := hid ZS.out.drew
  have HB1 := hid HB0.out.drew
  refine wp_region_noPanic ?_
  refine wp_region_held_drew (S := fun w' => w'.heap[w.heap.size]? = some (.cells (opCs o) 52 (0, 0)) ∧ w'.cell? ⟨b, 4, none⟩ = some (Value.int .i64 (A.len : Int)) ∧ w'.cell? ⟨b, 0, none⟩ = some (Value.int .i64 A.n)) (by kernel_rfl) (⟨Z0.out.op, Z0.out.pr.c_len, Z0.out.pr.c_n⟩) (fun h0 => ?_)
  generalize w1.drew = wa at *
  refine wpAnyH_take (i := 0) (v := .agg (opCs o)) rfl (by kernel_rfl) (by kernel_rfl) (by kernel_rfl) (fun _ _ _ h => h) (yields_load_row (by rfl) 52 (.tmp 3) rfl w.heap.size 52 (opCs o) _ rfl (fun w h => h.1) Tryd.underlying52 rfl (by kernel_rfl)) h0 ?_
  try simp only [Act.put, lay_out]
  refine wpAnyH_take (i := 1) (v := .pointer (some ⟨b, 0, none⟩)) rfl (by kernel_rfl) (by kernel_rfl) (by kernel_rfl) (fun _ _ _ h => h) (.inl ⟨by rfl, fun w hw => by clear hw; go_simp⟩) h0 ?_
  try simp only [Act.put, lay_out]
  refine wpAnyH_take (i := 2) (v := .pointer (some ⟨b, 0, none⟩)) rfl (by kernel_rfl) (by kernel_rfl) (by kernel_rfl) (fun _ _ _ h => h) (.inl ⟨by rfl, fun w hw => by clear hw; go_simp⟩) h0 ?_
  try simp only [Act.put, lay_out]
  refine wpAnyH_take (i := 3) (v := .pointer (some ⟨b, 4, none⟩)) rfl (by kernel_rfl) (by kernel_rfl) (by kernel_rfl) (fun _ _ _ h => h) (.inl ⟨by rfl, fun w hw => by clear hw; go_simp⟩) h0 ?_
  try simp only [Act.put, lay_out]
  refine wpAnyH_take (i := 4) (v := .int .i64 (A.len : Int)) rfl (by kernel_rfl) (by kernel_rfl) (by kernel_rfl) (fun _ _ _ h => h) (.inl ⟨by rfl, fun w hw => by have hc := hw.2.1; clear hw; go_simp⟩) h0 ?_
  try simp only [Act.put, lay_out]
  refine wpAnyH_take (i := 5) (v := .pointer (some ⟨b, 0, none⟩)) rfl (by kernel_rfl) (by kernel_rfl) (by kernel_rfl) (fun _ _ _ h => h) (.inl ⟨by rfl, fun w hw => by clear hw; go_simp⟩) h0 ?_
  try simp only [Act.put, lay_out]
  refine wpAnyH_take (i := 6) (v := .pointer (some ⟨b, 0, none⟩)) rfl (by kernel_rfl) (by kernel_rfl) (by kernel_rfl) (fun _ _ _ h => h) (.inl ⟨by rfl, fun w hw => by clear hw; go_simp⟩) h0 ?_
  try simp only [Act.put, lay_out]
  refine wpAnyH_take (i := 7) (v := .pointer (some ⟨b, 0, none⟩)) rfl (by kernel_rfl) (by kernel_rfl) (by kernel_rfl) (fun _ _ _ h => h) (.inl ⟨by rfl, fun w hw => by clear hw; go_simp⟩) h0 ?_
  try simp only [Act.put, lay_out]
  refine wpAnyH_take (i := 8) (v := .int .i64 A.n) rfl (by kernel_rfl) (by kernel_rfl) (by kernel_rfl) (fun _ _ _ h => h) (.inl ⟨by rfl, fun w hw => by have hc := hw.2.2; clear hw; go_simp⟩) h0 ?_
  try simp only [Act.put, lay_out]
  refine wpAnyH_ready (rs := [9]) (by kernel_rfl) (by simp) (AllReadyH.cons rfl (fun K hK => ?_) AllReadyH.nil)
  rw [if_pos (by rfl)]
  go_simp
  go_at_call 62
  (with_reducible refine (HR.out _).mono ?_); rintro e w2 ⟨rfl, hb1⟩
  have Z1 := hid (Z0.out.self hb1)
  have B1 := hid hb1
  clear hb1
  refine hK.out _ _ (⟨Z1.out.op, Z1.out.pr.c_len, Z1.out.pr.c_n⟩) (fun h1x => ?_)
  clear hK K
  try simp only [Act.put, lay_out]
  refine wpAnyH_take (i := 10) (v := .bool false) rfl (by kernel_rfl) (by kernel_rfl) (by kernel_rfl) (fun _ _ _ h => h) (.inl ⟨by rfl, fun w hw => by clear hw; go_simp⟩) h1x ?_
  try simp only [Act.put, lay_out]
  refine wpAnyH_take (i := 11) (v := .bool false) rfl (by kernel_rfl) (by kernel_rfl) (by kernel_rfl) (fun _ _ _ h => h) (.inl ⟨by rfl, fun w hw => by clear hw; go_simp⟩) h1x ?_
  try simp only [Act.put, lay_out]
  refine wpAnyH_done (by kernel_rfl) ?_ _
  refine NoPanic.normal ?_
  clear h0 h1x
  try simp only [Act.put, lay_out]
  have BB : Hid (Below w.heap.size w w2) := hid (HB1.out.trans (B1.out.mono HB1.out.size))
  have ZD := hid Z1.out.drew
  have k0 : w2.drew.cell? ⟨w.heap.size, 0, none⟩ = some (.int .i64 o.K) := orc ZD.out.op 0 rfl
  have k5 : w2.drew.cell? ⟨w.heap.size, 5, none⟩ = some (.int .u64 (o.C : Int)) := orc ZD.out.op 5 rfl
  have k6 := ZD.out.pr.c_words
  go_wp2_with fail
  go_region
  clear k0 k5 k6
  have ZE := hid ZD.out.drew
  have k3 := ZE.out.pr.c_dry
  rw [hd] at k3
  have k4 := ZE.out.pr.c_len
  have k2 := ZE.out.pr.c_most
  have q45 : decide (A.most ≤ (A.len : Int)) = false := decide_eq_false (by omega)
  clear hm
  go_wp2_with fail
  go_region
  go_wp2
  go_ret
  exact ⟨rfl, BB.out.drew.drew⟩
theorem prefuses_any (b LO LV lo hi : Nat) (A S : Ms) (tv oc vc bv ov vv : Value) (o : Op6) (w : World) (h : Pr w b A S LO LV tv oc vc bv ov vv lo hi) :
    Calls Tryd.prog 56 #[.pointer (some ⟨b, 0, none⟩), .agg (opCs o)] w fun e w' => e = .returned (.int .i64 (rfN A o)) ∧ Below w.heap.size w w' := by
  unfold rfN Ms.bad Ms.full
  cases hok : okOp o (A.len : Int) A.n
  · exact prefuses_bad1 b LO LV lo hi A S tv oc vc bv ov vv o w h hok
  · by_cases hk : o.K = 2
    · by_cases hc : o.C = A.words
      · have q20 : (o.K == 2) = true := by simp [hk]
        have q28 : ((o.C : Int) != (A.words : Int)) = false := by simp [hc]
        rw [decide_eq_false (fun e => e.2 hc)]
        cases hd : A.dry
        · by_cases hm : A.most ≤ (A.len : Int)
          · rw [decide_eq_true hm]; exact prefuses_fullk b LO LV lo hi A S tv oc vc bv ov vv o w h hok q20 q28 hd hm
          · rw [decide_eq_false hm]; exact prefuses_fitsk b LO LV lo hi A S tv oc vc bv ov vv o w h hok q20 q28 hd hm
        · exact prefuses_dryk b LO LV lo hi A S tv oc vc bv ov vv o w h hok q20 q28 hd
      · have q20 : (o.K == 2) = true := by simp [hk]
        have q28 : ((o.C : Int) != (A.words : Int)) = true := by simp; omega
        rw [decide_eq_true ⟨hk, hc⟩]
        exact prefuses_bad2 b LO LV lo hi A S tv oc vc bv ov vv o w h hok q20 q28
    · have q20 : (o.K == 2) = false := by simp [hk]
      rw [decide_eq_false (fun e => hk e.1)]
      cases hd : A.dry
      · by_cases hm : A.most ≤ (A.len : Int)
        · rw [decide_eq_true hm]; exact prefuses_fullo b LO LV lo hi A S tv oc vc bv ov vv o w h hok q20 hd hm
        · rw [decide_eq_false hm]; exact prefuses_fitso b LO LV lo hi A S tv oc vc bv ov vv o w h hok q20 hd hm
      · exact prefuses_dryo b LO LV lo hi A S tv oc vc bv ov vv o w h hok q20 hd
end Go.Proofs.YtpjgpiieminaoaaDoor

/- Wire: the program's machine: rows that grow, words from outside, counts. -/
namespace Go.Proofs.YtpjgpiieminaoaaDoor
open Go.RowKit
set_option maxRecDepth 100000
section
variable {b LO LV lo hi : Nat} {w w' : World} {A S A' S' : Ms} {tv oc vc bv ov vv : Value}
theorem Pr.rows (h : Pr w b A S LO LV tv oc vc bv ov vv lo hi) (hf : S'.f = S.f) (hv : S'.v = S.v) (hM : S'.M = S.M) (hg : S'.g = S.g) (hd : S'.dry = S.dry) (htw : S'.tw = S.tw) (hTN : S'.TN = S.TN) (hu : S'.used = S.used) (hfr : S'.free = S.free) : Pr w b A S' LO LV tv oc vc bv ov vv lo hi :=
  h.turn h.blk rfl (Nat.le_refl _) (fun _ _ _ => rfl) hf hv hM hg hd htw hTN hu hfr
theorem TapeAt.grown {q : Nat} {zs : List Int} {d e : Nat} {r : Option Nat} (h : TapeAt w lo hi q zs d e) (hg : w.grownBy w' r) (hr : ∀ k, r = some k → ¬ (lo ≤ k ∧ k < hi)) (his : hi ≤ w.heap.size) : TapeAt w' lo hi q zs d e :=
  h.stays hg.size fun k h1 h2 => hg.block k (by omega) (fun e => hr k e.symm ⟨h1, h2⟩)
theorem Pr.addOp (h : Pr w b A S LO LV tv oc vc bv ov vv lo hi) {g cap : Nat} {f : Nat → Op6} (hrow : Orw w' 0 52 6 (.slice (some ⟨g, 0, none⟩) (LO + 1) cap) (LO + 1) (fun i => (opCs (f i)).toList)) (hg : w.grownBy w' ov.ownBlock) (hp : ov.ownBlock = some g ∨ g = w.heap.size) :
    Pr w' b A { S with f := f } (LO + 1) LV tv oc vc bv (.slice (some ⟨g, 0, none⟩) (LO + 1) cap) vv lo hi ∧ Tch (Fz b ov bv vv lo hi) w w' ∧ (∀ k, Fz b (.slice (some ⟨g, 0, none⟩) (LO + 1) cap) bv vv lo hi k → Fz b ov bv vv lo hi k ∨ w.heap.size ≤ k) := by
  have hgb : ((.slice (some ⟨g, 0, none⟩) (LO + 1) cap) : Value).ownBlock ≠ some b := by
    intro e
    have e' : g = b := Option.some.inj e
    subst e'
    rcases hp with hp | hp
    · exact h.hob hp
    · have := h.lt; omega
  have hg_bv : bv.ownBlock ≠ some g := fun hk => by
    rcases hp with hp | hp
    · exact (h.hobv g hp) hk
    · have := (h.bls.lt g hk).2; omega
  have hg_vv : vv.ownBlock ≠ some g := fun hk => by
    rcases hp with hp | hp
    · exact (h.hov g hp) hk
    · have := (h.val.lt g hk).2; omega
  have hgt : ¬ (lo ≤ g ∧ g < hi) := by
    rcases hp with hp | hp
    · exact h.apart g (.inr (.inl hp))
    · have := h.his; omega
  refine ⟨⟨(hg.block b h.lt (fun e => h.hob e.symm)).trans h.blk, h.hn, hrow, ?_, ?_, hgb, h.hbb, h.hvb, ?_, ?_, h.hbv, ?_, h.dr, ?_, Nat.le_trans h.his hg.size⟩, Tch.of_grown hg (fun k e => .inl (.inr (.inl e))), ?_⟩
  · exact h.val.stays fun k hk => hg.block k (h.val.lt k hk).2 (fun e => h.hov k e.symm hk)
  · exact h.bls.stays fun k hk => hg.block k (h.bls.lt k hk).2 (fun e => h.hobv k e.symm hk)
  · intro k hk e
    have e' : g = k := Option.some.inj hk
    subst e'; exact hg_bv e
  · intro k hk e
    have e' : g = k := Option.some.inj hk
    subst e'; exact hg_vv e
  · intro e
    obtain ⟨q, e1, e2⟩ := h.wet e
    exact ⟨q, e1, e2.grown hg (fun k e => h.apart k (.inr (.inl e))) h.his⟩
  · rintro k (rfl | e | e | e)
    · exact h.apart _ (.inl rfl)
    · have e' : g = k := Option.some.inj e
      subst e'; exact hgt
    · exact h.apart _ (.inr (.inr (.inl e)))
    · exact h.apart _ (.inr (.inr (.inr e)))
  · rintro k ((rfl | e | e | e) | e)
    · exact .inl (.inl (.inl rfl))
    · have e' : g = k := Option.some.inj e
      subst e'
      rcases hp with hp | hp
      · exact .inl (.inl (.inr (.inl hp)))
      · exact .inr (by omega)
    · exact .inl (.inl (.inr (.inr (.inl e))))
    · exact .inl (.inl (.inr (.inr (.inr e))))
    · exact .inl (.inr e)
theorem Pr.addVal (h : Pr w b A S LO LV tv oc vc bv ov vv lo hi) {g cap : Nat} {f : Nat → Nat} (hrow : Orw w' 0 22 1 (.slice (some ⟨g, 0, none⟩) (LV + 1) cap) (LV + 1) (fun i => [.int .u64 (f i : Int)])) (hg : w.grownBy w' vv.ownBlock) (hp : vv.ownBlock = some g ∨ g = w.heap.size) :
    Pr w' b A { S with v := f } LO (LV + 1) tv oc vc bv ov (.slice (some ⟨g, 0, none⟩) (LV + 1) cap) lo hi ∧ Tch (Fz b ov bv vv lo hi) w w' ∧ (∀ k, Fz b ov bv (.slice (some ⟨g, 0, none⟩) (LV + 1) cap) lo hi k → Fz b ov bv vv lo hi k ∨ w.heap.size ≤ k) := by
  have hgb : ((.slice (some ⟨g, 0, none⟩) (LV + 1) cap) : Value).ownBlock ≠ some b := by
    intro e
    have e' : g = b := Option.some.inj e
    subst e'
    rcases hp with hp | hp
    · exact h.hvb hp
    · have := h.lt; omega
  have hg_bv : bv.ownBlock ≠ some g := fun hk => by
    rcases hp with hp | hp
    · exact (h.hbv g hk) hp
    · have := (h.bls.lt g hk).2; omega
  have hg_ov : ov.ownBlock ≠ some g := fun hk => by
    rcases hp with hp | hp
    · exact (h.hov g hk) hp
    · have := (h.ops.lt g hk).2; omega
  have hgt : ¬ (lo ≤ g ∧ g < hi) := by
    rcases hp with hp | hp
    · exact h.apart g (.inr (.inr (.inr hp)))
    · have := h.his; omega
  refine ⟨⟨(hg.block b h.lt (fun e => h.hvb e.symm)).trans h.blk, h.hn, ?_, hrow, ?_, h.hob, h.hbb, hgb, h.hobv, ?_, ?_, ?_, h.dr, ?_, Nat.le_trans h.his hg.size⟩, Tch.of_grown hg (fun k e => .inl (.inr (.inr (.inr e)))), ?_⟩
  · exact h.ops.stays fun k hk => hg.block k (h.ops.lt k hk).2 (fun e => h.hov k hk e.symm)
  · exact h.bls.stays fun k hk => hg.block k (h.bls.lt k hk).2 (fun e => h.hbv k hk e.symm)
  · intro k hk e
    have e' : g = k := Option.some.inj e
    subst e'; exact hg_ov hk
  · intro k hk e
    have e' : g = k := Option.some.inj e
    subst e'; exact hg_bv hk
  · intro e
    obtain ⟨q, e1, e2⟩ := h.wet e
    exact ⟨q, e1, e2.grown hg (fun k e => h.apart k (.inr (.inr (.inr e)))) h.his⟩
  · rintro k (rfl | e | e | e)
    · exact h.apart _ (.inl rfl)
    · exact h.apart _ (.inr (.inl e))
    · exact h.apart _ (.inr (.inr (.inl e)))
    · have e' : g = k := Option.some.inj e
      subst e'; exact hgt
  · rintro k ((rfl | e | e | e) | e)
    · exact .inl (.inl (.inl rfl))
    · exact .inl (.inl (.inr (.inl e)))
    · exact .inl (.inl (.inr (.inr (.inl e))))
    · have e' : g = k := Option.some.inj e
      subst e'
      rcases hp with hp | hp
      · exact .inl (.inl (.inr (.inr (.inr hp))))
      · exact .inr (by omega)
    · exact .inl (.inr e)
/-- A block more: the row grows, and its cell is stored. -/
theorem Pr.addBl (h : Pr w b A S LO LV tv oc vc bv ov vv lo hi) {g cap n : Nat} (_hM : kpL S S.M = n) {f : Nat → Sp3} (hrow : Orw w' 0 69 3 (.slice (some ⟨g, 0, none⟩) (n + 1) cap) (n + 1) (fun i => (spCs (f i)).toList)) (hg : w.grownBy w' bv.ownBlock) (hp : bv.ownBlock = some g ∨ g = w.heap.size)
    (hf : S'.f = S.f) (hv : S'.v = S.v) (hM' : kpL S' S'.M = n + 1) (hg' : S'.g = f) (hd : S'.dry = S.dry) (htw : S'.tw = S.tw) (hTN : S'.TN = S.TN) (hu : S'.used = S.used) (hfr : S'.free = S.free) :
    Pr (w'.setCell ⟨b, 9, none⟩ (.slice (some ⟨g, 0, none⟩) (n + 1) cap)) b A S' LO LV tv oc vc (.slice (some ⟨g, 0, none⟩) (n + 1) cap) ov vv lo hi ∧ Tch (Fz b ov bv vv lo hi) w (w'.setCell ⟨b, 9, none⟩ (.slice (some ⟨g, 0, none⟩) (n + 1) cap)) ∧ (∀ k, Fz b ov (.slice (some ⟨g, 0, none⟩) (n + 1) cap) vv lo hi k → Fz b ov bv vv lo hi k ∨ w.heap.size ≤ k) := by
  have hgb : ((.slice (some ⟨g, 0, none⟩) (n + 1) cap) : Value).ownBlock ≠ some b := by
    intro e
    have e' : g = b := Option.some.inj e
    subst e'
    rcases hp with hp | hp
    · exact h.hbb hp
    · have := h.lt; omega
  have hg_ov : ov.ownBlock ≠ some g := fun hk => by
    rcases hp with hp | hp
    · exact (h.hobv g hk) hp
    · have := (h.ops.lt g hk).2; omega
  have hg_vv : vv.ownBlock ≠ some g := fun hk => by
    rcases hp with hp | hp
    · exact (h.hbv g hp) hk
    · have := (h.val.lt g hk).2; omega
  have hgt : ¬ (lo ≤ g ∧ g < hi) := by
    rcases hp with hp | hp
    · exact h.apart g (.inr (.inr (.inl hp)))
    · have := h.his; omega
  have hbl : w'.heap[b]? = w.heap[b]? := hg.block b h.lt (fun e => h.hbb e.symm)
  have hsz : (w'.setCell ⟨b, 9, none⟩ (.slice (some ⟨g, 0, none⟩) (n + 1) cap)).heap.size = w'.heap.size := by simp [World.setCell]
  have hot : ∀ k, k < w.heap.size → some k ≠ bv.ownBlock → k ≠ b → (w'.setCell ⟨b, 9, none⟩ (.slice (some ⟨g, 0, none⟩) (n + 1) cap)).heap[k]? = w.heap[k]? := fun k h1 h2 h3 => grown_at hg b 9 _ h1 h2 h3
  refine ⟨⟨?_, h.hn, ?_, ?_, ?_, h.hob, hgb, h.hvb, ?_, h.hov, ?_, ?_, fun e => h.dr (hd ▸ e), ?_, by rw [hsz]; exact Nat.le_trans h.his hg.size⟩, ?_, ?_⟩
  · rw [heap_setCell_same w' b 9 _ 71 _ (hbl.trans h.blk)]; rfl
  · rw [hf]; exact h.ops.stays fun k hk => hot k (h.ops.lt k hk).2 (fun e => h.hobv k hk e.symm) (fun e => h.hob (e ▸ hk))
  · rw [hv]; exact h.val.stays fun k hk => hot k (h.val.lt k hk).2 (fun e => h.hbv k e.symm hk) (fun e => h.hvb (e ▸ hk))
  · rw [hM', hg']; exact row_in hrow hgb 9 _
  · intro k hk e
    have e' : g = k := Option.some.inj e
    subst e'; exact hg_ov hk
  · intro k hk e
    have e' : g = k := Option.some.inj hk
    subst e'; exact hg_vv e
  · intro e
    obtain ⟨q, e1, e2⟩ := h.wet (hd ▸ e)
    rw [htw, hTN, hu, hfr]
    exact ⟨q, e1, e2.stays (by rw [hsz]; exact hg.size) (fun k h1 h2 => hot k (by have := h.his; omega) (fun e => h.apart k (.inr (.inr (.inl e.symm))) ⟨h1, h2⟩) (fun e => h.apart k (.inl e) ⟨h1, h2⟩))⟩
  · rintro k (rfl | e | e | e)
    · exact h.apart _ (.inl rfl)
    · exact h.apart _ (.inr (.inl e))
    · have e' : g = k := Option.some.inj e
      subst e'; exact hgt
    · exact h.apart _ (.inr (.inr (.inr e)))
  · exact (Tch.of_grown hg (fun k e => .inl (.inr (.inr (.inl e))))).trans (fz_set b 9 _ w') (fun _ _ f => f)
  · rintro k ((rfl | e | e | e) | e)
    · exact .inl (.inl (.inl rfl))
    · exact .inl (.inl (.inr (.inl e)))
    · have e' : g = k := Option.some.inj e
      subst e'
      rcases hp with hp | hp
      · exact .inl (.inl (.inr (.inr (.inl hp))))
      · exact .inr (by omega)
    · exact .inl (.inl (.inr (.inr (.inr e))))
    · exact .inl (.inr e)
/-- The tape is turned. -/
theorem Pr.tape {q u fr : Nat} (h : Pr w b A S LO LV tv oc vc bv ov vv lo hi) (_hd : S.dry = false) (htv : tv = .pointer (some ⟨q, 0, none⟩)) (hq : lo ≤ q ∧ q < hi) (ht : TapeAt w' lo hi q (wdL S.tw S.TN) u (u + fr)) (ho : Only q w w') : Pr w' b A { S with used := u, free := fr } LO LV tv oc vc bv ov vv lo hi ∧ Tch (Fz b ov bv vv lo hi) w w' := by
  have hne : ∀ k, Ft b ov bv vv k → k ≠ q := fun k hk e => h.apart k hk (e ▸ hq)
  refine ⟨⟨(ho.block b h.lt (hne b (.inl rfl))).trans h.blk, h.hn, ?_, ?_, ?_, h.hob, h.hbb, h.hvb, h.hobv, h.hov, h.hbv, fun _ => ⟨q, htv, ht⟩, h.dr, h.apart, Nat.le_trans h.his ho.size⟩, ⟨ho.os, ho.tape, ho.output, ho.size, fun k hk hF => ho.block k hk (fun e => hF (.inr (e ▸ hq)))⟩⟩
  · exact h.ops.stays fun k hk => ho.block k (h.ops.lt k hk).2 (hne k (.inr (.inl hk)))
  · exact h.val.stays fun k hk => ho.block k (h.val.lt k hk).2 (hne k (.inr (.inr (.inr hk))))
  · exact h.bls.stays fun k hk => ho.block k (h.bls.lt k hk).2 (hne k (.inr (.inr (.inl hk))))
end
/-- The machine, a mask drawn for an op. -/
def Ms.drawn (S : Ms) (o : Op6) : Ms := { S with used := if o.K = 1 ∧ S.dry = false then S.used + 1 else S.used, free := if o.K = 1 ∧ S.dry = false then S.free - 1 else S.free }
set_option maxHeartbeats 1600000 in
theorem poutside_out (b LO LV lo hi : Nat) (A S : Ms) (tv oc vc bv ov vv : Value) (o : Op6) (x : Nat) (w : World) (h : Pr w b A S LO LV tv oc vc bv ov vv lo hi) (hd : S.dry = false) (ho : S.out o = true) :
    Calls Tryd.prog 63 #[.pointer (some ⟨b, 0, none⟩), .agg (opCs o), .int .u64 (x : Int)] w fun e w' => e = .returned (.tuple #[.int .u64 0, .int .i64 2]) ∧ Pr w' b A S LO LV tv oc vc bv ov vv lo hi ∧ Tch (Fz b ov bv vv lo hi) w w' := by
  have hnew : (w.alloc (.cells (opCs o) 52)).heap[w.heap.size]? = some (.cells (opCs o) 52 (0, 0)) := heap_alloc_new _ _
  have k0 : (w.alloc (.cells (opCs o) 52)).cell? ⟨w.heap.size, 0, none⟩ = some (.int .i64 o.K) := orc hnew 0 rfl
  have HB0 := hid ((Below.refl w.heap.size w).alloc (Nat.le_refl _) (.cells (opCs o) 52))
  have hA := h.self HB0.out
  have c1 := hA.c_tv
  have HA := hid hA
  clear hnew hA
  unfold Ms.out at ho
  simp only [Bool.and_eq_true, decide_eq_true_eq] at ho
  obtain ⟨⟨hk, _⟩, ho⟩ := ho
  have q1 : (o.K != 1) = false := by simp [hk]
  obtain ⟨q, rfl, ht⟩ := HA.out.wet hd
  have hl := ht.len
  rw [wdL_len] at hl
  have HD := hid (fun (w' : World) (ht : TapeAt w' lo hi q (wdL S.tw S.TN) S.used (S.used + S.free)) => draw_none lo hi q _ S.used (S.used + S.free) w' ht (by omega))
  have HT := hid ht
  clear ht ho hk h hd hl
  go_enter Tryd.func63, Tryd.ntmps63
  go_wp2_with (go_at_call 73; (with_reducible refine (HD.out _ HT.out).mono ?_); rintro e w2 ⟨rfl, nq, rfl⟩)
  go_ret2
  have HB := below_drewN (w.alloc (.cells (opCs o) 52)) nq
  exact ⟨rfl, HA.out.self HB, (Tch.of_below HB0.out).trans (Tch.of_below HB) (fun _ _ f => f)⟩
set_option maxHeartbeats 1600000 in
theorem poutside_in (b LO LV lo hi : Nat) (A S : Ms) (tv oc vc bv ov vv : Value) (o : Op6) (x : Nat) (w : World) (h : Pr w b A S LO LV tv oc vc bv ov vv lo hi) (hd : S.dry = false) (ho : S.out o = false) :
    Calls Tryd.prog 63 #[.pointer (some ⟨b, 0, none⟩), .agg (opCs o), .int .u64 (x : Int)] w fun e w' => e = .returned (.tuple #[.int .u64 (S.word o x : Nat), .int .i64 0]) ∧ Pr w' b A (S.drawn o) LO LV tv oc vc bv ov vv lo hi ∧ Tch (Fz b ov bv vv lo hi) w w' := by
  have hnew : (w.alloc (.cells (opCs o) 52)).heap[w.heap.size]? = some (.cells (opCs o) 52 (0, 0)) := heap_alloc_new _ _
  have k0 : (w.alloc (.cells (opCs o) 52)).cell? ⟨w.heap.size, 0, none⟩ = some (.int .i64 o.K) := orc hnew 0 rfl
  have HB0 := hid ((Below.refl w.heap.size w).alloc (Nat.le_refl _) (.cells (opCs o) 52))
  have hA := h.self HB0.out
  have c1 := hA.c_tv
  have HA := hid hA
  clear hnew hA
  by_cases hk : o.K = 1
  · have q1 : (o.K != 1) = false := by simp [hk]
    have hout : 1 ≤ S.free ∧ S.used < S.TN := by
      unfold Ms.out at ho
      rw [decide_eq_true hk, hd, Bool.not_false, Bool.true_and, Bool.true_and] at ho
      have := of_decide_eq_false ho
      omega
    have e1 : S.word o x = S.tw S.used := by unfold Ms.word; rw [if_pos ⟨hk, hd⟩]
    have e2 : S.drawn o = { S with used := S.used + 1, free := S.free - 1 } := by unfold Ms.drawn; rw [if_pos ⟨hk, hd⟩, if_pos ⟨hk, hd⟩]
    rw [e1, e2]
    obtain ⟨q, rfl, ht⟩ := HA.out.wet hd
    have hq := ht.lt
    have HD := hid (fun (w' : World) (ht : TapeAt w' lo hi q (wdL S.tw S.TN) S.used (S.used + S.free)) => draw_some lo hi q _ S.used (S.used + S.free) w' ht (by omega))
    rw [wdL_nth S.tw hout.2] at HD
    have HT := hid ht
    have HQ := hid (show lo ≤ q ∧ q < hi from ⟨hq.1, hq.2.1⟩)
    have HF := hid (show S.used + S.free = S.used + 1 + (S.free - 1) by omega)
    have HH := hid hd
    clear ht hq ho hk h e1 e2 hd hout
    go_enter Tryd.func63, Tryd.ntmps63
    go_wp2_with (go_at_call 73; (with_reducible refine (HD.out _ HT.out).mono ?_); rintro e w2 ⟨rfl, ht, hon⟩; have HX := hid (HA.out.tape (u := S.used + 1) (fr := S.free - 1) HH.out rfl HQ.out (by rw [← HF.out]; exact ht) hon); clear ht hon)
    go_ret2
    exact ⟨rfl, HX.out.1, (Tch.of_below HB0.out).trans HX.out.2 (fun _ _ f => f)⟩
  · have q1 : (o.K != 1) = true := by simp [hk]
    have e1 : S.word o x = x := by unfold Ms.word; rw [if_neg (fun e => hk e.1)]
    have e2 : S.drawn o = S := by unfold Ms.drawn; rw [if_neg (fun e => hk e.1), if_neg (fun e => hk e.1)]
    rw [e1, e2]
    clear h ho e1 e2 hk hd
    go_enter Tryd.func63, Tryd.ntmps63
    go_wp2
    go_ret2
    exact ⟨rfl, HA.out, Tch.of_below HB0.out⟩
set_option maxHeartbeats 1600000 in
theorem pcounts_rand (b LO LV lo hi : Nat) (A S : Ms) (tv oc vc bv ov vv : Value) (o : Op6) (x : Nat) (w : World) (h : Pr w b A S LO LV tv oc vc bv ov vv lo hi) (b1 : A.len ≤ 1000000) (b2 : A.draws ≤ 1000000) (b3 : A.words ≤ 1000000) (hk : o.K = 1) :
    Calls Tryd.prog 58 #[.pointer (some ⟨b, 0, none⟩), .agg (opCs o)] w fun e w' => e = .returned (.tuple #[]) ∧ Pr w' b (A.put o x) S LO LV tv oc vc bv ov vv lo hi ∧ Tch (Fz b ov bv vv lo hi) w w' := by
  have hnew : (w.alloc (.cells (opCs o) 52)).heap[w.heap.size]? = some (.cells (opCs o) 52 (0, 0)) := heap_alloc_new _ _
  have k0 : (w.alloc (.cells (opCs o) 52)).cell? ⟨w.heap.size, 0, none⟩ = some (.int .i64 o.K) := orc hnew 0 rfl
  have HB0 := hid ((Below.refl w.heap.size w).alloc (Nat.le_refl _) (.cells (opCs o) 52))
  have hA := h.self HB0.out
  have hlt : b ≠ w.heap.size := by have := h.lt; omega
  have c4 := hA.c_len
  have f4 := hA.fz 4
  have wl : IntKind.i64.wrap ((A.len : Int) + 1) = ((A.len + 1 : Nat) : Int) := by rw [IntKind.wrap_i64]; omega
  have wd : IntKind.i64.wrap ((A.draws : Int) + 1) = ((A.draws + 1 : Nat) : Int) := by rw [IntKind.wrap_i64]; omega
  have ww : IntKind.u64.wrap ((A.words : Int) + 1) = ((A.words + 1 : Nat) : Int) := by rw [IntKind.wrap_u64]; omega
  have H1 := hid (hA.cellSet (A' := { A with L := A.L + 1 }) (S' := S) 4 (.int .i64 ((A.len + 1 : Nat) : Int)) rfl rfl rfl rfl rfl rfl rfl rfl rfl rfl rfl)
  have T1 := hid ((Tch.of_below HB0.out).trans (fz_set (ov := ov) (bv := bv) (vv := vv) (lo := lo) (hi := hi) b 4 (.int .i64 ((A.len + 1 : Nat) : Int)) (w.alloc (.cells (opCs o) 52))) (fun _ _ f => f))
  have k0' : ((w.alloc (.cells (opCs o) 52)).setCell ⟨b, 4, none⟩ (.int .i64 ((A.len + 1 : Nat) : Int))).cell? ⟨w.heap.size, 0, none⟩ = some (.int .i64 o.K) := (World.cell?_setCell_other _ _ _ _ (by simp)).trans k0
  have c5 := H1.out.c_draws
  have f5 := H1.out.fz 5
  have H2 := hid (H1.out.cellSet (A' := A.put o x) (S' := S) 5 (.int .i64 ((A.draws + 1 : Nat) : Int)) (by unfold Ms.put; rw [if_pos hk, if_neg (show ¬ o.K = 2 by omega)]; rfl) rfl rfl rfl rfl rfl rfl rfl rfl rfl rfl)
  have T2 := hid (T1.out.trans (fz_set (ov := ov) (bv := bv) (vv := vv) (lo := lo) (hi := hi) b 5 (.int .i64 ((A.draws + 1 : Nat) : Int)) _) (fun _ _ f => f))
  replace c5 : _ = some (Value.int .i64 (A.draws : Int)) := c5
  have q1 : (o.K == 1) = true := by simp [hk]
  clear h hA hnew hk b1 b2 b3 
  generalize ((A.len + 1 : Nat) : Int) = l1 at *
  generalize ((A.draws + 1 : Nat) : Int) = d1 at *
  generalize ((A.words + 1 : Nat) : Int) = y1 at *
  go_enter Tryd.func58, Tryd.ntmps58
  go_wp2
  go_end0
  exact ⟨rfl, H2.out, T2.out⟩
set_option maxHeartbeats 1600000 in
theorem pcounts_key (b LO LV lo hi : Nat) (A S : Ms) (tv oc vc bv ov vv : Value) (o : Op6) (x : Nat) (w : World) (h : Pr w b A S LO LV tv oc vc bv ov vv lo hi) (b1 : A.len ≤ 1000000) (b2 : A.draws ≤ 1000000) (b3 : A.words ≤ 1000000) (hk : o.K = 2) :
    Calls Tryd.prog 58 #[.pointer (some ⟨b, 0, none⟩), .agg (opCs o)] w fun e w' => e = .returned (.tuple #[]) ∧ Pr w' b (A.put o x) S LO LV tv oc vc bv ov vv lo hi ∧ Tch (Fz b ov bv vv lo hi) w w' := by
  have hnew : (w.alloc (.cells (opCs o) 52)).heap[w.heap.size]? = some (.cells (opCs o) 52 (0, 0)) := heap_alloc_new _ _
  have k0 : (w.alloc (.cells (opCs o) 52)).cell? ⟨w.heap.size, 0, none⟩ = some (.int .i64 o.K) := orc hnew 0 rfl
  have HB0 := hid ((Below.refl w.heap.size w).alloc (Nat.le_refl _) (.cells (opCs o) 52))
  have hA := h.self HB0.out
  have hlt : b ≠ w.heap.size := by have := h.lt; omega
  have c4 := hA.c_len
  have f4 := hA.fz 4
  have wl : IntKind.i64.wrap ((A.len : Int) + 1) = ((A.len + 1 : Nat) : Int) := by rw [IntKind.wrap_i64]; omega
  have wd : IntKind.i64.wrap ((A.draws : Int) + 1) = ((A.draws + 1 : Nat) : Int) := by rw [IntKind.wrap_i64]; omega
  have ww : IntKind.u64.wrap ((A.words : Int) + 1) = ((A.words + 1 : Nat) : Int) := by rw [IntKind.wrap_u64]; omega
  have H1 := hid (hA.cellSet (A' := { A with L := A.L + 1 }) (S' := S) 4 (.int .i64 ((A.len + 1 : Nat) : Int)) rfl rfl rfl rfl rfl rfl rfl rfl rfl rfl rfl)
  have T1 := hid ((Tch.of_below HB0.out).trans (fz_set (ov := ov) (bv := bv) (vv := vv) (lo := lo) (hi := hi) b 4 (.int .i64 ((A.len + 1 : Nat) : Int)) (w.alloc (.cells (opCs o) 52))) (fun _ _ f => f))
  have k0' : ((w.alloc (.cells (opCs o) 52)).setCell ⟨b, 4, none⟩ (.int .i64 ((A.len + 1 : Nat) : Int))).cell? ⟨w.heap.size, 0, none⟩ = some (.int .i64 o.K) := (World.cell?_setCell_other _ _ _ _ (by simp)).trans k0
  have c6 := H1.out.c_words
  have f6 := H1.out.fz 6
  have H2 := hid (H1.out.cellSet (A' := A.put o x) (S' := S) 6 (.int .u64 ((A.words + 1 : Nat) : Int)) (by unfold Ms.put; rw [if_neg (show ¬ o.K = 1 by omega), if_pos hk]; rfl) rfl rfl rfl rfl rfl rfl rfl rfl rfl rfl)
  have T2 := hid (T1.out.trans (fz_set (ov := ov) (bv := bv) (vv := vv) (lo := lo) (hi := hi) b 6 (.int .u64 ((A.words + 1 : Nat) : Int)) _) (fun _ _ f => f))
  replace c6 : _ = some (Value.int .u64 (A.words : Int)) := c6
  have q1 : (o.K == 1) = false := by simp [hk]
  have q2 : (o.K == 2) = true := by simp [hk]
  clear h hA hnew hk b1 b2 b3 
  generalize ((A.len + 1 : Nat) : Int) = l1 at *
  generalize ((A.draws + 1 : Nat) : Int) = d1 at *
  generalize ((A.words + 1 : Nat) : Int) = y1 at *
  go_enter Tryd.func58, Tryd.ntmps58
  go_wp2
  go_end0
  exact ⟨rfl, H2.out, T2.out⟩
set_option maxHeartbeats 1600000 in
theorem pcounts_else (b LO LV lo hi : Nat) (A S : Ms) (tv oc vc bv ov vv : Value) (o : Op6) (x : Nat) (w : World) (h : Pr w b A S LO LV tv oc vc bv ov vv lo hi) (b1 : A.len ≤ 1000000) (b2 : A.draws ≤ 1000000) (b3 : A.words ≤ 1000000) (hk : o.K ≠ 1) (hk2 : o.K ≠ 2) :
    Calls Tryd.prog 58 #[.pointer (some ⟨b, 0, none⟩), .agg (opCs o)] w fun e w' => e = .returned (.tuple #[]) ∧ Pr w' b (A.put o x) S LO LV tv oc vc bv ov vv lo hi ∧ Tch (Fz b ov bv vv lo hi) w w' := by
  have hnew : (w.alloc (.cells (opCs o) 52)).heap[w.heap.size]? = some (.cells (opCs o) 52 (0, 0)) := heap_alloc_new _ _
  have k0 : (w.alloc (.cells (opCs o) 52)).cell? ⟨w.heap.size, 0, none⟩ = some (.int .i64 o.K) := orc hnew 0 rfl
  have HB0 := hid ((Below.refl w.heap.size w).alloc (Nat.le_refl _) (.cells (opCs o) 52))
  have hA := h.self HB0.out
  have hlt : b ≠ w.heap.size := by have := h.lt; omega
  have c4 := hA.c_len
  have f4 := hA.fz 4
  have wl : IntKind.i64.wrap ((A.len : Int) + 1) = ((A.len + 1 : Nat) : Int) := by rw [IntKind.wrap_i64]; omega
  have wd : IntKind.i64.wrap ((A.draws : Int) + 1) = ((A.draws + 1 : Nat) : Int) := by rw [IntKind.wrap_i64]; omega
  have ww : IntKind.u64.wrap ((A.words : Int) + 1) = ((A.words + 1 : Nat) : Int) := by rw [IntKind.wrap_u64]; omega
  have H1 := hid (hA.cellSet (A' := { A with L := A.L + 1 }) (S' := S) 4 (.int .i64 ((A.len + 1 : Nat) : Int)) rfl rfl rfl rfl rfl rfl rfl rfl rfl rfl rfl)
  have T1 := hid ((Tch.of_below HB0.out).trans (fz_set (ov := ov) (bv := bv) (vv := vv) (lo := lo) (hi := hi) b 4 (.int .i64 ((A.len + 1 : Nat) : Int)) (w.alloc (.cells (opCs o) 52))) (fun _ _ f => f))
  have k0' : ((w.alloc (.cells (opCs o) 52)).setCell ⟨b, 4, none⟩ (.int .i64 ((A.len + 1 : Nat) : Int))).cell? ⟨w.heap.size, 0, none⟩ = some (.int .i64 o.K) := (World.cell?_setCell_other _ _ _ _ (by simp)).trans k0
  have H2 := hid (H1.out.turn (A' := A.put o x) (S' := S) (oc' := oc) (vc' := vc) (by rw [H1.out.blk]; unfold Ms.put; rw [if_neg hk, if_neg hk2]; rfl) rfl (Nat.le_refl _) (fun _ _ _ => rfl) rfl rfl rfl rfl rfl rfl rfl rfl rfl)
  have T2 := T1
  have q1 : (o.K == 1) = false := by simp [hk]
  have q2 : (o.K == 2) = false := by simp [hk2]
  clear h hA hnew hk b1 b2 b3 hk2
  generalize ((A.len + 1 : Nat) : Int) = l1 at *
  generalize ((A.draws + 1 : Nat) : Int) = d1 at *
  generalize ((A.words + 1 : Nat) : Int) = y1 at *
  go_enter Tryd.func58, Tryd.ntmps58
  go_wp2
  go_end0
  exact ⟨rfl, H2.out, T2.out⟩
theorem pcounts_any (b LO LV lo hi : Nat) (A S : Ms) (tv oc vc bv ov vv : Value) (o : Op6) (x : Nat) (w : World) (h : Pr w b A S LO LV tv oc vc bv ov vv lo hi) (b1 : A.len ≤ 1000000) (b2 : A.draws ≤ 1000000) (b3 : A.words ≤ 1000000) :
    Calls Tryd.prog 58 #[.pointer (some ⟨b, 0, none⟩), .agg (opCs o)] w fun e w' => e = .returned (.tuple #[]) ∧ Pr w' b (A.put o x) S LO LV tv oc vc bv ov vv lo hi ∧ Tch (Fz b ov bv vv lo hi) w w' := by
  by_cases hk : o.K = 1
  · exact pcounts_rand b LO LV lo hi A S tv oc vc bv ov vv o x w h b1 b2 b3 hk
  · by_cases hk2 : o.K = 2
    · exact pcounts_key b LO LV lo hi A S tv oc vc bv ov vv o x w h b1 b2 b3 hk2
    · exact pcounts_else b LO LV lo hi A S tv oc vc bv ov vv o x w h b1 b2 b3 hk hk2
end Go.Proofs.YtpjgpiieminaoaaDoor

/- Wire: the program's machine: an op and its word are written. -/
namespace Go.Proofs.YtpjgpiieminaoaaDoor
open Go.RowKit
set_option maxRecDepth 100000
theorem pinfoU64 : (Tryd.prog.info? 22).map (fun i => (i.zero, i.size, i.bytes)) = some (some (.int .u64 0), 1, 8) := by kernel_rfl
theorem pinfoOp : (Tryd.prog.info? 52).map (fun i => (i.zero, i.size, i.bytes)) = some (some (.agg #[.int .i64 0, .int .i64 0, .int .i64 0, .int .i64 0, .int .i64 0, .int .u64 0]), 6, 48) := by kernel_rfl
/-- Registers of an op that may stand: none, or one that is there. -/
theorem okOp_r {o : Op6} {i : Nat} {n : Int} (h : okOp o (i : Int) n = true) : (o.A = -1 ∨ 0 ≤ o.A ∧ o.A < (i : Int)) ∧ (o.B = -1 ∨ 0 ≤ o.B ∧ o.B < (i : Int)) ∧ (o.E = -1 ∨ 0 ≤ o.E ∧ o.E < (i : Int)) := by
  unfold okOp at h
  rw [Bool.and_eq_true, Bool.and_eq_true] at h
  have hr := allB_all h.1.2
  have key : ∀ j, j < 3 → rgL o j = -1 ∨ 0 ≤ rgL o j ∧ rgL o j < (i : Int) := fun j hj => by
    have := hr j hj
    unfold rgB at this
    split at this
    · exact .inr (of_decide_eq_true this)
    · exact .inl (of_decide_eq_true this)
  exact ⟨key 0 (by omega), key 1 (by omega), key 2 (by omega)⟩
theorem alloc_sz (w : World) (o : Obj) : (w.alloc o).heap.size = w.heap.size + 1 := Array.size_push _
/-- From w0, with the blocks F0, to w, with the blocks F: nothing else is touched. -/
structure Gn (F0 : Nat → Prop) (w0 : World) (F : Nat → Prop) (w : World) : Prop where
  tch : Tch F0 w0 w
  sub : ∀ k, F k → F0 k ∨ w0.heap.size ≤ k
theorem Gn.refl (F : Nat → Prop) (w : World) : Gn F w F w := ⟨Tch.refl _ _, fun _ h => .inl h⟩
theorem Gn.step {F0 F F' : Nat → Prop} {w0 w w' : World} (h : Gn F0 w0 F w) (t : Tch F w w') (s : ∀ k, F' k → F k ∨ w.heap.size ≤ k) : Gn F0 w0 F' w' :=
  ⟨h.tch.trans t (fun j hj f => (h.sub j f).resolve_right (by omega)), fun k hk => (s k hk).elim (h.sub k) (fun q => .inr (Nat.le_trans h.tch.size q))⟩
theorem Gn.trans {F0 F F' : Nat → Prop} {w0 w w' : World} (h : Gn F0 w0 F w) (k : Gn F w F' w') : Gn F0 w0 F' w' := h.step k.tch k.sub
theorem Gn.on {F0 F : Nat → Prop} {w0 w w' : World} (h : Gn F0 w0 F w) (t : Tch F w w') : Gn F0 w0 F w' := h.step t (fun _ q => .inl q)
theorem Gn.self {F0 F : Nat → Prop} {w0 w w' : World} (h : Gn F0 w0 F w) (t : Below w.heap.size w w') : Gn F0 w0 F w' := h.on (Tch.of_below t)
/-- A block that is nobody's. -/
structure Kz (F : Nat → Prop) (g : Nat) (u : Obj) (w : World) : Prop where
  blk : w.heap[g]? = some u
  no : ¬ F g
theorem Kz.lt {F : Nat → Prop} {g : Nat} {u : Obj} {w : World} (h : Kz F g u w) : g < w.heap.size := (Array.getElem?_eq_some_iff.1 h.blk).1
theorem Kz.step {F F' : Nat → Prop} {g : Nat} {u : Obj} {w w' : World} (h : Kz F g u w) (t : Tch F w w') (s : ∀ k, F' k → F k ∨ w.heap.size ≤ k) : Kz F' g u w' :=
  ⟨(t.block g h.lt h.no).trans h.blk, fun q => (s g q).elim h.no (fun e => by have := h.lt; omega)⟩
theorem Kz.on {F : Nat → Prop} {g : Nat} {u : Obj} {w w' : World} (h : Kz F g u w) (t : Tch F w w') : Kz F g u w' := h.step t (fun _ q => .inl q)
theorem Kz.self {F : Nat → Prop} {g : Nat} {u : Obj} {w w' : World} (h : Kz F g u w) (t : Below w.heap.size w w') : Kz F g u w' := h.on (Tch.of_below t)
theorem Kz.new {F : Nat → Prop} {w : World} (cs : Array Value) (T : TypeId) (hF : ∀ k, F k → k < w.heap.size) : Kz F w.heap.size (.cells cs T (0, 0)) (w.alloc (.cells cs T)) := ⟨heap_alloc_new _ _, fun q => by have := hF _ q; omega⟩
/-- A dry machine writes nothing. -/
theorem pwrite_dry (b LO LV lo hi : Nat) (A S : Ms) (tv oc vc bv ov vv : Value) (o : Op6) (x : Nat) (w : World) (h : Pr w b A S LO LV tv oc vc bv ov vv lo hi) (hd : A.dry = true) :
    Calls Tryd.prog 57 #[.pointer (some ⟨b, 0, none⟩), .agg (opCs o), .int .u64 (x : Int)] w fun e w' => e = .returned (.int .i64 0) ∧ Below w.heap.size w w' := by
  have HB0 := hid ((Below.refl w.heap.size w).alloc (Nat.le_refl _) (.cells (opCs o) 52))
  have c3 := (h.self HB0.out).c_dry
  rw [hd] at c3
  clear h hd
  go_enter Tryd.func57, Tryd.ntmps57
  go_wp2
  go_ret
  exact ⟨rfl, HB0.out⟩
/-- There is no mask. -/
theorem pwrite_out (b LO LV lo hi : Nat) (A S : Ms) (tv oc vc bv ov vv : Value) (o : Op6) (x : Nat) (w : World) (h : Pr w b A S LO LV tv oc vc bv ov vv lo hi) (hd : A.dry = false) (hd2 : S.dry = false) (ho : S.out o = true) :
    Calls Tryd.prog 57 #[.pointer (some ⟨b, 0, none⟩), .agg (opCs o), .int .u64 (x : Int)] w fun e w' => e = .returned (.int .i64 2) ∧ Pr w' b A S LO LV tv oc vc bv ov vv lo hi ∧ Tch (Fz b ov bv vv lo hi) w w' := by
  have HB0 := hid ((Below.refl w.heap.size w).alloc (Nat.le_refl _) (.cells (opCs o) 52))
  have ZS := Rz.start h o
  have c3 := ZS.pr.c_dry
  rw [hd] at c3
  have HR := hid (poutside_out b LO LV lo hi A S tv oc vc bv ov vv o x _ ZS.pr hd2 ho)
  have hop := ZS.op
  have k0 := orc hop 0 (u := .int .i64 o.K) rfl
  have k1 := orc hop 1 (u := .int .i64 o.D) rfl
  have k2 := orc hop 2 (u := .int .i64 o.A) rfl
  have k3 := orc hop 3 (u := .int .i64 o.B) rfl
  have k4 := orc hop 4 (u := .int .i64 o.E) rfl
  have k5 := orc hop 5 (u := .int .u64 (o.C : Int)) rfl
  clear h hd hd2 ho ZS hop
  go_enter Tryd.func57, Tryd.ntmps57
  go_wp2_with (go_at_call 63; (with_reducible refine HR.out.mono ?_); rintro e w2 ⟨rfl, hpr, ht⟩; have HX := hid hpr; have HT := hid ht; clear hpr ht k0 k1 k2 k3 k4 k5 c3)
  go_ret
  exact ⟨rfl, HX.out, (Tch.of_below HB0.out).trans HT.out (fun _ _ f => f)⟩
set_option maxHeartbeats 12800000 in
theorem pwrite_ok (b k lo hi : Nat) (S : Ms) (tv bv ov vv : Value) (o : Op6) (x : Nat) (w : World) (h : Pr w b S S S.L S.L tv ov vv bv ov vv lo hi) (hq : Bq k S) (hk : k ≤ 1000000) (hd : S.dry = false) (hok : okOp o (S.len : Int) S.n = true) (ho : S.out o = false) (hx : x < 2 ^ 64) (hC : o.C < 2 ^ 64) :
    Calls Tryd.prog 57 #[.pointer (some ⟨b, 0, none⟩), .agg (opCs o), .int .u64 (x : Int)] w fun e w' => e = .returned (.int .i64 0) ∧ ∃ ov' vv', Pr w' b S (S.put o x) (S.L + 1) (S.L + 1) tv ov' vv' bv ov' vv' lo hi ∧ Gn (Fz b ov bv vv lo hi) w (Fz b ov' bv vv' lo hi) w' := by
  have hl : S.len = S.L := by unfold Ms.len; rw [hq.wet hd]; omega
  rw [hl] at hok
  have HBL := hid (show S.L ≤ 1000000 by have := hq.len; omega)
  have hreg := okOp_r hok
  have hword : S.word o x < 2 ^ 64 := by
    unfold Ms.word
    split
    · rename_i e
      unfold Ms.out at ho
      rw [decide_eq_true e.1, e.2, Bool.not_false, Bool.true_and, Bool.true_and] at ho
      have h2 := of_decide_eq_false ho
      exact hq.tw _ (by omega)
    · exact hx
  have HEV : Hid (∀ w, Calls Tryd.prog 64 #[.agg (opCs o), .int .u64 (wordAt S.v S.L o.A : Nat), .int .u64 (wordAt S.v S.L o.B : Nat), .int .u64 (wordAt S.v S.L o.E : Nat), .int .u64 (S.word o x : Nat)] w fun e w' => e = .returned (.int .u64 (S.makes o x : Nat)) ∧ Below w.heap.size w w') :=
    hid fun w => oev_any o.K o.D o.A o.B o.E o.C _ _ _ _ w hC (wordAt_lt hq.v _) (wordAt_lt hq.v _) (wordAt_lt hq.v _) hword
  have hw : ∀ (r : Int), (r = -1 ∨ 0 ≤ r ∧ r < (S.L : Int)) → ∀ w', Pr w' b S (S.drawn o) S.L S.L tv ov vv bv ov vv lo hi → Calls Tryd.prog 65 #[.pointer (some ⟨b, 0, none⟩), .int .i64 r] w' fun e w2 => e = .returned (.int .u64 (wordAt S.v S.L r : Nat)) ∧ w2 = w' := fun r hr w' h' => by
    obtain ⟨a, cap, e, hc⟩ := h'.vals
    exact pword_c (h'.c_vv.trans (by rw [e])) hc hr
  have HWA := hid (hw o.A hreg.1)
  have HWB := hid (hw o.B hreg.2.1)
  have HWE := hid (hw o.E hreg.2.2)
  have HB0 := hid ((Below.refl w.heap.size w).alloc (Nat.le_refl _) (.cells (opCs o) 52))
  have ZS := Rz.start h o
  have c3 := ZS.pr.c_dry
  rw [hd] at c3
  have HNO : Hid (¬ Fz b ov bv vv lo hi w.heap.size) := hid (fun q => by have := h.ftlt q; omega)
  have HR := hid (poutside_in b S.L S.L lo hi S S tv ov vv bv ov vv o x _ ZS.pr hd ho)
  have hop := ZS.op
  have HOP := hid hop
  have k0 := orc hop 0 (u := .int .i64 o.K) rfl
  have k1 := orc hop 1 (u := .int .i64 o.D) rfl
  have k2 := orc hop 2 (u := .int .i64 o.A) rfl
  have k3 := orc hop 3 (u := .int .i64 o.B) rfl
  have k4 := orc hop 4 (u := .int .i64 o.E) rfl
  have k5 := orc hop 5 (u := .int .u64 (o.C : Int)) rfl
  clear h hd ho hok hreg hword hw hop ZS hx hC hl hk
  go_enter Tryd.func57, Tryd.ntmps57
  go_wp2_with (go_at_call 63; (with_reducible refine HR.out.mono ?_); rintro e w2 ⟨rfl, hpr, ht⟩; have Z1 : Hid (Rz w.heap.size b S (S.drawn o) S.L S.L tv ov vv bv ov vv lo hi o w2) := hid ⟨hpr, (ht.block w.heap.size (Array.getElem?_eq_some_iff.1 HOP.out).1 HNO.out).trans HOP.out⟩; have G1 := hid (((Gn.refl (Fz b ov bv vv lo hi) w).self HB0.out).on ht); clear hpr ht k0 k1 k2 k3 k4 k5 c3)
  have Y0 := hid Z1.out.drew
  have G2 := hid (G1.out.self ((Below.refl _ w2).drew))
  refine wp_region_noPanic ?_
  refine wp_region_held_drew (S := fun w' => w'.heap[w.heap.size]? = some (.cells (opCs o) 52 (0, 0)) ∧ w'.cell? ⟨w.heap.size, 2, none⟩ = some (Value.int .i64 o.A) ∧ w'.cell? ⟨w.heap.size, 3, none⟩ = some (Value.int .i64 o.B) ∧ w'.cell? ⟨w.heap.size, 4, none⟩ = some (Value.int .i64 o.E)) (by kernel_rfl) (⟨Y0.out.op, orc Y0.out.op 2 rfl, orc Y0.out.op 3 rfl, orc Y0.out.op 4 rfl⟩) (fun h0 => ?_)
  generalize w2.drew = w3 at *
  refine wpAnyH_take (i := 0) (v := .agg (opCs o)) rfl (by kernel_rfl) (by kernel_rfl) (by kernel_rfl) (fun _ _ _ h => h) (yields_load_row (by rfl) 52 (.tmp 4) rfl w.heap.size 52 (opCs o) _ rfl (fun w h => h.1) Tryd.underlying52 rfl (by kernel_rfl)) h0 ?_
  try simp only [Act.put, lay_out]
  refine wpAnyH_take (i := 1) (v := .pointer (some ⟨b, 0, none⟩)) rfl (by kernel_rfl) (by kernel_rfl) (by kernel_rfl) (fun _ _ _ h => h) (.inl ⟨by rfl, fun w hw => by clear hw; go_simp⟩) h0 ?_
  try simp only [Act.put, lay_out]
  refine wpAnyH_take (i := 2) (v := .pointer (some ⟨w.heap.size, 2, none⟩)) rfl (by kernel_rfl) (by kernel_rfl) (by kernel_rfl) (fun _ _ _ h => h) (.inl ⟨by rfl, fun w hw => by clear hw; go_simp⟩) h0 ?_
  try simp only [Act.put, lay_out]
  refine wpAnyH_take (i := 3) (v := .int .i64 o.A) rfl (by kernel_rfl) (by kernel_rfl) (by kernel_rfl) (fun _ _ _ h => h) (.inl ⟨by rfl, fun w hw => by have hc := hw.2.1; clear hw; go_simp⟩) h0 ?_
  try simp only [Act.put, lay_out]
  refine wpAnyH_take (i := 5) (v := .pointer (some ⟨b, 0, none⟩)) rfl (by kernel_rfl) (by kernel_rfl) (by kernel_rfl) (fun _ _ _ h => h) (.inl ⟨by rfl, fun w hw => by clear hw; go_simp⟩) h0 ?_
  try simp only [Act.put, lay_out]
  refine wpAnyH_take (i := 6) (v := .pointer (some ⟨w.heap.size, 3, none⟩)) rfl (by kernel_rfl) (by kernel_rfl) (by kernel_rfl) (fun _ _ _ h => h) (.inl ⟨by rfl, fun w hw => by clear hw; go_simp⟩) h0 ?_
  try simp only [Act.put, lay_out]
  refine wpAnyH_take (i := 7) (v := .int .i64 o.B) rfl (by kernel_rfl) (by kernel_rfl) (by kernel_rfl) (fun _ _ _ h => h) (.inl ⟨by rfl, fun w hw => by have hc := hw.2.2.1; clear hw; go_simp⟩) h0 ?_
  try simp only [Act.put, lay_out]
  refine wpAnyH_take (i := 9) (v := .pointer (some ⟨b, 0, none⟩)) rfl (by kernel_rfl) (by kernel_rfl) (by kernel_rfl) (fun _ _ _ h => h) (.inl ⟨by rfl, fun w hw => by clear hw; go_simp⟩) h0 ?_
  try simp only [Act.put, lay_out]
  refine wpAnyH_take (i := 10) (v := .pointer (some ⟨w.heap.size, 4, none⟩)) rfl (by kernel_rfl) (by kernel_rfl) (by kernel_rfl) (fun _ _ _ h => h) (.inl ⟨by rfl, fun w hw => by clear hw; go_simp⟩) h0 ?_
  try simp only [Act.put, lay_out]
  refine wpAnyH_take (i := 11) (v := .int .i64 o.E) rfl (by kernel_rfl) (by kernel_rfl) (by kernel_rfl) (fun _ _ _ h => h) (.inl ⟨by rfl, fun w hw => by have hc := hw.2.2.2; clear hw; go_simp⟩) h0 ?_
  try simp only [Act.put, lay_out]
  refine wpAnyH_take (i := 13) (v := .int .u64 (S.word o x : Nat)) rfl (by kernel_rfl) (by kernel_rfl) (by kernel_rfl) (fun _ _ _ h => h) (.inl ⟨by rfl, fun w hw => by clear hw; go_simp⟩) h0 ?_
  try simp only [Act.put, lay_out]
  refine wpAnyH_ready (rs := [4]) (by kernel_rfl) (by simp) (AllReadyH.cons rfl (fun K hK => ?_) AllReadyH.nil)
  rw [if_pos (by rfl)]
  go_simp
  go_at_call 65
  (with_reducible refine (HWA.out _ Y0.out.pr).mono ?_); rintro e wa ⟨rfl, rfl⟩
  refine hK.out _ _ (⟨Y0.out.op, orc Y0.out.op 2 rfl, orc Y0.out.op 3 rfl, orc Y0.out.op 4 rfl⟩) (fun h1x => ?_)
  clear hK K
  try simp only [Act.put, lay_out]
  refine wpAnyH_ready (rs := [8]) (by kernel_rfl) (by simp) (AllReadyH.cons rfl (fun K hK => ?_) AllReadyH.nil)
  rw [if_pos (by rfl)]
  go_simp
  go_at_call 65
  (with_reducible refine (HWB.out _ Y0.out.pr).mono ?_); rintro e wb ⟨rfl, rfl⟩
  refine hK.out _ _ (⟨Y0.out.op, orc Y0.out.op 2 rfl, orc Y0.out.op 3 rfl, orc Y0.out.op 4 rfl⟩) (fun h2x => ?_)
  clear hK K
  try simp only [Act.put, lay_out]
  refine wpAnyH_ready (rs := [12]) (by kernel_rfl) (by simp) (AllReadyH.cons rfl (fun K hK => ?_) AllReadyH.nil)
  rw [if_pos (by rfl)]
  go_simp
  go_at_call 65
  (with_reducible refine (HWE.out _ Y0.out.pr).mono ?_); rintro e wc ⟨rfl, rfl⟩
  refine hK.out _ _ (⟨Y0.out.op, orc Y0.out.op 2 rfl, orc Y0.out.op 3 rfl, orc Y0.out.op 4 rfl⟩) (fun h3x => ?_)
  clear hK K
  try simp only [Act.put, lay_out]
  refine wpAnyH_ready (rs := [14]) (by kernel_rfl) (by simp) (AllReadyH.cons rfl (fun K hK => ?_) AllReadyH.nil)
  rw [if_pos (by rfl)]
  go_simp
  go_at_call 64
  (with_reducible refine (HEV.out _).mono ?_); rintro e w4 ⟨rfl, hb1⟩
  have Y1 := hid (Y0.out.self hb1)
  have G3 := hid (G2.out.self hb1)
  clear hb1
  refine hK.out _ _ (⟨Y1.out.op, orc Y1.out.op 2 rfl, orc Y1.out.op 3 rfl, orc Y1.out.op 4 rfl⟩) (fun h4x => ?_)
  clear hK K
  try simp only [Act.put, lay_out]
  refine wpAnyH_take (i := 15) (v := .int .u64 (S.makes o x : Nat)) rfl (by kernel_rfl) (by kernel_rfl) (by kernel_rfl) (fun _ _ _ h => h) (.inl ⟨by rfl, fun w hw => by clear hw; go_simp⟩) h4x ?_
  try simp only [Act.put, lay_out]
  refine wpAnyH_done (by kernel_rfl) ?_ _
  refine NoPanic.normal ?_
  clear h0 h1x h2x h3x h4x
  try simp only [Act.put, lay_out]
  go_wp2_with fail
  have hZ := Y1.out.drew
  have A0 := hid hZ.pr
  have O0 := hid (⟨hZ.op, HNO.out⟩ : Kz (Fz b ov bv vv lo hi) w.heap.size _ _)
  have J0 := hid (G3.out.self ((Below.refl _ w4).drew))
  clear hZ
  refine wp_region_rt (fun w' => True) (fun w' => w'.heap[w.heap.size]? = some (.cells (opCs o) 52 (0, 0)) ∧ w'.cell? ⟨b, 7, none⟩ = some ov ∧ w'.cell? ⟨b, 8, none⟩ = some vv) 18 (by kernel_rfl) (⟨trivial, O0.out.blk, A0.out.c_ov, A0.out.c_vv⟩) (fun h0 => ?_)
  generalize w4.drew = u0 at *
  refine rt_takeA (i := 0) (v := .pointer (some ⟨b, 0, none⟩)) rfl (by kernel_rfl) (by kernel_rfl) (by kernel_rfl) rfl (fun _ _ _ h => h) (.inl ⟨by rfl, fun w hw => by clear hw; go_simp⟩) h0 ?_
  try simp only [Act.put, lay_out]
  refine rt_takeA (i := 1) (v := .pointer (some ⟨b, 0, none⟩)) rfl (by kernel_rfl) (by kernel_rfl) (by kernel_rfl) rfl (fun _ _ _ h => h) (.inl ⟨by rfl, fun w hw => by clear hw; go_simp⟩) h0 ?_
  try simp only [Act.put, lay_out]
  refine rt_takeA (i := 2) (v := .pointer (some ⟨b, 0, none⟩)) rfl (by kernel_rfl) (by kernel_rfl) (by kernel_rfl) rfl (fun _ _ _ h => h) (.inl ⟨by rfl, fun w hw => by clear hw; go_simp⟩) h0 ?_
  try simp only [Act.put, lay_out]
  refine rt_takeA (i := 3) (v := .pointer (some ⟨b, 0, none⟩)) rfl (by kernel_rfl) (by kernel_rfl) (by kernel_rfl) rfl (fun _ _ _ h => h) (.inl ⟨by rfl, fun w hw => by clear hw; go_simp⟩) h0 ?_
  try simp only [Act.put, lay_out]
  refine rt_takeA (i := 4) (v := .pointer (some ⟨b, 7, none⟩)) rfl (by kernel_rfl) (by kernel_rfl) (by kernel_rfl) rfl (fun _ _ _ h => h) (.inl ⟨by rfl, fun w hw => by clear hw; go_simp⟩) h0 ?_
  try simp only [Act.put, lay_out]
  refine rt_takeA (i := 9) (v := .pointer (some ⟨b, 0, none⟩)) rfl (by kernel_rfl) (by kernel_rfl) (by kernel_rfl) rfl (fun _ _ _ h => h) (.inl ⟨by rfl, fun w hw => by clear hw; go_simp⟩) h0 ?_
  try simp only [Act.put, lay_out]
  refine rt_takeA (i := 10) (v := .pointer (some ⟨b, 0, none⟩)) rfl (by kernel_rfl) (by kernel_rfl) (by kernel_rfl) rfl (fun _ _ _ h => h) (.inl ⟨by rfl, fun w hw => by clear hw; go_simp⟩) h0 ?_
  try simp only [Act.put, lay_out]
  refine rt_takeA (i := 11) (v := .pointer (some ⟨b, 8, none⟩)) rfl (by kernel_rfl) (by kernel_rfl) (by kernel_rfl) rfl (fun _ _ _ h => h) (.inl ⟨by rfl, fun w hw => by clear hw; go_simp⟩) h0 ?_
  try simp only [Act.put, lay_out]
  refine rt_takeA (i := 13) (v := .int .u64 (S.makes o x : Nat)) rfl (by kernel_rfl) (by kernel_rfl) (by kernel_rfl) rfl (fun _ _ _ h => h) (.inl ⟨by rfl, fun w hw => by clear hw; go_simp⟩) h0 ?_
  try simp only [Act.put, lay_out]
  refine rt_takeT (i := 5) (v := ov) rfl (by kernel_rfl) (by kernel_rfl) (by kernel_rfl) rfl (by kernel_rfl) (by kernel_rfl) (fun _ _ _ h => h) (.inl ⟨by rfl, fun w hw => by have hc := hw.2.1; clear hw; go_simp⟩) h0 ?_
  try simp only [Act.put, lay_out]
  refine rt_takeT (i := 6) (v := .agg (opCs o)) rfl (by kernel_rfl) (by kernel_rfl) (by kernel_rfl) rfl (by kernel_rfl) (by kernel_rfl) (fun _ _ _ h => h) (yields_load_row (by rfl) 52 (.tmp 4) rfl w.heap.size 52 (opCs o) _ rfl (fun w h => h.1) Tryd.underlying52 rfl (by kernel_rfl)) h0 ?_
  try simp only [Act.put, lay_out]
  refine rt_takeT (i := 12) (v := vv) rfl (by kernel_rfl) (by kernel_rfl) (by kernel_rfl) rfl (by kernel_rfl) (by kernel_rfl) (fun _ _ _ h => h) (.inl ⟨by rfl, fun w hw => by have hc := hw.2.2; clear hw; go_simp⟩) h0 ?_
  try simp only [Act.put, lay_out]
  refine rt_ready (rs := [7, 14]) (by kernel_rfl) (by simp) (RtReady.consT rfl (fun K hK => ?_) (RtReady.consT rfl (fun K hK => ?_) RtReady.nil))
  · rw [if_pos (by rfl)]
    go_simp
    have hl := (Below.refl u0.heap.size u0).alloc (Nat.le_refl _) (.cells (opCs o) 52)
    have A1 := hid (A0.out.self hl)
    have O1 := hid (O0.out.self hl)
    have J1 := hid (J0.out.self hl)
    have hk := Kz.new (F := Fz b ov bv vv lo hi) (w := u0) (opCs o) 52 (fun k hk => A0.out.ftlt hk)
    have N1 := hid hk
    clear hk
    clear hl
    refine hK.out _ _ (⟨trivial, O1.out.blk, A1.out.c_ov, A1.out.c_vv⟩) (fun h1x => ?_)
    clear hK K
    try simp only [Act.put, lay_out]
    refine rt_ready (rs := [8, 14]) (by kernel_rfl) (by simp) (RtReady.consT rfl (fun K hK => ?_) (RtReady.consT rfl (fun K hK => ?_) RtReady.nil))
    · rw [if_pos (by rfl)]
      refine wp_append_rec (.tmp 44) (.tmp 46) 44 rfl 0 52 6 48 (.agg #[.int .i64 0, .int .i64 0, .int .i64 0, .int .i64 0, .int .i64 0, .int .u64 0]) Tryd.underlying44 pinfoOp (by rfl) (by decide) ov S.L (fun i => (opCs (updO S.f S.L o i)).toList) rfl (A1.out.ops.ext fun i hi => by have hi' : i < S.L := hi; rw [updO_no _ _ (by omega)]; rfl) ⟨u0.heap.size, 0, none⟩ 1 rfl rfl (by intro u hu; simp at hu; rcases hu with rfl | rfl | rfl | rfl | rfl | rfl <;> rfl) ?_ (by have := HBL.out; unfold maxLen; omega) (by have := HBL.out; omega) (Nat.zero_le _) (fun g cap u2 g1 g2 g3 => ?_)
      · rw [updO_at]; exact World.news_of_block N1.out.blk
      have hx := A1.out.addOp g1 g2 g3
      have A2 := hid hx.1
      have O2 := hid (O1.out.step hx.2.1 hx.2.2)
      have J2 := hid (J1.out.step hx.2.1 hx.2.2)
      have N2 := hid (N1.out.step hx.2.1 hx.2.2)
      clear hx g1 g2 g3
      refine hK.out _ _ (⟨trivial, O2.out.blk, A2.out.c_ov, A2.out.c_vv⟩) (fun h2x => ?_)
      clear hK K
      try simp only [Act.put, lay_out]
      refine rt_ready (rs := [14]) (by kernel_rfl) (by simp) (RtReady.consT rfl (fun K hK => ?_) RtReady.nil)
      rw [if_pos (by rfl)]
      go_simp
      have hl := (Below.refl u2.heap.size u2).alloc (Nat.le_refl _) (.cells #[.int .u64 (S.makes o x : Nat)] 22)
      have A3 := hid (A2.out.self hl)
      have O3 := hid (O2.out.self hl)
      have J3 := hid (J2.out.self hl)
      have hk := Kz.new (F := Fz b (.slice (some ⟨g, 0, none⟩) (S.L + 1) cap) bv vv lo hi) (w := u2) #[.int .u64 (S.makes o x : Nat)] 22 (fun k hk => A2.out.ftlt hk)
      have M3 := hid hk
      clear hk
      have N3 := hid (N2.out.self hl)
      clear hl
      refine hK.out _ _ (⟨trivial, O3.out.blk, A3.out.c_ov, A3.out.c_vv⟩) (fun h3x => ?_)
      clear hK K
      try simp only [Act.put, lay_out]
      refine rt_ready (rs := [15]) (by kernel_rfl) (by simp) (RtReady.consT rfl (fun K hK => ?_) RtReady.nil)
      rw [if_pos (by rfl)]
      refine wp_append_rec (.tmp 51) (.tmp 53) 28 rfl 0 22 1 8 (.int .u64 0) Tryd.underlying28 pinfoU64 (by rfl) (by decide) vv S.L (fun i => [.int .u64 ((updN S.v S.L (S.makes o x) i : Nat) : Int)]) rfl (A3.out.val.ext fun i hi => by have hi' : i < S.L := hi; rw [updN_no _ _ (by omega)]; rfl) ⟨u2.heap.size, 0, none⟩ 1 rfl rfl (by intro u hu; simp at hu; subst hu; rfl) ?_ (by have := HBL.out; unfold maxLen; omega) (by have := HBL.out; omega) (Nat.zero_le _) (fun g' cap' u4 g1 g2 g3 => ?_)
      · rw [updN_at]; exact World.news_of_block M3.out.blk
      have hx := A3.out.addVal g1 g2 g3
      have A4 := hid hx.1
      have O4 := hid (O3.out.step hx.2.1 hx.2.2)
      have J4 := hid (J3.out.step hx.2.1 hx.2.2)
      have N4 := hid (N3.out.step hx.2.1 hx.2.2)
      have M4 := hid (M3.out.step hx.2.1 hx.2.2)
      clear hx g1 g2 g3
      refine hK.out _ _ (⟨trivial, O4.out.blk, A4.out.c_ov, A4.out.c_vv⟩) (fun h4x => ?_)
      clear hK K
      try simp only [Act.put, lay_out]
      refine rt_takeA (i := 16) (v := .pointer (some ⟨b, 0, none⟩)) rfl (by kernel_rfl) (by kernel_rfl) (by kernel_rfl) rfl (fun _ _ _ h => h) (.inl ⟨by rfl, fun w hw => by clear hw; go_simp⟩) h4x ?_
      try simp only [Act.put, lay_out]
      refine rt_takeA (i := 17) (v := .pointer (some ⟨b, 7, none⟩)) rfl (by kernel_rfl) (by kernel_rfl) (by kernel_rfl) rfl (fun _ _ _ h => h) (.inl ⟨by rfl, fun w hw => by clear hw; go_simp⟩) h4x ?_
      try simp only [Act.put, lay_out]
      refine rt_ready (rs := [18]) (by kernel_rfl) (by simp) (RtReady.consS rfl (by kernel_rfl) (fun K hK => ?_) RtReady.nil)
      rw [if_pos (by rfl)]
      have c7 := A4.out.c_ov
      have f7 := A4.out.fz 7
      go_simp
      clear c7 f7
      have A5 := hid (A4.out.turn (w' := u4.setCell ⟨b, 7, none⟩ (.slice (some ⟨g, 0, none⟩) (S.L + 1) cap)) (A' := S) (S' := S.put o x) (oc' := (.slice (some ⟨g, 0, none⟩) (S.L + 1) cap)) (vc' := vv) (by rw [heap_setCell_same u4 b 7 _ 71 _ A4.out.blk]; rfl) rfl (by simp [World.setCell]) (fun k hk _ => heap_setCell_other u4 ⟨b, 7, none⟩ k _ hk) rfl rfl rfl rfl rfl rfl rfl rfl rfl)
      have J5 := hid (J4.out.on (fz_set (ov := (.slice (some ⟨g, 0, none⟩) (S.L + 1) cap)) (bv := bv) (vv := (.slice (some ⟨g', 0, none⟩) (S.L + 1) cap')) (lo := lo) (hi := hi) b 7 (.slice (some ⟨g, 0, none⟩) (S.L + 1) cap) u4))
      refine hK.out _ _ (trivial) (fun h5x => ?_)
      clear hK K
      try simp only [Act.put, lay_out]
      refine rt_takeB (i := 19) (v := .pointer (some ⟨b, 0, none⟩)) rfl (by kernel_rfl) (by kernel_rfl) (by kernel_rfl) rfl (by kernel_rfl) (fun _ _ _ h => h) (.inl ⟨by rfl, fun w hw => by clear hw; go_simp⟩) h5x ?_
      try simp only [Act.put, lay_out]
      refine rt_takeB (i := 20) (v := .pointer (some ⟨b, 8, none⟩)) rfl (by kernel_rfl) (by kernel_rfl) (by kernel_rfl) rfl (by kernel_rfl) (fun _ _ _ h => h) (.inl ⟨by rfl, fun w hw => by clear hw; go_simp⟩) h5x ?_
      try simp only [Act.put, lay_out]
      refine rt_ready (rs := [21]) (by kernel_rfl) (by simp) (RtReady.consS rfl (by kernel_rfl) (fun K hK => ?_) RtReady.nil)
      rw [if_pos (by rfl)]
      have c8 := A5.out.c_vv
      have f8 := A5.out.fz 8
      go_simp
      clear c8 f8
      have A6 := hid (A5.out.turn (w' := (u4.setCell ⟨b, 7, none⟩ (.slice (some ⟨g, 0, none⟩) (S.L + 1) cap)).setCell ⟨b, 8, none⟩ (.slice (some ⟨g', 0, none⟩) (S.L + 1) cap')) (A' := S) (S' := S.put o x) (oc' := (.slice (some ⟨g, 0, none⟩) (S.L + 1) cap)) (vc' := (.slice (some ⟨g', 0, none⟩) (S.L + 1) cap')) (by rw [heap_setCell_same (u4.setCell ⟨b, 7, none⟩ (.slice (some ⟨g, 0, none⟩) (S.L + 1) cap)) b 8 _ 71 _ A5.out.blk]; rfl) rfl (by simp [World.setCell]) (fun k hk _ => heap_setCell_other (u4.setCell ⟨b, 7, none⟩ (.slice (some ⟨g, 0, none⟩) (S.L + 1) cap)) ⟨b, 8, none⟩ k _ hk) rfl rfl rfl rfl rfl rfl rfl rfl rfl)
      have J6 := hid (J5.out.on (fz_set (ov := (.slice (some ⟨g, 0, none⟩) (S.L + 1) cap)) (bv := bv) (vv := (.slice (some ⟨g', 0, none⟩) (S.L + 1) cap')) (lo := lo) (hi := hi) b 8 (.slice (some ⟨g', 0, none⟩) (S.L + 1) cap') (u4.setCell ⟨b, 7, none⟩ (.slice (some ⟨g, 0, none⟩) (S.L + 1) cap))))
      refine hK.out _ _ (trivial) (fun h6x => ?_)
      clear hK K
      try simp only [Act.put, lay_out]
      refine rt_done (by kernel_rfl) ?_ _
      try refine NoPanic.normal ?_
      clear h0 h1x h2x h3x h4x h5x h6x
      try simp only [Act.put, lay_out]
      go_wp2
      go_ret
      exact ⟨rfl, _, _, A6.out, J6.out⟩
    · rw [if_pos (by rfl)]
      go_simp
      have hl := (Below.refl (u0.alloc (.cells (opCs o) 52)).heap.size (u0.alloc (.cells (opCs o) 52))).alloc (Nat.le_refl _) (.cells #[.int .u64 (S.makes o x : Nat)] 22)
      have A2 := hid (A1.out.self hl)
      have O2 := hid (O1.out.self hl)
      have J2 := hid (J1.out.self hl)
      have hk := Kz.new (F := Fz b ov bv vv lo hi) (w := (u0.alloc (.cells (opCs o) 52))) #[.int .u64 (S.makes o x : Nat)] 22 (fun k hk => A1.out.ftlt hk)
      rw [alloc_sz] at hk
      have M2 := hid hk
      clear hk
      have N2 := hid (N1.out.self hl)
      clear hl
      refine hK.out _ _ (⟨trivial, O2.out.blk, A2.out.c_ov, A2.out.c_vv⟩) (fun h2x => ?_)
      clear hK K
      try simp only [Act.put, lay_out]
      refine rt_ready (rs := [8]) (by kernel_rfl) (by simp) (RtReady.consT rfl (fun K hK => ?_) RtReady.nil)
      rw [if_pos (by rfl)]
      refine wp_append_rec (.tmp 44) (.tmp 46) 44 rfl 0 52 6 48 (.agg #[.int .i64 0, .int .i64 0, .int .i64 0, .int .i64 0, .int .i64 0, .int .u64 0]) Tryd.underlying44 pinfoOp (by rfl) (by decide) ov S.L (fun i => (opCs (updO S.f S.L o i)).toList) rfl (A2.out.ops.ext fun i hi => by have hi' : i < S.L := hi; rw [updO_no _ _ (by omega)]; rfl) ⟨u0.heap.size, 0, none⟩ 1 rfl rfl (by intro u hu; simp at hu; rcases hu with rfl | rfl | rfl | rfl | rfl | rfl <;> rfl) ?_ (by have := HBL.out; unfold maxLen; omega) (by have := HBL.out; omega) (Nat.zero_le _) (fun g cap u3 g1 g2 g3 => ?_)
      · rw [updO_at]; exact World.news_of_block N2.out.blk
      have hx := A2.out.addOp g1 g2 g3
      have A3 := hid hx.1
      have O3 := hid (O2.out.step hx.2.1 hx.2.2)
      have J3 := hid (J2.out.step hx.2.1 hx.2.2)
      have N3 := hid (N2.out.step hx.2.1 hx.2.2)
      have M3 := hid (M2.out.step hx.2.1 hx.2.2)
      clear hx g1 g2 g3
      refine hK.out _ _ (⟨trivial, O3.out.blk, A3.out.c_ov, A3.out.c_vv⟩) (fun h3x => ?_)
      clear hK K
      try simp only [Act.put, lay_out]
      refine rt_ready (rs := [15]) (by kernel_rfl) (by simp) (RtReady.consT rfl (fun K hK => ?_) RtReady.nil)
      rw [if_pos (by rfl)]
      refine wp_append_rec (.tmp 51) (.tmp 53) 28 rfl 0 22 1 8 (.int .u64 0) Tryd.underlying28 pinfoU64 (by rfl) (by decide) vv S.L (fun i => [.int .u64 ((updN S.v S.L (S.makes o x) i : Nat) : Int)]) rfl (A3.out.val.ext fun i hi => by have hi' : i < S.L := hi; rw [updN_no _ _ (by omega)]; rfl) ⟨u0.heap.size + 1, 0, none⟩ 1 rfl rfl (by intro u hu; simp at hu; subst hu; rfl) ?_ (by have := HBL.out; unfold maxLen; omega) (by have := HBL.out; omega) (Nat.zero_le _) (fun g' cap' u4 g1 g2 g3 => ?_)
      · rw [updN_at]; exact World.news_of_block M3.out.blk
      have hx := A3.out.addVal g1 g2 g3
      have A4 := hid hx.1
      have O4 := hid (O3.out.step hx.2.1 hx.2.2)
      have J4 := hid (J3.out.step hx.2.1 hx.2.2)
      have N4 := hid (N3.out.step hx.2.1 hx.2.2)
      have M4 := hid (M3.out.step hx.2.1 hx.2.2)
      clear hx g1 g2 g3
      refine hK.out _ _ (⟨trivial, O4.out.blk, A4.out.c_ov, A4.out.c_vv⟩) (fun h4x => ?_)
      clear hK K
      try simp only [Act.put, lay_out]
      refine rt_takeA (i := 16) (v := .pointer (some ⟨b, 0, none⟩)) rfl (by kernel_rfl) (by kernel_rfl) (by kernel_rfl) rfl (fun _ _ _ h => h) (.inl ⟨by rfl, fun w hw => by clear hw; go_simp⟩) h4x ?_
      try simp only [Act.put, lay_out]
      refine rt_takeA (i := 17) (v := .pointer (some ⟨b, 7, none⟩)) rfl (by kernel_rfl) (by kernel_rfl) (by kernel_rfl) rfl (fun _ _ _ h => h) (.inl ⟨by rfl, fun w hw => by clear hw; go_simp⟩) h4x ?_
      try simp only [Act.put, lay_out]
      refine rt_ready (rs := [18]) (by kernel_rfl) (by simp) (RtReady.consS rfl (by kernel_rfl) (fun K hK => ?_) RtReady.nil)
      rw [if_pos (by rfl)]
      have c7 := A4.out.c_ov
      have f7 := A4.out.fz 7
      go_simp
      clear c7 f7
      have A5 := hid (A4.out.turn (w' := u4.setCell ⟨b, 7, none⟩ (.slice (some ⟨g, 0, none⟩) (S.L + 1) cap)) (A' := S) (S' := S.put o x) (oc' := (.slice (some ⟨g, 0, none⟩) (S.L + 1) cap)) (vc' := vv) (by rw [heap_setCell_same u4 b 7 _ 71 _ A4.out.blk]; rfl) rfl (by simp [World.setCell]) (fun k hk _ => heap_setCell_other u4 ⟨b, 7, none⟩ k _ hk) rfl rfl rfl rfl rfl rfl rfl rfl rfl)
      have J5 := hid (J4.out.on (fz_set (ov := (.slice (some ⟨g, 0, none⟩) (S.L + 1) cap)) (bv := bv) (vv := (.slice (some ⟨g', 0, none⟩) (S.L + 1) cap')) (lo := lo) (hi := hi) b 7 (.slice (some ⟨g, 0, none⟩) (S.L + 1) cap) u4))
      refine hK.out _ _ (trivial) (fun h5x => ?_)
      clear hK K
      try simp only [Act.put, lay_out]
      refine rt_takeB (i := 19) (v := .pointer (some ⟨b, 0, none⟩)) rfl (by kernel_rfl) (by kernel_rfl) (by kernel_rfl) rfl (by kernel_rfl) (fun _ _ _ h => h) (.inl ⟨by rfl, fun w hw => by clear hw; go_simp⟩) h5x ?_
      try simp only [Act.put, lay_out]
      refine rt_takeB (i := 20) (v := .pointer (some ⟨b, 8, none⟩)) rfl (by kernel_rfl) (by kernel_rfl) (by kernel_rfl) rfl (by kernel_rfl) (fun _ _ _ h => h) (.inl ⟨by rfl, fun w hw => by clear hw; go_simp⟩) h5x ?_
      try simp only [Act.put, lay_out]
      refine rt_ready (rs := [21]) (by kernel_rfl) (by simp) (RtReady.consS rfl (by kernel_rfl) (fun K hK => ?_) RtReady.nil)
      rw [if_pos (by rfl)]
      have c8 := A5.out.c_vv
      have f8 := A5.out.fz 8
      go_simp
      clear c8 f8
      have A6 := hid (A5.out.turn (w' := (u4.setCell ⟨b, 7, none⟩ (.slice (some ⟨g, 0, none⟩) (S.L + 1) cap)).setCell ⟨b, 8, none⟩ (.slice (some ⟨g', 0, none⟩) (S.L + 1) cap')) (A' := S) (S' := S.put o x) (oc' := (.slice (some ⟨g, 0, none⟩) (S.L + 1) cap)) (vc' := (.slice (some ⟨g', 0, none⟩) (S.L + 1) cap')) (by rw [heap_setCell_same (u4.setCell ⟨b, 7, none⟩ (.slice (some ⟨g, 0, none⟩) (S.L + 1) cap)) b 8 _ 71 _ A5.out.blk]; rfl) rfl (by simp [World.setCell]) (fun k hk _ => heap_setCell_other (u4.setCell ⟨b, 7, none⟩ (.slice (some ⟨g, 0, none⟩) (S.L + 1) cap)) ⟨b, 8, none⟩ k _ hk) rfl rfl rfl rfl rfl rfl rfl rfl rfl)
      have J6 := hid (J5.out.on (fz_set (ov := (.slice (some ⟨g, 0, none⟩) (S.L + 1) cap)) (bv := bv) (vv := (.slice (some ⟨g', 0, none⟩) (S.L + 1) cap')) (lo := lo) (hi := hi) b 8 (.slice (some ⟨g', 0, none⟩) (S.L + 1) cap') (u4.setCell ⟨b, 7, none⟩ (.slice (some ⟨g, 0, none⟩) (S.L + 1) cap))))
      refine hK.out _ _ (trivial) (fun h6x => ?_)
      clear hK K
      try simp only [Act.put, lay_out]
      refine rt_done (by kernel_rfl) ?_ _
      try refine NoPanic.normal ?_
      clear h0 h1x h2x h3x h4x h5x h6x
      try simp only [Act.put, lay_out]
      go_wp2
      go_ret
      exact ⟨rfl, _, _, A6.out, J6.out⟩
  · rw [if_pos (by rfl)]
    go_simp
    have hl := (Below.refl u0.heap.size u0).alloc (Nat.le_refl _) (.cells #[.int .u64 (S.makes o x : Nat)] 22)
    have A1 := hid (A0.out.self hl)
    have O1 := hid (O0.out.self hl)
    have J1 := hid (J0.out.self hl)
    have hk := Kz.new (F := Fz b ov bv vv lo hi) (w := u0) #[.int .u64 (S.makes o x : Nat)] 22 (fun k hk => A0.out.ftlt hk)
    have M1 := hid hk
    clear hk
    clear hl
    refine hK.out _ _ (⟨trivial, O1.out.blk, A1.out.c_ov, A1.out.c_vv⟩) (fun h1x => ?_)
    clear hK K
    try simp only [Act.put, lay_out]
    refine rt_ready (rs := [7]) (by kernel_rfl) (by simp) (RtReady.consT rfl (fun K hK => ?_) RtReady.nil)
    rw [if_pos (by rfl)]
    go_simp
    have hl := (Below.refl (u0.alloc (.cells #[.int .u64 (S.makes o x : Nat)] 22)).heap.size (u0.alloc (.cells #[.int .u64 (S.makes o x : Nat)] 22))).alloc (Nat.le_refl _) (.cells (opCs o) 52)
    have A2 := hid (A1.out.self hl)
    have O2 := hid (O1.out.self hl)
    have J2 := hid (J1.out.self hl)
    have hk := Kz.new (F := Fz b ov bv vv lo hi) (w := (u0.alloc (.cells #[.int .u64 (S.makes o x : Nat)] 22))) (opCs o) 52 (fun k hk => A1.out.ftlt hk)
    rw [alloc_sz] at hk
    have N2 := hid hk
    clear hk
    have M2 := hid (M1.out.self hl)
    clear hl
    refine hK.out _ _ (⟨trivial, O2.out.blk, A2.out.c_ov, A2.out.c_vv⟩) (fun h2x => ?_)
    clear hK K
    try simp only [Act.put, lay_out]
    refine rt_ready (rs := [8]) (by kernel_rfl) (by simp) (RtReady.consT rfl (fun K hK => ?_) RtReady.nil)
    rw [if_pos (by rfl)]
    refine wp_append_rec (.tmp 44) (.tmp 46) 44 rfl 0 52 6 48 (.agg #[.int .i64 0, .int .i64 0, .int .i64 0, .int .i64 0, .int .i64 0, .int .u64 0]) Tryd.underlying44 pinfoOp (by rfl) (by decide) ov S.L (fun i => (opCs (updO S.f S.L o i)).toList) rfl (A2.out.ops.ext fun i hi => by have hi' : i < S.L := hi; rw [updO_no _ _ (by omega)]; rfl) ⟨u0.heap.size + 1, 0, none⟩ 1 rfl rfl (by intro u hu; simp at hu; rcases hu with rfl | rfl | rfl | rfl | rfl | rfl <;> rfl) ?_ (by have := HBL.out; unfold maxLen; omega) (by have := HBL.out; omega) (Nat.zero_le _) (fun g cap u3 g1 g2 g3 => ?_)
    · rw [updO_at]; exact World.news_of_block N2.out.blk
    have hx := A2.out.addOp g1 g2 g3
    have A3 := hid hx.1
    have O3 := hid (O2.out.step hx.2.1 hx.2.2)
    have J3 := hid (J2.out.step hx.2.1 hx.2.2)
    have M3 := hid (M2.out.step hx.2.1 hx.2.2)
    have N3 := hid (N2.out.step hx.2.1 hx.2.2)
    clear hx g1 g2 g3
    refine hK.out _ _ (⟨trivial, O3.out.blk, A3.out.c_ov, A3.out.c_vv⟩) (fun h3x => ?_)
    clear hK K
    try simp only [Act.put, lay_out]
    refine rt_ready (rs := [15]) (by kernel_rfl) (by simp) (RtReady.consT rfl (fun K hK => ?_) RtReady.nil)
    rw [if_pos (by rfl)]
    refine wp_append_rec (.tmp 51) (.tmp 53) 28 rfl 0 22 1 8 (.int .u64 0) Tryd.underlying28 pinfoU64 (by rfl) (by decide) vv S.L (fun i => [.int .u64 ((updN S.v S.L (S.makes o x) i : Nat) : Int)]) rfl (A3.out.val.ext fun i hi => by have hi' : i < S.L := hi; rw [updN_no _ _ (by omega)]; rfl) ⟨u0.heap.size, 0, none⟩ 1 rfl rfl (by intro u hu; simp at hu; subst hu; rfl) ?_ (by have := HBL.out; unfold maxLen; omega) (by have := HBL.out; omega) (Nat.zero_le _) (fun g' cap' u4 g1 g2 g3 => ?_)
    · rw [updN_at]; exact World.news_of_block M3.out.blk
    have hx := A3.out.addVal g1 g2 g3
    have A4 := hid hx.1
    have O4 := hid (O3.out.step hx.2.1 hx.2.2)
    have J4 := hid (J3.out.step hx.2.1 hx.2.2)
    have M4 := hid (M3.out.step hx.2.1 hx.2.2)
    have N4 := hid (N3.out.step hx.2.1 hx.2.2)
    clear hx g1 g2 g3
    refine hK.out _ _ (⟨trivial, O4.out.blk, A4.out.c_ov, A4.out.c_vv⟩) (fun h4x => ?_)
    clear hK K
    try simp only [Act.put, lay_out]
    refine rt_takeA (i := 16) (v := .pointer (some ⟨b, 0, none⟩)) rfl (by kernel_rfl) (by kernel_rfl) (by kernel_rfl) rfl (fun _ _ _ h => h) (.inl ⟨by rfl, fun w hw => by clear hw; go_simp⟩) h4x ?_
    try simp only [Act.put, lay_out]
    refine rt_takeA (i := 17) (v := .pointer (some ⟨b, 7, none⟩)) rfl (by kernel_rfl) (by kernel_rfl) (by kernel_rfl) rfl (fun _ _ _ h => h) (.inl ⟨by rfl, fun w hw => by clear hw; go_simp⟩) h4x ?_
    try simp only [Act.put, lay_out]
    refine rt_ready (rs := [18]) (by kernel_rfl) (by simp) (RtReady.consS rfl (by kernel_rfl) (fun K hK => ?_) RtReady.nil)
    rw [if_pos (by rfl)]
    have c7 := A4.out.c_ov
    have f7 := A4.out.fz 7
    go_simp
    clear c7 f7
    have A5 := hid (A4.out.turn (w' := u4.setCell ⟨b, 7, none⟩ (.slice (some ⟨g, 0, none⟩) (S.L + 1) cap)) (A' := S) (S' := S.put o x) (oc' := (.slice (some ⟨g, 0, none⟩) (S.L + 1) cap)) (vc' := vv) (by rw [heap_setCell_same u4 b 7 _ 71 _ A4.out.blk]; rfl) rfl (by simp [World.setCell]) (fun k hk _ => heap_setCell_other u4 ⟨b, 7, none⟩ k _ hk) rfl rfl rfl rfl rfl rfl rfl rfl rfl)
    have J5 := hid (J4.out.on (fz_set (ov := (.slice (some ⟨g, 0, none⟩) (S.L + 1) cap)) (bv := bv) (vv := (.slice (some ⟨g', 0, none⟩) (S.L + 1) cap')) (lo := lo) (hi := hi) b 7 (.slice (some ⟨g, 0, none⟩) (S.L + 1) cap) u4))
    refine hK.out _ _ (trivial) (fun h5x => ?_)
    clear hK K
    try simp only [Act.put, lay_out]
    refine rt_takeB (i := 19) (v := .pointer (some ⟨b, 0, none⟩)) rfl (by kernel_rfl) (by kernel_rfl) (by kernel_rfl) rfl (by kernel_rfl) (fun _ _ _ h => h) (.inl ⟨by rfl, fun w hw => by clear hw; go_simp⟩) h5x ?_
    try simp only [Act.put, lay_out]
    refine rt_takeB (i := 20) (v := .pointer (some ⟨b, 8, none⟩)) rfl (by kernel_rfl) (by kernel_rfl) (by kernel_rfl) rfl (by kernel_rfl) (fun _ _ _ h => h) (.inl ⟨by rfl, fun w hw => by clear hw; go_simp⟩) h5x ?_
    try simp only [Act.put, lay_out]
    refine rt_ready (rs := [21]) (by kernel_rfl) (by simp) (RtReady.consS rfl (by kernel_rfl) (fun K hK => ?_) RtReady.nil)
    rw [if_pos (by rfl)]
    have c8 := A5.out.c_vv
    have f8 := A5.out.fz 8
    go_simp
    clear c8 f8
    have A6 := hid (A5.out.turn (w' := (u4.setCell ⟨b, 7, none⟩ (.slice (some ⟨g, 0, none⟩) (S.L + 1) cap)).setCell ⟨b, 8, none⟩ (.slice (some ⟨g', 0, none⟩) (S.L + 1) cap')) (A' := S) (S' := S.put o x) (oc' := (.slice (some ⟨g, 0, none⟩) (S.L + 1) cap)) (vc' := (.slice (some ⟨g', 0, none⟩) (S.L + 1) cap')) (by rw [heap_setCell_same (u4.setCell ⟨b, 7, none⟩ (.slice (some ⟨g, 0, none⟩) (S.L + 1) cap)) b 8 _ 71 _ A5.out.blk]; rfl) rfl (by simp [World.setCell]) (fun k hk _ => heap_setCell_other (u4.setCell ⟨b, 7, none⟩ (.slice (some ⟨g, 0, none⟩) (S.L + 1) cap)) ⟨b, 8, none⟩ k _ hk) rfl rfl rfl rfl rfl rfl rfl rfl rfl)
    have J6 := hid (J5.out.on (fz_set (ov := (.slice (some ⟨g, 0, none⟩) (S.L + 1) cap)) (bv := bv) (vv := (.slice (some ⟨g', 0, none⟩) (S.L + 1) cap')) (lo := lo) (hi := hi) b 8 (.slice (some ⟨g', 0, none⟩) (S.L + 1) cap') (u4.setCell ⟨b, 7, none⟩ (.slice (some ⟨g, 0, none⟩) (S.L + 1) cap))))
    refine hK.out _ _ (trivial) (fun h6x => ?_)
    clear hK K
    try simp only [Act.put, lay_out]
    refine rt_done (by kernel_rfl) ?_ _
    try refine NoPanic.normal ?_
    clear h0 h1x h2x h3x h4x h5x h6x
    try simp only [Act.put, lay_out]
    go_wp2
    go_ret
    exact ⟨rfl, _, _, A6.out, J6.out⟩
end Go.Proofs.YtpjgpiieminaoaaDoor

/- Wire: the program's machine: Do. -/
namespace Go.Proofs.YtpjgpiieminaoaaDoor
open Go.RowKit
set_option maxRecDepth 100000
/-- What an op comes to: an error's number, or 0. -/
def dnC (S : Ms) (o : Op6) : Nat := if S.bad o = true then 1 else if S.full = true then 3 else if S.out o = true then 2 else 0
def dnS (S : Ms) (o : Op6) (x : Nat) : Ms := if dnC S o = 0 then S.put o x else S
theorem doS_dn (S : Ms) (o : Op6) (x : Nat) (he : S.e = 0) : S.doS o x = { dnS S o x with e := dnC S o } := by
  unfold Ms.doS dnS dnC
  rw [if_neg (by omega)]
  by_cases h1 : S.bad o = true
  · simp [h1]
  · by_cases h2 : S.full = true
    · simp [h1, h2]
    · by_cases h3 : S.out o = true
      · simp [h1, h2, h3]
      · rw [if_neg h1, if_neg h2, if_neg h3, if_neg h1, if_neg h2, if_neg h3, if_pos rfl]
        unfold Ms.put
        rw [he]
theorem doR_dn (S : Ms) (o : Op6) (he : S.e = 0) : S.doR o = if dnC S o = 0 then (S.len : Int) else -1 := by
  unfold Ms.doR dnC
  by_cases h1 : S.bad o = true
  · simp [h1]
  · by_cases h2 : S.full = true
    · simp [h1, h2]
    · by_cases h3 : S.out o = true
      · simp [h1, h2, h3]
      · simp [h1, h2, h3, he]
section
variable {b LO LV lo hi : Nat} {w w' : World} {A S A' S' : Ms} {tv oc vc bv ov vv : Value}
theorem Orw.none {B k : Nat} {E : TypeId} {v : Value} {c d : Nat → List Value} (h : Orw w B E k v 0 c) : Orw w B E k v 0 d := h.ext (fun i hi => absurd hi (Nat.not_lt_zero i))
/-- Of a dry machine the rows are none. -/
theorem Pr.dryRows (h : Pr w b A S 0 0 tv oc vc bv ov vv lo hi) (hd : S.dry = true) (hd' : S'.dry = true) : Pr w b A S' 0 0 tv oc vc bv ov vv lo hi := by
  have e : kpL S S.M = 0 := by unfold kpL; rw [if_pos hd]
  have e' : kpL S' S'.M = 0 := by unfold kpL; rw [if_pos hd']
  have hb := h.bls
  rw [e] at hb
  exact ⟨h.blk, h.hn, h.ops.none, h.val.none, by rw [e']; exact hb.none, h.hob, h.hbb, h.hvb, h.hobv, h.hov, h.hbv, fun q => absurd q (by rw [hd']; decide), fun _ => h.dr hd, h.apart, h.his⟩
end
/-- What a method of the program's machine leaves. -/
def Pz' (b : Nat) (S' : Ms) (tv ov vv bv : Value) (lo hi : Nat) (w w' : World) : Prop := ∃ ov' vv', Pq w' b S' tv ov' vv' bv lo hi ∧ Gn (Fz b ov bv vv lo hi) w (Fz b ov' bv vv' lo hi) w'
set_option maxHeartbeats 1600000 in
theorem pact_ref (b lo hi : Nat) (S : Ms) (tv bv ov vv : Value) (o : Op6) (x : Nat) (w : World) (h : Pq w b S tv ov vv bv lo hi) (hr : rfN S o ≠ 0) :
    Calls Tryd.prog 51 #[.pointer (some ⟨b, 0, none⟩), .agg (opCs o), .int .u64 (x : Int)] w fun e w' => e = .returned (.int .i64 (rfN S o)) ∧ Pq w' b S tv ov vv bv lo hi ∧ Below w.heap.size w w' := by
  have HB0 := hid ((Below.refl w.heap.size w).alloc (Nat.le_refl _) (.cells (opCs o) 52))
  have ZS := Rz.start h o
  have hop := ZS.op
  have HNO : Hid (¬ Fz b ov bv vv lo hi w.heap.size) := hid (fun q => by have := h.ftlt q; omega)
  have HRF := hid (fun (w' : World) (h' : Pq w' b S tv ov vv bv lo hi) => prefuses_any b _ _ lo hi S S tv ov vv bv ov vv o w' h')
  have k0 := orc hop 0 (u := .int .i64 o.K) rfl
  have k1 := orc hop 1 (u := .int .i64 o.D) rfl
  have k2 := orc hop 2 (u := .int .i64 o.A) rfl
  have k3 := orc hop 3 (u := .int .i64 o.B) rfl
  have k4 := orc hop 4 (u := .int .i64 o.E) rfl
  have k5 := orc hop 5 (u := .int .u64 (o.C : Int)) rfl
  have Z0 := hid ZS
  clear h ZS hop
  generalize rfN S o = r at *
  have q1 : (r != 0) = true := by simpa using hr
  clear hr
  go_enter Tryd.func51, Tryd.ntmps51
  go_wp2_with (go_at_call 56; (with_reducible refine (HRF.out _ Z0.out.pr).mono ?_); rintro e w2 ⟨rfl, hb1⟩; have Z1 := hid (Z0.out.self hb1); have B1 := hid (HB0.out.trans (hb1.mono HB0.out.size)); clear k0 k1 k2 k3 k4 k5; clear hb1)
  go_ret
  exact ⟨rfl, Z1.out.pr, B1.out⟩
set_option maxHeartbeats 1600000 in
theorem pact_dry (b k lo hi : Nat) (S : Ms) (tv bv ov vv : Value) (o : Op6) (x : Nat) (w : World) (h : Pq w b S tv ov vv bv lo hi) (hq : Bq k S) (hk : k ≤ 1000000) (hr : rfN S o = 0) (hd : S.dry = true) :
    Calls Tryd.prog 51 #[.pointer (some ⟨b, 0, none⟩), .agg (opCs o), .int .u64 (x : Int)] w fun e w' => e = .returned (.int .i64 0) ∧ Pq w' b (S.put o x) tv ov vv bv lo hi ∧ Tch (Fz b ov bv vv lo hi) w w' := by
  have HB0 := hid ((Below.refl w.heap.size w).alloc (Nat.le_refl _) (.cells (opCs o) 52))
  have ZS := Rz.start h o
  have hop := ZS.op
  have HNO : Hid (¬ Fz b ov bv vv lo hi w.heap.size) := hid (fun q => by have := h.ftlt q; omega)
  have HRF := hid (fun (w' : World) (h' : Pq w' b S tv ov vv bv lo hi) => prefuses_any b _ _ lo hi S S tv ov vv bv ov vv o w' h')
  have k0 := orc hop 0 (u := .int .i64 o.K) rfl
  have k1 := orc hop 1 (u := .int .i64 o.D) rfl
  have k2 := orc hop 2 (u := .int .i64 o.A) rfl
  have k3 := orc hop 3 (u := .int .i64 o.B) rfl
  have k4 := orc hop 4 (u := .int .i64 o.E) rfl
  have k5 := orc hop 5 (u := .int .u64 (o.C : Int)) rfl
  have Z0 := hid ZS
  rw [hr] at HRF
  have HWR := hid (fun (w' : World) (h' : Pq w' b S tv ov vv bv lo hi) => pwrite_dry b _ _ lo hi S S tv ov vv bv ov vv o x w' h' hd)
  have HCT := hid (fun (w' : World) (h' : Pq w' b S tv ov vv bv lo hi) => pcounts_any b _ _ lo hi S S tv ov vv bv ov vv o x w' h' (Nat.le_trans hq.len hk) (Nat.le_trans hq.draws hk) (Nat.le_trans hq.words hk))
  have HD := hid hd
  clear h ZS hop hq hk hr hd
  go_enter Tryd.func51, Tryd.ntmps51
  go_wp2_with (first
    | (go_at_call 56; (with_reducible refine (HRF.out _ Z0.out.pr).mono ?_); rintro e w2 ⟨rfl, hb1⟩; have Z1 := hid (Z0.out.self hb1); have B1 := hid (HB0.out.trans (hb1.mono HB0.out.size)); clear k0 k1 k2 k3 k4 k5; have k0 := orc Z1.out.op 0 (u := .int .i64 o.K) rfl; have k1 := orc Z1.out.op 1 (u := .int .i64 o.D) rfl; have k2 := orc Z1.out.op 2 (u := .int .i64 o.A) rfl; have k3 := orc Z1.out.op 3 (u := .int .i64 o.B) rfl; have k4 := orc Z1.out.op 4 (u := .int .i64 o.E) rfl; have k5 := orc Z1.out.op 5 (u := .int .u64 (o.C : Int)) rfl; clear hb1)
    | (go_at_call 57; (with_reducible refine (HWR.out _ Z1.out.pr).mono ?_); rintro e w3 ⟨rfl, hb1⟩; have Z2 := hid (Z1.out.self hb1); have B2 := hid (B1.out.trans (hb1.mono B1.out.size)); clear k0 k1 k2 k3 k4 k5; have k0 := orc Z2.out.op 0 (u := .int .i64 o.K) rfl; have k1 := orc Z2.out.op 1 (u := .int .i64 o.D) rfl; have k2 := orc Z2.out.op 2 (u := .int .i64 o.A) rfl; have k3 := orc Z2.out.op 3 (u := .int .i64 o.B) rfl; have k4 := orc Z2.out.op 4 (u := .int .i64 o.E) rfl; have k5 := orc Z2.out.op 5 (u := .int .u64 (o.C : Int)) rfl; clear hb1)
    | (go_at_call 58; (with_reducible refine (HCT.out _ Z2.out.pr).mono ?_); rintro e w4 ⟨rfl, hp1, ht1⟩; have Z3 := hid hp1; have T3 := hid ((Tch.of_below B2.out).trans ht1 (fun _ _ f => f)); clear k0 k1 k2 k3 k4 k5; clear hp1 ht1))
  go_ret
  refine ⟨rfl, ?_, T3.out⟩
  have hz := Z3.out
  have e0 : kpL S S.L = 0 := by unfold kpL; rw [if_pos HD.out]
  have e1 : kpL (S.put o x) (S.put o x).L = 0 := by unfold kpL; rw [if_pos (show (S.put o x).dry = true from HD.out)]
  rw [e0] at hz
  show Pr w4 b (S.put o x) (S.put o x) _ _ tv ov vv bv ov vv lo hi
  rw [e1]
  exact hz.dryRows HD.out HD.out
set_option maxHeartbeats 1600000 in
theorem pact_out (b lo hi : Nat) (S : Ms) (tv bv ov vv : Value) (o : Op6) (x : Nat) (w : World) (h : Pq w b S tv ov vv bv lo hi) (hr : rfN S o = 0) (hd : S.dry = false) (ho : S.out o = true) :
    Calls Tryd.prog 51 #[.pointer (some ⟨b, 0, none⟩), .agg (opCs o), .int .u64 (x : Int)] w fun e w' => e = .returned (.int .i64 2) ∧ Pq w' b S tv ov vv bv lo hi ∧ Tch (Fz b ov bv vv lo hi) w w' := by
  have HB0 := hid ((Below.refl w.heap.size w).alloc (Nat.le_refl _) (.cells (opCs o) 52))
  have ZS := Rz.start h o
  have hop := ZS.op
  have HNO : Hid (¬ Fz b ov bv vv lo hi w.heap.size) := hid (fun q => by have := h.ftlt q; omega)
  have HRF := hid (fun (w' : World) (h' : Pq w' b S tv ov vv bv lo hi) => prefuses_any b _ _ lo hi S S tv ov vv bv ov vv o w' h')
  have k0 := orc hop 0 (u := .int .i64 o.K) rfl
  have k1 := orc hop 1 (u := .int .i64 o.D) rfl
  have k2 := orc hop 2 (u := .int .i64 o.A) rfl
  have k3 := orc hop 3 (u := .int .i64 o.B) rfl
  have k4 := orc hop 4 (u := .int .i64 o.E) rfl
  have k5 := orc hop 5 (u := .int .u64 (o.C : Int)) rfl
  have Z0 := hid ZS
  rw [hr] at HRF
  have HWR := hid (fun (w' : World) (h' : Pq w' b S tv ov vv bv lo hi) => pwrite_out b _ _ lo hi S S tv ov vv bv ov vv o x w' h' hd hd ho)
  clear h ZS hop hr hd ho
  go_enter Tryd.func51, Tryd.ntmps51
  go_wp2_with (first
    | (go_at_call 56; (with_reducible refine (HRF.out _ Z0.out.pr).mono ?_); rintro e w2 ⟨rfl, hb1⟩; have Z1 := hid (Z0.out.self hb1); have B1 := hid (HB0.out.trans (hb1.mono HB0.out.size)); clear k0 k1 k2 k3 k4 k5; have k0 := orc Z1.out.op 0 (u := .int .i64 o.K) rfl; have k1 := orc Z1.out.op 1 (u := .int .i64 o.D) rfl; have k2 := orc Z1.out.op 2 (u := .int .i64 o.A) rfl; have k3 := orc Z1.out.op 3 (u := .int .i64 o.B) rfl; have k4 := orc Z1.out.op 4 (u := .int .i64 o.E) rfl; have k5 := orc Z1.out.op 5 (u := .int .u64 (o.C : Int)) rfl; clear hb1)
    | (go_at_call 57; (with_reducible refine (HWR.out _ Z1.out.pr).mono ?_); rintro e w3 ⟨rfl, hp1, ht1⟩; have Z2 := hid hp1; have T2 := hid ((Tch.of_below B1.out).trans ht1 (fun _ _ f => f)); clear k0 k1 k2 k3 k4 k5; clear hp1 ht1))
  go_ret
  exact ⟨rfl, Z2.out, T2.out⟩
set_option maxHeartbeats 1600000 in
theorem pact_ok (b k lo hi : Nat) (S : Ms) (tv bv ov vv : Value) (o : Op6) (x : Nat) (w : World) (h : Pq w b S tv ov vv bv lo hi) (hq : Bq k S) (hk : k ≤ 1000000) (hr : rfN S o = 0) (hd : S.dry = false) (hok : okOp o (S.len : Int) S.n = true) (ho : S.out o = false) (hx : x < 2 ^ 64) (hC : o.C < 2 ^ 64) :
    Calls Tryd.prog 51 #[.pointer (some ⟨b, 0, none⟩), .agg (opCs o), .int .u64 (x : Int)] w fun e w' => e = .returned (.int .i64 0) ∧ Pz' b (S.put o x) tv ov vv bv lo hi w w' := by
  have HB0 := hid ((Below.refl w.heap.size w).alloc (Nat.le_refl _) (.cells (opCs o) 52))
  have ZS := Rz.start h o
  have hop := ZS.op
  have HNO : Hid (¬ Fz b ov bv vv lo hi w.heap.size) := hid (fun q => by have := h.ftlt q; omega)
  have HRF := hid (fun (w' : World) (h' : Pq w' b S tv ov vv bv lo hi) => prefuses_any b _ _ lo hi S S tv ov vv bv ov vv o w' h')
  have k0 := orc hop 0 (u := .int .i64 o.K) rfl
  have k1 := orc hop 1 (u := .int .i64 o.D) rfl
  have k2 := orc hop 2 (u := .int .i64 o.A) rfl
  have k3 := orc hop 3 (u := .int .i64 o.B) rfl
  have k4 := orc hop 4 (u := .int .i64 o.E) rfl
  have k5 := orc hop 5 (u := .int .u64 (o.C : Int)) rfl
  have Z0 := hid ZS
  rw [hr] at HRF
  have e0 : kpL S S.L = S.L := by unfold kpL; rw [if_neg (by rw [hd]; decide)]
  have e1 : kpL (S.put o x) (S.put o x).L = S.L + 1 := by unfold kpL; rw [if_neg (by show ¬ S.dry = true; rw [hd]; decide)]; rfl
  have HE1 := hid e1
  have HWR := hid (fun (w' : World) (h' : Pq w' b S tv ov vv bv lo hi) => pwrite_ok b k lo hi S tv bv ov vv o x w' (by have h2 := h'; unfold Pq at h2; rw [e0] at h2; exact h2) hq hk hd hok ho hx hC)
  have HCT := hid (fun (w' : World) (ov' vv' : Value) (h' : Pr w' b S (S.put o x) (S.L + 1) (S.L + 1) tv ov' vv' bv ov' vv' lo hi) => pcounts_any b _ _ lo hi S (S.put o x) tv ov' vv' bv ov' vv' o x w' h' (Nat.le_trans hq.len hk) (Nat.le_trans hq.draws hk) (Nat.le_trans hq.words hk))
  clear h ZS hop hq hk hr hd hok ho hx hC e0 e1
  go_enter Tryd.func51, Tryd.ntmps51
  go_wp2_with (first
    | (go_at_call 56; (with_reducible refine (HRF.out _ Z0.out.pr).mono ?_); rintro e w2 ⟨rfl, hb1⟩; have Z1 := hid (Z0.out.self hb1); have B1 := hid (HB0.out.trans (hb1.mono HB0.out.size)); clear k0 k1 k2 k3 k4 k5; have k0 := orc Z1.out.op 0 (u := .int .i64 o.K) rfl; have k1 := orc Z1.out.op 1 (u := .int .i64 o.D) rfl; have k2 := orc Z1.out.op 2 (u := .int .i64 o.A) rfl; have k3 := orc Z1.out.op 3 (u := .int .i64 o.B) rfl; have k4 := orc Z1.out.op 4 (u := .int .i64 o.E) rfl; have k5 := orc Z1.out.op 5 (u := .int .u64 (o.C : Int)) rfl; clear hb1)
    | (go_at_call 57; (with_reducible refine (HWR.out _ Z1.out.pr).mono ?_); rintro e w3 ⟨rfl, ov', vv', hp1, hg1⟩; have K1 := hid ((⟨Z1.out.op, HNO.out⟩ : Kz (Fz b ov bv vv lo hi) w.heap.size _ _).step hg1.tch hg1.sub); have Z2 := hid hp1; have G2 := hid (((Gn.refl (Fz b ov bv vv lo hi) w).self B1.out).trans hg1); clear k0 k1 k2 k3 k4 k5; have k0 := orc K1.out.blk 0 (u := .int .i64 o.K) rfl; have k1 := orc K1.out.blk 1 (u := .int .i64 o.D) rfl; have k2 := orc K1.out.blk 2 (u := .int .i64 o.A) rfl; have k3 := orc K1.out.blk 3 (u := .int .i64 o.B) rfl; have k4 := orc K1.out.blk 4 (u := .int .i64 o.E) rfl; have k5 := orc K1.out.blk 5 (u := .int .u64 (o.C : Int)) rfl; clear hp1 hg1)
    | (go_at_call 58; (with_reducible refine (HCT.out _ _ _ Z2.out).mono ?_); rintro e w4 ⟨rfl, hp1, ht1⟩; have Z3 := hid hp1; have G3 := hid (G2.out.on ht1); clear k0 k1 k2 k3 k4 k5; clear hp1 ht1))
  go_ret
  refine ⟨rfl, ov', vv', ?_, G3.out⟩
  show Pr w4 b (S.put o x) (S.put o x) _ _ tv ov' vv' bv ov' vv' lo hi
  rw [HE1.out]
  exact Z3.out
theorem pact_any (b k lo hi : Nat) (S : Ms) (tv bv ov vv : Value) (o : Op6) (x : Nat) (w : World) (h : Pq w b S tv ov vv bv lo hi) (hq : Bq k S) (hk : k ≤ 1000000) (hx : x < 2 ^ 64) (hC : o.C < 2 ^ 64) :
    Calls Tryd.prog 51 #[.pointer (some ⟨b, 0, none⟩), .agg (opCs o), .int .u64 (x : Int)] w fun e w' => e = .returned (.int .i64 (dnC S o : Nat)) ∧ Pz' b (dnS S o x) tv ov vv bv lo hi w w' := by
  by_cases h1 : S.bad o = true
  · have ec : dnC S o = 1 := by unfold dnC; rw [if_pos h1]
    have er : rfN S o = 1 := by unfold rfN; rw [if_pos h1]
    have es : dnS S o x = S := by unfold dnS; rw [ec]; rfl
    rw [ec, es]
    have := pact_ref b lo hi S tv bv ov vv o x w h (by rw [er]; decide)
    rw [er] at this
    exact this.mono fun e w' q => ⟨q.1, ov, vv, q.2.1, (Gn.refl _ _).self q.2.2⟩
  · by_cases h2 : S.full = true
    · have ec : dnC S o = 3 := by unfold dnC; rw [if_neg h1, if_pos h2]
      have er : rfN S o = 3 := by unfold rfN; rw [if_neg h1, if_pos h2]
      have es : dnS S o x = S := by unfold dnS; rw [ec]; rfl
      rw [ec, es]
      have := pact_ref b lo hi S tv bv ov vv o x w h (by rw [er]; decide)
      rw [er] at this
      exact this.mono fun e w' q => ⟨q.1, ov, vv, q.2.1, (Gn.refl _ _).self q.2.2⟩
    · have er : rfN S o = 0 := by unfold rfN; rw [if_neg h1, if_neg h2]
      cases hd : S.dry
      · by_cases h3 : S.out o = true
        · have ec : dnC S o = 2 := by unfold dnC; rw [if_neg h1, if_neg h2, if_pos h3]
          have es : dnS S o x = S := by unfold dnS; rw [ec]; rfl
          rw [ec, es]
          exact (pact_out b lo hi S tv bv ov vv o x w h er hd h3).mono fun e w' q => ⟨q.1, ov, vv, q.2.1, (Gn.refl _ _).on q.2.2⟩
        · have ec : dnC S o = 0 := by unfold dnC; rw [if_neg h1, if_neg h2, if_neg h3]
          have es : dnS S o x = S.put o x := by unfold dnS; rw [ec]; rfl
          rw [ec, es]
          have hok : okOp o (S.len : Int) S.n = true := by
            unfold Ms.bad at h1
            cases q : okOp o (S.len : Int) S.n
            · rw [q] at h1; exact absurd rfl h1
            · rfl
          exact pact_ok b k lo hi S tv bv ov vv o x w h hq hk er hd hok (by simpa using h3) hx hC
      · have h3 : S.out o = false := by unfold Ms.out; rw [hd]; simp
        have ec : dnC S o = 0 := by unfold dnC; rw [if_neg h1, if_neg h2, if_neg (by rw [h3]; decide)]
        have es : dnS S o x = S.put o x := by unfold dnS; rw [ec]; rfl
        rw [ec, es]
        exact (pact_dry b k lo hi S tv bv ov vv o x w h hq hk er hd).mono fun e w' q => ⟨q.1, ov, vv, q.2.1, (Gn.refl _ _).on q.2.2⟩
end Go.Proofs.YtpjgpiieminaoaaDoor

/- Wire: the program's machine: Do. -/
namespace Go.Proofs.YtpjgpiieminaoaaDoor
open Go.RowKit
set_option maxRecDepth 100000
theorem Pq.err {b lo hi : Nat} {w : World} {S : Ms} {tv ov vv bv : Value} (h : Pq w b S tv ov vv bv lo hi) : Calls Tryd.prog 8 #[.pointer (some ⟨b, 0, none⟩)] w fun e w' => e = .returned (.int .i64 (S.e : Int)) ∧ w' = w := perr_c h.c_n h.hn h.c_e
theorem row_c0 {w : World} {n : Nat} {cs : Array Value} {T : TypeId} {u : Value} (h : w.heap[n]? = some (.cells cs T (0, 0))) (hu : cs[0]? = some u) : w.cell? ⟨n, 0, none⟩ = some u := by
  rw [cell_of_row w n 0 _ _ _ h]; exact hu
/-- The error is kept. -/
theorem Pq.keeps {b lo hi : Nat} {w : World} {S : Ms} {tv ov vv bv : Value} (h : Pq w b S tv ov vv bv lo hi) (c : Nat) : Pq (w.setCell ⟨b, 13, none⟩ (.int .i64 (c : Int))) b { S with e := c } tv ov vv bv lo hi :=
  Pr.cellSet (A' := { S with e := c }) (S' := { S with e := c }) h 13 (.int .i64 (c : Int)) rfl rfl rfl rfl rfl rfl rfl rfl rfl rfl rfl
theorem pdo1_any (b k lo hi p3 p4 p5 : Nat) (S : Ms) (tv bv ov vv : Value) (o : Op6) (x : Nat) (w : World) (h : Pq w b S tv ov vv bv lo hi) (hq : Bq k S) (hk : k ≤ 1000000)
    (c3 : w.cell? ⟨p3, 0, none⟩ = some (.pointer (some ⟨b, 0, none⟩))) (h4 : w.heap[p4]? = some (.cells (opCs o) 52 (0, 0))) (c5 : w.cell? ⟨p5, 0, none⟩ = some (.int .u64 (x : Int))) (hx : x < 2 ^ 64) (hC : o.C < 2 ^ 64) :
    Calls Tryd.prog 50 #[.pointer (some ⟨p3, 0, none⟩), .pointer (some ⟨p4, 0, none⟩), .pointer (some ⟨p5, 0, none⟩)] w fun e w' => e = .returned (.int .i64 (dnC S o : Nat)) ∧ Pz' b (dnS S o x) tv ov vv bv lo hi w w' := by
  have HA := hid (pact_any b k lo hi S tv bv ov vv o x w h hq hk hx hC)
  have k0 := orc h4 0 (u := .int .i64 o.K) rfl
  have k1 := orc h4 1 (u := .int .i64 o.D) rfl
  have k2 := orc h4 2 (u := .int .i64 o.A) rfl
  have k3 := orc h4 3 (u := .int .i64 o.B) rfl
  have k4 := orc h4 4 (u := .int .i64 o.E) rfl
  have k5 := orc h4 5 (u := .int .u64 (o.C : Int)) rfl
  clear h hq hk h4 hx hC
  go_enter Tryd.func50, Tryd.ntmps50
  go_wp2_with (go_at_call 51; (with_reducible refine HA.out.mono ?_); rintro e w2 ⟨rfl, hp⟩; have HP := hid hp; clear hp c3 c5 k0 k1 k2 k3 k4 k5)
  go_ret
  exact ⟨rfl, HP.out⟩
theorem pkeep_err (b lo hi : Nat) (S : Ms) (tv bv ov vv f : Value) (w : World) (h : Pq w b S tv ov vv bv lo hi) (he : S.e ≠ 0) :
    Calls Tryd.prog 37 #[.pointer (some ⟨b, 0, none⟩), f] w fun e w' => e = .returned (.bool false) ∧ w' = w := by
  have HE := hid h.err
  have q1 : ((S.e : Int) != 0) = true := by simp; omega
  clear h he
  generalize (S.e : Int) = r at *
  go_enter Tryd.func37, Tryd.ntmps37
  go_wp2_with (go_at_call 8; (with_reducible refine HE.out.mono ?_); rintro e w2 ⟨rfl, rfl⟩)
  go_ret
  exact ⟨rfl, rfl⟩
theorem pkeep_do (b k lo hi p3 p4 p5 : Nat) (S : Ms) (tv bv ov vv : Value) (o : Op6) (x : Nat) (w : World) (h : Pq w b S tv ov vv bv lo hi) (hq : Bq k S) (hk : k ≤ 1000000)
    (c3 : w.cell? ⟨p3, 0, none⟩ = some (.pointer (some ⟨b, 0, none⟩))) (h4 : w.heap[p4]? = some (.cells (opCs o) 52 (0, 0))) (c5 : w.cell? ⟨p5, 0, none⟩ = some (.int .u64 (x : Int))) (hx : x < 2 ^ 64) (hC : o.C < 2 ^ 64) (he : S.e = 0) :
    Calls Tryd.prog 37 #[.pointer (some ⟨b, 0, none⟩), .func (.func 50) #[] #[.pointer (some ⟨p3, 0, none⟩), .pointer (some ⟨p4, 0, none⟩), .pointer (some ⟨p5, 0, none⟩)]] w fun e w' => e = .returned (.bool ((dnC S o : Int) == 0)) ∧ Pz' b (S.doS o x) tv ov vv bv lo hi w w' := by
  have HE := hid h.err
  rw [he] at HE
  have HA := hid (pdo1_any b k lo hi p3 p4 p5 S tv bv ov vv o x w h hq hk c3 h4 c5 hx hC)
  have HS := hid (doS_dn S o x he)
  clear h hq hk c3 h4 c5 hx hC he
  generalize dnC S o = c at *
  generalize dnS S o x = S1 at *
  go_enter Tryd.func37, Tryd.ntmps37
  go_wp2_with (first
    | (go_at_call 8; (with_reducible refine HE.out.mono ?_); rintro e w2 ⟨rfl, rfl⟩)
    | (go_at_call 50; (with_reducible refine HA.out.mono ?_); rintro e w2 ⟨rfl, ov', vv', hp, hg⟩; have HP := hid (Pq.keeps hp c); have HG := hid (hg.on (fz_set (ov := ov') (bv := bv) (vv := vv') (lo := lo) (hi := hi) b 13 (.int .i64 (c : Int)) w2)); have c13 := hp.c_e; have f13 := hp.fz 13; have d13 := HP.out.c_e; clear hp hg))
  go_ret
  exact ⟨rfl, ov', vv', by rw [HS.out]; exact HP.out, HG.out⟩
set_option maxHeartbeats 3200000 in
theorem pdo_any (b k : Nat) (S : Ms) (F : Nat → Prop) (o : Op6) (x : Nat) (w : World) (hm : Pm w b S F) (hq : Bq k S) (hk : k ≤ 1000000) (ho : opwf o) (hx : x < 2 ^ 64) :
    Calls Tryd.prog 42 #[.pointer (some ⟨b, 0, none⟩), .agg (opCs o), .int .u64 (x : Int)] w fun e w' => e = .returned (.int .i64 (S.doR o)) ∧ ∃ F', Pm w' b (S.doS o x) F' ∧ Tch F w w' ∧ ∀ k, F' k → F k ∨ w.heap.size ≤ k := by
  obtain ⟨tv, ov, vv, bv, lo, hi, h, rfl⟩ := hm
  have hC : o.C < 2 ^ 64 := by have := ho.2.2.2.2.2; omega
  obtain ⟨w1, hw1⟩ : ∃ w1, ((w.alloc (.cells #[.pointer (some ⟨b, 0, none⟩)] 25)).alloc (.cells (opCs o) 52)).alloc (.cells #[.int .u64 (x : Int)] 22) = w1 := ⟨_, rfl⟩
  have hb0 : Below w.heap.size w w1 := by
    rw [← hw1]
    exact (((Below.refl w.heap.size w).alloc (Nat.le_refl _) _).alloc (by rw [alloc_sz]; omega) _).alloc (by rw [alloc_sz, alloc_sz]; omega) _
  have z3 : w1.heap[w.heap.size]? = some (.cells #[.pointer (some ⟨b, 0, none⟩)] 25 (0, 0)) := by
    rw [← hw1, Below.heap_alloc _ _ _ (by rw [alloc_sz, alloc_sz]; omega), Below.heap_alloc _ _ _ (by rw [alloc_sz]; omega)]; exact heap_alloc_new _ _
  have z4 : w1.heap[w.heap.size + 1]? = some (.cells (opCs o) 52 (0, 0)) := by
    rw [← hw1, Below.heap_alloc _ _ _ (by rw [alloc_sz, alloc_sz]; omega)]
    have := heap_alloc_new (w.alloc (.cells #[.pointer (some ⟨b, 0, none⟩)] 25)) (.cells (opCs o) 52)
    rw [alloc_sz] at this; exact this
  have z5 : w1.heap[w.heap.size + 1 + 1]? = some (.cells #[.int .u64 (x : Int)] 22 (0, 0)) := by
    rw [← hw1]
    have := heap_alloc_new ((w.alloc (.cells #[.pointer (some ⟨b, 0, none⟩)] 25)).alloc (.cells (opCs o) 52)) (.cells #[.int .u64 (x : Int)] 22)
    rw [alloc_sz, alloc_sz] at this; exact this
  have c3 : w1.cell? ⟨w.heap.size, 0, none⟩ = some (.pointer (some ⟨b, 0, none⟩)) := row_c0 z3 rfl
  have c5 : w1.cell? ⟨w.heap.size + 1 + 1, 0, none⟩ = some (.int .u64 (x : Int)) := row_c0 z5 rfl
  have h1 := h.self hb0
  have HW := hid hw1
  have HB0 := hid hb0
  have hno : ¬ Fz b ov bv vv lo hi w.heap.size := fun q => by have := h.ftlt q; omega
  have HK3 := hid (⟨z3, hno⟩ : Kz (Fz b ov bv vv lo hi) w.heap.size _ w1)
  by_cases he : S.e = 0
  · have HKP := hid (pkeep_do b k lo hi w.heap.size (w.heap.size + 1) (w.heap.size + 1 + 1) S tv bv ov vv o x w1 h1 hq hk c3 z4 c5 hx hC he)
    by_cases hc : dnC S o = 0
    · have hR : S.doR o = (S.len : Int) := by rw [doR_dn S o he, if_pos hc]
      have hS : (S.doS o x).len = S.len + 1 := by
        rw [doS_dn S o x he]
        unfold dnS
        rw [if_pos hc]
        show S.skip + (S.L + 1) = S.skip + S.L + 1
        omega
      rw [hR]
      rw [hc] at HKP
      have hw2 : IntKind.i64.wrap (S.len : Int) = (S.len : Int) := by rw [IntKind.wrap_i64]; have := hq.len; omega
      clear h h1 hq ho hx hC hw1 hb0 z3 z4 z5 c5 hno hc hR he
      generalize S.doS o x = S1 at *
      have HL := hid hS
      clear hS
      go_enter Tryd.func42, Tryd.ntmps42
      go_wp2_with fail
      rw [HW.out]
      go_wp2_with (go_at_call 37; (with_reducible refine HKP.out.mono ?_); rintro e w2 ⟨rfl, ov', vv', hp, hg⟩; have HP := hid hp; have HG := hid (((Gn.refl (Fz b ov bv vv lo hi) w).self HB0.out).trans hg); have K3 := HK3.out.step hg.tch hg.sub; have c3' := row_c0 K3.blk (u := .pointer (some ⟨b, 0, none⟩)) rfl; have c4 := hp.c_len; rw [HL.out] at c4; clear hp hg K3 c3)
      go_ret
      exact ⟨rfl, _, ⟨tv, ov', vv', bv, lo, hi, HP.out, rfl⟩, HG.out.tch, HG.out.sub⟩
    · have hR : S.doR o = -1 := by rw [doR_dn S o he, if_neg hc]
      rw [hR]
      have q1 : ((dnC S o : Int) == 0) = false := by simp; omega
      rw [q1] at HKP
      clear h h1 hq ho hx hC hw1 hb0 z3 z4 z5 c5 hno hc hR he q1
      go_enter Tryd.func42, Tryd.ntmps42
      go_wp2_with fail
      rw [HW.out]
      go_wp2_with (go_at_call 37; (with_reducible refine HKP.out.mono ?_); rintro e w2 ⟨rfl, ov', vv', hp, hg⟩; have HP := hid hp; have HG := hid (((Gn.refl (Fz b ov bv vv lo hi) w).self HB0.out).trans hg); clear hp hg c3)
      go_ret
      exact ⟨rfl, _, ⟨tv, ov', vv', bv, lo, hi, HP.out, rfl⟩, HG.out.tch, HG.out.sub⟩
  · have hR : S.doR o = -1 := by unfold Ms.doR; rw [if_pos (.inl he)]
    have hS : S.doS o x = S := by unfold Ms.doS; rw [if_pos he]
    rw [hR, hS]
    have HKP := hid (fun f => pkeep_err b lo hi S tv bv ov vv f w1 h1 he)
    have H1 := hid h1
    clear h h1 hq ho hx hC hw1 hb0 z3 z4 z5 c5 hno hR he hS
    go_enter Tryd.func42, Tryd.ntmps42
    go_wp2_with fail
    rw [HW.out]
    go_wp2_with (go_at_call 37; (with_reducible refine (HKP.out _).mono ?_); rintro e w2 ⟨rfl, rfl⟩; clear c3)
    go_ret
    exact ⟨rfl, _, ⟨tv, ov, vv, bv, lo, hi, H1.out, rfl⟩, Tch.of_below HB0.out, fun _ q => .inl q⟩
/-- Nobody's machine does nothing. -/
theorem pkeep_nil (f : Value) (w : World) : Calls Tryd.prog 37 #[.pointer none, f] w fun e w' => e = .returned (.bool false) ∧ w' = w := by
  have HE := hid (fun w => perr_nil w)
  go_enter Tryd.func37, Tryd.ntmps37
  go_wp2_with (go_at_call 8; (with_reducible refine (HE.out _).mono ?_); rintro e w2 ⟨rfl, rfl⟩)
  go_ret
  exact ⟨rfl, rfl⟩
set_option maxHeartbeats 800000 in
theorem pdo_nil (o : Op6) (x : Nat) (w : World) : Calls Tryd.prog 42 #[.pointer none, .agg (opCs o), .int .u64 (x : Int)] w fun e w' => e = .returned (.int .i64 (-1)) ∧ Below w.heap.size w w' := by
  have HKP := hid (fun f w => pkeep_nil f w)
  obtain ⟨w1, hw1⟩ : ∃ w1, ((w.alloc (.cells #[.pointer none] 25)).alloc (.cells (opCs o) 52)).alloc (.cells #[.int .u64 (x : Int)] 22) = w1 := ⟨_, rfl⟩
  have hb0 : Below w.heap.size w w1 := by
    rw [← hw1]
    exact (((Below.refl w.heap.size w).alloc (Nat.le_refl _) _).alloc (by rw [alloc_sz]; omega) _).alloc (by rw [alloc_sz, alloc_sz]; omega) _
  have z3 : w1.heap[w.heap.size]? = some (.cells #[.pointer none] 25 (0, 0)) := by
    rw [← hw1, Below.heap_alloc _ _ _ (by rw [alloc_sz, alloc_sz]; omega), Below.heap_alloc _ _ _ (by rw [alloc_sz]; omega)]; exact heap_alloc_new _ _
  have c3 : w1.cell? ⟨w.heap.size, 0, none⟩ = some (.pointer none) := row_c0 z3 rfl
  have HW := hid hw1
  have HB0 := hid hb0
  clear hw1 hb0 z3
  go_enter Tryd.func42, Tryd.ntmps42
  go_wp2_with fail
  rw [HW.out]
  go_wp2_with (go_at_call 37; (with_reducible refine (HKP.out _ _).mono ?_); rintro e w2 ⟨rfl, rfl⟩; clear c3)
  go_ret
  exact ⟨rfl, HB0.out⟩
end Go.Proofs.YtpjgpiieminaoaaDoor
