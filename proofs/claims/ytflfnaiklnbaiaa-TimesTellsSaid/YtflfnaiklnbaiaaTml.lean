import Derived.Test.YtflfnaiklnbaiaaProg
import Derived.Test.YtflfnaiklnbaiaaTmd
import Derived.Test.YtflfnaiklnbaiaaShr
import Derived.Test.YtflfnaiklnbaiaaRgt
import Derived.Test.YtflfnaiklnbaiaaGen
import Derived.ArgAppend
import Derived.Lib.AppendStr
import Derived.Lib.AppendIntMem
import Derived.Lib.ConvBytes
import Derived.Test.YtflfnaiklnbaiaaTma
import Derived.Test.YtflfnaiklnbaiaaWdc
import Derived.Deep.MidRow
/- Times: what the program must tell, over any machine; the laws' common functions. -/
namespace Go.Proofs.Ytflfnaiklnbaiaa
open Go.RowKit
set_option maxRecDepth 100000
/-- By which kind. -/
def isDom (K : Int) : Bool := decide (K = 2)
/-- How many masks, how many ops. -/
def tmD (n : Int) : Int := if n = 2 then 1 else if n = 3 then 3 else 0
def tmN (K n : Int) : Int := if K = 1 ∨ K = 2 then (if n = 2 then 9 else if n = 3 then 24 else 0) else 0
/-- The program's times, whatever it is made of; V: what it asks of the world, and of the machine's blocks. -/
structure TmI (Pm : World → Nat → Ms → (Nat → Prop) → Prop) (V : World → (Nat → Prop) → Prop) : Prop where
  by_ : ∀ (b k : Nat) (S : Ms) (F : Nat → Prop) (K : Int) (A B : Nat → Int) (w : World), Pm w b S F → V w F → Bq k S → k + 50 ≤ 100000 → (S.n = 2 ∨ S.n = 3) → I64 K → Wb A → Wb B → Calls Try.prog 14 #[.pointer (some ⟨b, 0, none⟩), .int .i64 K, .agg (wdV A), .agg (wdV B)] w fun e w' => e = .returned (.agg (wdV (tmR S (isDom K) A B))) ∧ PmR Pm b (tmS S (isDom K) A B) F w w'
  isw : ∀ (b k : Nat) (S : Ms) (F : Nat → Prop) (A B : Nat → Int) (w : World), Pm w b S F → V w F → Bq k S → k + 50 ≤ 100000 → (S.n = 2 ∨ S.n = 3) → Wb A → Wb B → Calls Try.prog 22 #[.pointer (some ⟨b, 0, none⟩), .agg (wdV A), .agg (wdV B)] w fun e w' => e = .returned (.agg (wdV (tmR S false A B))) ∧ PmR Pm b (tmS S false A B) F w w'
  dom : ∀ (b k : Nat) (S : Ms) (F : Nat → Prop) (A B : Nat → Int) (w : World), Pm w b S F → V w F → Bq k S → k + 50 ≤ 100000 → (S.n = 2 ∨ S.n = 3) → Wb A → Wb B → Calls Try.prog 21 #[.pointer (some ⟨b, 0, none⟩), .agg (wdV A), .agg (wdV B)] w fun e w' => e = .returned (.agg (wdV (tmR S true A B))) ∧ PmR Pm b (tmS S true A B) F w w'
  draws : ∀ (n : Int) (w : World), I64 n → Calls Try.prog 7 #[.int .i64 n] w fun e w' => e = .returned (.int .i64 (tmD n)) ∧ Below w.heap.size w w'
  ops : ∀ (K n : Int) (w : World), I64 K → I64 n → Calls Try.prog 9 #[.int .i64 K, .int .i64 n] w fun e w' => e = .returned (.int .i64 (tmN K n)) ∧ Below w.heap.size w w'
theorem Od.liftD {lg : LoG} {F0 : Nat → Prop} {w0 w : World} {b k : Nat} {S : Ms} (K : Int) (A B : Nat → Int) (h : Od lg F0 w0 w b S []) (hq : Bq k S) (hk : k + 50 ≤ 100000) (hn : S.n = 2 ∨ S.n = 3) (hA : Wb A) (hB : Wb B) :
    Calls Try.prog 15 #[.pointer (some ⟨b, 0, none⟩), .int .i64 K, .agg (wdV A), .agg (wdV B)] w fun e w' => e = .returned (.agg (wdV (tmR S (isDom K) A B))) ∧ Od lg F0 w0 w' b (tmS S (isDom K) A B) [] := by
  obtain ⟨e1, e2⟩ := tm_all (isDom K) A B hn
  have e3 : wdV (tmR S (isDom K) A B) = wdV (tmG dS0 dR0 S.sh (isDom K) A B (S.beginS 3)).2 := by
    show #[_, _, _] = #[_, _, _]
    rw [e2 0 (by omega), e2 1 (by omega), e2 2 (by omega)]
  rw [e3, ← e1]
  exact dby_core K (isDom K) (by unfold isDom; by_cases e : K = 2 <;> simp [e]) A B h hq hk (by unfold Ms.sh; omega) (by unfold Ms.sh; omega) hA hB
section
variable {Pm : World → Nat → Ms → (Nat → Prop) → Prop} (hM : Mach Pm) {lo : Nat} {X : Nat → Prop} {W w : World} {b bd k : Nat} {S S2 : Ms}
include hM
theorem yby (K : Int) (A B : Nat → Int) (h : Bz Pm lo X W w b bd S2 S) (hq : Bq k S) (hk : k + 50 ≤ 100000) (hn : S.n = 2 ∨ S.n = 3) (hA : Wb A) (hB : Wb B) :
    Calls Try.prog 15 #[.pointer (some ⟨bd, 0, none⟩), .int .i64 K, .agg (wdV A), .agg (wdV B)] w fun e w' => e = .returned (.agg (wdV (tmR S (isDom K) A B))) ∧ Bz Pm lo X W w' b bd S2 (tmS S (isDom K) A B) ∧ ∀ k, X k → w'.heap[k]? = w.heap[k]? :=
  Bz.docs hM h (fun _ _ h0 => Od.liftD K A B h0 hq hk hn hA hB)
variable {V : World → (Nat → Prop) → Prop} (hT : TmI Pm V)
include hT
theorem qby (K : Int) (A B : Nat → Int) (h : Bz Pm lo X W w b bd S S2) (hV : ∀ F : Nat → Prop, (∀ k, F k → lo ≤ k) → V w F) (hq : Bq k S) (hk : k + 50 ≤ 100000) (hn : S.n = 2 ∨ S.n = 3) (hK : I64 K) (hA : Wb A) (hB : Wb B) :
    Calls Try.prog 14 #[.pointer (some ⟨b, 0, none⟩), .int .i64 K, .agg (wdV A), .agg (wdV B)] w fun e w' => e = .returned (.agg (wdV (tmR S (isDom K) A B))) ∧ Bz Pm lo X W w' b bd (tmS S (isDom K) A B) S2 ∧ ∀ k, X k → w'.heap[k]? = w.heap[k]? := by
  obtain ⟨F, G, ov, bv, vv, tv, h1, h2, h3, h4, h5, h6, h7⟩ := h
  exact (hT.by_ b k S F K A B w h1 (hV F (fun k hk => (h3 k hk).1)) hq hk hn hK hA hB).mono fun e w' hr => ⟨hr.1, Bz.prog hM h1 h2 h3 h4 h5 h6 h7 hr.2⟩
theorem qisw (A B : Nat → Int) (h : Bz Pm lo X W w b bd S S2) (hV : ∀ F : Nat → Prop, (∀ k, F k → lo ≤ k) → V w F) (hq : Bq k S) (hk : k + 50 ≤ 100000) (hn : S.n = 2 ∨ S.n = 3) (hA : Wb A) (hB : Wb B) :
    Calls Try.prog 22 #[.pointer (some ⟨b, 0, none⟩), .agg (wdV A), .agg (wdV B)] w fun e w' => e = .returned (.agg (wdV (tmR S false A B))) ∧ Bz Pm lo X W w' b bd (tmS S false A B) S2 ∧ ∀ k, X k → w'.heap[k]? = w.heap[k]? := by
  obtain ⟨F, G, ov, bv, vv, tv, h1, h2, h3, h4, h5, h6, h7⟩ := h
  exact (hT.isw b k S F A B w h1 (hV F (fun k hk => (h3 k hk).1)) hq hk hn hA hB).mono fun e w' hr => ⟨hr.1, Bz.prog hM h1 h2 h3 h4 h5 h6 h7 hr.2⟩
theorem qdom (A B : Nat → Int) (h : Bz Pm lo X W w b bd S S2) (hV : ∀ F : Nat → Prop, (∀ k, F k → lo ≤ k) → V w F) (hq : Bq k S) (hk : k + 50 ≤ 100000) (hn : S.n = 2 ∨ S.n = 3) (hA : Wb A) (hB : Wb B) :
    Calls Try.prog 21 #[.pointer (some ⟨b, 0, none⟩), .agg (wdV A), .agg (wdV B)] w fun e w' => e = .returned (.agg (wdV (tmR S true A B))) ∧ Bz Pm lo X W w' b bd (tmS S true A B) S2 ∧ ∀ k, X k → w'.heap[k]? = w.heap[k]? := by
  obtain ⟨F, G, ov, bv, vv, tv, h1, h2, h3, h4, h5, h6, h7⟩ := h
  exact (hT.dom b k S F A B w h1 (hV F (fun k hk => (h3 k hk).1)) hq hk hn hA hB).mono fun e w' hr => ⟨hr.1, Bz.prog hM h1 h2 h3 h4 h5 h6 h7 hr.2⟩
end
/-- Words as they are laid. -/
def opC (x : Nat → Nat) (j : Nat) : Op6 := ⟨3, (j : Int), -1, -1, -1, x j⟩
theorem opC_wf {x : Nat → Nat} (hx : ∀ i, x i < 2 ^ 64) {j : Nat} (hj : j ≤ 1000) : opwf (opC x j) := ⟨i64c 3 (by decide) (by decide), i64c (j : Int) (by omega) (by omega), I64.m1, I64.m1, I64.m1, hx j⟩
abbrev w3 (x : Nat → Nat) : Array Value := #[.int .u64 (x 0 : Int), .int .u64 (x 1 : Int), .int .u64 (x 2 : Int)]
theorem w3_at (x : Nat → Nat) {j : Nat} (hj : j < 3) : (w3 x)[j]? = some (.int .u64 (x j : Int)) := by
  rcases (by omega : j = 0 ∨ j = 1 ∨ j = 2) with rfl | rfl | rfl <;> rfl
set_option maxHeartbeats 6400000 in
theorem flaid_any {Pm : World → Nat → Ms → (Nat → Prop) → Prop} (hM : Mach Pm) {F0 : Nat → Prop} {w0 w : World} {b k nn : Nat} {S : Ms} {bs : List (Nat × Obj)} (x : Nat → Nat) (hx : ∀ i, x i < 2 ^ 64) (h : Ow Pm F0 w0 w b S bs) (hq : Bq k S) (hk : k + 10 ≤ 100000) (hn3 : nn ≤ 3) :
    Calls Try.prog 11 #[.pointer (some ⟨b, 0, none⟩), .int .i64 (nn : Int), .agg (w3 x)] w fun e w' => e = .returned (.agg (wdV (eaR S (opC x) 0 none3 nn))) ∧ Ow Pm F0 w0 w' b (eaS S (opC x) 0 nn) bs := by
  have HBS : Hid (∀ j, j ≤ nn → Bq (k + j) (eaS S (opC x) 0 j)) := hid (fun j hj => eaS_bq hq 0 j (fun i hi => by rw [Nat.zero_add]; exact opC_wf hx (by omega)))
  have HCN : Hid (∀ (j : Nat) (wx : World) (bs : List (Nat × Obj)), j < nn → Ow Pm F0 w0 wx b (eaS S (opC x) 0 j) bs → Calls Try.prog 29 #[.pointer (some ⟨b, 0, none⟩), .int .i64 (j : Int), .int .u64 (x j : Int)] wx fun e w' => e = .returned (.int .i64 ((eaS S (opC x) 0 j).doR (opC x j))) ∧ Ow Pm F0 w0 w' b (eaS S (opC x) 0 (j + 1)) bs) := hid (fun j wx bs hj h' => h'.lift hM (fun F hF => by
    have := hM.const_ b (k + j) (eaS S (opC x) 0 j) F (j : Int) (x j) wx hF (HBS.out j (by omega)) (by omega) (opC_wf hx (by omega))
    rw [show eaS S (opC x) 0 (j + 1) = (eaS S (opC x) 0 j).doS (opC x j) 0 by unfold eaS; rw [Nat.zero_add]; cases j <;> rfl]
    exact this))
  have HUU : Hid (∀ j, eaR S (opC x) 0 none3 (j + 1) = updI (eaR S (opC x) 0 none3 j) j ((eaS S (opC x) 0 j).doR (opC x j))) := hid (fun j => by unfold eaR; rw [Nat.zero_add]; cases j <;> rfl)
  have HU0 : Hid (eaR S (opC x) 0 none3 0 = none3) := hid rfl
  have HS0 : Hid (eaS S (opC x) 0 0 = S) := hid rfl
  have HN3 := hid hn3
  have HX := hid (fun j (hj : j < 3) => w3_at x hj)
  obtain ⟨w1, hw1⟩ : ∃ w1, (w.alloc (.cells (w3 x) 23)).alloc (.cells #[.int .i64 0, .int .i64 0, .int .i64 0] 39) = w1 := ⟨_, rfl⟩
  have H1 : Hid (Ow Pm F0 w0 w1 b S ((w.heap.size + 1, Obj.cells #[.int .i64 0, .int .i64 0, .int .i64 0] 39 (0, 0)) :: (w.heap.size, Obj.cells (w3 x) 23 (0, 0)) :: bs)) := hid (by
    have := (h.new hM (w3 x) 23).new hM #[.int .i64 0, .int .i64 0, .int .i64 0] 39
    rw [hw1] at this
    simp only [sz_al] at this
    exact this)
  have HW := hid hw1
  clear h hq hk hn3 hx hw1 HBS
  obtain ⟨rg, hrg⟩ : ∃ rg : Nat → Int, ∀ j, (eaS S (opC x) 0 j).doR (opC x j) = rg j := ⟨_, fun _ => rfl⟩
  simp only [hrg] at HCN HUU
  clear hrg
  obtain ⟨St, hSt⟩ : ∃ St : Nat → Ms, ∀ j, eaS S (opC x) 0 j = St j := ⟨_, fun _ => rfl⟩
  obtain ⟨U, hU⟩ : ∃ U : Nat → Nat → Int, ∀ j, eaR S (opC x) 0 none3 j = U j := ⟨_, fun _ => rfl⟩
  simp only [hSt, hU] at HCN HUU HU0 HS0 ⊢
  clear hSt hU
  go_enter Try.func11, Try.ntmps11
  go_upto_region 1 with fail
  rw [HW.out]
  go_upto_region 2 with (go_at_call 28; (with_reducible refine (none_any _).mono ?_); rintro e w2 ⟨rfl, hb⟩; have H2 := hid (H1.out.self hM hb); clear hb)
  have H3 := hid (H2.out.new hM (wdV none3) 39)
  obtain ⟨g7, hg7⟩ : ∃ g7, w2.heap.size = g7 := ⟨_, rfl⟩
  rw [hg7] at H3
  have H4 : Hid (Ow Pm F0 w0 (w2.alloc (.cells #[.int .i64 (none3 0), .int .i64 (none3 1), .int .i64 (none3 2)] 39)) b (St 0) ((g7, .cells (wdV (U 0)) 39 (0, 0)) :: (w.heap.size + 1, Obj.cells #[.int .i64 0, .int .i64 0, .int .i64 0] 39 (0, 0)) :: (w.heap.size, Obj.cells (w3 x) 23 (0, 0)) :: bs)) := hid (by rw [HU0.out, HS0.out]; exact H3.out)
  generalize w2.alloc (.cells #[.int .i64 (none3 0), .int .i64 (none3 1), .int .i64 (none3 2)] 39) = w4 at *
  rw [hg7]
  clear hg7 H1 H2 H3
  go_wp2
  go_loopw [8] (fun iv wr => ∃ j : Nat, j ≤ nn ∧ iv = .int .i64 j ∧ Ow Pm F0 w0 wr b (St j) ((g7, .cells (wdV (U j)) 39 (0, 0)) :: (w.heap.size + 1, Obj.cells #[.int .i64 0, .int .i64 0, .int .i64 0] 39 (0, 0)) :: (w.heap.size, Obj.cells (w3 x) 23 (0, 0)) :: bs)) (fun iv _ => nn - (intOf iv).toNat)
  case atStart => exact ⟨0, by omega, rfl, H4.out⟩
  case round =>
    clear H4
    obtain ⟨j, hj, rfl, hI⟩ := hrel
    have HI := hid hI
    clear hI
    have hn3 := HN3.out
    by_cases hlt : j < nn
    · have j1 : (j : Int) < (nn : Int) := by omega
      have j0 : (0 : Int) ≤ (j : Int) := by omega
      have j3 : (j : Int) < 3 := by omega
      have HJ3 : Hid (j < 3) := hid (by omega)
      have HCJ := hid (fun wx bs h => HCN.out j wx bs hlt h)
      have HER2 : Hid ((wdV (U j)).setIfInBounds j (.int .i64 (rg j)) = wdV (U (j + 1))) := hid (by rw [wdV_upd _ j _ (by omega), HUU.out j])
      have cx := row_c (i := j) (HI.out.bl 2 rfl) (HX.out j HJ3.out)
      go_wp2_with (go_at_call 29; (with_reducible refine (HCJ.out _ _ HI.out).mono ?_); rintro e w6 ⟨rfl, hb⟩; have H6 := hid hb; clear hb cx; have cj := row_c (i := j) (H6.out.bl 0 rfl) (wdV_at (U j) j HJ3.out); have fj := frozen_of_row w6 g7 j _ _ (H6.out.bl 0 rfl))
      have H7 := hid (H6.out.cell hM j (.int .i64 (rg j)))
      rw [HER2.out] at H7
      go_roundw
      case rel => exact ⟨j + 1, by omega, by go_num, H7.out⟩
      case measure => simp [intOf]; omega
    · obtain rfl : nn = j := by omega
      clear hlt hj
      go_wp2_with (first
        | (refine step_load_row rfl 39 _ rfl g7 39 (wdV (U nn)) _ rfl (HI.out.bl 0 rfl) Try.underlying39 rfl (by kernel_rfl) ?_)
        | (refine step_store_row rfl 39 _ _ rfl (w.heap.size + 1) 39 _ (wdV (U nn)) rfl rfl (HI.out.bl 1 rfl) (by kernel_rfl) rfl (by kernel_rfl) ?_))
      have H9 := hid (HI.out.drop.row hM (wdV (U nn)))
      exact bodyPost_ret (results_cell_row (by rfl) _ _ (w.heap.size + 1) 39 (wdV (U nn)) (0, 0) _ rfl (H9.out.bl 0 rfl) Try.underlying39 rfl (by kernel_rfl)) rfl ⟨rfl, H9.out.drop.drop⟩
/-- A law's struct. -/
abbrev asC (t3 : Bool) (K : Int) (x y : Nat → Nat) (mv : Value) : Array Value := #[.bool t3, .int .i64 K, .int .u64 (x 0 : Int), .int .u64 (x 1 : Int), .int .u64 (x 2 : Int), .int .u64 (y 0 : Int), .int .u64 (y 1 : Int), .int .u64 (y 2 : Int), mv]
theorem fn_any (t3 : Bool) (K : Int) (x y : Nat → Nat) (mv : Value) (w : World) : Calls Try.prog 5 #[.agg (asC t3 K x y mv)] w fun e w' => e = .returned (.int .i64 (if t3 = true then 3 else 2)) ∧ Below w.heap.size w w' := by
  obtain ⟨w1, hw1⟩ : ∃ w1, w.alloc (.cells (asC t3 K x y mv) 26) = w1 := ⟨_, rfl⟩
  have HB1 : Hid (Below w.heap.size w w1) := hid (by rw [← hw1]; exact (Below.refl _ _).alloc (Nat.le_refl _) _)
  have hx : w1.heap[w.heap.size]? = some (.cells (asC t3 K x y mv) 26 (0, 0)) := by rw [← hw1]; exact heap_alloc_new _ _
  have c0 := row_c (i := 0) (u := .bool t3) hx rfl
  have HW := hid hw1
  clear hw1 hx
  go_enter Try.func5, Try.ntmps5
  go_upto_region 1 with fail
  rw [HW.out]
  cases t3
  · go_wp2
    go_ret
    exact ⟨rfl, HB1.out⟩
  · go_wp2
    go_ret
    exact ⟨rfl, HB1.out⟩
theorem tdraws_any (n : Int) (w : World) : Calls Try.prog 8 #[.int .i64 n] w fun e w' => e = .returned (.int .i64 (tmD n)) ∧ w' = w := by
  unfold tmD
  by_cases h2 : n = 2
  · subst h2
    go_enter Try.func8, Try.ntmps8
    go_wp2
    go_ret
    exact ⟨rfl, rfl⟩
  · by_cases h3 : n = 3
    · subst h3
      go_enter Try.func8, Try.ntmps8
      go_wp2
      go_ret
      exact ⟨rfl, rfl⟩
    · rw [if_neg h2, if_neg h3]
      have q2 : ((n : Int) == 2) = false := by simpa using h2
      have q3 : ((n : Int) == 3) = false := by simpa using h3
      clear h2 h3
      go_enter Try.func8, Try.ntmps8
      go_wp2
      go_ret
      exact ⟨rfl, rfl⟩
theorem tops_any (K n : Int) (w : World) : Calls Try.prog 10 #[.int .i64 K, .int .i64 n] w fun e w' => e = .returned (.int .i64 (tmN K n)) ∧ w' = w := by
  unfold tmN
  by_cases hK : K = 1 ∨ K = 2
  · rw [if_pos hK]
    by_cases h2 : n = 2
    · subst h2
      rcases hK with rfl | rfl
      · go_enter Try.func10, Try.ntmps10
        go_wp2
        go_ret
        exact ⟨rfl, rfl⟩
      · go_enter Try.func10, Try.ntmps10
        go_wp2
        go_ret
        exact ⟨rfl, rfl⟩
    · rw [if_neg h2]
      by_cases h3 : n = 3
      · subst h3
        rcases hK with rfl | rfl
        · go_enter Try.func10, Try.ntmps10
          go_wp2
          go_ret
          exact ⟨rfl, rfl⟩
        · go_enter Try.func10, Try.ntmps10
          go_wp2
          go_ret
          exact ⟨rfl, rfl⟩
      · rw [if_neg h3]
        have q2 : ((n : Int) == 2) = false := by simpa using h2
        have q3 : ((n : Int) == 3) = false := by simpa using h3
        clear h2 h3
        rcases hK with rfl | rfl
        · go_enter Try.func10, Try.ntmps10
          go_wp2
          go_ret
          exact ⟨rfl, rfl⟩
        · go_enter Try.func10, Try.ntmps10
          go_wp2
          go_ret
          exact ⟨rfl, rfl⟩
  · rw [if_neg hK]
    have q1 : ((K : Int) != 1) = true := by simp; omega
    have q2 : ((K : Int) != 2) = true := by simp; omega
    clear hK
    go_enter Try.func10, Try.ntmps10
    go_wp2
    go_ret
    exact ⟨rfl, rfl⟩
/-- What shares stand for. -/
def tot (x : Nat → Nat) : Nat → Nat
  | 0 => 0
  | i + 1 => tot x i ^^^ x i
theorem tot_lt {x : Nat → Nat} (hx : ∀ i, x i < 2 ^ 64) : ∀ n, tot x n < 2 ^ 64
  | 0 => Nat.two_pow_pos 64
  | n + 1 => Nat.xor_lt_two_pow (tot_lt hx n) (hx n)
theorem ftot_any (nn : Nat) (hn3 : nn ≤ 3) (x : Nat → Nat) (hx : ∀ i, x i < 2 ^ 64) (w : World) : Calls Try.prog 20 #[.int .i64 (nn : Int), .agg (w3 x)] w fun e w' => e = .returned (.int .u64 (tot x nn : Nat)) ∧ Below w.heap.size w w' := by
  obtain ⟨w1, hw1⟩ : ∃ w1, w.alloc (.cells (w3 x) 23) = w1 := ⟨_, rfl⟩
  have HB1 : Hid (Below w.heap.size w w1) := hid (by rw [← hw1]; exact (Below.refl _ _).alloc (Nat.le_refl _) _)
  have HX1 : Hid (w1.heap[w.heap.size]? = some (.cells (w3 x) 23 (0, 0))) := hid (by rw [← hw1]; exact heap_alloc_new _ _)
  have HX := hid (fun j (hj : j < 3) => w3_at x hj)
  have HT := hid (fun n => tot_lt hx n)
  have HXL := hid hx
  have HN3 := hid hn3
  have HW := hid hw1
  clear hw1 hx hn3
  go_enter Try.func20, Try.ntmps20
  go_upto_region 1 with fail
  rw [HW.out]
  go_wp2
  go_loopw [5, 6] (fun v iv wr => ∃ j : Nat, j ≤ nn ∧ iv = .int .i64 j ∧ v = .int .u64 (tot x j : Nat) ∧ Below w1.heap.size w1 wr) (fun _ iv _ => nn - (intOf iv).toNat)
  case atStart => exact ⟨0, by omega, rfl, rfl, Below.refl _ _⟩
  case round =>
    obtain ⟨j, hj, rfl, rfl, hI⟩ := hrel
    have HI := hid hI
    clear hI
    have hn3 := HN3.out
    by_cases hlt : j < nn
    · have j1 : (j : Int) < (nn : Int) := by omega
      have j0 : (0 : Int) ≤ (j : Int) := by omega
      have j3 : (j : Int) < 3 := by omega
      have cx : wr.cell? ⟨w.heap.size, j, none⟩ = some (.int .u64 (x j : Int)) := tcell_self (row_c HX1.out (HX.out j (by omega))) HI.out
      have hx := wx64 (HT.out j) (HXL.out j)
      have HS : Hid (tot x (j + 1) = tot x j ^^^ x j) := hid rfl
      generalize tot x j ^^^ x j = r at *
      generalize tot x j = y at *
      generalize x j = u at *
      go_wp2
      go_roundw
      case rel => exact ⟨j + 1, by omega, by go_num, by rw [HS.out], HI.out⟩
      case measure => simp [intOf]; omega
    · obtain rfl : nn = j := by omega
      go_wp2
      go_ret
      exact ⟨rfl, HB1.out.trans (HI.out.mono HB1.out.size)⟩
end Go.Proofs.Ytflfnaiklnbaiaa

/- General: a row of bytes that a call owns, whatever is frozen behind its end ('[]byte(s)' freezes one place there). No program is named. -/
namespace Go.Proofs.Ytflfnaiklnbaiaa
open Go.RowKit Go.Lib

def Ob (B : Nat) (E : TypeId) (w : World) (v : Value) (xs : List UInt8) : Prop :=
  ∃ g cap cur fz, v = .slice (some ⟨g, 0, none⟩) xs.length cap ∧ B ≤ g ∧ w.heap[g]? = some (.cells cur E fz) ∧ (∀ j, xs.length ≤ j → j < cap → (decide (fz.1 ≤ j) && decide (j < fz.2)) = false) ∧ xs.length ≤ cap ∧ cap ≤ maxLen ∧ cur.size = cap ∧ cur.toList.take xs.length = Lib.byteCells xs
theorem setCells_row (g : Nat) (E : TypeId) (fz : Nat × Nat) : ∀ (vs : List Value) (o : Nat) (w : World) (cur : Array Value), w.heap[g]? = some (.cells cur E fz) → o + vs.length ≤ cur.size →
    (w.setCells g o vs).heap[g]? = some (.cells (cur.toList.take o ++ vs ++ cur.toList.drop (o + vs.length)).toArray E fz)
  | [], o, w, cur, h, _ => by
    show w.heap[g]? = _
    rw [h]
    simp
  | v :: r, o, w, cur, h, hl => by
    show ((w.setCell ⟨g, o, none⟩ v).setCells g (o + 1) r).heap[g]? = _
    have hlt : o < cur.size := by simp at hl; omega
    have h1 : (w.setCell ⟨g, o, none⟩ v).heap[g]? = some (.cells (cur.setIfInBounds o v) E fz) := by
      rw [setCell_eq_setRow w g o cur E fz v h]
      exact setRow_heap w g cur _ E fz h
    rw [setCells_row g E fz r (o + 1) _ _ h1 (by simp at hl ⊢; omega)]
    congr 2
    apply Array.ext'
    simp only [Array.toList_setIfInBounds]
    have e1 : (cur.toList.set o v).take (o + 1) = cur.toList.take o ++ [v] := by
      rw [List.take_set, List.take_add_one, List.set_append_right _ _ (by simp; omega)]
      have hm : min o cur.toList.length = o := by simp; omega
      rw [List.length_take, hm, Nat.sub_self]
      have hs : cur.toList[o]? = some cur[o] := by simp [hlt]
      rw [hs]
      simp
    have e2 : (cur.toList.set o v).drop (o + 1 + r.length) = cur.toList.drop (o + (r.length + 1)) := by
      rw [List.drop_set_of_lt (by omega)]
      congr 1
      omega
    rw [e1, e2]
    simp
theorem setCells_apart (g : Nat) : ∀ (vs : List Value) (o : Nat) (w : World) (k : Nat), k ≠ g → (w.setCells g o vs).heap[k]? = w.heap[k]?
  | [], _, _, _, _ => rfl
  | v :: r, o, w, k, h => by
    show ((w.setCell ⟨g, o, none⟩ v).setCells g (o + 1) r).heap[k]? = _
    rw [setCells_apart g r (o + 1) _ k h]
    exact heap_setCell_other w ⟨g, o, none⟩ k v h
theorem setCells_size (g : Nat) : ∀ (vs : List Value) (o : Nat) (w : World), (w.setCells g o vs).heap.size = w.heap.size
  | [], _, _ => rfl
  | v :: r, o, w => by
    show ((w.setCell ⟨g, o, none⟩ v).setCells g (o + 1) r).heap.size = _
    rw [setCells_size g r (o + 1) _]
    simp [World.setCell]
theorem setCells_out (g : Nat) : ∀ (vs : List Value) (o : Nat) (w : World), (w.setCells g o vs).os = w.os ∧ (w.setCells g o vs).tape = w.tape ∧ (w.setCells g o vs).output = w.output
  | [], _, _ => ⟨rfl, rfl, rfl⟩
  | v :: r, o, w => by
    obtain ⟨h1, h2, h3⟩ := setCells_out g r (o + 1) (w.setCell ⟨g, o, none⟩ v)
    exact ⟨h1.trans rfl, h2.trans rfl, h3.trans rfl⟩
section
variable {B : Nat} {E : TypeId} {w w' : World} {v : Value} {xs : List UInt8}
theorem Ob.lt (h : Ob B E w v xs) : ∀ k, v.ownBlock = some k → B ≤ k ∧ k < w.heap.size := by
  obtain ⟨g, cap, cur, fz, rfl, hb, hg, _⟩ := h
  intro k hk
  obtain rfl : g = k := by simpa [Value.ownBlock] using hk
  exact ⟨hb, (Array.getElem?_eq_some_iff.1 hg).1⟩
theorem Ob.stays (h : Ob B E w v xs) (hs : ∀ k, v.ownBlock = some k → w'.heap[k]? = w.heap[k]?) : Ob B E w' v xs := by
  obtain ⟨g, cap, cur, fz, rfl, hb, hg, r⟩ := h
  exact ⟨g, cap, cur, fz, rfl, hb, (hs g rfl).trans hg, r⟩
theorem Ob.self (h : Ob B E w v xs) (hb : Below w.heap.size w w') : Ob B E w' v xs := h.stays fun k hk => hb.block k (h.lt k hk).2
theorem Ob.alloc (h : Ob B E w v xs) (o : Obj) : Ob B E (w.alloc o) v xs := h.stays fun k hk => heap_alloc_old w o (h.lt k hk).2
theorem Ob.drew (h : Ob B E w v xs) : Ob B E w.drew v xs := h
theorem Ob.mono {B' : Nat} (h : Ob B E w v xs) (hB : B' ≤ B) : Ob B' E w v xs := by
  obtain ⟨g, cap, cur, fz, e, hb, r⟩ := h
  exact ⟨g, cap, cur, fz, e, by omega, r⟩
theorem Ob.cells {g n cap : Nat} (h : Ob B E w (.slice (some ⟨g, 0, none⟩) n cap) xs) : ∀ j u, (Lib.byteCells xs)[j]? = some u → w.cell? ⟨g, j, none⟩ = some u := by
  obtain ⟨g', cap', cur, fz, e, _, hg, _, _, _, _, ht⟩ := h
  simp only [Value.slice.injEq, Option.some.injEq, Addr.mk.injEq, and_true] at e
  obtain ⟨rfl, _, rfl⟩ := e
  intro j u hj
  rw [cell_of_row w g j cur E fz hg]
  rw [← ht, List.getElem?_take] at hj
  split at hj
  · simpa using hj
  · cases hj
end
section
variable {P : Program} {w : World}
end
end Go.Proofs.Ytflfnaiklnbaiaa

/- Times: two words multiplied, over any machine: what the laws ask of the program. -/
namespace Go.Proofs.Ytflfnaiklnbaiaa
open Go.RowKit Go.Maps
set_option maxRecDepth 100000
/-- The masks of two shares are the same in either order. -/
def Sy9 (r : Nat → Int) : Prop := ∀ i, i < 3 → ∀ k, k < 3 → r (i * 3 + k) = r (k * 3 + i)
theorem Sy9.upd {r : Nat → Int} (h : Sy9 r) {a c : Nat} (ha : a < 3) (hc : c < 3) (x : Int) : Sy9 (updI (updI r (a * 3 + c) x) (c * 3 + a) x) := fun i hi k hk => by
  have h0 := h i hi k hk
  by_cases e1 : i * 3 + k = c * 3 + a
  · have e2 : k * 3 + i = a * 3 + c := by omega
    rw [e1, e2, updI_at]
    by_cases e3 : a * 3 + c = c * 3 + a
    · rw [e3, updI_at]
    · rw [updI_no _ _ e3, updI_at]
  · by_cases e2 : i * 3 + k = a * 3 + c
    · have e3 : k * 3 + i = c * 3 + a := by omega
      rw [updI_no _ _ e1, e2, updI_at, e3, updI_at]
    · rw [updI_no _ _ e1, updI_no _ _ e2, updI_no _ _ (by omega : k * 3 + i ≠ c * 3 + a), updI_no _ _ (by omega : k * 3 + i ≠ a * 3 + c)]
      exact h0
theorem mkI_sy {S : Ms} {r : Nat → Int} {k : Nat} (hk : k < 3) (h : Sy9 r) : ∀ {i}, i ≤ k → Sy9 (mkI dS0 dR0 S r k i).2
  | 0, _ => h
  | i + 1, hi => (mkI_sy hk h (i := i) (by omega)).upd (by omega) hk _
theorem mkG_sy (S : Ms) : ∀ {k}, k ≤ 3 → Sy9 (mkG dS0 dR0 S k).2
  | 0, _ => fun _ _ _ _ => rfl
  | k + 1, hk => mkI_sy (by omega) (mkG_sy S (k := k) (by omega)) (Nat.le_refl k)
theorem mk_all {n : Nat} (hn : n = 2 ∨ n = 3) (S : Ms) : mkG dS0 dR0 S n = rnG dS0 dR0 S n n := by
  rcases hn with rfl | rfl
  · exact mk_2 dS0 dR0 S
  · exact mk_3 dS0 dR0 S
theorem pt_there {w : World} {b g n : Nat} {p : Nat → Int} (h : w.heap[n]? = some (.cells (ptC b g p) 106 (0, 0))) : w.there n 2 9 := fun j hj => ⟨by rw [row_c (i := 2 + j) h (pt_at b g p hj)]; rfl, frozen_of_row w n (2 + j) _ _ h⟩
theorem pt_set {w : World} {b g n : Nat} {p p' : Nat → Int} (h : w.heap[n]? = some (.cells (ptC b g p) 106 (0, 0))) : (w.setCells n 2 (iz 9 p').toList).heap[n]? = some (.cells (ptC b g p') 106 (0, 0)) := by
  rw [setCells_row n 106 (0, 0) (iz 9 p').toList 2 w _ h (by rw [Array.length_toList, iz_size]; exact Nat.le_refl _)]
  rfl
set_option maxHeartbeats 12800000 in
theorem tmul_isw {Pm : World → Nat → Ms → (Nat → Prop) → Prop} (hM : Mach Pm) (b k nn : Nat) (S : Ms) (F : Nat → Prop) (A B : Nat → Int) (w : World) (hm : Pm w b S F) (hq : Bq k S) (hk : k + 50 ≤ 100000) (hn : S.n = (nn : Int)) (hn23 : nn = 2 ∨ nn = 3) (hA : Wb A) (hB : Wb B) :
    Calls Try.prog 43 #[.pointer (some ⟨b, 0, none⟩), .agg (wdV A), .agg (wdV B), .func (.func 45) #[] #[]] w fun e w' => e = .returned (.agg (wdV (tmG dS0 dR0 nn false A B (S.beginS 3)).2)) ∧ PmR Pm b (tmG dS0 dR0 nn false A B (S.beginS 3)).1.endS F w w' := by
  have hn3 : nn ≤ 3 := by omega
  have hmk := mk_all hn23 (S.beginS 3)
  have hS2 : Bn k (nn : Int) (S.beginS 3) := ⟨hq.begins 3, (beginS_n S 3).1.trans hn⟩
  have hR := rnG_bq (n := nn) hn3 hS2 (i := nn) (by omega)
  have hP := pdG_bq (n := nn) hn3 hR.1 hA hB (i := nn) (by omega) (by omega)
  have hFb : ∀ j, j ≤ nn → Bn (k + 3 * nn + 3 * nn + 9 * j) (nn : Int) (fnG dS0 dR0 false (rnG dS0 dR0 (S.beginS 3) nn nn).2 (pdG dS0 dR0 A B (rnG dS0 dR0 (S.beginS 3) nn nn).1 nn nn).2 (pdG dS0 dR0 A B (rnG dS0 dR0 (S.beginS 3) nn nn).1 nn nn).1 nn j).1 := fun j hj => (fnG_bq (n := nn) (dom := false) hn3 hP.1 hR.2 hP.2 (i := j) (by omega) (by omega)).1
  have HBG : Hid (∀ (bs : List (Nat × Obj)) (w' : World), Ow Pm F w w' b S bs → Calls Try.prog 55 #[.pointer (some ⟨b, 0, none⟩), .int .i64 3] w' fun e w2 => e = .returned (.tuple #[]) ∧ Ow Pm F w w2 b (S.beginS 3) bs) := hid (fun bs w' h' => h'.lift hM (fun F' hF' => hM.begin_ b k S F' 3 w' hF' hq (by omega)))
  have HDR : Hid (∀ (bs : List (Nat × Obj)) (w' : World), Ow Pm F w w' b (S.beginS 3) bs → Calls Try.prog 56 #[.pointer (some ⟨b, 0, none⟩)] w' fun e w2 => ∃ g o, e = .returned (.map (some g)) ∧ Msk 100 (rnG dS0 dR0 (S.beginS 3) nn nn).2 o ∧ Ow Pm F w w2 b (rnG dS0 dR0 (S.beginS 3) nn nn).1 ((g, o) :: bs)) := hid (fun bs w' h' => by
    have := tdrawn_any hM k nn (S.beginS 3) h' hS2.1 (by omega) hS2.2 hn3
    rw [hmk] at this
    exact this)
  have HPD : Hid (∀ (bs : List (Nat × Obj)) (w' : World), Ow Pm F w w' b (rnG dS0 dR0 (S.beginS 3) nn nn).1 bs → Calls Try.prog 57 #[.pointer (some ⟨b, 0, none⟩), .agg (wdV A), .agg (wdV B)] w' fun e w2 => e = .returned (.agg (iz 9 (pdG dS0 dR0 A B (rnG dS0 dR0 (S.beginS 3) nn nn).1 nn nn).2)) ∧ Ow Pm F w w2 b (pdG dS0 dR0 A B (rnG dS0 dR0 (S.beginS 3) nn nn).1 nn nn).1 bs) := hid (fun bs w' h' => tprod_any hM (k + 3 * nn) nn _ A B h' hR.1.1 (by omega) hR.1.2 hn3 hA hB)
  have HNB : Hid (∀ (bs : List (Nat × Obj)) (w' : World), Ow Pm F w w' b (fnG dS0 dR0 false (rnG dS0 dR0 (S.beginS 3) nn nn).2 (pdG dS0 dR0 A B (rnG dS0 dR0 (S.beginS 3) nn nn).1 nn nn).2 (pdG dS0 dR0 A B (rnG dS0 dR0 (S.beginS 3) nn nn).1 nn nn).1 nn 0).1 bs → Calls Try.prog 58 #[.pointer (some ⟨b, 0, none⟩)] w' fun e w2 => e = .returned (.int .i64 (nn : Int)) ∧ Below w'.heap.size w' w2) := hid (fun bs w' h' => h'.asks (fun F' hF' => by have := hM.n b (k + 3 * nn + 3 * nn) _ F' w' hF' (hFb 0 (by omega)).1 (by omega); rw [(hFb 0 (by omega)).2] at this; exact this))
  have HSH : Hid (∀ j, j < nn → ∀ (g : Nat) (o : Obj) (bs : List (Nat × Obj)) (w' : World), (g, o) ∈ bs → Msk 100 (rnG dS0 dR0 (S.beginS 3) nn nn).2 o → Ow Pm F w w' b (fnG dS0 dR0 false (rnG dS0 dR0 (S.beginS 3) nn nn).2 (pdG dS0 dR0 A B (rnG dS0 dR0 (S.beginS 3) nn nn).1 nn nn).2 (pdG dS0 dR0 A B (rnG dS0 dR0 (S.beginS 3) nn nn).1 nn nn).1 nn j).1 bs → Calls Try.prog 59 #[.agg (ptC b g (pdG dS0 dR0 A B (rnG dS0 dR0 (S.beginS 3) nn nn).1 nn nn).2), .int .i64 (j : Int), .func (.func 45) #[] #[]] w' fun e w2 => e = .returned (.int .i64 (fnI dS0 dR0 false (rnG dS0 dR0 (S.beginS 3) nn nn).2 (pdG dS0 dR0 A B (rnG dS0 dR0 (S.beginS 3) nn nn).1 nn nn).2 (fnG dS0 dR0 false (rnG dS0 dR0 (S.beginS 3) nn nn).2 (pdG dS0 dR0 A B (rnG dS0 dR0 (S.beginS 3) nn nn).1 nn nn).2 (pdG dS0 dR0 A B (rnG dS0 dR0 (S.beginS 3) nn nn).1 nn nn).1 nn j).1 j nn).2) ∧ Ow Pm F w w2 b (fnG dS0 dR0 false (rnG dS0 dR0 (S.beginS 3) nn nn).2 (pdG dS0 dR0 A B (rnG dS0 dR0 (S.beginS 3) nn nn).1 nn nn).2 (pdG dS0 dR0 A B (rnG dS0 dR0 (S.beginS 3) nn nn).1 nn nn).1 nn (j + 1)).1 bs) := hid (fun j hj g o bs w' hg ho h' =>
    tshare_isw hM g o 100 (rnG dS0 dR0 (S.beginS 3) nn nn).2 (pdG dS0 dR0 A B (rnG dS0 dR0 (S.beginS 3) nn nn).1 nn nn).2 (k + 3 * nn + 3 * nn + 9 * j) nn j _ h' hg ho (hFb j (by omega)).1 (by omega) (hFb j (by omega)).2 hn3 (by omega) (fun k hk3 => by have q := mkG_sy (S.beginS 3) (k := nn) (by omega); rw [hmk] at q; exact q j (by omega) k (by omega)) hR.2 hP.2)
  have HU : Hid (∀ j, (fnG dS0 dR0 false (rnG dS0 dR0 (S.beginS 3) nn nn).2 (pdG dS0 dR0 A B (rnG dS0 dR0 (S.beginS 3) nn nn).1 nn nn).2 (pdG dS0 dR0 A B (rnG dS0 dR0 (S.beginS 3) nn nn).1 nn nn).1 nn (j + 1)).2 = updI (fnG dS0 dR0 false (rnG dS0 dR0 (S.beginS 3) nn nn).2 (pdG dS0 dR0 A B (rnG dS0 dR0 (S.beginS 3) nn nn).1 nn nn).2 (pdG dS0 dR0 A B (rnG dS0 dR0 (S.beginS 3) nn nn).1 nn nn).1 nn j).2 j (fnI dS0 dR0 false (rnG dS0 dR0 (S.beginS 3) nn nn).2 (pdG dS0 dR0 A B (rnG dS0 dR0 (S.beginS 3) nn nn).1 nn nn).2 (fnG dS0 dR0 false (rnG dS0 dR0 (S.beginS 3) nn nn).2 (pdG dS0 dR0 A B (rnG dS0 dR0 (S.beginS 3) nn nn).1 nn nn).2 (pdG dS0 dR0 A B (rnG dS0 dR0 (S.beginS 3) nn nn).1 nn nn).1 nn j).1 j nn).2) := hid (fun j => rfl)
  have HEN : Hid (∀ (bs : List (Nat × Obj)) (w' : World), Ow Pm F w w' b (fnG dS0 dR0 false (rnG dS0 dR0 (S.beginS 3) nn nn).2 (pdG dS0 dR0 A B (rnG dS0 dR0 (S.beginS 3) nn nn).1 nn nn).2 (pdG dS0 dR0 A B (rnG dS0 dR0 (S.beginS 3) nn nn).1 nn nn).1 nn nn).1 bs → Calls Try.prog 60 #[.pointer (some ⟨b, 0, none⟩)] w' fun e w2 => e = .returned (.tuple #[]) ∧ Ow Pm F w w2 b (tmG dS0 dR0 nn false A B (S.beginS 3)).1.endS bs) := hid (fun bs w' h' => h'.lift hM (fun F' hF' => hM.end_ b (k + 3 * nn + 3 * nn + 9 * nn) _ F' w' hF' (hFb nn (by omega)).1 (by omega)))
  have HU9 : Hid ((fnG dS0 dR0 false (rnG dS0 dR0 (S.beginS 3) nn nn).2 (pdG dS0 dR0 A B (rnG dS0 dR0 (S.beginS 3) nn nn).1 nn nn).2 (pdG dS0 dR0 A B (rnG dS0 dR0 (S.beginS 3) nn nn).1 nn nn).1 nn nn).2 = (tmG dS0 dR0 nn false A B (S.beginS 3)).2) := hid rfl
  have HU0 : Hid ((fnG dS0 dR0 false (rnG dS0 dR0 (S.beginS 3) nn nn).2 (pdG dS0 dR0 A B (rnG dS0 dR0 (S.beginS 3) nn nn).1 nn nn).2 (pdG dS0 dR0 A B (rnG dS0 dR0 (S.beginS 3) nn nn).1 nn nn).1 nn 0).2 = none3) := hid rfl
  have HF0 : Hid ((fnG dS0 dR0 false (rnG dS0 dR0 (S.beginS 3) nn nn).2 (pdG dS0 dR0 A B (rnG dS0 dR0 (S.beginS 3) nn nn).1 nn nn).2 (pdG dS0 dR0 A B (rnG dS0 dR0 (S.beginS 3) nn nn).1 nn nn).1 nn 0).1 = (pdG dS0 dR0 A B (rnG dS0 dR0 (S.beginS 3) nn nn).1 nn nn).1) := hid rfl
  have HN3 := hid hn3
  obtain ⟨w1, hw1⟩ : ∃ w1, ((w.alloc (.cells (wdV A) 39)).alloc (.cells (wdV B) 39)).alloc (.cells #[.int .i64 0, .int .i64 0, .int .i64 0] 39) = w1 := ⟨_, rfl⟩
  have H1 : Hid (Ow Pm F w w1 b S [(w.heap.size + 2, Obj.cells #[.int .i64 0, .int .i64 0, .int .i64 0] 39 (0, 0)), (w.heap.size + 1, Obj.cells (wdV B) 39 (0, 0)), (w.heap.size, Obj.cells (wdV A) 39 (0, 0))]) := hid (by
    have := (((Ow.start hm).new hM (wdV A) 39).new hM (wdV B) 39).new hM #[.int .i64 0, .int .i64 0, .int .i64 0] 39
    rw [hw1] at this
    simp only [sz_al] at this
    exact this)
  have HW := hid hw1
  clear hm hq hk hn hn3 hn23 hA hB hmk hS2 hR hP hFb hw1
  obtain ⟨R9, hR9⟩ : ∃ R9, (rnG dS0 dR0 (S.beginS 3) nn nn).2 = R9 := ⟨_, rfl⟩
  obtain ⟨P9, hP9⟩ : ∃ P9, (pdG dS0 dR0 A B (rnG dS0 dR0 (S.beginS 3) nn nn).1 nn nn).2 = P9 := ⟨_, rfl⟩
  simp only [hR9, hP9] at HDR HPD HNB HSH HU HEN HU9 HU0 HF0
  clear hR9 hP9
  obtain ⟨SP, hSP⟩ : ∃ SP, (pdG dS0 dR0 A B (rnG dS0 dR0 (S.beginS 3) nn nn).1 nn nn).1 = SP := ⟨_, rfl⟩
  simp only [hSP] at HDR HPD HNB HSH HU HEN HU9 HU0 HF0
  clear hSP
  obtain ⟨SR, hSR⟩ : ∃ SR, (rnG dS0 dR0 (S.beginS 3) nn nn).1 = SR := ⟨_, rfl⟩
  simp only [hSR] at HDR HPD
  clear hSR
  obtain ⟨rg, hrg⟩ : ∃ rg : Nat → Int, ∀ j, (fnI dS0 dR0 false R9 P9 (fnG dS0 dR0 false R9 P9 SP nn j).1 j nn).2 = rg j := ⟨_, fun _ => rfl⟩
  simp only [hrg] at HSH HU
  clear hrg
  obtain ⟨St, hSt⟩ : ∃ St : Nat → Ms, ∀ j, (fnG dS0 dR0 false R9 P9 SP nn j).1 = St j := ⟨_, fun _ => rfl⟩
  obtain ⟨U, hU⟩ : ∃ U : Nat → Nat → Int, ∀ j, (fnG dS0 dR0 false R9 P9 SP nn j).2 = U j := ⟨_, fun _ => rfl⟩
  simp only [hSt, hU] at HNB HSH HU HEN HU9 HU0 HF0
  clear hSt hU
  rw [← HU9.out]
  generalize (tmG dS0 dR0 nn false A B (S.beginS 3)).1.endS = S9 at *
  clear HU9
  generalize (S.beginS 3) = S2 at *
  go_enter Try.func43, Try.ntmps43
  go_upto_region 1 with fail
  rw [HW.out]
  have H2 := hid (H1.out.new hM (wdV none3) 39)
  go_upto_region 2 with fail
  obtain ⟨g9, hg9⟩ : ∃ g9, w1.heap.size = g9 := ⟨_, rfl⟩
  rw [hg9] at H2
  have H3 : Hid (Ow Pm F w (w1.alloc (.cells #[.int .i64 (-1), .int .i64 (-1), .int .i64 (-1)] 39)) b S ((g9, .cells (wdV none3) 39 (0, 0)) :: [(w.heap.size + 2, Obj.cells #[.int .i64 0, .int .i64 0, .int .i64 0] 39 (0, 0)), (w.heap.size + 1, Obj.cells (wdV B) 39 (0, 0)), (w.heap.size, Obj.cells (wdV A) 39 (0, 0))])) := H2
  generalize w1.alloc (.cells #[.int .i64 (-1), .int .i64 (-1), .int .i64 (-1)] 39) = w3 at *
  rw [hg9]
  clear hg9 H2 H1
  go_upto_region 3 with (go_at_call 55; (with_reducible refine (HBG.out _ _ H3.out).mono ?_); rintro e w4 ⟨rfl, hb⟩; have H4 := hid hb; clear hb)
  go_upto_region 4 with (go_at_call 56; (with_reducible refine (HDR.out _ _ H4.out).mono ?_); rintro e w5 ⟨g, o, rfl, ho, hb⟩; have H5 := hid hb; have HO := hid ho; clear hb ho)
  have H6 := hid (H5.out.new hM (ptC b g zero9) 106)
  obtain ⟨g10, hg10⟩ : ∃ g10, w5.heap.size = g10 := ⟨_, rfl⟩
  rw [hg10] at H6
  have H7 : Hid (Ow Pm F w (w5.alloc (.cells #[.pointer (some ⟨b, 0, none⟩), .map (some g), .int .i64 0, .int .i64 0, .int .i64 0, .int .i64 0, .int .i64 0, .int .i64 0, .int .i64 0, .int .i64 0, .int .i64 0] 106)) b SR ((g10, .cells (ptC b g zero9) 106 (0, 0)) :: (g, o) :: (g9, .cells (wdV none3) 39 (0, 0)) :: [(w.heap.size + 2, Obj.cells #[.int .i64 0, .int .i64 0, .int .i64 0] 39 (0, 0)), (w.heap.size + 1, Obj.cells (wdV B) 39 (0, 0)), (w.heap.size, Obj.cells (wdV A) 39 (0, 0))])) := hid H6.out
  generalize w5.alloc (.cells #[.pointer (some ⟨b, 0, none⟩), .map (some g), .int .i64 0, .int .i64 0, .int .i64 0, .int .i64 0, .int .i64 0, .int .i64 0, .int .i64 0, .int .i64 0, .int .i64 0] 106) = w7 at *
  rw [hg10]
  clear hg10 H6 H5 H4 H3
  go_upto_region 5 with (first
    | (refine step_load_row rfl 39 _ rfl w.heap.size 39 (wdV A) _ rfl (H7.out.bl 5 rfl) Try.underlying39 rfl (by kernel_rfl) ?_)
    | (refine step_load_row rfl 39 _ rfl (w.heap.size + 1) 39 (wdV B) _ rfl (H7.out.bl 4 rfl) Try.underlying39 rfl (by kernel_rfl) ?_)
    | (go_at_call 57; (with_reducible refine (HPD.out _ _ H7.out).mono ?_); rintro e w8 ⟨rfl, hb⟩; have H8 := hid hb; clear hb)
    | (refine wpList_store_mid rfl 81 _ _ rfl g10 2 (iz 9 P9) rfl rfl (by rw [iz_size]; exact pt_there (H8.out.bl 0 rfl)) (by rw [iz_size]; kernel_rfl) (by kernel_rfl) ?_))
  have H9 : Hid (Ow Pm F w (w8.setCells g10 2 (iz 9 P9).toList) b SP ((g10, .cells (ptC b g P9) 106 (0, 0)) :: (g, o) :: (g9, .cells (wdV none3) 39 (0, 0)) :: [(w.heap.size + 2, Obj.cells #[.int .i64 0, .int .i64 0, .int .i64 0] 39 (0, 0)), (w.heap.size + 1, Obj.cells (wdV B) 39 (0, 0)), (w.heap.size, Obj.cells (wdV A) 39 (0, 0))])) := hid (H8.out.turn hM (pt_set (H8.out.bl 0 rfl)) (fun q hq => setCells_apart g10 _ 2 w8 q hq) (Nat.le_of_eq (setCells_size g10 _ 2 w8).symm) (setCells_out g10 _ 2 w8))
  generalize w8.setCells g10 2 (iz 9 P9).toList = w9 at *
  clear H7 H8
  have H10 : Hid (Ow Pm F w w9 b (St 0) ((g9, .cells (wdV (U 0)) 39 (0, 0)) :: (g10, .cells (ptC b g P9) 106 (0, 0)) :: (g, o) :: (w.heap.size + 2, .cells #[.int .i64 0, .int .i64 0, .int .i64 0] 39 (0, 0)) :: (w.heap.size + 1, .cells (wdV B) 39 (0, 0)) :: (w.heap.size, .cells (wdV A) 39 (0, 0)) :: [])) := hid (by
    rw [HF0.out, HU0.out]
    exact H9.out.sub (fun q hq => by simp at hq ⊢; rcases hq with e | e | e | e | e | e <;> simp [e]) (by
      have := H9.out.nd
      simp only [List.map_cons, List.map_nil, List.nodup_cons, List.mem_cons, List.not_mem_nil, not_or] at this ⊢
      refine ⟨⟨fun e => this.1.2.1 e.symm, fun e => this.2.1.1 e.symm, this.2.2.1.1, this.2.2.1.2.1, this.2.2.1.2.2.1, fun h => h⟩, ⟨this.1.1, this.1.2.2.1, this.1.2.2.2.1, this.1.2.2.2.2.1, fun h => h⟩, ⟨this.2.1.2.1, this.2.1.2.2.1, this.2.1.2.2.2.1, fun h => h⟩, this.2.2.2⟩))
  clear H9
  go_wp2_with (go_at_call 58; (with_reducible refine (HNB.out _ _ H10.out).mono ?_); rintro e w10 ⟨rfl, hb⟩; have H11 := hid (H10.out.self hM hb); clear hb)
  go_loopw [27] (fun iv wr => ∃ j : Nat, j ≤ nn ∧ iv = .int .i64 j ∧ Ow Pm F w wr b (St j) ((g9, .cells (wdV (U j)) 39 (0, 0)) :: (g10, .cells (ptC b g P9) 106 (0, 0)) :: (g, o) :: (w.heap.size + 2, .cells #[.int .i64 0, .int .i64 0, .int .i64 0] 39 (0, 0)) :: (w.heap.size + 1, .cells (wdV B) 39 (0, 0)) :: (w.heap.size, .cells (wdV A) 39 (0, 0)) :: [])) (fun iv _ => nn - (intOf iv).toNat)
  case atStart => exact ⟨0, by omega, rfl, H11.out⟩
  case round =>
    clear H10 H11
    obtain ⟨j, hj, rfl, hI⟩ := hrel
    have HI := hid hI
    clear hI
    have hn3 := HN3.out
    by_cases hlt : j < nn
    · have j1 : (j : Int) < (nn : Int) := by omega
      have j0 : (0 : Int) ≤ (j : Int) := by omega
      have j3 : (j : Int) < 3 := by omega
      have HJ3 : Hid (j < 3) := hid (by omega)
      have HJX : Hid (j + 1 ≤ nn) := hid (by omega)
      replace HSH := hid (fun bs' w' hg h' => HSH.out j hlt g o bs' w' hg HO.out h')
      have HER : Hid ((wdV (U j)).setIfInBounds j (.int .i64 (rg j)) = wdV (U (j + 1))) := hid (by rw [wdV_upd _ j _ (by omega), HU.out j])
      clear hj hlt
      go_wp2_with (first
        | (refine step_load_row rfl 106 _ rfl g10 106 (ptC b g P9) _ rfl (HI.out.bl 1 rfl) Try.underlying106 rfl (by kernel_rfl) ?_)
        | (go_at_call 59; (with_reducible refine (HSH.out _ _ (by simp) HI.out).mono ?_); rintro e w6 ⟨rfl, hz⟩; have H6 := hid hz; have cj := row_c (i := j) (H6.out.bl 0 rfl) (wdV_at (U j) j HJ3.out); have fj := frozen_of_row w6 g9 j _ _ (H6.out.bl 0 rfl); clear hz))
      have H7 := hid (H6.out.cell hM j (.int .i64 (rg j)))
      rw [HER.out] at H7
      go_roundw
      case rel => exact ⟨j + 1, HJX.out, by go_num, H7.out⟩
      case measure => simp [intOf]; omega
    · obtain rfl : nn = j := by omega
      clear hlt hj
      go_wp2_with (first
        | (go_at_call 60; (with_reducible refine (HEN.out _ _ HI.out).mono ?_); rintro e w8 ⟨rfl, hb⟩; have H8 := hid hb; clear hb)
        | (refine step_load_row rfl 39 _ rfl g9 39 (wdV (U nn)) _ rfl (H8.out.bl 0 rfl) Try.underlying39 rfl (by kernel_rfl) ?_)
        | (refine step_store_row rfl 39 _ _ rfl (w.heap.size + 2) 39 _ (wdV (U nn)) rfl rfl (H8.out.bl 3 rfl) (by kernel_rfl) rfl (by kernel_rfl) ?_))
      have H9 := hid (H8.out.rowI hM 3 rfl (wdV (U nn)))
      exact bodyPost_ret (results_cell_row (by rfl) _ _ (w.heap.size + 2) 39 (wdV (U nn)) (0, 0) _ rfl (H9.out.bl 3 rfl) Try.underlying39 rfl (by kernel_rfl)) rfl ⟨rfl, H9.out.fin⟩
set_option maxHeartbeats 12800000 in
theorem tmul_dom {Pm : World → Nat → Ms → (Nat → Prop) → Prop} (hM : Mach Pm) (b k nn : Nat) (S : Ms) (F : Nat → Prop) (A B : Nat → Int) (w : World) (hm : Pm w b S F) (hq : Bq k S) (hk : k + 50 ≤ 100000) (hn : S.n = (nn : Int)) (hn23 : nn = 2 ∨ nn = 3) (hA : Wb A) (hB : Wb B) :
    Calls Try.prog 43 #[.pointer (some ⟨b, 0, none⟩), .agg (wdV A), .agg (wdV B), .func (.func 44) #[] #[]] w fun e w' => e = .returned (.agg (wdV (tmG dS0 dR0 nn true A B (S.beginS 3)).2)) ∧ PmR Pm b (tmG dS0 dR0 nn true A B (S.beginS 3)).1.endS F w w' := by
  have hn3 : nn ≤ 3 := by omega
  have hmk := mk_all hn23 (S.beginS 3)
  have hS2 : Bn k (nn : Int) (S.beginS 3) := ⟨hq.begins 3, (beginS_n S 3).1.trans hn⟩
  have hR := rnG_bq (n := nn) hn3 hS2 (i := nn) (by omega)
  have hP := pdG_bq (n := nn) hn3 hR.1 hA hB (i := nn) (by omega) (by omega)
  have hFb : ∀ j, j ≤ nn → Bn (k + 3 * nn + 3 * nn + 9 * j) (nn : Int) (fnG dS0 dR0 true (rnG dS0 dR0 (S.beginS 3) nn nn).2 (pdG dS0 dR0 A B (rnG dS0 dR0 (S.beginS 3) nn nn).1 nn nn).2 (pdG dS0 dR0 A B (rnG dS0 dR0 (S.beginS 3) nn nn).1 nn nn).1 nn j).1 := fun j hj => (fnG_bq (n := nn) (dom := true) hn3 hP.1 hR.2 hP.2 (i := j) (by omega) (by omega)).1
  have HBG : Hid (∀ (bs : List (Nat × Obj)) (w' : World), Ow Pm F w w' b S bs → Calls Try.prog 55 #[.pointer (some ⟨b, 0, none⟩), .int .i64 3] w' fun e w2 => e = .returned (.tuple #[]) ∧ Ow Pm F w w2 b (S.beginS 3) bs) := hid (fun bs w' h' => h'.lift hM (fun F' hF' => hM.begin_ b k S F' 3 w' hF' hq (by omega)))
  have HDR : Hid (∀ (bs : List (Nat × Obj)) (w' : World), Ow Pm F w w' b (S.beginS 3) bs → Calls Try.prog 56 #[.pointer (some ⟨b, 0, none⟩)] w' fun e w2 => ∃ g o, e = .returned (.map (some g)) ∧ Msk 100 (rnG dS0 dR0 (S.beginS 3) nn nn).2 o ∧ Ow Pm F w w2 b (rnG dS0 dR0 (S.beginS 3) nn nn).1 ((g, o) :: bs)) := hid (fun bs w' h' => by
    have := tdrawn_any hM k nn (S.beginS 3) h' hS2.1 (by omega) hS2.2 hn3
    rw [hmk] at this
    exact this)
  have HPD : Hid (∀ (bs : List (Nat × Obj)) (w' : World), Ow Pm F w w' b (rnG dS0 dR0 (S.beginS 3) nn nn).1 bs → Calls Try.prog 57 #[.pointer (some ⟨b, 0, none⟩), .agg (wdV A), .agg (wdV B)] w' fun e w2 => e = .returned (.agg (iz 9 (pdG dS0 dR0 A B (rnG dS0 dR0 (S.beginS 3) nn nn).1 nn nn).2)) ∧ Ow Pm F w w2 b (pdG dS0 dR0 A B (rnG dS0 dR0 (S.beginS 3) nn nn).1 nn nn).1 bs) := hid (fun bs w' h' => tprod_any hM (k + 3 * nn) nn _ A B h' hR.1.1 (by omega) hR.1.2 hn3 hA hB)
  have HNB : Hid (∀ (bs : List (Nat × Obj)) (w' : World), Ow Pm F w w' b (fnG dS0 dR0 true (rnG dS0 dR0 (S.beginS 3) nn nn).2 (pdG dS0 dR0 A B (rnG dS0 dR0 (S.beginS 3) nn nn).1 nn nn).2 (pdG dS0 dR0 A B (rnG dS0 dR0 (S.beginS 3) nn nn).1 nn nn).1 nn 0).1 bs → Calls Try.prog 58 #[.pointer (some ⟨b, 0, none⟩)] w' fun e w2 => e = .returned (.int .i64 (nn : Int)) ∧ Below w'.heap.size w' w2) := hid (fun bs w' h' => h'.asks (fun F' hF' => by have := hM.n b (k + 3 * nn + 3 * nn) _ F' w' hF' (hFb 0 (by omega)).1 (by omega); rw [(hFb 0 (by omega)).2] at this; exact this))
  have HSH : Hid (∀ j, j < nn → ∀ (g : Nat) (o : Obj) (bs : List (Nat × Obj)) (w' : World), (g, o) ∈ bs → Msk 100 (rnG dS0 dR0 (S.beginS 3) nn nn).2 o → Ow Pm F w w' b (fnG dS0 dR0 true (rnG dS0 dR0 (S.beginS 3) nn nn).2 (pdG dS0 dR0 A B (rnG dS0 dR0 (S.beginS 3) nn nn).1 nn nn).2 (pdG dS0 dR0 A B (rnG dS0 dR0 (S.beginS 3) nn nn).1 nn nn).1 nn j).1 bs → Calls Try.prog 59 #[.agg (ptC b g (pdG dS0 dR0 A B (rnG dS0 dR0 (S.beginS 3) nn nn).1 nn nn).2), .int .i64 (j : Int), .func (.func 44) #[] #[]] w' fun e w2 => e = .returned (.int .i64 (fnI dS0 dR0 true (rnG dS0 dR0 (S.beginS 3) nn nn).2 (pdG dS0 dR0 A B (rnG dS0 dR0 (S.beginS 3) nn nn).1 nn nn).2 (fnG dS0 dR0 true (rnG dS0 dR0 (S.beginS 3) nn nn).2 (pdG dS0 dR0 A B (rnG dS0 dR0 (S.beginS 3) nn nn).1 nn nn).2 (pdG dS0 dR0 A B (rnG dS0 dR0 (S.beginS 3) nn nn).1 nn nn).1 nn j).1 j nn).2) ∧ Ow Pm F w w2 b (fnG dS0 dR0 true (rnG dS0 dR0 (S.beginS 3) nn nn).2 (pdG dS0 dR0 A B (rnG dS0 dR0 (S.beginS 3) nn nn).1 nn nn).2 (pdG dS0 dR0 A B (rnG dS0 dR0 (S.beginS 3) nn nn).1 nn nn).1 nn (j + 1)).1 bs) := hid (fun j hj g o bs w' hg ho h' =>
    tshare_dom hM g o 100 (rnG dS0 dR0 (S.beginS 3) nn nn).2 (pdG dS0 dR0 A B (rnG dS0 dR0 (S.beginS 3) nn nn).1 nn nn).2 (k + 3 * nn + 3 * nn + 9 * j) nn j _ h' hg ho (hFb j (by omega)).1 (by omega) (hFb j (by omega)).2 hn3 (by omega) hR.2 hP.2)
  have HU : Hid (∀ j, (fnG dS0 dR0 true (rnG dS0 dR0 (S.beginS 3) nn nn).2 (pdG dS0 dR0 A B (rnG dS0 dR0 (S.beginS 3) nn nn).1 nn nn).2 (pdG dS0 dR0 A B (rnG dS0 dR0 (S.beginS 3) nn nn).1 nn nn).1 nn (j + 1)).2 = updI (fnG dS0 dR0 true (rnG dS0 dR0 (S.beginS 3) nn nn).2 (pdG dS0 dR0 A B (rnG dS0 dR0 (S.beginS 3) nn nn).1 nn nn).2 (pdG dS0 dR0 A B (rnG dS0 dR0 (S.beginS 3) nn nn).1 nn nn).1 nn j).2 j (fnI dS0 dR0 true (rnG dS0 dR0 (S.beginS 3) nn nn).2 (pdG dS0 dR0 A B (rnG dS0 dR0 (S.beginS 3) nn nn).1 nn nn).2 (fnG dS0 dR0 true (rnG dS0 dR0 (S.beginS 3) nn nn).2 (pdG dS0 dR0 A B (rnG dS0 dR0 (S.beginS 3) nn nn).1 nn nn).2 (pdG dS0 dR0 A B (rnG dS0 dR0 (S.beginS 3) nn nn).1 nn nn).1 nn j).1 j nn).2) := hid (fun j => rfl)
  have HEN : Hid (∀ (bs : List (Nat × Obj)) (w' : World), Ow Pm F w w' b (fnG dS0 dR0 true (rnG dS0 dR0 (S.beginS 3) nn nn).2 (pdG dS0 dR0 A B (rnG dS0 dR0 (S.beginS 3) nn nn).1 nn nn).2 (pdG dS0 dR0 A B (rnG dS0 dR0 (S.beginS 3) nn nn).1 nn nn).1 nn nn).1 bs → Calls Try.prog 60 #[.pointer (some ⟨b, 0, none⟩)] w' fun e w2 => e = .returned (.tuple #[]) ∧ Ow Pm F w w2 b (tmG dS0 dR0 nn true A B (S.beginS 3)).1.endS bs) := hid (fun bs w' h' => h'.lift hM (fun F' hF' => hM.end_ b (k + 3 * nn + 3 * nn + 9 * nn) _ F' w' hF' (hFb nn (by omega)).1 (by omega)))
  have HU9 : Hid ((fnG dS0 dR0 true (rnG dS0 dR0 (S.beginS 3) nn nn).2 (pdG dS0 dR0 A B (rnG dS0 dR0 (S.beginS 3) nn nn).1 nn nn).2 (pdG dS0 dR0 A B (rnG dS0 dR0 (S.beginS 3) nn nn).1 nn nn).1 nn nn).2 = (tmG dS0 dR0 nn true A B (S.beginS 3)).2) := hid rfl
  have HU0 : Hid ((fnG dS0 dR0 true (rnG dS0 dR0 (S.beginS 3) nn nn).2 (pdG dS0 dR0 A B (rnG dS0 dR0 (S.beginS 3) nn nn).1 nn nn).2 (pdG dS0 dR0 A B (rnG dS0 dR0 (S.beginS 3) nn nn).1 nn nn).1 nn 0).2 = none3) := hid rfl
  have HF0 : Hid ((fnG dS0 dR0 true (rnG dS0 dR0 (S.beginS 3) nn nn).2 (pdG dS0 dR0 A B (rnG dS0 dR0 (S.beginS 3) nn nn).1 nn nn).2 (pdG dS0 dR0 A B (rnG dS0 dR0 (S.beginS 3) nn nn).1 nn nn).1 nn 0).1 = (pdG dS0 dR0 A B (rnG dS0 dR0 (S.beginS 3) nn nn).1 nn nn).1) := hid rfl
  have HN3 := hid hn3
  obtain ⟨w1, hw1⟩ : ∃ w1, ((w.alloc (.cells (wdV A) 39)).alloc (.cells (wdV B) 39)).alloc (.cells #[.int .i64 0, .int .i64 0, .int .i64 0] 39) = w1 := ⟨_, rfl⟩
  have H1 : Hid (Ow Pm F w w1 b S [(w.heap.size + 2, Obj.cells #[.int .i64 0, .int .i64 0, .int .i64 0] 39 (0, 0)), (w.heap.size + 1, Obj.cells (wdV B) 39 (0, 0)), (w.heap.size, Obj.cells (wdV A) 39 (0, 0))]) := hid (by
    have := (((Ow.start hm).new hM (wdV A) 39).new hM (wdV B) 39).new hM #[.int .i64 0, .int .i64 0, .int .i64 0] 39
    rw [hw1] at this
    simp only [sz_al] at this
    exact this)
  have HW := hid hw1
  clear hm hq hk hn hn3 hn23 hA hB hmk hS2 hR hP hFb hw1
  obtain ⟨R9, hR9⟩ : ∃ R9, (rnG dS0 dR0 (S.beginS 3) nn nn).2 = R9 := ⟨_, rfl⟩
  obtain ⟨P9, hP9⟩ : ∃ P9, (pdG dS0 dR0 A B (rnG dS0 dR0 (S.beginS 3) nn nn).1 nn nn).2 = P9 := ⟨_, rfl⟩
  simp only [hR9, hP9] at HDR HPD HNB HSH HU HEN HU9 HU0 HF0
  clear hR9 hP9
  obtain ⟨SP, hSP⟩ : ∃ SP, (pdG dS0 dR0 A B (rnG dS0 dR0 (S.beginS 3) nn nn).1 nn nn).1 = SP := ⟨_, rfl⟩
  simp only [hSP] at HDR HPD HNB HSH HU HEN HU9 HU0 HF0
  clear hSP
  obtain ⟨SR, hSR⟩ : ∃ SR, (rnG dS0 dR0 (S.beginS 3) nn nn).1 = SR := ⟨_, rfl⟩
  simp only [hSR] at HDR HPD
  clear hSR
  obtain ⟨rg, hrg⟩ : ∃ rg : Nat → Int, ∀ j, (fnI dS0 dR0 true R9 P9 (fnG dS0 dR0 true R9 P9 SP nn j).1 j nn).2 = rg j := ⟨_, fun _ => rfl⟩
  simp only [hrg] at HSH HU
  clear hrg
  obtain ⟨St, hSt⟩ : ∃ St : Nat → Ms, ∀ j, (fnG dS0 dR0 true R9 P9 SP nn j).1 = St j := ⟨_, fun _ => rfl⟩
  obtain ⟨U, hU⟩ : ∃ U : Nat → Nat → Int, ∀ j, (fnG dS0 dR0 true R9 P9 SP nn j).2 = U j := ⟨_, fun _ => rfl⟩
  simp only [hSt, hU] at HNB HSH HU HEN HU9 HU0 HF0
  clear hSt hU
  rw [← HU9.out]
  generalize (tmG dS0 dR0 nn true A B (S.beginS 3)).1.endS = S9 at *
  clear HU9
  generalize (S.beginS 3) = S2 at *
  go_enter Try.func43, Try.ntmps43
  go_upto_region 1 with fail
  rw [HW.out]
  have H2 := hid (H1.out.new hM (wdV none3) 39)
  go_upto_region 2 with fail
  obtain ⟨g9, hg9⟩ : ∃ g9, w1.heap.size = g9 := ⟨_, rfl⟩
  rw [hg9] at H2
  have H3 : Hid (Ow Pm F w (w1.alloc (.cells #[.int .i64 (-1), .int .i64 (-1), .int .i64 (-1)] 39)) b S ((g9, .cells (wdV none3) 39 (0, 0)) :: [(w.heap.size + 2, Obj.cells #[.int .i64 0, .int .i64 0, .int .i64 0] 39 (0, 0)), (w.heap.size + 1, Obj.cells (wdV B) 39 (0, 0)), (w.heap.size, Obj.cells (wdV A) 39 (0, 0))])) := H2
  generalize w1.alloc (.cells #[.int .i64 (-1), .int .i64 (-1), .int .i64 (-1)] 39) = w3 at *
  rw [hg9]
  clear hg9 H2 H1
  go_upto_region 3 with (go_at_call 55; (with_reducible refine (HBG.out _ _ H3.out).mono ?_); rintro e w4 ⟨rfl, hb⟩; have H4 := hid hb; clear hb)
  go_upto_region 4 with (go_at_call 56; (with_reducible refine (HDR.out _ _ H4.out).mono ?_); rintro e w5 ⟨g, o, rfl, ho, hb⟩; have H5 := hid hb; have HO := hid ho; clear hb ho)
  have H6 := hid (H5.out.new hM (ptC b g zero9) 106)
  obtain ⟨g10, hg10⟩ : ∃ g10, w5.heap.size = g10 := ⟨_, rfl⟩
  rw [hg10] at H6
  have H7 : Hid (Ow Pm F w (w5.alloc (.cells #[.pointer (some ⟨b, 0, none⟩), .map (some g), .int .i64 0, .int .i64 0, .int .i64 0, .int .i64 0, .int .i64 0, .int .i64 0, .int .i64 0, .int .i64 0, .int .i64 0] 106)) b SR ((g10, .cells (ptC b g zero9) 106 (0, 0)) :: (g, o) :: (g9, .cells (wdV none3) 39 (0, 0)) :: [(w.heap.size + 2, Obj.cells #[.int .i64 0, .int .i64 0, .int .i64 0] 39 (0, 0)), (w.heap.size + 1, Obj.cells (wdV B) 39 (0, 0)), (w.heap.size, Obj.cells (wdV A) 39 (0, 0))])) := hid H6.out
  generalize w5.alloc (.cells #[.pointer (some ⟨b, 0, none⟩), .map (some g), .int .i64 0, .int .i64 0, .int .i64 0, .int .i64 0, .int .i64 0, .int .i64 0, .int .i64 0, .int .i64 0, .int .i64 0] 106) = w7 at *
  rw [hg10]
  clear hg10 H6 H5 H4 H3
  go_upto_region 5 with (first
    | (refine step_load_row rfl 39 _ rfl w.heap.size 39 (wdV A) _ rfl (H7.out.bl 5 rfl) Try.underlying39 rfl (by kernel_rfl) ?_)
    | (refine step_load_row rfl 39 _ rfl (w.heap.size + 1) 39 (wdV B) _ rfl (H7.out.bl 4 rfl) Try.underlying39 rfl (by kernel_rfl) ?_)
    | (go_at_call 57; (with_reducible refine (HPD.out _ _ H7.out).mono ?_); rintro e w8 ⟨rfl, hb⟩; have H8 := hid hb; clear hb)
    | (refine wpList_store_mid rfl 81 _ _ rfl g10 2 (iz 9 P9) rfl rfl (by rw [iz_size]; exact pt_there (H8.out.bl 0 rfl)) (by rw [iz_size]; kernel_rfl) (by kernel_rfl) ?_))
  have H9 : Hid (Ow Pm F w (w8.setCells g10 2 (iz 9 P9).toList) b SP ((g10, .cells (ptC b g P9) 106 (0, 0)) :: (g, o) :: (g9, .cells (wdV none3) 39 (0, 0)) :: [(w.heap.size + 2, Obj.cells #[.int .i64 0, .int .i64 0, .int .i64 0] 39 (0, 0)), (w.heap.size + 1, Obj.cells (wdV B) 39 (0, 0)), (w.heap.size, Obj.cells (wdV A) 39 (0, 0))])) := hid (H8.out.turn hM (pt_set (H8.out.bl 0 rfl)) (fun q hq => setCells_apart g10 _ 2 w8 q hq) (Nat.le_of_eq (setCells_size g10 _ 2 w8).symm) (setCells_out g10 _ 2 w8))
  generalize w8.setCells g10 2 (iz 9 P9).toList = w9 at *
  clear H7 H8
  have H10 : Hid (Ow Pm F w w9 b (St 0) ((g9, .cells (wdV (U 0)) 39 (0, 0)) :: (g10, .cells (ptC b g P9) 106 (0, 0)) :: (g, o) :: (w.heap.size + 2, .cells #[.int .i64 0, .int .i64 0, .int .i64 0] 39 (0, 0)) :: (w.heap.size + 1, .cells (wdV B) 39 (0, 0)) :: (w.heap.size, .cells (wdV A) 39 (0, 0)) :: [])) := hid (by
    rw [HF0.out, HU0.out]
    exact H9.out.sub (fun q hq => by simp at hq ⊢; rcases hq with e | e | e | e | e | e <;> simp [e]) (by
      have := H9.out.nd
      simp only [List.map_cons, List.map_nil, List.nodup_cons, List.mem_cons, List.not_mem_nil, not_or] at this ⊢
      refine ⟨⟨fun e => this.1.2.1 e.symm, fun e => this.2.1.1 e.symm, this.2.2.1.1, this.2.2.1.2.1, this.2.2.1.2.2.1, fun h => h⟩, ⟨this.1.1, this.1.2.2.1, this.1.2.2.2.1, this.1.2.2.2.2.1, fun h => h⟩, ⟨this.2.1.2.1, this.2.1.2.2.1, this.2.1.2.2.2.1, fun h => h⟩, this.2.2.2⟩))
  clear H9
  go_wp2_with (go_at_call 58; (with_reducible refine (HNB.out _ _ H10.out).mono ?_); rintro e w10 ⟨rfl, hb⟩; have H11 := hid (H10.out.self hM hb); clear hb)
  go_loopw [27] (fun iv wr => ∃ j : Nat, j ≤ nn ∧ iv = .int .i64 j ∧ Ow Pm F w wr b (St j) ((g9, .cells (wdV (U j)) 39 (0, 0)) :: (g10, .cells (ptC b g P9) 106 (0, 0)) :: (g, o) :: (w.heap.size + 2, .cells #[.int .i64 0, .int .i64 0, .int .i64 0] 39 (0, 0)) :: (w.heap.size + 1, .cells (wdV B) 39 (0, 0)) :: (w.heap.size, .cells (wdV A) 39 (0, 0)) :: [])) (fun iv _ => nn - (intOf iv).toNat)
  case atStart => exact ⟨0, by omega, rfl, H11.out⟩
  case round =>
    clear H10 H11
    obtain ⟨j, hj, rfl, hI⟩ := hrel
    have HI := hid hI
    clear hI
    have hn3 := HN3.out
    by_cases hlt : j < nn
    · have j1 : (j : Int) < (nn : Int) := by omega
      have j0 : (0 : Int) ≤ (j : Int) := by omega
      have j3 : (j : Int) < 3 := by omega
      have HJ3 : Hid (j < 3) := hid (by omega)
      have HJX : Hid (j + 1 ≤ nn) := hid (by omega)
      replace HSH := hid (fun bs' w' hg h' => HSH.out j hlt g o bs' w' hg HO.out h')
      have HER : Hid ((wdV (U j)).setIfInBounds j (.int .i64 (rg j)) = wdV (U (j + 1))) := hid (by rw [wdV_upd _ j _ (by omega), HU.out j])
      clear hj hlt
      go_wp2_with (first
        | (refine step_load_row rfl 106 _ rfl g10 106 (ptC b g P9) _ rfl (HI.out.bl 1 rfl) Try.underlying106 rfl (by kernel_rfl) ?_)
        | (go_at_call 59; (with_reducible refine (HSH.out _ _ (by simp) HI.out).mono ?_); rintro e w6 ⟨rfl, hz⟩; have H6 := hid hz; have cj := row_c (i := j) (H6.out.bl 0 rfl) (wdV_at (U j) j HJ3.out); have fj := frozen_of_row w6 g9 j _ _ (H6.out.bl 0 rfl); clear hz))
      have H7 := hid (H6.out.cell hM j (.int .i64 (rg j)))
      rw [HER.out] at H7
      go_roundw
      case rel => exact ⟨j + 1, HJX.out, by go_num, H7.out⟩
      case measure => simp [intOf]; omega
    · obtain rfl : nn = j := by omega
      clear hlt hj
      go_wp2_with (first
        | (go_at_call 60; (with_reducible refine (HEN.out _ _ HI.out).mono ?_); rintro e w8 ⟨rfl, hb⟩; have H8 := hid hb; clear hb)
        | (refine step_load_row rfl 39 _ rfl g9 39 (wdV (U nn)) _ rfl (H8.out.bl 0 rfl) Try.underlying39 rfl (by kernel_rfl) ?_)
        | (refine step_store_row rfl 39 _ _ rfl (w.heap.size + 2) 39 _ (wdV (U nn)) rfl rfl (H8.out.bl 3 rfl) (by kernel_rfl) rfl (by kernel_rfl) ?_))
      have H9 := hid (H8.out.rowI hM 3 rfl (wdV (U nn)))
      exact bodyPost_ret (results_cell_row (by rfl) _ _ (w.heap.size + 2) 39 (wdV (U nn)) (0, 0) _ rfl (H9.out.bl 3 rfl) Try.underlying39 rfl (by kernel_rfl)) rfl ⟨rfl, H9.out.fin⟩
theorem tm_reg {S : Ms} (dom : Bool) (A B : Nat → Int) {nn : Nat} (hn : S.n = (nn : Int)) (hn23 : nn = 2 ∨ nn = 3) : wdV (tmG dS0 dR0 nn dom A B (S.beginS 3)).2 = wdV (tmR S dom A B) ∧ (tmG dS0 dR0 nn dom A B (S.beginS 3)).1.endS = tmS S dom A B := by
  have hsh : S.sh = nn := by unfold Ms.sh; omega
  obtain ⟨e1, e2⟩ := tm_all (S := S) dom A B (by omega)
  rw [hsh] at e1 e2
  refine ⟨?_, e1⟩
  show #[_, _, _] = #[_, _, _]
  rw [e2 0 (by omega), e2 1 (by omega), e2 2 (by omega)]
set_option maxHeartbeats 1600000 in
theorem tisww_any {Pm : World → Nat → Ms → (Nat → Prop) → Prop} (hM : Mach Pm) (b k : Nat) (S : Ms) (F : Nat → Prop) (A B : Nat → Int) (w : World) (hm : Pm w b S F) (hq : Bq k S) (hk : k + 50 ≤ 100000) (hn : S.n = 2 ∨ S.n = 3) (hA : Wb A) (hB : Wb B) :
    Calls Try.prog 22 #[.pointer (some ⟨b, 0, none⟩), .agg (wdV A), .agg (wdV B)] w fun e w' => e = .returned (.agg (wdV (tmR S false A B))) ∧ PmR Pm b (tmS S false A B) F w w' := by
  obtain ⟨nn, hnn, h23⟩ : ∃ nn : Nat, S.n = (nn : Int) ∧ (nn = 2 ∨ nn = 3) := ⟨S.n.toNat, by omega, by omega⟩
  obtain ⟨e1, e2⟩ := tm_reg false A B hnn h23
  have HC : Hid (∀ (bs : List (Nat × Obj)) (w' : World), Ow Pm F w w' b S bs → Calls Try.prog 43 #[.pointer (some ⟨b, 0, none⟩), .agg (wdV A), .agg (wdV B), .func (.func 45) #[] #[]] w' fun e w2 => e = .returned (.agg (wdV (tmR S false A B))) ∧ Ow Pm F w w2 b (tmS S false A B) bs) := hid (fun bs w' h' => h'.lift hM (fun F' hF' => by
    have := tmul_isw hM b k nn S F' A B w' hF' hq hk hnn h23 hA hB
    rw [e1, e2] at this
    exact this))
  obtain ⟨w1, hw1⟩ : ∃ w1, ((w.alloc (.cells (wdV A) 39)).alloc (.cells (wdV B) 39)).alloc (.cells #[.int .i64 0, .int .i64 0, .int .i64 0] 39) = w1 := ⟨_, rfl⟩
  have H1 : Hid (Ow Pm F w w1 b S [(w.heap.size + 2, Obj.cells #[.int .i64 0, .int .i64 0, .int .i64 0] 39 (0, 0)), (w.heap.size + 1, Obj.cells (wdV B) 39 (0, 0)), (w.heap.size, Obj.cells (wdV A) 39 (0, 0))]) := hid (by
    have := (((Ow.start hm).new hM (wdV A) 39).new hM (wdV B) 39).new hM #[.int .i64 0, .int .i64 0, .int .i64 0] 39
    rw [hw1] at this
    simp only [sz_al] at this
    exact this)
  have HW := hid hw1
  clear hm hq hk hn hA hB hnn h23 e1 e2 hw1
  generalize tmS S false A B = S9 at *
  generalize tmR S false A B = R9 at *
  go_enter Try.func22, Try.ntmps22
  go_upto_region 1 with fail
  rw [HW.out]
  go_wp2_with (first
    | (refine step_load_row rfl 39 _ rfl w.heap.size 39 (wdV A) _ rfl (H1.out.bl 2 rfl) Try.underlying39 rfl (by kernel_rfl) ?_)
    | (refine step_load_row rfl 39 _ rfl (w.heap.size + 1) 39 (wdV B) _ rfl (H1.out.bl 1 rfl) Try.underlying39 rfl (by kernel_rfl) ?_)
    | (go_at_call 43; (with_reducible refine (HC.out _ _ H1.out).mono ?_); rintro e w8 ⟨rfl, hb⟩; have H8 := hid hb; clear hb)
    | (refine step_store_row rfl 39 _ _ rfl (w.heap.size + 2) 39 _ (wdV R9) rfl rfl (H8.out.bl 0 rfl) (by kernel_rfl) rfl (by kernel_rfl) ?_))
  have H9 := hid (H8.out.rowI hM 0 rfl (wdV R9))
  exact bodyPost_ret (results_cell_row (by rfl) _ _ (w.heap.size + 2) 39 (wdV R9) (0, 0) _ rfl (H9.out.bl 0 rfl) Try.underlying39 rfl (by kernel_rfl)) rfl ⟨rfl, H9.out.fin⟩
set_option maxHeartbeats 1600000 in
theorem tdomw_any {Pm : World → Nat → Ms → (Nat → Prop) → Prop} (hM : Mach Pm) (b k : Nat) (S : Ms) (F : Nat → Prop) (A B : Nat → Int) (w : World) (hm : Pm w b S F) (hq : Bq k S) (hk : k + 50 ≤ 100000) (hn : S.n = 2 ∨ S.n = 3) (hA : Wb A) (hB : Wb B) :
    Calls Try.prog 21 #[.pointer (some ⟨b, 0, none⟩), .agg (wdV A), .agg (wdV B)] w fun e w' => e = .returned (.agg (wdV (tmR S true A B))) ∧ PmR Pm b (tmS S true A B) F w w' := by
  obtain ⟨nn, hnn, h23⟩ : ∃ nn : Nat, S.n = (nn : Int) ∧ (nn = 2 ∨ nn = 3) := ⟨S.n.toNat, by omega, by omega⟩
  obtain ⟨e1, e2⟩ := tm_reg true A B hnn h23
  have HC : Hid (∀ (bs : List (Nat × Obj)) (w' : World), Ow Pm F w w' b S bs → Calls Try.prog 43 #[.pointer (some ⟨b, 0, none⟩), .agg (wdV A), .agg (wdV B), .func (.func 44) #[] #[]] w' fun e w2 => e = .returned (.agg (wdV (tmR S true A B))) ∧ Ow Pm F w w2 b (tmS S true A B) bs) := hid (fun bs w' h' => h'.lift hM (fun F' hF' => by
    have := tmul_dom hM b k nn S F' A B w' hF' hq hk hnn h23 hA hB
    rw [e1, e2] at this
    exact this))
  obtain ⟨w1, hw1⟩ : ∃ w1, ((w.alloc (.cells (wdV A) 39)).alloc (.cells (wdV B) 39)).alloc (.cells #[.int .i64 0, .int .i64 0, .int .i64 0] 39) = w1 := ⟨_, rfl⟩
  have H1 : Hid (Ow Pm F w w1 b S [(w.heap.size + 2, Obj.cells #[.int .i64 0, .int .i64 0, .int .i64 0] 39 (0, 0)), (w.heap.size + 1, Obj.cells (wdV B) 39 (0, 0)), (w.heap.size, Obj.cells (wdV A) 39 (0, 0))]) := hid (by
    have := (((Ow.start hm).new hM (wdV A) 39).new hM (wdV B) 39).new hM #[.int .i64 0, .int .i64 0, .int .i64 0] 39
    rw [hw1] at this
    simp only [sz_al] at this
    exact this)
  have HW := hid hw1
  clear hm hq hk hn hA hB hnn h23 e1 e2 hw1
  generalize tmS S true A B = S9 at *
  generalize tmR S true A B = R9 at *
  go_enter Try.func21, Try.ntmps21
  go_upto_region 1 with fail
  rw [HW.out]
  go_wp2_with (first
    | (refine step_load_row rfl 39 _ rfl w.heap.size 39 (wdV A) _ rfl (H1.out.bl 2 rfl) Try.underlying39 rfl (by kernel_rfl) ?_)
    | (refine step_load_row rfl 39 _ rfl (w.heap.size + 1) 39 (wdV B) _ rfl (H1.out.bl 1 rfl) Try.underlying39 rfl (by kernel_rfl) ?_)
    | (go_at_call 43; (with_reducible refine (HC.out _ _ H1.out).mono ?_); rintro e w8 ⟨rfl, hb⟩; have H8 := hid hb; clear hb)
    | (refine step_store_row rfl 39 _ _ rfl (w.heap.size + 2) 39 _ (wdV R9) rfl rfl (H8.out.bl 0 rfl) (by kernel_rfl) rfl (by kernel_rfl) ?_))
  have H9 := hid (H8.out.rowI hM 0 rfl (wdV R9))
  exact bodyPost_ret (results_cell_row (by rfl) _ _ (w.heap.size + 2) 39 (wdV R9) (0, 0) _ rfl (H9.out.bl 0 rfl) Try.underlying39 rfl (by kernel_rfl)) rfl ⟨rfl, H9.out.fin⟩
set_option maxHeartbeats 1600000 in
theorem tby_any {Pm : World → Nat → Ms → (Nat → Prop) → Prop} (hM : Mach Pm) (b k : Nat) (S : Ms) (F : Nat → Prop) (K : Int) (A B : Nat → Int) (w : World) (hm : Pm w b S F) (hq : Bq k S) (hk : k + 50 ≤ 100000) (hn : S.n = 2 ∨ S.n = 3) (hA : Wb A) (hB : Wb B) :
    Calls Try.prog 14 #[.pointer (some ⟨b, 0, none⟩), .int .i64 K, .agg (wdV A), .agg (wdV B)] w fun e w' => e = .returned (.agg (wdV (tmR S (isDom K) A B))) ∧ PmR Pm b (tmS S (isDom K) A B) F w w' := by
  obtain ⟨w1, hw1⟩ : ∃ w1, ((w.alloc (.cells (wdV A) 39)).alloc (.cells (wdV B) 39)).alloc (.cells #[.int .i64 0, .int .i64 0, .int .i64 0] 39) = w1 := ⟨_, rfl⟩
  have H1 : Hid (Ow Pm F w w1 b S [(w.heap.size + 2, Obj.cells #[.int .i64 0, .int .i64 0, .int .i64 0] 39 (0, 0)), (w.heap.size + 1, Obj.cells (wdV B) 39 (0, 0)), (w.heap.size, Obj.cells (wdV A) 39 (0, 0))]) := hid (by
    have := (((Ow.start hm).new hM (wdV A) 39).new hM (wdV B) 39).new hM #[.int .i64 0, .int .i64 0, .int .i64 0] 39
    rw [hw1] at this
    simp only [sz_al] at this
    exact this)
  have HW := hid hw1
  by_cases h2 : K = 2
  · have q1 : ((K : Int) == 2) = true := by simp [h2]
    have q2 : isDom K = true := by unfold isDom; simp [h2]
    rw [q2]
    have HC : Hid (∀ (bs : List (Nat × Obj)) (w' : World), Ow Pm F w w' b S bs → Calls Try.prog 21 #[.pointer (some ⟨b, 0, none⟩), .agg (wdV A), .agg (wdV B)] w' fun e w2 => e = .returned (.agg (wdV (tmR S true A B))) ∧ Ow Pm F w w2 b (tmS S true A B) bs) := hid (fun bs w' h' => h'.lift hM (fun F' hF' => tdomw_any hM b k S F' A B w' hF' hq hk hn hA hB))
    clear hm hq hk hn hA hB hw1 q2 h2
    generalize tmS S true A B = S9 at *
    generalize tmR S true A B = R9 at *
    go_enter Try.func14, Try.ntmps14
    go_upto_region 1 with fail
    rw [HW.out]
    go_wp2_with (first
      | (refine step_load_row rfl 39 _ rfl w.heap.size 39 (wdV A) _ rfl (H1.out.bl 2 rfl) Try.underlying39 rfl (by kernel_rfl) ?_)
      | (refine step_load_row rfl 39 _ rfl (w.heap.size + 1) 39 (wdV B) _ rfl (H1.out.bl 1 rfl) Try.underlying39 rfl (by kernel_rfl) ?_)
      | (go_at_call 21; (with_reducible refine (HC.out _ _ H1.out).mono ?_); rintro e w8 ⟨rfl, hb⟩; have H8 := hid hb; clear hb)
      | (refine step_store_row rfl 39 _ _ rfl (w.heap.size + 2) 39 _ (wdV R9) rfl rfl (H8.out.bl 0 rfl) (by kernel_rfl) rfl (by kernel_rfl) ?_))
    have H9 := hid (H8.out.rowI hM 0 rfl (wdV R9))
    exact bodyPost_ret (results_cell_row (by rfl) _ _ (w.heap.size + 2) 39 (wdV R9) (0, 0) _ rfl (H9.out.bl 0 rfl) Try.underlying39 rfl (by kernel_rfl)) rfl ⟨rfl, H9.out.fin⟩
  · have q1 : ((K : Int) == 2) = false := by simp [h2]
    have q2 : isDom K = false := by unfold isDom; simp [h2]
    rw [q2]
    have HC : Hid (∀ (bs : List (Nat × Obj)) (w' : World), Ow Pm F w w' b S bs → Calls Try.prog 22 #[.pointer (some ⟨b, 0, none⟩), .agg (wdV A), .agg (wdV B)] w' fun e w2 => e = .returned (.agg (wdV (tmR S false A B))) ∧ Ow Pm F w w2 b (tmS S false A B) bs) := hid (fun bs w' h' => h'.lift hM (fun F' hF' => tisww_any hM b k S F' A B w' hF' hq hk hn hA hB))
    clear hm hq hk hn hA hB hw1 q2 h2
    generalize tmS S false A B = S9 at *
    generalize tmR S false A B = R9 at *
    go_enter Try.func14, Try.ntmps14
    go_upto_region 1 with fail
    rw [HW.out]
    go_wp2_with (first
      | (refine step_load_row rfl 39 _ rfl w.heap.size 39 (wdV A) _ rfl (H1.out.bl 2 rfl) Try.underlying39 rfl (by kernel_rfl) ?_)
      | (refine step_load_row rfl 39 _ rfl (w.heap.size + 1) 39 (wdV B) _ rfl (H1.out.bl 1 rfl) Try.underlying39 rfl (by kernel_rfl) ?_)
      | (go_at_call 22; (with_reducible refine (HC.out _ _ H1.out).mono ?_); rintro e w8 ⟨rfl, hb⟩; have H8 := hid hb; clear hb)
      | (refine step_store_row rfl 39 _ _ rfl (w.heap.size + 2) 39 _ (wdV R9) rfl rfl (H8.out.bl 0 rfl) (by kernel_rfl) rfl (by kernel_rfl) ?_))
    have H9 := hid (H8.out.rowI hM 0 rfl (wdV R9))
    exact bodyPost_ret (results_cell_row (by rfl) _ _ (w.heap.size + 2) 39 (wdV R9) (0, 0) _ rfl (H9.out.bl 0 rfl) Try.underlying39 rfl (by kernel_rfl)) rfl ⟨rfl, H9.out.fin⟩
theorem tdrw_any (n : Int) (w : World) : Calls Try.prog 7 #[.int .i64 n] w fun e w' => e = .returned (.int .i64 (tmD n)) ∧ Below w.heap.size w w' := by
  unfold tmD
  by_cases h2 : n = 2
  · subst h2
    go_enter Try.func7, Try.ntmps7
    go_wp2
    go_ret
    exact ⟨rfl, Below.refl _ _⟩
  · by_cases h3 : n = 3
    · subst h3
      go_enter Try.func7, Try.ntmps7
      go_wp2
      go_ret
      exact ⟨rfl, Below.refl _ _⟩
    · rw [if_neg h2, if_neg h3]
      have q2 : ((n : Int) == 2) = false := by simpa using h2
      have q3 : ((n : Int) == 3) = false := by simpa using h3
      clear h2 h3
      go_enter Try.func7, Try.ntmps7
      go_wp2
      go_ret
      exact ⟨rfl, Below.refl _ _⟩
theorem topsw_any (K n : Int) (w : World) : Calls Try.prog 9 #[.int .i64 K, .int .i64 n] w fun e w' => e = .returned (.int .i64 (tmN K n)) ∧ Below w.heap.size w w' := by
  by_cases h1 : K = 1
  · subst h1
    by_cases n2 : n = 2
    · subst n2
      go_enter Try.func9, Try.ntmps9
      go_wp2
      go_ret
      exact ⟨rfl, Below.refl _ _⟩
    · by_cases n3 : n = 3
      · subst n3
        go_enter Try.func9, Try.ntmps9
        go_wp2
        go_ret
        exact ⟨rfl, Below.refl _ _⟩
      · have e : tmN 1 n = 0 := by unfold tmN; rw [if_pos (by decide), if_neg n2, if_neg n3]
        rw [e]
        have q2 : ((n : Int) == 2) = false := by simpa using n2
        have q3 : ((n : Int) == 3) = false := by simpa using n3
        clear n2 n3 e
        go_enter Try.func9, Try.ntmps9
        go_wp2
        go_ret
        exact ⟨rfl, Below.refl _ _⟩
  · by_cases h2 : K = 2
    · subst h2
      by_cases n2 : n = 2
      · subst n2
        go_enter Try.func9, Try.ntmps9
        go_wp2
        go_ret
        exact ⟨rfl, Below.refl _ _⟩
      · by_cases n3 : n = 3
        · subst n3
          go_enter Try.func9, Try.ntmps9
          go_wp2
          go_ret
          exact ⟨rfl, Below.refl _ _⟩
        · have e : tmN 2 n = 0 := by unfold tmN; rw [if_pos (by decide), if_neg n2, if_neg n3]
          rw [e]
          have q2 : ((n : Int) == 2) = false := by simpa using n2
          have q3 : ((n : Int) == 3) = false := by simpa using n3
          clear n2 n3 e
          go_enter Try.func9, Try.ntmps9
          go_wp2
          go_ret
          exact ⟨rfl, Below.refl _ _⟩
    · have e : tmN K n = 0 := by unfold tmN; rw [if_neg (by omega)]
      rw [e]
      have q1 : ((K : Int) != 1) = true := by simpa using h1
      have q2 : ((K : Int) != 2) = true := by simpa using h2
      clear h1 h2 e
      go_enter Try.func9, Try.ntmps9
      go_wp2
      go_ret
      exact ⟨rfl, Below.refl _ _⟩
/-- The program's functions meet what the laws ask. -/
theorem tmI {Pm : World → Nat → Ms → (Nat → Prop) → Prop} (hM : Mach Pm) : TmI Pm (fun _ _ => True) where
  by_ b k S F K A B w h _ hq hk hn _ hA hB := tby_any hM b k S F K A B w h hq hk hn hA hB
  isw b k S F A B w h _ hq hk hn hA hB := tisww_any hM b k S F A B w h hq hk hn hA hB
  dom b k S F A B w h _ hq hk hn hA hB := tdomw_any hM b k S F A B w h hq hk hn hA hB
  draws n w _ := tdrw_any n w
  ops K n w _ _ := topsw_any K n w
end Go.Proofs.Ytflfnaiklnbaiaa

/- General: a slice of acts (four ints, a word) that comes in. No program is named. -/
namespace Go.Proofs.Ytflfnaiklnbaiaa
open Go.ChangeShapes Go.WideShapes Go.ChangeAt Go.RowKit Go.Deep

/-- An act: its kind, three numbers, a word. -/
structure Ac5 where
  K : Int
  A : Int
  B : Int
  D : Int
  C : Nat
abbrev ac5 (a : Ac5) : Array Value := #[.int .i64 a.K, .int .i64 a.A, .int .i64 a.B, .int .i64 a.D, .int .u64 (a.C : Int)]
/-- v reads as the L acts f. -/
structure RA5 (w : World) (v : Value) (L : Nat) (f : Nat → Ac5) : Prop where
  lim : L ≤ 3600000000000
  wf : ∀ i, i < L → (f i).C < 2 ^ 64
  at_ : ∃ a cap, v = .slice a L cap ∧ L ≤ cap ∧ cap ≤ maxLen ∧ (0 < L → ∃ b off, a = some ⟨b, off, none⟩ ∧ b < w.heap.size ∧ ∀ i, i < L → w.rangeAt b (off + i * 5) (ac5 (f i)).toList)
theorem rng_self {w w' : World} {b o : Nat} {cs : List Value} (h : w.rangeAt b o cs) (hlt : b < w.heap.size) (hb : Below w.heap.size w w') : w'.rangeAt b o cs := fun j v hv => by
  rw [World.cell?_of_block (a := ⟨b, o + j, none⟩) (hb.block b hlt)]; exact h j v hv
theorem RA5.self {w w' : World} {v : Value} {L : Nat} {f : Nat → Ac5} (h : RA5 w v L f) (hb : Below w.heap.size w w') : RA5 w' v L f := by
  obtain ⟨a, cap, h1, h2, h3, h4⟩ := h.at_
  refine ⟨h.lim, h.wf, a, cap, h1, h2, h3, fun h0 => ?_⟩
  obtain ⟨b, off, e1, e2, e3⟩ := h4 h0
  exact ⟨b, off, e1, Nat.lt_of_lt_of_le e2 hb.size, fun i hi => rng_self (e3 i hi) e2 hb⟩
end Go.Proofs.Ytflfnaiklnbaiaa
