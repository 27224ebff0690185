import Derived.Test.YtflfnaiklnbaiaaGen
import Derived.Test.YtflfnaiklnbaiaaShr
import Derived.Test.YtflfnaiklnbaiaaTml
import Derived.Test.YtflfnaiklnbaiaaTmh
import Derived.Test.YtflfnaiklnbaiaaWif
import Derived.Test.YtflfnaiklnbaiaaProg
import Derived.Test.YtflfnaiklnbaiaaOda
/- General: a word of registers (a struct of an array of three ints), and a slice of words, that come in. No program is named. -/
namespace Go.Proofs.Ytflfnaiklnbaiaa
open Go.ChangeShapes Go.WideShapes Go.ChangeAt Go.RowKit Go.Deep
set_option maxRecDepth 100000
theorem wdL_of {zs : List Int} (h : ∀ z ∈ zs, (Lit.int .u64 z).wf = true) : zs = wdL (fun i => (nth zs i).toNat) zs.length ∧ ∀ i, i < zs.length → (nth zs i).toNat < 2 ^ 64 := by
  have hb : ∀ i, i < zs.length → 0 ≤ nth zs i ∧ nth zs i ≤ 18446744073709551615 := fun i hi => by
    rw [nth_of hi]; exact bounds_u64 (h _ (List.getElem_mem _))
  refine ⟨List.ext_getElem (by simp [wdL]) fun i h1 h2 => ?_, fun i hi => by have := hb i hi; omega⟩
  have := hb i h1
  rw [nth_of h1] at this
  simp only [wdL, List.getElem_map, List.getElem_range, nth_of h1]
  exact (Int.toNat_of_nonneg this.1).symm
end Go.Proofs.Ytflfnaiklnbaiaa

/- General: a struct that comes in: a bool, an int, two arrays of three words, and a slice of words. No program is named. -/
namespace Go.Proofs.Ytflfnaiklnbaiaa
open Go.ChangeShapes Go.WideShapes Go.ChangeAt Go.RowKit Go.Deep
set_option maxRecDepth 100000
theorem three_words {H : Type} {enc : TypeId × Value → H} {P : Program} {W : World} {held : Bool} {ta te : TypeId} {c0 c1 c2 : Value} {m : Nat} {y : DataW H × List MemPlace} (ha : P.underlying ta = some (.array 3 te)) (hi : P.underlying te = some (.int .u64)) (ce : P.cellsOf te = 1)
    (h : DataW.trod enc P W 0 (fun _ => true) held m ta [c0, c1, c2] = some y) : ∃ x : Nat → Nat, (∀ i, x i < 2 ^ 64) ∧ c0 = .int .u64 (x 0 : Int) ∧ c1 = .int .u64 (x 1 : Int) ∧ c2 = .int .u64 (x 2 : Int) := by
  obtain ⟨d, q⟩ := y
  obtain ⟨z0, z1, z2, n, _, k0, k1, k2⟩ := trod_array3 (c0 := c0) (c1 := c1) (c2 := c2) ha ce h
  obtain ⟨x0, e0, _, w0⟩ := DataW.trod_int hi k0
  obtain ⟨x1, e1, _, w1⟩ := DataW.trod_int hi k1
  obtain ⟨x2, e2, _, w2⟩ := DataW.trod_int hi k2
  simp only [List.cons.injEq, and_true] at e0 e1 e2
  subst e0 e1 e2
  have b0 := bounds_u64 w0
  have b1 := bounds_u64 w1
  have b2 := bounds_u64 w2
  refine ⟨fun i => if i = 0 then x0.toNat else if i = 1 then x1.toNat else x2.toNat, fun i => ?_, ?_, ?_, ?_⟩
  · show (if i = 0 then x0.toNat else if i = 1 then x1.toNat else x2.toNat) < 2 ^ 64
    repeat' split
    all_goals omega
  · show _ = Value.int .u64 ((x0.toNat : Nat) : Int); rw [Int.toNat_of_nonneg b0.1]
  · show _ = Value.int .u64 ((x1.toNat : Nat) : Int); rw [Int.toNat_of_nonneg b1.1]
  · show _ = Value.int .u64 ((x2.toNat : Nat) : Int); rw [Int.toNat_of_nonneg b2.1]
theorem ask_open {H : Type} {enc : TypeId × Value → H} {P : Program} {W : World} {held : Bool} {t tb ti ta te s : TypeId} {fs : Array Field} {base : Nat} {v : Value} {d : DataW H} {p : List MemPlace} {ts : List TypeId} {ds : List (DataW H)} {j : Nat}
    (ht : P.underlying t = some (.struct fs)) (hfs : fs.toList.map (fun f => (f.type, f.offset)) = [(tb, 0), (ti, 1), (ta, 2), (ta, 5), (s, 8)]) (hb : P.underlying tb = some .bool) (hi : P.underlying ti = some (.int .i64)) (ha : P.underlying ta = some (.array 3 te)) (he : P.underlying te = some (.int .u64)) (hs : P.underlying s = some (.slice te))
    (cb : P.cellsOf tb = 1) (ci : P.cellsOf ti = 1) (ca : P.cellsOf ta = 3) (cs : P.cellsOf s = 1) (ct : P.cellsOf t = 9) (ce : P.cellsOf te = 1) (be : P.bytesOf te = 8)
    (hv : Value.okWide P W .any base t v) (h : DataW.Trod enc P W 0 (fun _ => true) held t v d p) (hlt : ∀ x ∈ p, x.block < W.heap.size)
    (hsz : (DataW.weightsEach P ts ds).all (· ≤ reachBytes) = true) (hj : ts[j]? = some t) (hd : ds[j]? = some d) :
    ∃ (b : Bool) (kd : Int) (x y : Nat → Nat) (mv : Value) (tw : Nat → Nat) (TN : Nat), v = .agg #[.bool b, .int .i64 kd, .int .u64 (x 0 : Int), .int .u64 (x 1 : Int), .int .u64 (x 2 : Int), .int .u64 (y 0 : Int), .int .u64 (y 1 : Int), .int .u64 (y 2 : Int), mv] ∧ (Lit.int .i64 kd).wf = true ∧
      (∀ i, x i < 2 ^ 64) ∧ (∀ i, y i < 2 ^ 64) ∧ RdS .u64 W (fun g => g < W.heap.size) mv (wdL tw TN) ∧ (∀ i, i < TN → tw i < 2 ^ 64) ∧ TN ≤ 17592186043904 := by
  obtain ⟨cells, rfl, hcs⟩ : ∃ cs, v = .agg cs ∧ cs.size = P.cellsOf t := by
    unfold Value.okWide at hv
    rw [ht] at hv
    obtain ⟨cs, h1, h2, _⟩ := hv
    exact ⟨cs, h1, h2⟩
  rw [ct] at hcs
  obtain ⟨l⟩ := cells
  match l, hcs with
  | [c0, c1, c2, c3, c4, c5, c6, c7, c8], _ =>
    obtain ⟨fuel, hf⟩ := h
    obtain ⟨xs, m, _, hx, _, hlen, hget⟩ := DataW.trod_struct ht hf
    have hfl : fs.size = 5 := by have := congrArg List.length hfs; simpa using this
    rw [hfl] at hlen
    have hfi : ∀ i q o, [(tb, 0), (ti, 1), (ta, 2), (ta, 5), (s, 8)][i]? = some (q, o) → ∃ f : Field, fs[i]? = some f ∧ f.type = q ∧ f.offset = o := fun i q o hq => by
      rw [← hfs, List.getElem?_map, Option.map_eq_some_iff] at hq
      obtain ⟨f, h1, h2⟩ := hq
      injection h2 with h3 h4
      exact ⟨f, by simpa using h1, h3, h4⟩
    match xs, hlen with
    | [y0, y1, y2, y3, y4], _ =>
      simp only [Prod.mk.injEq] at hx
      obtain ⟨rfl, rfl⟩ := hx
      have g : ∀ (i : Nat) (q : TypeId) (o : Nat), [(tb, 0), (ti, 1), (ta, 2), (ta, 5), (s, 8)][i]? = some (q, o) → DataW.trod enc P W 0 (fun _ => true) held m q (([c0, c1, c2, c3, c4, c5, c6, c7, c8].drop o).take (P.cellsOf q)) = [y0, y1, y2, y3, y4][i]? := fun i q o hq => by
        obtain ⟨f, h1, rfl, rfl⟩ := hfi i q o hq
        exact hget i f h1
      have g0 := g 0 tb 0 rfl
      have g1 := g 1 ti 1 rfl
      have g2 := g 2 ta 2 rfl
      have g3 := g 3 ta 5 rfl
      have g4 := g 4 s 8 rfl
      rw [cb] at g0
      rw [ci] at g1
      rw [ca] at g2 g3
      rw [cs] at g4
      simp only [List.drop_succ_cons, List.drop_zero, List.take_succ_cons, List.take_zero, List.getElem?_cons_zero, List.getElem?_cons_succ] at g0 g1 g2 g3 g4
      obtain ⟨b, e0, _⟩ := DataW.trod_bool hb g0
      obtain ⟨kd, e1, _, w1⟩ := DataW.trod_int hi g1
      obtain ⟨x, hx, r0, r1, r2⟩ := three_words ha he ce g2
      obtain ⟨y, hy, s0, s1, s2⟩ := three_words ha he ce g3
      simp only [List.cons.injEq, and_true] at e0 e1
      subst e0 e1 r0 r1 r2 s0 s1 s2
      have hall : ∀ (i : Nat) (y : DataW H), (fs.toList.map (·.type))[i]? = some s → ([y0, y1, y2, y3, y4].map (·.1))[i]? = some y → ∀ k ∈ y.weights P s, k ≤ reachBytes := fun i y h1 h2 k hk => by
        have h8 := List.all_eq_true.1 hsz k (DataW.weights_mem_each hj hd k (by simp only [DataW.weights, ht]; exact each_has h1 h2 k hk))
        exact of_decide_eq_true h8
      have htp : fs.toList.map (·.type) = [tb, ti, ta, ta, s] := by
        have := congrArg (List.map Prod.fst) hfs
        rw [List.map_map] at this
        exact this
      obtain ⟨zs, ⟨a, cap, rfl, hl, hw, hp⟩, hcap⟩ := rd_of_part (k := .u64) hs he ce be g4 (fun x hx => hlt x (by simp [hx])) (hall 4 _ (by rw [htp]; rfl) rfl)
      obtain ⟨hz, hbd⟩ := wdL_of hw
      have hc2 := hcap _ _ _ rfl
      have h8 : IntKind.u64.bits / 8 = 8 := rfl
      refine ⟨b, kd, x, y, _, _, zs.length, rfl, w1, hx, hy, hz ▸ ⟨a, cap, rfl, hc2.1, hc2.2, hl, hw, fun h0 => ?_⟩, hbd, by rw [h8] at hl; omega⟩
      obtain ⟨b, off, e1, e2, e3⟩ := hp h0
      exact ⟨b, off, e1, e2, e2, e3⟩
end Go.Proofs.Ytflfnaiklnbaiaa

/- Times: two words laid, and multiplied. -/
namespace Go.Proofs.Ytflfnaiklnbaiaa
set_option maxRecDepth 100000
section
variable (n : Nat) (tw : Nat → Nat) (TN : Nat) (x y : Nat → Nat)
def tx0 : Ms := startD (n : Int) 60 tw TN 0 TN
def txA : Nat → Int := eaR (tx0 n tw TN) (opC x) 0 none3 n
def tx1 : Ms := eaS (tx0 n tw TN) (opC x) 0 n
def txB : Nat → Int := eaR (tx1 n tw TN x) (opC y) 0 none3 n
def tx2 : Ms := eaS (tx1 n tw TN x) (opC y) 0 n
/-- What the document's machine is given: the constants, one behind the other. -/
def txO (i : Nat) : Op6 := ⟨3, ((i % n : Nat) : Int), -1, -1, -1, if i < n then x (i % n) else y (i % n)⟩
def txD : Nat → Ms
  | 0 => tx0 n tw TN
  | i + 1 => (txD i).doS (txO n x y i) 0
end
section
variable {n : Nat} {tw : Nat → Nat} {TN : Nat} {x y : Nat → Nat}
theorem txD_all (hn : n = 2 ∨ n = 3) : txD n tw TN x y (2 * n) = tx2 n tw TN x y := by rcases hn with rfl | rfl <;> rfl
theorem txO_wf (hn : n = 2 ∨ n = 3) (hx : ∀ i, x i < 2 ^ 64) (hy : ∀ i, y i < 2 ^ 64) (i : Nat) : opwf (txO n x y i) :=
  ⟨i64c 3 (by decide) (by decide), i64c ((i % n : Nat) : Int) (by omega) (by have := Nat.mod_lt i (show 0 < n by omega); omega), I64.m1, I64.m1, I64.m1, by show (if i < n then x (i % n) else y (i % n)) < 2 ^ 64; split; exact hx _; exact hy _⟩
theorem tx0_bq (hn : n = 2 ∨ n = 3) (htw : ∀ i, i < TN → tw i < 2 ^ 64) (hTN : TN ≤ 17592186043904) : Bq 0 (tx0 n tw TN) := startD_bq (n : Int) 60 tw TN 0 TN 0 (by omega) (by decide) (by decide) (by omega) htw (by omega) (Nat.le_refl _)
theorem txD_bq (hn : n = 2 ∨ n = 3) (htw : ∀ i, i < TN → tw i < 2 ^ 64) (hTN : TN ≤ 17592186043904) (hx : ∀ i, x i < 2 ^ 64) (hy : ∀ i, y i < 2 ^ 64) : ∀ i, i ≤ 6 → Bq i (txD n tw TN x y i)
  | 0, _ => tx0_bq hn htw hTN
  | i + 1, h => (txD_bq hn htw hTN hx hy i (by omega)).does (txO_wf hn hx hy i) (by decide)
theorem tx1_bq (hn : n = 2 ∨ n = 3) (htw : ∀ i, i < TN → tw i < 2 ^ 64) (hTN : TN ≤ 17592186043904) (hx : ∀ i, x i < 2 ^ 64) : Bq 3 (tx1 n tw TN x) ∧ Wb (txA n tw TN x) := ⟨(eaS_bq (tx0_bq hn htw hTN) 0 n (fun j hj => opC_wf hx (by omega))).mono (by omega), eaR_wb (tx0_bq hn htw hTN) 0 none3_wb n (fun j hj => opC_wf hx (by omega)) (by omega)⟩
theorem tx2_bq (hn : n = 2 ∨ n = 3) (htw : ∀ i, i < TN → tw i < 2 ^ 64) (hTN : TN ≤ 17592186043904) (hx : ∀ i, x i < 2 ^ 64) (hy : ∀ i, y i < 2 ^ 64) : Bq 6 (tx2 n tw TN x y) ∧ Wb (txB n tw TN x y) := ⟨(eaS_bq (tx1_bq hn htw hTN hx).1 0 n (fun j hj => opC_wf hy (by omega))).mono (by omega), eaR_wb (tx1_bq hn htw hTN hx).1 0 none3_wb n (fun j hj => opC_wf hy (by omega)) (by omega)⟩
theorem tx2_n : (tx2 n tw TN x y).n = (n : Int) := (eaS_n _ _ _ _).trans (eaS_n _ _ _ _)
theorem tx2_dry : (tx2 n tw TN x y).dry = false := (eaS_ext _ _ _ _).dry.trans (eaS_ext _ _ _ _).dry
theorem tx2_skip : (tx2 n tw TN x y).skip = 0 := (eaS_ext _ _ _ _).skip.trans (eaS_ext _ _ _ _).skip
end
/-- What is known of a machine in which two words lie. -/
theorem tx_core {S : Ms} {A B : Nat → Int} {nn : Nat} {x y : Nat → Nat} {dom : Bool} (hn : nn = 2 ∨ nn = 3) (s2 : S.L = 2 * nn) (s4 : S.skip = 0) (s5 : S.dry = false) (s6 : S.n = (nn : Int))
    (a : ∀ j, j < 3 → A j = if j < nn then (j : Int) else -1) (b : ∀ j, j < 3 → B j = if j < nn then ((nn + j : Nat) : Int) else -1) (va : ∀ j, j < nn → wordAt S.v S.L (A j) = x j) (vb : ∀ j, j < nn → wordAt S.v S.L (B j) = y j) (he : (tmS S dom A B).e = 0) :
    (tmS S dom A B).len = S.len + tmM nn ∧ vlN (tmS S dom A B).v (tmS S dom A B).L (tmR S dom A B) = tot x nn &&& tot y nn := by
  have gA : Gw S A := ⟨fun j hj => by rw [a j hj, s2]; split <;> omega, fun j h1 h2 => by rw [a j h2, if_neg (by unfold Ms.sh at h1; omega)]; decide⟩
  have gB : Gw S B := ⟨fun j hj => by rw [b j hj, s2]; split <;> omega, fun j h1 h2 => by rw [b j h2, if_neg (by unfold Ms.sh at h1; omega)]; decide⟩
  have hv := (tm_vl (S := S) (dom := dom) (A := A) (B := B) s4 s5 (by rw [s6]; omega) gA gB he).1
  have hl := (blk_of (m := tmM S.n) s4 s5 he).L
  have hk := (tmS_ext S dom A B).skip
  refine ⟨?_, ?_⟩
  · unfold Ms.len
    rw [hk]
    have : (tmS S dom A B).L = S.L + tmM S.n := hl
    rw [this, s6]
    omega
  · rw [hv, vl_three, vl_three]
    rcases hn with rfl | rfl
    · rw [va 0 (by omega), va 1 (by omega), vb 0 (by omega), vb 1 (by omega), show A 2 = -1 from (a 2 (by omega)).trans (if_neg (by omega)), show B 2 = -1 from (b 2 (by omega)).trans (if_neg (by omega)), wordAt_neg (by decide), Nat.xor_zero, Nat.xor_zero]
      show _ = ((0 ^^^ x 0) ^^^ x 1) &&& ((0 ^^^ y 0) ^^^ y 1)
      rw [Nat.zero_xor, Nat.zero_xor]
    · rw [va 0 (by omega), va 1 (by omega), va 2 (by omega), vb 0 (by omega), vb 1 (by omega), vb 2 (by omega)]
      show _ = (((0 ^^^ x 0) ^^^ x 1) ^^^ x 2) &&& (((0 ^^^ y 0) ^^^ y 1) ^^^ y 2)
      rw [Nat.zero_xor, Nat.zero_xor]
theorem tx_L2 (tw : Nat → Nat) (TN : Nat) (x y : Nat → Nat) : (tx2 2 tw TN x y).L = 2 * 2 := by kernel_rfl
theorem tx_a20 (tw : Nat → Nat) (TN : Nat) (x y : Nat → Nat) : txA 2 tw TN x 0 = 0 ∧ txB 2 tw TN x y 0 = 2 := ⟨by kernel_rfl, by kernel_rfl⟩
theorem tx_v20 (tw : Nat → Nat) (TN : Nat) (x y : Nat → Nat) : wordAt (tx2 2 tw TN x y).v (tx2 2 tw TN x y).L (txA 2 tw TN x 0) = x 0 ∧ wordAt (tx2 2 tw TN x y).v (tx2 2 tw TN x y).L (txB 2 tw TN x y 0) = y 0 := ⟨by kernel_rfl, by kernel_rfl⟩
theorem tx_a21 (tw : Nat → Nat) (TN : Nat) (x y : Nat → Nat) : txA 2 tw TN x 1 = 1 ∧ txB 2 tw TN x y 1 = 3 := ⟨by kernel_rfl, by kernel_rfl⟩
theorem tx_v21 (tw : Nat → Nat) (TN : Nat) (x y : Nat → Nat) : wordAt (tx2 2 tw TN x y).v (tx2 2 tw TN x y).L (txA 2 tw TN x 1) = x 1 ∧ wordAt (tx2 2 tw TN x y).v (tx2 2 tw TN x y).L (txB 2 tw TN x y 1) = y 1 := ⟨by kernel_rfl, by kernel_rfl⟩
theorem tx_a22 (tw : Nat → Nat) (TN : Nat) (x y : Nat → Nat) : txA 2 tw TN x 2 = -1 ∧ txB 2 tw TN x y 2 = -1 := ⟨by kernel_rfl, by kernel_rfl⟩
theorem tx_ok2 (tw : Nat → Nat) (TN : Nat) (x y : Nat → Nat) (dom : Bool) (he : (tmS (tx2 2 tw TN x y) dom (txA 2 tw TN x) (txB 2 tw TN x y)).e = 0) :
    (tmS (tx2 2 tw TN x y) dom (txA 2 tw TN x) (txB 2 tw TN x y)).len = (tx2 2 tw TN x y).len + tmM ((2 : Nat) : Int) ∧ vlN (tmS (tx2 2 tw TN x y) dom (txA 2 tw TN x) (txB 2 tw TN x y)).v (tmS (tx2 2 tw TN x y) dom (txA 2 tw TN x) (txB 2 tw TN x y)).L (tmR (tx2 2 tw TN x y) dom (txA 2 tw TN x) (txB 2 tw TN x y)) = tot x 2 &&& tot y 2 := by
  refine tx_core (S := tx2 2 tw TN x y) (A := txA 2 tw TN x) (B := txB 2 tw TN x y) (nn := 2) (by decide) (tx_L2 tw TN x y) tx2_skip tx2_dry tx2_n (fun j hj => ?_) (fun j hj => ?_) (fun j hj => ?_) (fun j hj => ?_) he
  · match j, hj with
    | 0, _ => exact (tx_a20 tw TN x y).1
    | 1, _ => exact (tx_a21 tw TN x y).1
    | 2, _ => exact (tx_a22 tw TN x y).1
  · match j, hj with
    | 0, _ => exact (tx_a20 tw TN x y).2
    | 1, _ => exact (tx_a21 tw TN x y).2
    | 2, _ => exact (tx_a22 tw TN x y).2
  · match j, hj with
    | 0, _ => exact (tx_v20 tw TN x y).1
    | 1, _ => exact (tx_v21 tw TN x y).1
  · match j, hj with
    | 0, _ => exact (tx_v20 tw TN x y).2
    | 1, _ => exact (tx_v21 tw TN x y).2
theorem tx_L3 (tw : Nat → Nat) (TN : Nat) (x y : Nat → Nat) : (tx2 3 tw TN x y).L = 2 * 3 := by kernel_rfl
theorem tx_a30 (tw : Nat → Nat) (TN : Nat) (x y : Nat → Nat) : txA 3 tw TN x 0 = 0 ∧ txB 3 tw TN x y 0 = 3 := ⟨by kernel_rfl, by kernel_rfl⟩
theorem tx_v30 (tw : Nat → Nat) (TN : Nat) (x y : Nat → Nat) : wordAt (tx2 3 tw TN x y).v (tx2 3 tw TN x y).L (txA 3 tw TN x 0) = x 0 ∧ wordAt (tx2 3 tw TN x y).v (tx2 3 tw TN x y).L (txB 3 tw TN x y 0) = y 0 := ⟨by kernel_rfl, by kernel_rfl⟩
theorem tx_a31 (tw : Nat → Nat) (TN : Nat) (x y : Nat → Nat) : txA 3 tw TN x 1 = 1 ∧ txB 3 tw TN x y 1 = 4 := ⟨by kernel_rfl, by kernel_rfl⟩
theorem tx_v31 (tw : Nat → Nat) (TN : Nat) (x y : Nat → Nat) : wordAt (tx2 3 tw TN x y).v (tx2 3 tw TN x y).L (txA 3 tw TN x 1) = x 1 ∧ wordAt (tx2 3 tw TN x y).v (tx2 3 tw TN x y).L (txB 3 tw TN x y 1) = y 1 := ⟨by kernel_rfl, by kernel_rfl⟩
theorem tx_a32 (tw : Nat → Nat) (TN : Nat) (x y : Nat → Nat) : txA 3 tw TN x 2 = 2 ∧ txB 3 tw TN x y 2 = 5 := ⟨by kernel_rfl, by kernel_rfl⟩
theorem tx_v32 (tw : Nat → Nat) (TN : Nat) (x y : Nat → Nat) : wordAt (tx2 3 tw TN x y).v (tx2 3 tw TN x y).L (txA 3 tw TN x 2) = x 2 ∧ wordAt (tx2 3 tw TN x y).v (tx2 3 tw TN x y).L (txB 3 tw TN x y 2) = y 2 := ⟨by kernel_rfl, by kernel_rfl⟩
theorem tx_ok3 (tw : Nat → Nat) (TN : Nat) (x y : Nat → Nat) (dom : Bool) (he : (tmS (tx2 3 tw TN x y) dom (txA 3 tw TN x) (txB 3 tw TN x y)).e = 0) :
    (tmS (tx2 3 tw TN x y) dom (txA 3 tw TN x) (txB 3 tw TN x y)).len = (tx2 3 tw TN x y).len + tmM ((3 : Nat) : Int) ∧ vlN (tmS (tx2 3 tw TN x y) dom (txA 3 tw TN x) (txB 3 tw TN x y)).v (tmS (tx2 3 tw TN x y) dom (txA 3 tw TN x) (txB 3 tw TN x y)).L (tmR (tx2 3 tw TN x y) dom (txA 3 tw TN x) (txB 3 tw TN x y)) = tot x 3 &&& tot y 3 := by
  refine tx_core (S := tx2 3 tw TN x y) (A := txA 3 tw TN x) (B := txB 3 tw TN x y) (nn := 3) (by decide) (tx_L3 tw TN x y) tx2_skip tx2_dry tx2_n (fun j hj => ?_) (fun j hj => ?_) (fun j hj => ?_) (fun j hj => ?_) he
  · match j, hj with
    | 0, _ => exact (tx_a30 tw TN x y).1
    | 1, _ => exact (tx_a31 tw TN x y).1
    | 2, _ => exact (tx_a32 tw TN x y).1
  · match j, hj with
    | 0, _ => exact (tx_a30 tw TN x y).2
    | 1, _ => exact (tx_a31 tw TN x y).2
    | 2, _ => exact (tx_a32 tw TN x y).2
  · match j, hj with
    | 0, _ => exact (tx_v30 tw TN x y).1
    | 1, _ => exact (tx_v31 tw TN x y).1
    | 2, _ => exact (tx_v32 tw TN x y).1
  · match j, hj with
    | 0, _ => exact (tx_v30 tw TN x y).2
    | 1, _ => exact (tx_v31 tw TN x y).2
    | 2, _ => exact (tx_v32 tw TN x y).2
end Go.Proofs.Ytflfnaiklnbaiaa

/- Share: the program's Value. -/
namespace Go.Proofs.Ytflfnaiklnbaiaa
open Go.RowKit
set_option maxRecDepth 100000
theorem run_index_wd (w : World) (A : Nat → Int) (m : Nat) (hm : m < 3) : (Instr.index 37 (.agg (wdV A)) (.int .i64 (m : Int))).run Try.prog w = .ok (.int .i64 (A m)) w := by
  have hs : Try.t3.size = 1 := rfl
  match m, hm with
  | 0, _ => simp [Instr.index, asIntOf, run_underlying Try.underlying37, part, run_underlying Try.underlying3, isAgg, go_sem, sizeOf, hs, wdV]
  | 1, _ => simp [Instr.index, asIntOf, run_underlying Try.underlying37, part, run_underlying Try.underlying3, isAgg, go_sem, sizeOf, hs, wdV]
  | 2, _ => simp [Instr.index, asIntOf, run_underlying Try.underlying37, part, run_underlying Try.underlying3, isAgg, go_sem, sizeOf, hs, wdV]
theorem step_index_wd {w : World} {ops : Array Oper} {rest : List Oper} {o : Oper} {a : Act} {Q : Exit → Act → World → Prop} (hgd : o.guard = none) (x y : Operand) (ho : o.op = .index 37 x y)
    (A : Nat → Int) (m : Nat) (hm : m < 3) (hx : a.eval x = .agg (wdV A)) (hy : a.eval y = .int .i64 (m : Int)) (k : wpList Try.prog ops Q rest (a.put o.dst (.int .i64 (A m))) w) : wpList Try.prog ops Q (o :: rest) a w :=
  wpList_plain hgd fun _ hK => by
    unfold Oper.wp execOp
    simp only [ho, hx, hy, Sem.run_bind, Sem.run_pure, Result.andThen_ok, run_index_wd w A m hm]
    exact hK _ _ k
set_option maxHeartbeats 3200000 in
theorem svalue_any (v : Value) (vv : Nat → Nat) (L : Nat) (A : Nat → Int) (w : World) (h : Rd .u64 w v (wdL vv L)) (hv : ∀ i, i < L → vv i < 2 ^ 64) :
    Calls Try.prog 18 #[v, .agg (wdV A)] w fun e w' => e = .returned (.int .u64 (vlN vv L A : Nat)) ∧ Below w.heap.size w w' := by
  obtain ⟨a, cap, rfl, hp⟩ := (rd_wr h).at_
  obtain ⟨w1, hw1⟩ : ∃ w1, w.alloc (.cells (wdV A) 39) = w1 := ⟨_, rfl⟩
  have HB1 : Hid (Below w.heap.size w w1) := hid (by rw [← hw1]; exact (Below.refl _ _).alloc (Nat.le_refl _) _)
  have HX1 : Hid (w1.heap[w.heap.size]? = some (.cells (wdV A) 39 (0, 0))) := hid (by rw [← hw1]; exact heap_alloc_new _ _)
  have HW1 := hid hw1
  have HP := hid hp
  have HV := hid (vlP_lt hv A)
  have HV2 := hid hv
  clear h hp hw1 hv
  go_enter Try.func18, Try.ntmps18
  go_upto_region 1 with fail
  rw [HW1.out]
  go_wp2_with (refine step_load_row rfl 37 _ rfl w.heap.size 39 (wdV A) _ rfl HX1.out Try.underlying37 rfl (by kernel_rfl) ?_)
  go_loopw [5, 10] (fun x i wr => ∃ m : Nat, m ≤ 3 ∧ i = .int .i64 m ∧ x = .int .u64 (vlP vv L A m : Nat) ∧ Below w1.heap.size w1 wr) (fun _ i _ => 3 - (intOf i).toNat)
  case atStart => exact ⟨0, by omega, rfl, rfl, Below.refl _ _⟩
  case round =>
    obtain ⟨m, hm, rfl, rfl, hI⟩ := hrel
    have HI := hid hI
    clear hI
    by_cases hlt : m < 3
    · have j1 : (0 : Int) ≤ (m : Int) := by omega
      have j2 : (m : Int) < 3 := by omega
      have HL3 := hid hlt
      have HS : Hid (vlP vv L A (m + 1) = vlP vv L A m ^^^ wordAt vv L (A m)) := hid rfl
      have hxl := HV.out m
      by_cases h0 : A m < 0
      · have q1 : decide (0 ≤ A m) = false := decide_eq_false (by omega)
        have hz : wordAt vv L (A m) = 0 := if_neg (by omega)
        have HE : Hid (vlP vv L A (m + 1) = vlP vv L A m) := hid (by rw [HS.out, hz, Nat.xor_zero])
        clear hz h0
        go_wp2_with (refine step_index_wd rfl _ _ rfl A m HL3.out rfl rfl ?_)
        go_roundw
        case rel => exact ⟨m + 1, by omega, by go_num, by rw [HE.out], HI.out⟩
        case measure => simp [intOf]; omega
      · have q1 : decide (0 ≤ A m) = true := decide_eq_true (by omega)
        by_cases h1 : A m < (L : Int)
        · obtain ⟨z, hz⟩ := Int.eq_ofNat_of_zero_le (by omega : 0 ≤ A m)
          have hzL : z < L := by omega
          obtain ⟨g, off, rfl, hg, hc⟩ := HP.out (by omega)
          have cz : wr.cell? ⟨g, off + z, none⟩ = some (.int .u64 (vv z : Int)) := tcell_self (hc z hzL) (HB1.out.trans (HI.out.mono HB1.out.size))
          have hw : wordAt vv L (A m) = vv z := by unfold wordAt; rw [if_pos ⟨by omega, h1⟩, hz]; simp
          have hvz := HV2.out z hzL
          have hx := wx64 hxl hvz
          have HE : Hid (vlP vv L A (m + 1) = vlP vv L A m ^^^ vv z) := hid (by rw [HS.out, hw])
          have HZ := hid hz
          rw [hz] at q1 h1
          clear hw hc h0 HS hz
          have c1 : (0 : Int) ≤ (z : Int) := by omega
          have c2 : (z : Int) < (L : Int) := by omega
          generalize vlP vv L A m ^^^ vv z = r at *
          generalize vlP vv L A m = y at *
          generalize vv z = u at *
          go_wp2_with (refine step_index_wd rfl _ _ rfl A m HL3.out rfl rfl ?_; rw [HZ.out])
          go_roundw
          case rel => exact ⟨m + 1, by omega, by go_num, by rw [HE.out], HI.out⟩
          case measure => simp [intOf]; omega
        · have q2 : decide (A m < (L : Int)) = false := decide_eq_false h1
          have hz : wordAt vv L (A m) = 0 := if_neg (by omega)
          have HE : Hid (vlP vv L A (m + 1) = vlP vv L A m) := hid (by rw [HS.out, hz, Nat.xor_zero])
          clear hz h0 h1
          go_wp2_with (refine step_index_wd rfl _ _ rfl A m HL3.out rfl rfl ?_)
          go_roundw
          case rel => exact ⟨m + 1, by omega, by go_num, by rw [HE.out], HI.out⟩
          case measure => simp [intOf]; omega
    · obtain rfl : m = 3 := by omega
      go_wp2
      go_ret
      exact ⟨rfl, HB1.out.trans (HI.out.mono HB1.out.size)⟩
end Go.Proofs.Ytflfnaiklnbaiaa

/- Share: the program's functions of words, over any machine: the interface is met. -/
namespace Go.Proofs.Ytflfnaiklnbaiaa
open Go.RowKit
set_option maxRecDepth 100000
/-- The program's functions of words meet the interface. -/
theorem shI {Pm : World → Nat → Ms → (Nat → Prop) → Prop} (hM : Mach Pm) : ShI Pm where
  value v vv L A w h hv := have _ := hM; svalue_any v vv L A w h hv
end Go.Proofs.Ytflfnaiklnbaiaa

/- Times: laid over both machines; the chapter's example. -/
namespace Go.Proofs.Ytflfnaiklnbaiaa
open Go.RowKit
set_option maxRecDepth 100000
theorem qlaid {Pm : World → Nat → Ms → (Nat → Prop) → Prop} (hM : Mach Pm) {lo : Nat} {X : Nat → Prop} {W w : World} {b bd k nn : Nat} {S S2 : Ms} (x : Nat → Nat) (hx : ∀ i, x i < 2 ^ 64) (h : Bz Pm lo X W w b bd S S2) (hq : Bq k S) (hk : k + 10 ≤ 100000) (hn3 : nn ≤ 3) :
    Calls Try.prog 11 #[.pointer (some ⟨b, 0, none⟩), .int .i64 (nn : Int), .agg (w3 x)] w fun e w' => e = .returned (.agg (wdV (eaR S (opC x) 0 none3 nn))) ∧ Bz Pm lo X W w' b bd (eaS S (opC x) 0 nn) S2 ∧ ∀ k, X k → w'.heap[k]? = w.heap[k]? := by
  obtain ⟨F, G, ov, bv, vv, tv, h1, h2, h3, h4, h5, h6, h7⟩ := h
  exact (flaid_any hM x hx (Ow.start h1) hq hk hn3).mono fun e w' hr => ⟨hr.1, Bz.prog hM h1 h2 h3 h4 h5 h6 h7 hr.2.fin⟩
def axx : Nat → Nat := fun i => if i = 0 then 5 else if i = 1 then 3 else 0
def axy : Nat → Nat := fun i => if i = 0 then 1 else if i = 1 then 2 else 0
def awT0 : Ms := startD 2 40 (fun _ => 9) 1 0 1
def awTA : Nat → Int := eaR awT0 (opC axx) 0 none3 2
def awT1 : Ms := eaS awT0 (opC axx) 0 2
def awTB : Nat → Int := eaR awT1 (opC axy) 0 none3 2
def awT2 : Ms := eaS awT1 (opC axy) 0 2
def awT3 : Ms := tmS awT2 true awTA awTB
def awTR : Nat → Int := tmR awT2 true awTA awTB
theorem axx_lt (i : Nat) : axx i < 2 ^ 64 := by unfold axx; split <;> (try split) <;> decide
theorem axy_lt (i : Nat) : axy i < 2 ^ 64 := by unfold axy; split <;> (try split) <;> decide
theorem awT0_bq : Bq 0 awT0 := startD_bq 2 40 (fun _ => 9) 1 0 1 0 (.inl rfl) (by decide) (by decide) (by decide) (fun _ _ => by decide) (by decide) (Nat.le_refl _)
theorem awT1_bq : Bq 2 awT1 ∧ Wb awTA := ⟨eaS_bq awT0_bq 0 2 (fun j hj => opC_wf axx_lt (by omega)), eaR_wb awT0_bq 0 none3_wb 2 (fun j hj => opC_wf axx_lt (by omega)) (by decide)⟩
theorem awT2_bq : Bq 4 awT2 ∧ Wb awTB := ⟨eaS_bq awT1_bq.1 0 2 (fun j hj => opC_wf axy_lt (by omega)), eaR_wb awT1_bq.1 0 none3_wb 2 (fun j hj => opC_wf axy_lt (by omega)) (by decide)⟩
theorem awT3_bq : Bq 29 awT3 := tmS_bq awT2_bq.1 (by decide) awT1_bq.2 awT2_bq.2
theorem awT2_n : awT2.n = 2 := by kernel_rfl
theorem awT3_vl : vlN awT3.v awT3.L awTR = 2 := by decide +kernel
theorem awT3_keep : awT3.keep awT3.L = awT3.L := by kernel_rfl
set_option maxHeartbeats 6400000 in
theorem tawake2_any {Pm : World → Nat → Ms → (Nat → Prop) → Prop} (hM : Mach Pm) (hN : MachN Pm) {V : World → (Nat → Prop) → Prop} (hT : TmI Pm V) (w : World) (hV : ∀ (w' : World) (F : Nat → Prop), Below w.heap.size w w' → (∀ k, F k → w.heap.size ≤ k) → V w' F) :
    Calls Try.prog 17 #[] w fun e w' => e = .returned (.bool true) ∧ Below w.heap.size w w' := by
  have hlow := (Below.refl w.heap.size w).alloc (Nat.le_refl _) (.cells #[.int .u64 9] 22)
  have HLOW := hid hlow
  have HV := hid hV
  have HBG : Hid (Calls Try.prog 6 #[.int .i64 2, .slice (some ⟨w.heap.size, 0, none⟩) 1 1, .int .i64 40] (w.alloc (.cells #[.int .u64 9] 22)) fun e w' => ∃ p b, e = .returned (.tuple #[.agg (paC p b (.slice none 0 0) (.slice none 0 0)), .bool true]) ∧ Bz Pm (w.alloc (.cells #[.int .u64 9] 22)).heap.size (fun _ => False) (w.alloc (.cells #[.int .u64 9] 22)) w' p b awT0 awT0) := hid (by
    have hrd : RdS .u64 (w.alloc (.cells #[.int .u64 9] 22)) (fun g => g < (w.alloc (.cells #[.int .u64 9] 22)).heap.size) (.slice (some ⟨w.heap.size, 0, none⟩) 1 1) (wdL (fun _ => 9) 1) := by
      have hz : wdL (fun _ => 9) 1 = [(9 : Int)] := rfl
      rw [hz]
      refine ⟨some ⟨w.heap.size, 0, none⟩, 1, rfl, Nat.le_refl _, by decide, by show 1 * 8 ≤ _; decide, fun z hz => ?_, fun _ => ⟨w.heap.size, 0, rfl, by rw [sz_al]; omega, by rw [sz_al]; omega, fun j hj => ?_⟩⟩
      · simp at hz; subst hz; rfl
      · obtain rfl : j = 0 := by have : j < 1 := hj; omega
        exact row_c (i := 0) (heap_alloc_new w _) rfl
    exact lbegins_any hM hN 2 40 (.inl rfl) (by decide) (by decide) (fun _ => 9) 1 _ _ hrd)
  have HSZ : Hid ((w.alloc (.cells #[.int .u64 9] 22)).heap.size = w.heap.size + 1) := hid (sz_al _ _)
  clear hlow hV
  obtain ⟨w0, hw0⟩ : ∃ w0, w.alloc (.cells #[.int .u64 9] 22) = w0 := ⟨_, rfl⟩
  rw [hw0] at HBG HSZ HLOW
  have HW0 := hid hw0
  clear hw0
  have HVZ : Hid (∀ (X : Nat → Prop) (W wx : World) (F : Nat → Prop), Below w0.heap.size w0 wx → (∀ k, F k → w0.heap.size ≤ k) → V wx F) := hid (fun X W wx F hb hF => HV.out wx F (HLOW.out.trans (hb.mono (by have := HSZ.out; omega))) (fun k hk => Nat.le_trans (by have := HSZ.out; omega) (hF k hk)))
  have HC1 := hid (fun (w0' wx : World) (p b : Nat) (bs : List (Nat × Obj)) (h : Gy Pm w0.heap.size (fun _ => False) w0 w0' wx p b awT0 awT0 bs) => h.lift (f := 11) (args := #[.pointer (some ⟨p, 0, none⟩), .int .i64 2, .agg #[.int .u64 5, .int .u64 3, .int .u64 0]]) (E := fun e => e = .returned (.agg (wdV awTA))) (S1' := awT1) (fun X W hz => qlaid hM axx axx_lt hz awT0_bq (by decide) (nn := 2) (by decide)))
  have HC2 := hid (fun (w0' wx : World) (p b : Nat) (bs : List (Nat × Obj)) (h : Gy Pm w0.heap.size (fun _ => False) w0 w0' wx p b awT1 awT0 bs) => h.lift (f := 11) (args := #[.pointer (some ⟨p, 0, none⟩), .int .i64 2, .agg #[.int .u64 1, .int .u64 2, .int .u64 0]]) (E := fun e => e = .returned (.agg (wdV awTB))) (S1' := awT2) (fun X W hz => qlaid hM axy axy_lt hz awT1_bq.1 (by decide) (nn := 2) (by decide)))
  have HC3 := hid (fun (w0' wx : World) (p b : Nat) (bs : List (Nat × Obj)) (h : Gy Pm w0.heap.size (fun _ => False) w0 w0' wx p b awT2 awT0 bs) => h.lift (f := 21) (args := #[.pointer (some ⟨p, 0, none⟩), .agg (wdV awTA), .agg (wdV awTB)]) (E := fun e => e = .returned (.agg (wdV awTR))) (S1' := awT3) (fun X W hz => qdom hM hT awTA awTB hz (fun F hF => HVZ.out X W wx F h.z.low hF) awT2_bq.1 (by decide) (.inl awT2_n) awT1_bq.2 awT2_bq.2))
  have HVL := hid (fun (w0' wx : World) (p b : Nat) (bs : List (Nat × Obj)) (h : Gy Pm w0.heap.size (fun _ => False) w0 w0' wx p b awT3 awT0 bs) => h.asks hM (E := fun e w' => ∃ v, e = .returned v ∧ Rd .u64 w' v (wdL awT3.v awT3.L)) (f := 19) (args := #[.pointer (some ⟨p, 0, none⟩)]) (fun X W hz => (zvalues hM hz awT3_bq (by decide)).mono fun _ _ ⟨v, e1, e2, e3⟩ => ⟨⟨v, e1, by rw [awT3_keep] at e2; exact e2⟩, e3⟩))
  have HVV : Hid (∀ (v : Value) (w : World), Rd .u64 w v (wdL awT3.v awT3.L) → Calls Try.prog 18 #[v, .agg (wdV awTR)] w fun e w' => e = .returned (.int .u64 2) ∧ Below w.heap.size w w') := hid (fun v w h => by
    have := (shI hM).value v _ _ awTR w h (fun i hi => awT3_bq.v i hi)
    rw [awT3_vl] at this
    exact this)
  generalize awTR = R at *
  generalize awT3 = E3 at *
  generalize awTA = A0 at *
  generalize awTB = B0 at *
  generalize awT2 = E2 at *
  generalize awT1 = E1 at *
  generalize awT0 = E0 at *
  go_enter Try.func17, Try.ntmps17
  go_upto_region 1 with fail
  go_upto_region 2 with (first
    | (rw [HW0.out]; go_at_call 6; (with_reducible refine (HBG.out).mono ?_); rintro e w2 ⟨p, b, rfl, hz⟩; have Z2 := hid hz; clear hz)
    | (go_at_call 6; (with_reducible refine (HBG.out).mono ?_); rintro e w2 ⟨p, b, rfl, hz⟩; have Z2 := hid hz; clear hz))
  have H3 := hid ((Gy.start Z2.out).new hM (paC p b (.slice none 0 0) (.slice none 0 0)) 32)
  obtain ⟨b1, hb1⟩ : ∃ b1, w2.heap.size = b1 := ⟨_, rfl⟩
  rw [hb1] at H3
  generalize w2.alloc (.cells #[.pointer (some ⟨p, 0, none⟩), .pointer (some ⟨b, 0, none⟩), .slice none 0 0, .slice none 0 0] 32) = w3' at *
  rw [hb1]
  clear hb1 HBG HW0
  go_upto_region 4 with fail
  go_cut [3] from 11 to 21 (fun q3 wx => ∃ b3, q3 = .pointer (some ⟨b3, 0, none⟩) ∧ Gy Pm w0.heap.size (fun _ => False) w0 w2 wx p b E3 E0 [(b3, .cells (wdV R) 39 (0, 0)), (b1, .cells (paC p b (.slice none 0 0) (.slice none 0 0)) 32 (0, 0))])
  case first =>
    have G0 := hid (H3.out.self hM ((Below.refl _ w3').drew))
    refine wp_region_noPanic ?_
    refine wp_region_held_drew (S := fun w' => w'.heap[b1]? = some (.cells (paC p b (.slice none 0 0) (.slice none 0 0)) 32 (0, 0))) (by kernel_rfl) (G0.out.bl 0 rfl) (fun h0 => ?_)
    generalize w3'.drew = y0 at *
    refine wpAnyH_take (i := 0) (v := .pointer (some ⟨b1, 0, none⟩)) rfl (by kernel_rfl) (by kernel_rfl) (by kernel_rfl) (fun _ _ _ h => h) (.inl ⟨by rfl, fun w hw => by clear hw; go_simp⟩) h0 ?_
    try simp only [Act.put, lay_out]
    refine wpAnyH_take (i := 1) (v := .pointer (some ⟨p, 0, none⟩)) rfl (by kernel_rfl) (by kernel_rfl) (by kernel_rfl) (fun _ _ _ h => h) (.inl ⟨by rfl, fun w' hw => by have hc := row_c (i := 0) (u := .pointer (some ⟨p, 0, none⟩)) hw rfl; clear hw; go_simp⟩) h0 ?_
    try simp only [Act.put, lay_out]
    refine wpAnyH_take (i := 2) (v := .pointer (some ⟨b1, 0, none⟩)) rfl (by kernel_rfl) (by kernel_rfl) (by kernel_rfl) (fun _ _ _ h => h) (.inl ⟨by rfl, fun w hw => by clear hw; go_simp⟩) h0 ?_
    try simp only [Act.put, lay_out]
    refine wpAnyH_take (i := 3) (v := .pointer (some ⟨p, 0, none⟩)) rfl (by kernel_rfl) (by kernel_rfl) (by kernel_rfl) (fun _ _ _ h => h) (.inl ⟨by rfl, fun w' hw => by have hc := row_c (i := 0) (u := .pointer (some ⟨p, 0, none⟩)) hw rfl; clear hw; go_simp⟩) h0 ?_
    try simp only [Act.put, lay_out]
    refine wpAnyH_take (i := 6) (v := .pointer (some ⟨b1, 0, none⟩)) rfl (by kernel_rfl) (by kernel_rfl) (by kernel_rfl) (fun _ _ _ h => h) (.inl ⟨by rfl, fun w hw => by clear hw; go_simp⟩) h0 ?_
    try simp only [Act.put, lay_out]
    refine wpAnyH_take (i := 7) (v := .pointer (some ⟨p, 0, none⟩)) rfl (by kernel_rfl) (by kernel_rfl) (by kernel_rfl) (fun _ _ _ h => h) (.inl ⟨by rfl, fun w' hw => by have hc := row_c (i := 0) (u := .pointer (some ⟨p, 0, none⟩)) hw rfl; clear hw; go_simp⟩) h0 ?_
    try simp only [Act.put, lay_out]
    refine wpAnyH_take (i := 4) (v := .agg #[.int .u64 5, .int .u64 3, .int .u64 0]) rfl (by kernel_rfl) (by kernel_rfl) (by kernel_rfl) (fun _ _ _ h => h) (.inl ⟨by rfl, fun w hw => by clear hw; go_simp⟩) h0 ?_
    try simp only [Act.put, lay_out]
    refine wpAnyH_take (i := 8) (v := .agg #[.int .u64 1, .int .u64 2, .int .u64 0]) rfl (by kernel_rfl) (by kernel_rfl) (by kernel_rfl) (fun _ _ _ h => h) (.inl ⟨by rfl, fun w hw => by clear hw; go_simp⟩) h0 ?_
    try simp only [Act.put, lay_out]
    refine wpAnyH_ready (rs := [5, 11]) (by kernel_rfl) (by simp) (AllReadyH.cons rfl (fun K hK => ?_) (AllReadyH.cons rfl (fun K hK => ?_) AllReadyH.nil))
    · rw [if_pos (by rfl)]
      go_simp
      go_at_call 11
      (with_reducible refine (HC1.out _ _ _ _ _ G0.out).mono ?_); rintro e y1 ⟨rfl, hz⟩
      have G1 := hid hz
      clear hz
      refine hK.out _ _ (G1.out.bl 0 rfl) (fun h1x => ?_)
      clear hK K
      try simp only [Act.put, lay_out]
      refine wpAnyH_ready (rs := [9, 11]) (by kernel_rfl) (by simp) (AllReadyH.cons rfl (fun K hK => ?_) (AllReadyH.cons rfl (fun K hK => ?_) AllReadyH.nil))
      · rw [if_pos (by rfl)]
        go_simp
        go_at_call 11
        (with_reducible refine (HC2.out _ _ _ _ _ G1.out).mono ?_); rintro e y2 ⟨rfl, hz⟩
        have G2 := hid hz
        clear hz
        refine hK.out _ _ (G2.out.bl 0 rfl) (fun h2x => ?_)
        clear hK K
        try simp only [Act.put, lay_out]
        refine wpAnyH_ready (rs := [10, 11]) (by kernel_rfl) (by simp) (AllReadyH.cons rfl (fun K hK => ?_) (AllReadyH.cons rfl (fun K hK => ?_) AllReadyH.nil))
        · rw [if_pos (by rfl)]
          go_simp
          go_at_call 21
          (with_reducible refine (HC3.out _ _ _ _ _ G2.out).mono ?_); rintro e y3 ⟨rfl, hz⟩
          have G3 := hid hz
          clear hz
          refine hK.out _ _ (G3.out.bl 0 rfl) (fun h3x => ?_)
          clear hK K
          try simp only [Act.put, lay_out]
          refine wpAnyH_ready (rs := [11]) (by kernel_rfl) (by simp) (AllReadyH.cons rfl (fun K hK => ?_) AllReadyH.nil)
          rw [if_pos (by rfl)]
          go_simp
          have G4 := hid (G3.out.new hM #[.int .i64 0, .int .i64 0, .int .i64 0] 39)
          refine hK.out _ _ (G4.out.bl 1 rfl) (fun h4x => ?_)
          clear hK K
          try simp only [Act.put, lay_out]
          generalize y3.alloc (.cells #[.int .i64 0, .int .i64 0, .int .i64 0] 39) = y4 at *
          refine wpAnyH_ready (rs := [12]) (by kernel_rfl) (by simp) (AllReadyH.cons rfl (fun K hK => ?_) AllReadyH.nil)
          rw [if_pos (by rfl)]
          refine wp_store_row 39 _ _ rfl (y3.heap.size) (wdV R) rfl rfl 39 _ (G4.out.bl 0 rfl) (by kernel_rfl) rfl (by kernel_rfl) ?_
          have G5 := hid (G4.out.row hM (wdV R))
          refine hK.out _ _ (G5.out.bl 1 rfl) (fun h5x => ?_)
          clear hK K
          try simp only [Act.put, lay_out]
          refine wpAnyH_done (by kernel_rfl) ?_ _
          refine NoPanic.normal ?_
          clear h0 h1x h2x h3x h4x h5x
          try simp only [Act.put, lay_out]
          go_wp2_with fail
          go_meet
          exact ⟨_, rfl, G5.out⟩
        · rw [if_pos (by rfl)]
          go_simp
          have G3 := hid (G2.out.new hM #[.int .i64 0, .int .i64 0, .int .i64 0] 39)
          refine hK.out _ _ (G3.out.bl 1 rfl) (fun h3x => ?_)
          clear hK K
          try simp only [Act.put, lay_out]
          generalize y2.alloc (.cells #[.int .i64 0, .int .i64 0, .int .i64 0] 39) = y3 at *
          refine wpAnyH_ready (rs := [10]) (by kernel_rfl) (by simp) (AllReadyH.cons rfl (fun K hK => ?_) AllReadyH.nil)
          rw [if_pos (by rfl)]
          go_simp
          go_at_call 21
          (with_reducible refine (HC3.out _ _ _ _ _ G3.out).mono ?_); rintro e y4 ⟨rfl, hz⟩
          have G4 := hid hz
          clear hz
          refine hK.out _ _ (G4.out.bl 1 rfl) (fun h4x => ?_)
          clear hK K
          try simp only [Act.put, lay_out]
          refine wpAnyH_ready (rs := [12]) (by kernel_rfl) (by simp) (AllReadyH.cons rfl (fun K hK => ?_) AllReadyH.nil)
          rw [if_pos (by rfl)]
          refine wp_store_row 39 _ _ rfl (y2.heap.size) (wdV R) rfl rfl 39 _ (G4.out.bl 0 rfl) (by kernel_rfl) rfl (by kernel_rfl) ?_
          have G5 := hid (G4.out.row hM (wdV R))
          refine hK.out _ _ (G5.out.bl 1 rfl) (fun h5x => ?_)
          clear hK K
          try simp only [Act.put, lay_out]
          refine wpAnyH_done (by kernel_rfl) ?_ _
          refine NoPanic.normal ?_
          clear h0 h1x h2x h3x h4x h5x
          try simp only [Act.put, lay_out]
          go_wp2_with fail
          go_meet
          exact ⟨_, rfl, G5.out⟩
      · rw [if_pos (by rfl)]
        go_simp
        have G2 := hid (G1.out.new hM #[.int .i64 0, .int .i64 0, .int .i64 0] 39)
        refine hK.out _ _ (G2.out.bl 1 rfl) (fun h2x => ?_)
        clear hK K
        try simp only [Act.put, lay_out]
        generalize y1.alloc (.cells #[.int .i64 0, .int .i64 0, .int .i64 0] 39) = y2 at *
        refine wpAnyH_ready (rs := [9]) (by kernel_rfl) (by simp) (AllReadyH.cons rfl (fun K hK => ?_) AllReadyH.nil)
        rw [if_pos (by rfl)]
        go_simp
        go_at_call 11
        (with_reducible refine (HC2.out _ _ _ _ _ G2.out).mono ?_); rintro e y3 ⟨rfl, hz⟩
        have G3 := hid hz
        clear hz
        refine hK.out _ _ (G3.out.bl 1 rfl) (fun h3x => ?_)
        clear hK K
        try simp only [Act.put, lay_out]
        refine wpAnyH_ready (rs := [10]) (by kernel_rfl) (by simp) (AllReadyH.cons rfl (fun K hK => ?_) AllReadyH.nil)
        rw [if_pos (by rfl)]
        go_simp
        go_at_call 21
        (with_reducible refine (HC3.out _ _ _ _ _ G3.out).mono ?_); rintro e y4 ⟨rfl, hz⟩
        have G4 := hid hz
        clear hz
        refine hK.out _ _ (G4.out.bl 1 rfl) (fun h4x => ?_)
        clear hK K
        try simp only [Act.put, lay_out]
        refine wpAnyH_ready (rs := [12]) (by kernel_rfl) (by simp) (AllReadyH.cons rfl (fun K hK => ?_) AllReadyH.nil)
        rw [if_pos (by rfl)]
        refine wp_store_row 39 _ _ rfl (y1.heap.size) (wdV R) rfl rfl 39 _ (G4.out.bl 0 rfl) (by kernel_rfl) rfl (by kernel_rfl) ?_
        have G5 := hid (G4.out.row hM (wdV R))
        refine hK.out _ _ (G5.out.bl 1 rfl) (fun h5x => ?_)
        clear hK K
        try simp only [Act.put, lay_out]
        refine wpAnyH_done (by kernel_rfl) ?_ _
        refine NoPanic.normal ?_
        clear h0 h1x h2x h3x h4x h5x
        try simp only [Act.put, lay_out]
        go_wp2_with fail
        go_meet
        exact ⟨_, rfl, G5.out⟩
    · rw [if_pos (by rfl)]
      go_simp
      have G1 := hid (G0.out.new hM #[.int .i64 0, .int .i64 0, .int .i64 0] 39)
      refine hK.out _ _ (G1.out.bl 1 rfl) (fun h1x => ?_)
      clear hK K
      try simp only [Act.put, lay_out]
      generalize y0.alloc (.cells #[.int .i64 0, .int .i64 0, .int .i64 0] 39) = y1 at *
      refine wpAnyH_ready (rs := [5]) (by kernel_rfl) (by simp) (AllReadyH.cons rfl (fun K hK => ?_) AllReadyH.nil)
      rw [if_pos (by rfl)]
      go_simp
      go_at_call 11
      (with_reducible refine (HC1.out _ _ _ _ _ G1.out).mono ?_); rintro e y2 ⟨rfl, hz⟩
      have G2 := hid hz
      clear hz
      refine hK.out _ _ (G2.out.bl 1 rfl) (fun h2x => ?_)
      clear hK K
      try simp only [Act.put, lay_out]
      refine wpAnyH_ready (rs := [9]) (by kernel_rfl) (by simp) (AllReadyH.cons rfl (fun K hK => ?_) AllReadyH.nil)
      rw [if_pos (by rfl)]
      go_simp
      go_at_call 11
      (with_reducible refine (HC2.out _ _ _ _ _ G2.out).mono ?_); rintro e y3 ⟨rfl, hz⟩
      have G3 := hid hz
      clear hz
      refine hK.out _ _ (G3.out.bl 1 rfl) (fun h3x => ?_)
      clear hK K
      try simp only [Act.put, lay_out]
      refine wpAnyH_ready (rs := [10]) (by kernel_rfl) (by simp) (AllReadyH.cons rfl (fun K hK => ?_) AllReadyH.nil)
      rw [if_pos (by rfl)]
      go_simp
      go_at_call 21
      (with_reducible refine (HC3.out _ _ _ _ _ G3.out).mono ?_); rintro e y4 ⟨rfl, hz⟩
      have G4 := hid hz
      clear hz
      refine hK.out _ _ (G4.out.bl 1 rfl) (fun h4x => ?_)
      clear hK K
      try simp only [Act.put, lay_out]
      refine wpAnyH_ready (rs := [12]) (by kernel_rfl) (by simp) (AllReadyH.cons rfl (fun K hK => ?_) AllReadyH.nil)
      rw [if_pos (by rfl)]
      refine wp_store_row 39 _ _ rfl (y0.heap.size) (wdV R) rfl rfl 39 _ (G4.out.bl 0 rfl) (by kernel_rfl) rfl (by kernel_rfl) ?_
      have G5 := hid (G4.out.row hM (wdV R))
      refine hK.out _ _ (G5.out.bl 1 rfl) (fun h5x => ?_)
      clear hK K
      try simp only [Act.put, lay_out]
      refine wpAnyH_done (by kernel_rfl) ?_ _
      refine NoPanic.normal ?_
      clear h0 h1x h2x h3x h4x h5x
      try simp only [Act.put, lay_out]
      go_wp2_with fail
      go_meet
      exact ⟨_, rfl, G5.out⟩
  case rest =>
    obtain ⟨b3, rfl, hcut⟩ := hcut
    have H8 := hid hcut
    clear hcut H3
    obtain ⟨w8, hw8⟩ : ∃ w8, wc = w8 := ⟨_, rfl⟩
    subst hw8
    go_upto_region 5 with fail
    have G0 := hid (H8.out.self hM ((Below.refl _ wc).drew))
    refine wp_region_noPanic ?_
    refine wp_region_held_drew (S := fun w' => w'.heap[b1]? = some (.cells (paC p b (.slice none 0 0) (.slice none 0 0)) 32 (0, 0)) ∧ w'.heap[b3]? = some (.cells (wdV R) 39 (0, 0))) (by kernel_rfl) (⟨G0.out.bl 1 rfl, G0.out.bl 0 rfl⟩) (fun h0 => ?_)
    generalize wc.drew = y0 at *
    refine wpAnyH_take (i := 0) (v := .pointer (some ⟨b1, 0, none⟩)) rfl (by kernel_rfl) (by kernel_rfl) (by kernel_rfl) (fun _ _ _ h => h) (.inl ⟨by rfl, fun w hw => by clear hw; go_simp⟩) h0 ?_
    try simp only [Act.put, lay_out]
    refine wpAnyH_take (i := 1) (v := .pointer (some ⟨p, 0, none⟩)) rfl (by kernel_rfl) (by kernel_rfl) (by kernel_rfl) (fun _ _ _ h => h) (.inl ⟨by rfl, fun w' hw => by have hc := row_c (i := 0) (u := .pointer (some ⟨p, 0, none⟩)) hw.1 rfl; clear hw; go_simp⟩) h0 ?_
    try simp only [Act.put, lay_out]
    refine wpAnyH_take (i := 3) (v := .agg (wdV R)) rfl (by kernel_rfl) (by kernel_rfl) (by kernel_rfl) (fun _ _ _ h => h) (yields_load_row (by rfl) 39 _ rfl b3 39 (wdV R) _ rfl (fun w h => h.2) Try.underlying39 rfl (by kernel_rfl)) h0 ?_
    try simp only [Act.put, lay_out]
    refine wpAnyH_ready (rs := [2]) (by kernel_rfl) (by simp) (AllReadyH.cons rfl (fun K hK => ?_) AllReadyH.nil)
    rw [if_pos (by rfl)]
    go_simp
    go_at_call 19
    (with_reducible refine (HVL.out _ _ _ _ _ G0.out).mono ?_); rintro e y1 ⟨⟨v, rfl, hv⟩, hz⟩
    have G1 := hid hz
    have V1 := hid hv
    clear hz hv
    refine hK.out _ _ (⟨G1.out.bl 1 rfl, G1.out.bl 0 rfl⟩) (fun h1x => ?_)
    clear hK K
    try simp only [Act.put, lay_out]
    refine wpAnyH_ready (rs := [4]) (by kernel_rfl) (by simp) (AllReadyH.cons rfl (fun K hK => ?_) AllReadyH.nil)
    rw [if_pos (by rfl)]
    go_simp
    go_at_call 18
    (with_reducible refine (HVV.out _ _ V1.out).mono ?_); rintro e y2 ⟨rfl, hb⟩
    have G2 := hid (G1.out.self hM hb)
    clear hb
    refine hK.out _ _ (⟨G2.out.bl 1 rfl, G2.out.bl 0 rfl⟩) (fun h2x => ?_)
    clear hK K
    try simp only [Act.put, lay_out]
    refine wpAnyH_take (i := 5) (v := .bool true) rfl (by kernel_rfl) (by kernel_rfl) (by kernel_rfl) (fun _ _ _ h => h) (.inl ⟨by rfl, fun w hw => by clear hw; go_simp⟩) h2x ?_
    try simp only [Act.put, lay_out]
    refine wpAnyH_take (i := 6) (v := .bool true) rfl (by kernel_rfl) (by kernel_rfl) (by kernel_rfl) (fun _ _ _ h => h) (.inl ⟨by rfl, fun w hw => by clear hw; go_simp⟩) h2x ?_
    try simp only [Act.put, lay_out]
    refine wpAnyH_done (by kernel_rfl) ?_ _
    refine NoPanic.normal ?_
    clear h0 h1x h2x
    try simp only [Act.put, lay_out]
    go_wp2
    go_ret
    exact ⟨rfl, HLOW.out.trans (G2.out.fin.1.low.mono (by have := HSZ.out; omega))⟩
end Go.Proofs.Ytflfnaiklnbaiaa

/- Times: machines over all masks of one bit. -/
namespace Go.Proofs.Ytflfnaiklnbaiaa
set_option maxRecDepth 100000
def mT (n : Nat) : Nat := if n = 3 then 3 else 1
def twT (k : Nat) : Nat → Nat := fun i => k / 2 ^ i % 2
def thS0 (n k : Nat) : Ms := startD (n : Int) 60 (twT k) (mT n) 0 (mT n)
def thA (n k : Nat) (x : Nat → Nat) : Nat → Int := eaR (thS0 n k) (opC x) 0 none3 n
def thS1 (n k : Nat) (x : Nat → Nat) : Ms := eaS (thS0 n k) (opC x) 0 n
def thB (n k : Nat) (x y : Nat → Nat) : Nat → Int := eaR (thS1 n k x) (opC y) 0 none3 n
def thS2 (n k : Nat) (x y : Nat → Nat) : Ms := eaS (thS1 n k x) (opC y) 0 n
def thS (n k : Nat) (dom : Bool) (x y : Nat → Nat) : Ms := tmS (thS2 n k x y) dom (thA n k x) (thB n k x y)
def thR (n k : Nat) (dom : Bool) (x y : Nat → Nat) : Nat → Int := tmR (thS2 n k x y) dom (thA n k x) (thB n k x y)
/-- The lowest bits of three words, in one number. -/
def bit3 (x : Nat → Nat) : Nat := x 0 % 2 + 2 * (x 1 % 2) + 4 * (x 2 % 2)
theorem bit3_lt (x : Nat → Nat) : bit3 x < 8 := by unfold bit3; omega
theorem bit3_at (x : Nat → Nat) : (bit3 x).testBit 0 = (x 0).testBit 0 ∧ (bit3 x).testBit 1 = (x 1).testBit 0 ∧ (bit3 x).testBit 2 = (x 2).testBit 0 := by
  simp only [Nat.testBit_eq_decide_div_mod_eq]
  unfold bit3
  refine ⟨?_, ?_, ?_⟩
  · congr 1; simp only [Nat.reducePow]; apply propext; omega
  · congr 1; simp only [Nat.reducePow]; apply propext; omega
  · congr 1; simp only [Nat.reducePow]; apply propext; omega
theorem twT_bit (k j : Nat) : (twT k j).testBit 0 = k.testBit j := by
  simp only [Nat.testBit_eq_decide_div_mod_eq]
  unfold twT
  congr 1; simp only [Nat.pow_zero, Nat.div_one]; apply propext; omega
theorem tmB_at (n : Int) (dom : Bool) (x y x' y' μ : Nat → Bool) (i : Nat) (h0 : x 0 = x' 0) (h1 : x 1 = x' 1) (h2 : x 2 = x' 2) (g0 : y 0 = y' 0) (g1 : y 1 = y' 1) (g2 : y 2 = y' 2) : tmB n dom x y μ i = tmB n dom x' y' μ i := by
  unfold tmB
  rw [h0, h1, h2, g0, g1, g2]
theorem th_core {S : Ms} {A B : Nat → Int} {nn k : Nat} {x y : Nat → Nat} {dom : Bool} (hn : nn = 2 ∨ nn = 3) (s2 : S.L = 2 * nn) (s3 : S.used = 0) (s4 : S.skip = 0) (s5 : S.dry = false) (s6 : S.n = (nn : Int)) (s7 : S.tw = twT k)
    (a : ∀ j, j < 3 → A j = if j < nn then (j : Int) else -1) (b : ∀ j, j < 3 → B j = if j < nn then ((nn + j : Nat) : Int) else -1) (va : ∀ j, j < nn → wordAt S.v S.L (A j) = x j) (vb : ∀ j, j < nn → wordAt S.v S.L (B j) = y j) (he : (tmS S dom A B).e = 0) :
    ∀ i, i < nn → ∃ q : Nat, tmR S dom A B i = (q : Int) ∧ q < (tmS S dom A B).L ∧ (tmS S dom A B).v q % 2 = tbN nn dom (bit3 x) (bit3 y) k i := by
  intro i hi
  have hsh : S.sh = nn := by unfold Ms.sh; rw [s6]; rfl
  have gA : Gw S A := ⟨fun j hj => by rw [a j hj, s2]; split <;> omega, fun j h1 h2 => by rw [a j h2, if_neg (by omega)]; decide⟩
  have gB : Gw S B := ⟨fun j hj => by rw [b j hj, s2]; split <;> omega, fun j h1 h2 => by rw [b j h2, if_neg (by omega)]; decide⟩
  obtain ⟨q, hq, hw⟩ := tm_words (S := S) (dom := dom) (A := A) (B := B) s4 s5 (by rw [s6]; omega) gA gB he
  obtain ⟨e1, e2⟩ := (hq i (by omega)).1 (by omega)
  refine ⟨q i, e1, e2, ?_⟩
  have e3 := hw i (by omega)
  rw [e3, tmW_bit, s6, s3, s7]
  unfold tbN
  congr 1
  rw [show (fun j => (twT k (0 + j)).testBit 0) = fun j => k.testBit j from funext fun j => by rw [Nat.zero_add]; exact twT_bit k j]
  rcases hn with rfl | rfl
  · unfold tmB
    simp only [show ¬ (((2 : Nat) : Int) = 3) by decide, if_false]
    rw [va 0 (by omega), (bit3_at x).1, va 1 (by omega), (bit3_at x).2.1, vb 0 (by omega), (bit3_at y).1, vb 1 (by omega), (bit3_at y).2.1]
  · exact tmB_at _ _ _ _ _ _ _ _ (by rw [va 0 (by omega), (bit3_at x).1]) (by rw [va 1 (by omega), (bit3_at x).2.1]) (by rw [va 2 (by omega), (bit3_at x).2.2]) (by rw [vb 0 (by omega), (bit3_at y).1]) (by rw [vb 1 (by omega), (bit3_at y).2.1]) (by rw [vb 2 (by omega), (bit3_at y).2.2])
theorem th_s2 (k : Nat) (x y : Nat → Nat) : (thS2 2 k x y).e = 0 ∧ (thS2 2 k x y).L = 2 * 2 ∧ (thS2 2 k x y).used = 0 ∧ (thS2 2 k x y).skip = 0 ∧ (thS2 2 k x y).dry = false ∧ (thS2 2 k x y).n = ((2 : Nat) : Int) ∧ (thS2 2 k x y).tw = twT k := ⟨by kernel_rfl, by kernel_rfl, by kernel_rfl, by kernel_rfl, by kernel_rfl, by kernel_rfl, by kernel_rfl⟩
theorem th_a20 (k : Nat) (x y : Nat → Nat) : thA 2 k x 0 = 0 ∧ thB 2 k x y 0 = 2 := ⟨by kernel_rfl, by kernel_rfl⟩
theorem th_v20 (k : Nat) (x y : Nat → Nat) : wordAt (thS2 2 k x y).v (thS2 2 k x y).L (thA 2 k x 0) = x 0 ∧ wordAt (thS2 2 k x y).v (thS2 2 k x y).L (thB 2 k x y 0) = y 0 := ⟨by kernel_rfl, by kernel_rfl⟩
theorem th_a21 (k : Nat) (x y : Nat → Nat) : thA 2 k x 1 = 1 ∧ thB 2 k x y 1 = 3 := ⟨by kernel_rfl, by kernel_rfl⟩
theorem th_v21 (k : Nat) (x y : Nat → Nat) : wordAt (thS2 2 k x y).v (thS2 2 k x y).L (thA 2 k x 1) = x 1 ∧ wordAt (thS2 2 k x y).v (thS2 2 k x y).L (thB 2 k x y 1) = y 1 := ⟨by kernel_rfl, by kernel_rfl⟩
theorem th_a22 (k : Nat) (x y : Nat → Nat) : thA 2 k x 2 = -1 ∧ thB 2 k x y 2 = -1 := ⟨by kernel_rfl, by kernel_rfl⟩
theorem th_ok2 (k : Nat) (dom : Bool) (x y : Nat → Nat) : (thS 2 k dom x y).e = 0 ∧ ∀ i, i < 2 → ∃ q : Nat, thR 2 k dom x y i = (q : Int) ∧ q < (thS 2 k dom x y).L ∧ (thS 2 k dom x y).v q % 2 = tbN 2 dom (bit3 x) (bit3 y) k i := by
  have he : (tmS (thS2 2 k x y) dom (thA 2 k x) (thB 2 k x y)).e = 0 := by cases dom <;> kernel_rfl
  have s := th_s2 k x y
  unfold thS thR
  refine ⟨he, th_core (S := thS2 2 k x y) (A := thA 2 k x) (B := thB 2 k x y) (nn := 2) (by decide) s.2.1 s.2.2.1 s.2.2.2.1 s.2.2.2.2.1 s.2.2.2.2.2.1 s.2.2.2.2.2.2 (fun j hj => ?_) (fun j hj => ?_) (fun j hj => ?_) (fun j hj => ?_) he⟩
  · match j, hj with
    | 0, _ => exact (th_a20 k x y).1
    | 1, _ => exact (th_a21 k x y).1
    | 2, _ => exact (th_a22 k x y).1
  · match j, hj with
    | 0, _ => exact (th_a20 k x y).2
    | 1, _ => exact (th_a21 k x y).2
    | 2, _ => exact (th_a22 k x y).2
  · match j, hj with
    | 0, _ => exact (th_v20 k x y).1
    | 1, _ => exact (th_v21 k x y).1
  · match j, hj with
    | 0, _ => exact (th_v20 k x y).2
    | 1, _ => exact (th_v21 k x y).2
theorem th_s3 (k : Nat) (x y : Nat → Nat) : (thS2 3 k x y).e = 0 ∧ (thS2 3 k x y).L = 2 * 3 ∧ (thS2 3 k x y).used = 0 ∧ (thS2 3 k x y).skip = 0 ∧ (thS2 3 k x y).dry = false ∧ (thS2 3 k x y).n = ((3 : Nat) : Int) ∧ (thS2 3 k x y).tw = twT k := ⟨by kernel_rfl, by kernel_rfl, by kernel_rfl, by kernel_rfl, by kernel_rfl, by kernel_rfl, by kernel_rfl⟩
theorem th_a30 (k : Nat) (x y : Nat → Nat) : thA 3 k x 0 = 0 ∧ thB 3 k x y 0 = 3 := ⟨by kernel_rfl, by kernel_rfl⟩
theorem th_v30 (k : Nat) (x y : Nat → Nat) : wordAt (thS2 3 k x y).v (thS2 3 k x y).L (thA 3 k x 0) = x 0 ∧ wordAt (thS2 3 k x y).v (thS2 3 k x y).L (thB 3 k x y 0) = y 0 := ⟨by kernel_rfl, by kernel_rfl⟩
theorem th_a31 (k : Nat) (x y : Nat → Nat) : thA 3 k x 1 = 1 ∧ thB 3 k x y 1 = 4 := ⟨by kernel_rfl, by kernel_rfl⟩
theorem th_v31 (k : Nat) (x y : Nat → Nat) : wordAt (thS2 3 k x y).v (thS2 3 k x y).L (thA 3 k x 1) = x 1 ∧ wordAt (thS2 3 k x y).v (thS2 3 k x y).L (thB 3 k x y 1) = y 1 := ⟨by kernel_rfl, by kernel_rfl⟩
theorem th_a32 (k : Nat) (x y : Nat → Nat) : thA 3 k x 2 = 2 ∧ thB 3 k x y 2 = 5 := ⟨by kernel_rfl, by kernel_rfl⟩
theorem th_v32 (k : Nat) (x y : Nat → Nat) : wordAt (thS2 3 k x y).v (thS2 3 k x y).L (thA 3 k x 2) = x 2 ∧ wordAt (thS2 3 k x y).v (thS2 3 k x y).L (thB 3 k x y 2) = y 2 := ⟨by kernel_rfl, by kernel_rfl⟩
theorem th_ok3 (k : Nat) (dom : Bool) (x y : Nat → Nat) : (thS 3 k dom x y).e = 0 ∧ ∀ i, i < 3 → ∃ q : Nat, thR 3 k dom x y i = (q : Int) ∧ q < (thS 3 k dom x y).L ∧ (thS 3 k dom x y).v q % 2 = tbN 3 dom (bit3 x) (bit3 y) k i := by
  have he : (tmS (thS2 3 k x y) dom (thA 3 k x) (thB 3 k x y)).e = 0 := by cases dom <;> kernel_rfl
  have s := th_s3 k x y
  unfold thS thR
  refine ⟨he, th_core (S := thS2 3 k x y) (A := thA 3 k x) (B := thB 3 k x y) (nn := 3) (by decide) s.2.1 s.2.2.1 s.2.2.2.1 s.2.2.2.2.1 s.2.2.2.2.2.1 s.2.2.2.2.2.2 (fun j hj => ?_) (fun j hj => ?_) (fun j hj => ?_) (fun j hj => ?_) he⟩
  · match j, hj with
    | 0, _ => exact (th_a30 k x y).1
    | 1, _ => exact (th_a31 k x y).1
    | 2, _ => exact (th_a32 k x y).1
  · match j, hj with
    | 0, _ => exact (th_a30 k x y).2
    | 1, _ => exact (th_a31 k x y).2
    | 2, _ => exact (th_a32 k x y).2
  · match j, hj with
    | 0, _ => exact (th_v30 k x y).1
    | 1, _ => exact (th_v31 k x y).1
    | 2, _ => exact (th_v32 k x y).1
  · match j, hj with
    | 0, _ => exact (th_v30 k x y).2
    | 1, _ => exact (th_v31 k x y).2
    | 2, _ => exact (th_v32 k x y).2
theorem th_ok {n : Nat} (hn : n = 2 ∨ n = 3) (k : Nat) (dom : Bool) (x y : Nat → Nat) : (thS n k dom x y).e = 0 ∧ ∀ i, i < n → ∃ q : Nat, thR n k dom x y i = (q : Int) ∧ q < (thS n k dom x y).L ∧ (thS n k dom x y).v q % 2 = tbN n dom (bit3 x) (bit3 y) k i := by
  rcases hn with rfl | rfl
  · exact th_ok2 k dom x y
  · exact th_ok3 k dom x y
section
variable {n k : Nat} {x y : Nat → Nat} (hn : n = 2 ∨ n = 3) (hx : ∀ i, x i < 2 ^ 64) (hy : ∀ i, y i < 2 ^ 64)
include hn
theorem thS0_bq : Bq 0 (thS0 n k) := startD_bq (n : Int) 60 (twT k) (mT n) 0 (mT n) 0 (by omega) (by decide) (by decide) (by unfold mT; split <;> omega) (fun i _ => by unfold twT; omega) (by omega) (Nat.le_refl _)
include hx
theorem thS1_bq : Bq 3 (thS1 n k x) ∧ Wb (thA n k x) := ⟨(eaS_bq (thS0_bq hn) 0 n (fun j hj => opC_wf hx (by omega))).mono (by omega), eaR_wb (thS0_bq hn) 0 none3_wb n (fun j hj => opC_wf hx (by omega)) (by omega)⟩
include hy
theorem thS2_bq : Bq 6 (thS2 n k x y) ∧ Wb (thB n k x y) := ⟨(eaS_bq (thS1_bq hn hx).1 0 n (fun j hj => opC_wf hy (by omega))).mono (by omega), eaR_wb (thS1_bq hn hx).1 0 none3_wb n (fun j hj => opC_wf hy (by omega)) (by omega)⟩
theorem thS_bq (dom : Bool) : Bq 31 (thS n k dom x y) := tmS_bq (thS2_bq hn hx hy).1 (by decide) (thS1_bq hn hx).2 (thS2_bq hn hx hy).2
end
theorem thS2_n {n k : Nat} {x y : Nat → Nat} : (thS2 n k x y).n = (n : Int) := (eaS_n _ _ _ _).trans (eaS_n _ _ _ _)
theorem thS_keep {n k : Nat} {x y : Nat → Nat} (dom : Bool) : (thS n k dom x y).keep (thS n k dom x y).L = (thS n k dom x y).L := by
  have h : (thS n k dom x y).dry = false := (tmS_ext _ dom _ _).dry.trans ((eaS_ext _ _ _ _).dry.trans (eaS_ext _ _ _ _).dry)
  unfold Ms.keep
  rw [h]
  rfl
end Go.Proofs.Ytflfnaiklnbaiaa

/- Times: TimesEven over any machine. -/
namespace Go.Proofs.Ytflfnaiklnbaiaa
open Go.RowKit Go.Deep
set_option maxRecDepth 100000
/-- Boxes that are a walk's own. -/
structure Bx (lo : Nat) (W w : World) (bs : List (Nat × Obj)) : Prop where
  low : Below lo W w
  los : lo ≤ w.heap.size
  bx : ∀ q ∈ bs, lo ≤ q.1 ∧ w.heap[q.1]? = some q.2
  nd : (bs.map (·.1)).Nodup
section
variable {lo : Nat} {W w w' : World} {bs : List (Nat × Obj)}
theorem Bx.start (W : World) : Bx W.heap.size W W [] := ⟨Below.refl _ _, Nat.le_refl _, fun q hq => (List.not_mem_nil hq).elim, by simp⟩
theorem Bx.lt (h : Bx lo W w bs) {q : Nat × Obj} (hq : q ∈ bs) : q.1 < w.heap.size := (Array.getElem?_eq_some_iff.1 (h.bx q hq).2).1
theorem Bx.self (h : Bx lo W w bs) (hb : Below w.heap.size w w') : Bx lo W w' bs :=
  ⟨h.low.trans (hb.mono h.los), Nat.le_trans h.los hb.size, fun q hq => ⟨(h.bx q hq).1, (hb.block _ (h.lt hq)).trans (h.bx q hq).2⟩, h.nd⟩
theorem Bx.new (h : Bx lo W w bs) (cs : Array Value) (T : TypeId) : Bx lo W (w.alloc (.cells cs T)) ((w.heap.size, .cells cs T (0, 0)) :: bs) := by
  have h' := h.self ((Below.refl w.heap.size w).alloc (Nat.le_refl _) (.cells cs T))
  refine ⟨h'.low, h'.los, fun q hq => ?_, ?_⟩
  · rcases List.mem_cons.1 hq with rfl | hq
    · exact ⟨h.los, heap_alloc_new _ _⟩
    · exact h'.bx q hq
  · rw [List.map_cons, List.nodup_cons]
    refine ⟨fun e => ?_, h.nd⟩
    obtain ⟨q, hq, e⟩ := List.mem_map.1 e
    have := h.lt hq
    have e' : q.1 = w.heap.size := e
    omega
theorem Bx.sub {bs' : List (Nat × Obj)} (h : Bx lo W w bs) (hs : ∀ q ∈ bs', q ∈ bs) (hn : (bs'.map (·.1)).Nodup) : Bx lo W w bs' := ⟨h.low, h.los, fun q hq => h.bx q (hs q hq), hn⟩
theorem Bx.drop {q : Nat × Obj} (h : Bx lo W w (q :: bs)) : Bx lo W w bs := h.sub (fun _ hz => List.mem_cons_of_mem _ hz) (by have := h.nd; rw [List.map_cons, List.nodup_cons] at this; exact this.2)
theorem Bx.swap {q r : Nat × Obj} (h : Bx lo W w (q :: r :: bs)) : Bx lo W w (r :: q :: bs) := h.sub (fun z hz => by simp at hz ⊢; rcases hz with e | e | e <;> simp [e]) (by
  have := h.nd
  simp only [List.map_cons, List.nodup_cons, List.mem_cons, not_or] at this ⊢
  exact ⟨⟨fun e => this.1.1 e.symm, this.2.1⟩, this.1.2, this.2.2⟩)
theorem Bx.cell {n : Nat} {cs : Array Value} {T : TypeId} (h : Bx lo W w ((n, .cells cs T (0, 0)) :: bs)) (i : Nat) (v : Value) : Bx lo W (w.setCell ⟨n, i, none⟩ v) ((n, .cells (cs.setIfInBounds i v) T (0, 0)) :: bs) := by
  have hb := h.bx _ (List.mem_cons_self ..)
  have hnd := h.nd
  rw [List.map_cons, List.nodup_cons] at hnd
  have hT : Tch (fun k => k = n) w (w.setCell ⟨n, i, none⟩ v) := Tch.set w v rfl
  refine ⟨h.low.trans (hT.below (fun k hk => by have e : k = n := hk; rw [e]; exact hb.1) h.los), by simpa [World.setCell] using h.los, fun q hq => ?_, ?_⟩
  · rcases List.mem_cons.1 hq with rfl | hq
    · exact ⟨hb.1, heap_setCell_same w n i cs T v hb.2⟩
    · exact ⟨(h.bx q (List.mem_cons_of_mem _ hq)).1, (heap_setCell_other w ⟨n, i, none⟩ q.1 v (fun e => hnd.1 (List.mem_map.2 ⟨q, hq, e⟩))).trans (h.bx q (List.mem_cons_of_mem _ hq)).2⟩
  · rw [List.map_cons, List.nodup_cons]; exact hnd
theorem Bx.bl (h : Bx lo W w bs) (i : Nat) {n : Nat} {u : Obj} (hi : bs[i]? = some (n, u)) : w.heap[n]? = some u := (h.bx (n, u) (List.mem_of_getElem? hi)).2
end
theorem own_rdS {B : Nat} {E : TypeId} {w : World} {v : Value} {zs : List Int} (h : Own .u64 B E w v zs) (hz : ∀ z ∈ zs, (Lit.int .u64 z).wf = true) (hl : zs.length ≤ 1000) : RdS .u64 w (fun g => g < w.heap.size) v zs := by
  have hb : zs.length * (IntKind.u64.bits / 8) ≤ 140737488351232 := by rw [show IntKind.u64.bits / 8 = 8 from rfl]; omega
  by_cases h0 : 0 < zs.length
  · obtain ⟨g, cap, rfl, h1, h2, h3, _⟩ := h.part h0
    obtain ⟨_, ⟨hn, _⟩ | ⟨g2, cap2, cur, e, _, _, h4, h5, _⟩⟩ := h
    · cases hn
    · injection e with e1 e2 e3
      subst e3
      exact ⟨_, _, rfl, h4, h5, hb, hz, fun _ => ⟨g, 0, rfl, h2, h2, fun j hj => by rw [Nat.zero_add]; exact h3 j hj⟩⟩
  · obtain rfl : zs = [] := List.length_eq_zero_iff.1 (by omega)
    obtain ⟨_, ⟨rfl, _⟩ | ⟨g2, cap2, cur, rfl, _, _, h4, h5, _⟩⟩ := h
    · exact ⟨_, _, rfl, Nat.le_refl _, by decide, hb, hz, fun h => absurd h (by decide)⟩
    · exact ⟨_, _, rfl, h4, h5, hb, hz, fun h => absurd h (by decide)⟩
theorem wdL_next (f : Nat → Nat) (n : Nat) : wdL f (n + 1) = wdL f n ++ [(f n : Int)] := by unfold wdL; rw [List.range_succ, List.map_append]; rfl
theorem wdL_wf {f : Nat → Nat} {n : Nat} (h : ∀ i, f i < 2 ^ 64) : ∀ z ∈ wdL f n, (Lit.int .u64 z).wf = true := fun z hz => by
  unfold wdL at hz
  obtain ⟨i, _, rfl⟩ := List.mem_map.1 hz
  exact WalkArith.wf_u64 (by have := h i; omega)
theorem rowT2 : ∀ dom, ∀ a, a < 8 → ∀ b, b < 8 → ∀ o, o < 2 → ∀ k, k < 8 → rowT 2 dom a b o k 2 < 2 := by decide +kernel
theorem rowT3 : ∀ dom, ∀ a, a < 8 → ∀ b, b < 8 → ∀ o, o < 3 → ∀ k, k < 8 → rowT 3 dom a b o k 3 < 4 := by decide +kernel
theorem asC_x {w : World} {n : Nat} {t3 : Bool} {K : Int} {x y : Nat → Nat} {mv : Value} (h : w.heap[n]? = some (.cells (asC t3 K x y mv) 26 (0, 0))) : w.rangeAt n 2 (w3 x).toList := fun j v hv => by
  rcases (by omega : j = 0 ∨ j = 1 ∨ j = 2 ∨ 3 ≤ j) with rfl | rfl | rfl | hj
  · cases hv; exact row_c (i := 2) h rfl
  · cases hv; exact row_c (i := 3) h rfl
  · cases hv; exact row_c (i := 4) h rfl
  · rw [List.getElem?_eq_none (by simp; omega)] at hv; cases hv
theorem asC_y {w : World} {n : Nat} {t3 : Bool} {K : Int} {x y : Nat → Nat} {mv : Value} (h : w.heap[n]? = some (.cells (asC t3 K x y mv) 26 (0, 0))) : w.rangeAt n 5 (w3 y).toList := fun j v hv => by
  rcases (by omega : j = 0 ∨ j = 1 ∨ j = 2 ∨ 3 ≤ j) with rfl | rfl | rfl | hj
  · cases hv; exact row_c (i := 5) h rfl
  · cases hv; exact row_c (i := 6) h rfl
  · cases hv; exact row_c (i := 7) h rfl
  · rw [List.getElem?_eq_none (by simp; omega)] at hv; cases hv
theorem yields_load_w3 {ops : Array Oper} {S : World → Prop} {o : Oper} {a : Act} (hw : Region.wanted o (yielded ops a.tmps) = true) (t : Operand) (ho : o.op = .load 23 t)
    (b off : Nat) (x : Nat → Nat) (hx : a.eval t = .pointer (some ⟨b, off, none⟩)) (hS : ∀ w, S w → w.rangeAt b off (w3 x).toList) : YieldsIf Try.prog ops S o (.agg (w3 x)) a := by
  have := yieldsIf_load_mid (P := Try.prog) hw 23 t ho b off hx (w3 x).toList _ hS Try.underlying23 rfl (by kernel_rfl)
  simpa using this
end Go.Proofs.Ytflfnaiklnbaiaa
