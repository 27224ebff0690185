import Derived.Test.YtinihebnajaejaaDoorMgai
import Derived.Test.YtinihebnajaejaaDoorMgah
import Derived.Test.YtinihebnajaejaaDoorProg
import Derived.Test.YtinihebnajaejaaDoorMgaq
/- Fresh: machines over all masks of one bit. -/
namespace Go.Proofs.YtinihebnajaejaaDoor
set_option maxRecDepth 100000
def bbB (B j : Nat) : Nat := B / 2 ^ j % 2
def opB (B : Nat) (j : Nat) : Op6 := ⟨3, (j : Int), -1, -1, -1, bbB B j⟩
/-- How many masks, of n shares. -/
def mN (n : Nat) : Nat := if n = 3 then 3 else 1
def twK (k : Nat) : Nat → Nat := fun i => k / 2 ^ i % 2
def evS0 (n k : Nat) : Ms := startD (n : Int) 40 (twK k) (mN n) 0 (mN n)
def evA (n k B : Nat) : Nat → Int := eaR (evS0 n k) (opB B) 0 none3 n
def evS1 (n k B : Nat) : Ms := eaS (evS0 n k) (opB B) 0 n
def evS (n k B : Nat) (sm : Bool) : Ms := frS (evS1 n k B) sm (evA n k B)
def evR (n k B : Nat) (sm : Bool) : Nat → Int := frR (evS1 n k B) sm (evA n k B)
/-- The bit of share i, made fresh. -/
def fb (n B k : Nat) (sm : Bool) (i : Nat) : Nat :=
  if n = 3 then
    if sm = true then (if i = 0 then bbB B 0 + bbB k 0 + bbB k 1 else if i = 1 then bbB B 1 + bbB k 0 else bbB B 2 + bbB k 1) % 2
    else (if i = 0 then bbB B 0 + bbB k 0 + bbB k 1 else if i = 1 then bbB B 1 + bbB k 0 + bbB k 2 else bbB B 2 + bbB k 1 + bbB k 2) % 2
  else (bbB B i + bbB k 0) % 2
def chk (n k B : Nat) (sm : Bool) : Bool :=
  (evS n k B sm).e == 0 && (List.range n).all fun i => decide (0 ≤ evR n k B sm i) && decide (evR n k B sm i < ((evS n k B sm).L : Int)) && ((evS n k B sm).v (evR n k B sm i).toNat % 2 == fb n B k sm i)
theorem chk2 : ∀ k, k < 8 → ∀ B, B < 8 → ∀ sm, chk 2 k B sm = true := by decide +kernel
theorem chk3 : ∀ k, k < 8 → ∀ B, B < 8 → ∀ sm, chk 3 k B sm = true := by decide +kernel
theorem bbB_mod (B : Nat) {j : Nat} (hj : j < 3) : bbB (B % 8) j = bbB B j := by
  unfold bbB
  rcases (by omega : j = 0 ∨ j = 1 ∨ j = 2) with rfl | rfl | rfl <;> simp only [Nat.reducePow] <;> omega
theorem ea_congr (S : Ms) {op op' : Nat → Op6} (W : Nat → Int) : ∀ {m}, (∀ j, j < m → op j = op' j) → eaS S op 0 m = eaS S op' 0 m ∧ eaR S op 0 W m = eaR S op' 0 W m
  | 0, _ => ⟨rfl, rfl⟩
  | m + 1, h => by
    obtain ⟨h1, h2⟩ := ea_congr S W (m := m) (fun j hj => h j (by omega))
    unfold eaS eaR
    rw [h1, h2, Nat.zero_add, h m (by omega)]
    exact ⟨rfl, rfl⟩
theorem ev_mod {n : Nat} (hn : n ≤ 3) (k B : Nat) (sm : Bool) : evS n k (B % 8) sm = evS n k B sm ∧ evR n k (B % 8) sm = evR n k B sm := by
  obtain ⟨h1, h2⟩ := ea_congr (evS0 n k) none3 (op := opB (B % 8)) (op' := opB B) (m := n) (fun j hj => by unfold opB; rw [bbB_mod B (by omega)])
  unfold evS evR evS1 evA
  rw [h1, h2]
  exact ⟨rfl, rfl⟩
theorem ev_ok {n k B : Nat} (hn : n = 2 ∨ n = 3) (hk : k < 8) (sm : Bool) : (evS n k B sm).e = 0 ∧ ∀ i, i < n → ∃ q : Nat, evR n k B sm i = (q : Int) ∧ q < (evS n k B sm).L ∧ (evS n k B sm).v q % 2 = fb n (B % 8) k sm i := by
  obtain ⟨e1, e2⟩ := ev_mod (n := n) (by omega) k B sm
  have hB : B % 8 < 8 := Nat.mod_lt _ (by decide)
  have hc : chk n k (B % 8) sm = true := by
    rcases hn with rfl | rfl
    · exact chk2 k hk _ hB sm
    · exact chk3 k hk _ hB sm
  unfold chk at hc
  rw [e1, e2, Bool.and_eq_true, beq_iff_eq, List.all_eq_true] at hc
  refine ⟨hc.1, fun i hi => ?_⟩
  have h := hc.2 i (List.mem_range.2 hi)
  rw [Bool.and_eq_true, Bool.and_eq_true, decide_eq_true_eq, decide_eq_true_eq, beq_iff_eq] at h
  exact ⟨(evR n k B sm i).toNat, by omega, by omega, h.2⟩
/-- The row of bits, but for share o, of the first i shares. -/
def rowB (n B o k : Nat) : Nat → Nat
  | 0 => 0
  | i + 1 => if i = o then rowB n B o k i else rowB n B o k i * 2 + fb n B k false i
/-- How often each row was met, in the first k rounds. -/
def cntB (n B o : Nat) : Nat → Nat → Nat
  | 0 => fun _ => 0
  | k + 1 => upd (cntB n B o k) (rowB n B o k n) (cntB n B o k (rowB n B o k n) + 1)
/-- How often each share's bit was met, simply fresh. -/
def alnI (n B k : Nat) (f : Nat → Nat) : Nat → Nat → Nat
  | 0 => f
  | i + 1 => upd (alnI n B k f i) (2 * i + fb n B k true i) (alnI n B k f i (2 * i + fb n B k true i) + 1)
def alnB (n B : Nat) : Nat → Nat → Nat
  | 0 => fun _ => 0
  | k + 1 => alnI n B k (alnB n B k) n
theorem fb_lt (n B k : Nat) (sm : Bool) (i : Nat) : fb n B k sm i < 2 := by
  unfold fb
  repeat' split
  all_goals exact Nat.mod_lt _ (by decide)
theorem row_lt {n B o k : Nat} : ∀ {i}, i ≤ 3 → rowB n B o k i < 2 ^ i
  | 0, _ => Nat.one_pos
  | i + 1, hi => by
    have h := row_lt (n := n) (B := B) (o := o) (k := k) (i := i) (by omega)
    have hf := fb_lt n B k false i
    unfold rowB
    rw [Nat.pow_succ]
    split <;> omega
theorem cntB_le {n B o : Nat} : ∀ {k} j, cntB n B o k j ≤ k
  | 0, _ => Nat.le_refl _
  | k + 1, j => by
    unfold cntB upd
    have := cntB_le (n := n) (B := B) (o := o) (k := k) j
    split
    · have := cntB_le (n := n) (B := B) (o := o) (k := k) (rowB n B o k n); omega
    · omega
theorem alnI_le {n B k m : Nat} {f : Nat → Nat} (h : ∀ j, f j ≤ m) : ∀ {i} j, alnI n B k f i j ≤ m + i
  | 0, j => h j
  | i + 1, j => by
    unfold alnI upd
    have h1 := alnI_le (n := n) (B := B) (k := k) h (i := i) j
    split
    · have := alnI_le (n := n) (B := B) (k := k) h (i := i) (2 * i + fb n B k true i); omega
    · omega
theorem aln_le {n B : Nat} : ∀ {k} j, alnB n B k j ≤ n * k
  | 0, _ => Nat.zero_le _
  | k + 1, j => by
    have := alnI_le (n := n) (B := B) (k := k) (f := alnB n B k) (m := n * k) (fun j => aln_le j) (i := n) j
    unfold alnB
    rw [Nat.mul_succ]; exact this
theorem even2 : ∀ B, B < 8 → ∀ o, o < 2 → (∀ r, r < 2 → cntB 2 B o 2 r * 2 = 2) ∧ ∀ i, i < 2 → alnB 2 B 2 (2 * i) = alnB 2 B 2 (2 * i + 1) := by decide +kernel
theorem even3 : ∀ B, B < 8 → ∀ o, o < 3 → (∀ r, r < 4 → cntB 3 B o 8 r * 4 = 8) ∧ ∀ i, i < 3 → alnB 3 B 8 (2 * i) = alnB 3 B 8 (2 * i + 1) := by decide +kernel
theorem opB_wf {B j : Nat} (hj : j ≤ 1000) : opwf (opB B j) := ⟨i64c 3 (by decide) (by decide), i64c (j : Int) (by omega) (by omega), I64.m1, I64.m1, I64.m1, by show bbB B j < 2 ^ 64; unfold bbB; omega⟩
theorem evS0_bq {n k : Nat} (hn : n = 2 ∨ n = 3) : Bq 0 (evS0 n k) := startD_bq (n : Int) 40 (twK k) (mN n) 0 (mN n) 0 (by omega) (by decide) (by decide) (by unfold mN; split <;> omega) (fun i _ => by unfold twK; omega) (by omega) (Nat.le_refl _)
theorem evS1_bq {n k B : Nat} (hn : n = 2 ∨ n = 3) : Bq 3 (evS1 n k B) ∧ Wb (evA n k B) :=
  ⟨(eaS_bq (evS0_bq hn) 0 n (fun j hj => opB_wf (by omega))).mono (by omega), eaR_wb (evS0_bq hn) 0 none3_wb n (fun j hj => opB_wf (by omega)) (by omega)⟩
theorem evS_bq {n k B : Nat} (hn : n = 2 ∨ n = 3) (sm : Bool) : Bq 13 (evS n k B sm) := frS_bq (evS1_bq hn).1 (by decide) (evS1_bq hn).2
theorem evS1_n {n k B : Nat} : (evS1 n k B).n = (n : Int) := eaS_n _ _ _ _
theorem evS_keep {n k B : Nat} (sm : Bool) : (evS n k B sm).keep (evS n k B sm).L = (evS n k B sm).L := by
  have h : (evS n k B sm).dry = false := ((frS_ext _ sm _).dry).trans ((eaS_ext _ _ _ _).dry)
  unfold Ms.keep
  rw [h]
  rfl
end Go.Proofs.YtinihebnajaejaaDoor

/- Fresh: FreshEven's own functions. -/
namespace Go.Proofs.YtinihebnajaejaaDoor
open Go.RowKit
set_option maxRecDepth 100000
theorem fbit_any (v : Value) (vv : Nat → Nat) (L q : Nat) (w : World) (h : Rd .u64 w v (wdL vv L)) (hq : q < L) :
    Calls Tryd.prog 20 #[v, .int .i64 (q : Int)] w fun e w' => e = .returned (.int .u64 ((vv q % 2 : Nat) : Int)) ∧ w' = w := by
  obtain ⟨a, cap, rfl, hp⟩ := (rd_wr h).at_
  obtain ⟨g, off, rfl, hg, hc⟩ := hp (by omega)
  have c0 := hc q hq
  have q0 : decide ((q : Int) < 0) = false := decide_eq_false (by omega)
  have q1 : decide ((L : Int) ≤ (q : Int)) = false := decide_eq_false (by omega)
  have q2 : decide ((q : Int) ≥ (L : Int)) = false := decide_eq_false (by omega)
  have j0 : (0 : Int) ≤ (q : Int) := by omega
  have j1 : (q : Int) < (L : Int) := by omega
  have HM : Hid (((vv q % 2 : Nat) : Int) = (vv q : Int) % 2) := hid (by omega)
  rw [HM.out]
  clear h hp hg hc hq
  generalize vv q = z at *
  go_enter Tryd.func20, Tryd.ntmps20
  go_wp2
  go_ret
  exact ⟨rfl, rfl⟩
theorem own_rdS {B : Nat} {E : TypeId} {w : World} {v : Value} {zs : List Int} (h : Own .u64 B E w v zs) (hz : ∀ z ∈ zs, (Lit.int .u64 z).wf = true) (hl : zs.length ≤ 1000) : RdS .u64 w (fun g => g < w.heap.size) v zs := by
  have hb : zs.length * (IntKind.u64.bits / 8) ≤ 140737488351232 := by rw [show IntKind.u64.bits / 8 = 8 from rfl]; omega
  by_cases h0 : 0 < zs.length
  · obtain ⟨g, cap, rfl, h1, h2, h3, _⟩ := h.part h0
    obtain ⟨_, ⟨hn, _⟩ | ⟨g2, cap2, cur, e, _, _, h4, h5, _⟩⟩ := h
    · cases hn
    · injection e with e1 e2 e3
      subst e3
      exact ⟨_, _, rfl, h4, h5, hb, hz, fun _ => ⟨g, 0, rfl, h2, h2, fun j hj => by rw [Nat.zero_add]; exact h3 j hj⟩⟩
  · obtain rfl : zs = [] := List.length_eq_zero_iff.1 (by omega)
    obtain ⟨_, ⟨rfl, _⟩ | ⟨g2, cap2, cur, rfl, _, _, h4, h5, _⟩⟩ := h
    · exact ⟨_, _, rfl, Nat.le_refl _, by decide, hb, hz, fun h => absurd h (by decide)⟩
    · exact ⟨_, _, rfl, h4, h5, hb, hz, fun h => absurd h (by decide)⟩
theorem wdL_next (f : Nat → Nat) (n : Nat) : wdL f (n + 1) = wdL f n ++ [(f n : Int)] := by unfold wdL; rw [List.range_succ, List.map_append]; rfl
theorem wdL_wf {f : Nat → Nat} {n : Nat} (h : ∀ i, f i < 2 ^ 64) : ∀ z ∈ wdL f n, (Lit.int .u64 z).wf = true := fun z hz => by
  unfold wdL at hz
  obtain ⟨i, _, rfl⟩ := List.mem_map.1 hz
  exact WalkArith.wf_u64 (by have := h i; omega)
set_option maxHeartbeats 6400000 in
theorem fbits_any (k m : Nat) (hk : k < 8) (hm : m ≤ 3) (w : World) :
    Calls Tryd.prog 19 #[.int .i64 (k : Int), .int .i64 (m : Int)] w fun e w' => ∃ v, e = .returned v ∧ RdS .u64 w' (fun g => g < w'.heap.size) v (wdL (twK k) m) ∧ Below w.heap.size w w' := by
  have HTW : Hid (∀ i, twK k i < 2 ^ 64) := hid (fun i => by unfold twK; omega)
  have HM3 := hid hm
  have HK8 := hid hk
  have B1 := hid ((Below.refl w.heap.size w).alloc (Nat.le_refl _) (.cells #[] 22))
  have O1 : Hid (Own .u64 w.heap.size 22 (w.alloc (.cells #[] 22)) (.slice (some ⟨w.heap.size, 0, none⟩) 0 0) (wdL (twK k) 0)) := hid (own_empty w (Nat.le_refl _))
  clear hm hk
  go_enter Tryd.func19, Tryd.ntmps19
  go_wp2
  go_loopw [5, 6] (fun v iv wr => ∃ j : Nat, j ≤ m ∧ iv = .int .i64 j ∧ Own .u64 w.heap.size 22 wr v (wdL (twK k) j) ∧ Below w.heap.size w wr) (fun _ iv _ => m - (intOf iv).toNat)
  case atStart => exact ⟨0, by omega, rfl, O1.out, B1.out⟩
  case round =>
    clear O1 B1
    obtain ⟨j, hj, rfl, hO, hB⟩ := hrel
    have HO := hid hO
    have HB := hid hB
    clear hO hB
    by_cases hlt : j < m
    · have j1 : (j : Int) < (m : Int) := by omega
      have j0 : (0 : Int) ≤ (j : Int) := by omega
      have hj3 : j < 3 := by have := HM3.out; omega
      have e1 : IntKind.u64.wrap (j : Int) = (j : Int) := by rcases (by omega : j = 0 ∨ j = 1 ∨ j = 2) with rfl | rfl | rfl <;> rfl
      have e2 : min j 64 = j := by omega
      have HNX := hid (wdL_next (twK k) j)
      have e3 : ((k : Int) / 2 ^ j).tmod 2 = ((twK k j : Nat) : Int) := by
        have := HK8.out
        unfold twK
        rcases (by omega : j = 0 ∨ j = 1 ∨ j = 2) with rfl | rfl | rfl <;> rcases (by omega : k = 0 ∨ k = 1 ∨ k = 2 ∨ k = 3 ∨ k = 4 ∨ k = 5 ∨ k = 6 ∨ k = 7) with rfl | rfl | rfl | rfl | rfl | rfl | rfl | rfl <;> rfl
      have e4 : IntKind.u64.wrap ((twK k j : Nat) : Int) = ((twK k j : Nat) : Int) := by
        have : twK k j = 0 ∨ twK k j = 1 := by unfold twK; omega
        rcases this with h | h <;> rw [h] <;> rfl
      have HLI : Hid (((wdL (twK k) j).length + 1) * (IntKind.u64.bits / 8) ≤ 140737488355328) := hid (by rw [wdL_len, show IntKind.u64.bits / 8 = 8 from rfl]; omega)
      clear hj3
      generalize hzz : twK k j = z at *
      clear hzz
      go_wp2_with (refine wpList_append_ints rfl (.tmp 13) (.tmp 20) 23 rfl .u64 w.heap.size 22 Tryd.underlying23 (by kernel_rfl) (by decide) _ _ rfl (HO.out.alloc _) ⟨_, 0, none⟩ 1 1 [(z : Int)] rfl rfl (cell_new_int _ .u64 _ 22) HLI.out (Nat.le_trans HB.out.size (by simp)) w.heap.size w (HB.out.alloc HB.out.size _) (Nat.le_refl _) ?_; intro v2 w2 hO2 hL2 _)
      go_roundw
      case rel => exact ⟨j + 1, by omega, by go_num, by rw [HNX.out]; exact hO2, hL2⟩
      case measure => simp [intOf]; omega
    · obtain rfl : j = m := by omega
      go_wp2
      go_ret
      exact ⟨_, rfl, own_rdS HO.out (wdL_wf HTW.out) (by rw [wdL_len]; have := HM3.out; omega), HB.out⟩
theorem results_tmp_cell_tmp {P : Program} {fn : Func} {p u v : Tmp} {ty : TypeId} (h : fn.results = #[.tmp u, .cell p ty, .tmp v]) (tmps : Array Value) (w : World) :
    (results fn tmps).run P w = ((asAddr (tmps.getD p undef)).run P w).andThen fun a w₁ => ((loadVar ty a).run P w₁).andThen fun x w₂ => .ok (.tuple #[tmps.getD u undef, x, tmps.getD v undef]) w₂ := by
  simp only [results, h]
  simp [Sem.run_bind, Result.andThen]
theorem rd_setRow {w : World} {v : Value} {zs : List Int} {b : Nat} {t : TypeId} {cs : Array Value} (h : Rd .u64 w v zs) (hb : w.heap[b]? = some (.cells #[.int .i64 0, .int .i64 0, .int .i64 0] t (0, 0))) : Rd .u64 (w.setRow b cs) v zs := by
  obtain ⟨a, cap, h1, h2, h3, h4⟩ := h
  refine ⟨a, cap, h1, h2, h3, fun hp => ?_⟩
  obtain ⟨g, off, e, hg, hc⟩ := h4 hp
  have hne : g ≠ b := fun e => by
    subst e
    have c0 := hc 0 hp
    rw [cell_of_row w g (off + 0) _ _ _ hb] at c0
    rcases (by omega : off = 0 ∨ off = 1 ∨ off = 2 ∨ 3 ≤ off) with rfl | rfl | rfl | ho
    · simp at c0
    · simp at c0
    · simp at c0
    · rw [Array.getElem?_eq_none (by simp; omega)] at c0; exact absurd c0 (by simp)
  refine ⟨g, off, e, by simpa [World.setRow] using hg, fun j hj => ?_⟩
  have := hc j hj
  unfold World.cell? at this ⊢
  rw [setRow_other w b g cs hne]
  exact this
theorem ret_tmp_row_tmp {P : Program} {fn : Func} {p u v : Tmp} {ty : TypeId} {R : Ending → World → Prop} {a : Act} {w : World} {b : Nat} {t : TypeId} {cs : Array Value} {d : TypeDesc} (h : fn.results = #[.tmp u, .cell p ty, .tmp v])
    (hp : a.tmps.getD p undef = .pointer (some ⟨b, 0, none⟩)) (hA : w.heap[b]? = some (.cells cs t (0, 0))) (hu : P.underlying ty = some d) (hag : (match d with | .struct _ | .array _ _ => true | _ => false) = true) (hi : (P.info? ty).map (·.size) = some cs.size) (hd : a.defers = [])
    (k : R (.returned (.tuple #[a.tmps.getD u undef, .agg cs, a.tmps.getD v undef])) w) : bodyPost P fn R .ret a w := by
  refine bodyPost_ret ?_ hd k
  rw [results_tmp_cell_tmp h, hp]
  simp only [asAddr, Sem.run_pure, Result.andThen_ok, run_loadVar_row w b t ty cs (0, 0) d hA hu hag hi]
set_option maxHeartbeats 12800000 in
theorem frun_any {Pm : World → Nat → Ms → (Nat → Prop) → Prop} (hM : Mach Pm) (hN : MachN Pm) (nn k B : Nat) (sm : Bool) (hn : nn = 2 ∨ nn = 3) (hk : k < 8) (hB : B < 256) (mv : Value) (w : World) (hp : Pv w) (hR : RdS .u64 w (fun g => g < w.heap.size) mv (wdL (twK k) (mN nn))) :
    Calls Tryd.prog 18 #[.int .i64 (nn : Int), .int .u8 (B : Int), mv, .bool sm] w fun e w' => ∃ v, e = .returned (.tuple #[v, .agg (wdV (evR nn k B sm)), .bool true]) ∧ Rd .u64 w' v (wdL (evS nn k B sm).v (evS nn k B sm).L) ∧ Below w.heap.size w w' := by
  obtain ⟨w0, hw0⟩ : ∃ w0, w.alloc (.cells #[.int .i64 0, .int .i64 0, .int .i64 0] 34) = w0 := ⟨_, rfl⟩
  have hlow := (Below.refl w.heap.size w).alloc (Nat.le_refl _) (.cells #[.int .i64 0, .int .i64 0, .int .i64 0] 34)
  rw [hw0] at hlow
  have HLOW := hid hlow
  have HX0 : Hid (w0.heap[w.heap.size]? = some (.cells #[.int .i64 0, .int .i64 0, .int .i64 0] 34 (0, 0))) := hid (by rw [← hw0]; exact heap_alloc_new _ _)
  have hlt0 : w.heap.size < w0.heap.size := by rw [← hw0, sz_al]; omega
  have HLT := hid hlt0
  have hp0 := hp.self hlow
  have HPV := hid hp0
  have HL0 : Hid (gpair < w0.heap.size) := hid hp0.1
  have hR0 := hR.below hlow
  have hR1 := hR0.imp (T := fun g => g < w0.heap.size) (fun g h _ => by have h' : g < w.heap.size := h; omega)
  have HBG : Hid (Calls Tryd.prog 5 #[.int .i64 (nn : Int), mv, .int .i64 40] w0 fun e w' => ∃ p b, e = .returned (.tuple #[.agg (paC p b (.slice none 0 0) (.slice none 0 0)), .bool true]) ∧ Bz Pm w0.heap.size (fun _ => False) w0 w' p b (evS0 nn k) (evS0 nn k)) := hid (lbegins_any hM hN (nn : Int) 40 (by omega) (by decide) (by decide) (twK k) (mN nn) _ w0 hR1)
  have HN3 : Hid (nn ≤ 3) := hid (by omega)
  have HBS : Hid (∀ j, j ≤ nn → Bq (0 + j) (eaS (evS0 nn k) (opB B) 0 j)) := hid (fun j hj => eaS_bq (evS0_bq hn) 0 j (fun i hi => by rw [Nat.zero_add]; exact opB_wf (by omega)))
  have HCN : Hid (∀ (j : Nat) (wx : World) (p b : Nat) (w2 : World) (bs : List (Nat × Obj)), j < nn → Gy Pm w0.heap.size (fun _ => False) w0 w2 wx p b (eaS (evS0 nn k) (opB B) 0 j) (evS0 nn k) bs → Calls Tryd.prog 43 #[.pointer (some ⟨p, 0, none⟩), .int .i64 (j : Int), .int .u64 ((bbB B j : Nat) : Int)] wx fun e w' => e = .returned (.int .i64 ((eaS (evS0 nn k) (opB B) 0 j).doR (opB B j))) ∧ Gy Pm w0.heap.size (fun _ => False) w0 w2 w' p b (eaS (evS0 nn k) (opB B) 0 (j + 1)) (evS0 nn k) bs) := hid (fun j wx p b w2 bs hj h => h.lift (fun X W hz => by
    have := zconst_ hM (j : Int) (bbB B j) hz (HBS.out j (by omega)) (by omega) (opB_wf (by omega))
    rw [show eaS (evS0 nn k) (opB B) 0 (j + 1) = (eaS (evS0 nn k) (opB B) 0 j).doS (opB B j) 0 by unfold eaS; rw [Nat.zero_add]; cases j <;> rfl]
    exact this))
  have HFR : Hid (∀ (wx : World) (p b : Nat) (w2 : World) (bs : List (Nat × Obj)), sm = true → Gy Pm w0.heap.size (fun _ => False) w0 w2 wx p b (evS1 nn k B) (evS0 nn k) bs → Calls Tryd.prog 10 #[.pointer (some ⟨p, 0, none⟩), .agg (wdV (evA nn k B))] wx fun e w' => e = .returned (.agg (wdV (evR nn k B sm))) ∧ Gy Pm w0.heap.size (fun _ => False) w0 w2 w' p b (evS nn k B sm) (evS0 nn k) bs) := hid (fun wx p b w2 bs hs h => by
    subst hs
    exact h.lift (fun X W hz => qsimple hM _ hz (HPV.out.bz HL0.out h.z) HL0.out (evS1_bq hn).1 (by decide) (by rw [evS1_n]; omega) (evS1_bq hn).2))
  have HFF : Hid (∀ (wx : World) (p b : Nat) (w2 : World) (bs : List (Nat × Obj)), sm = false → Gy Pm w0.heap.size (fun _ => False) w0 w2 wx p b (evS1 nn k B) (evS0 nn k) bs → Calls Tryd.prog 12 #[.pointer (some ⟨p, 0, none⟩), .agg (wdV (evA nn k B))] wx fun e w' => e = .returned (.agg (wdV (evR nn k B sm))) ∧ Gy Pm w0.heap.size (fun _ => False) w0 w2 w' p b (evS nn k B sm) (evS0 nn k) bs) := hid (fun wx p b w2 bs hs h => by
    subst hs
    exact h.lift (fun X W hz => qfull hM _ hz (HPV.out.bz HL0.out h.z) HL0.out (evS1_bq hn).1 (by decide) (by rw [evS1_n]; omega) (evS1_bq hn).2))
  have HVL : Hid (∀ (wx : World) (p b : Nat) (w2 : World) (bs : List (Nat × Obj)), Gy Pm w0.heap.size (fun _ => False) w0 w2 wx p b (evS nn k B sm) (evS0 nn k) bs → Calls Tryd.prog 16 #[.pointer (some ⟨p, 0, none⟩)] wx fun e w' => (∃ v, e = .returned v ∧ Rd .u64 w' v (wdL (evS nn k B sm).v (evS nn k B sm).L)) ∧ Gy Pm w0.heap.size (fun _ => False) w0 w2 w' p b (evS nn k B sm) (evS0 nn k) bs ∧ Below wx.heap.size wx w') := hid (fun wx p b w2 bs h => (zvalues hM h.z (evS_bq hn sm) (by decide)).mono fun e w' ⟨v, e1, e2, e3⟩ => ⟨⟨v, e1, by rw [evS_keep] at e2; exact e2⟩, h.self hM e3, e3⟩)
  have HER : Hid (∀ (wx : World) (p b : Nat) (w2 : World) (bs : List (Nat × Obj)), Gy Pm w0.heap.size (fun _ => False) w0 w2 wx p b (evS nn k B sm) (evS0 nn k) bs → Calls Tryd.prog 38 #[.pointer (some ⟨p, 0, none⟩)] wx fun e w' => e = .returned (.int .i64 0) ∧ Gy Pm w0.heap.size (fun _ => False) w0 w2 w' p b (evS nn k B sm) (evS0 nn k) bs ∧ Below wx.heap.size wx w') := hid (fun wx p b w2 bs h => (zerr hM h.z (evS_bq hn sm) (by decide)).mono fun e w' ⟨e1, e3⟩ => ⟨by rw [(ev_ok hn hk sm).1] at e1; exact e1, h.self hM e3, e3⟩)
  have HUU : Hid (∀ j, eaR (evS0 nn k) (opB B) 0 none3 (j + 1) = updI (eaR (evS0 nn k) (opB B) 0 none3 j) j ((eaS (evS0 nn k) (opB B) 0 j).doR (opB B j))) := hid (fun j => by unfold eaR; rw [Nat.zero_add]; cases j <;> rfl)
  have HEA : Hid (eaR (evS0 nn k) (opB B) 0 none3 nn = evA nn k B) := hid rfl
  have HES : Hid (eaS (evS0 nn k) (opB B) 0 nn = evS1 nn k B) := hid rfl
  have HU0 : Hid (eaR (evS0 nn k) (opB B) 0 none3 0 = none3) := hid rfl
  have HS0 : Hid (eaS (evS0 nn k) (opB B) 0 0 = evS0 nn k) := hid rfl
  have HBB : Hid (B < 256) := hid hB
  have HWW := hid hw0
  clear hn hk hB hp hR hw0 hlow hlt0 hp0 hR0 hR1 HBS
  generalize evR nn k B sm = R3 at *
  generalize evS nn k B sm = S3 at *
  generalize evA nn k B = A1 at *
  generalize evS1 nn k B = S1 at *
  obtain ⟨rg, hrg⟩ : ∃ rg : Nat → Int, ∀ j, (eaS (evS0 nn k) (opB B) 0 j).doR (opB B j) = rg j := ⟨_, fun _ => rfl⟩
  simp only [hrg] at HCN HUU
  clear hrg
  obtain ⟨St, hSt⟩ : ∃ St : Nat → Ms, ∀ j, eaS (evS0 nn k) (opB B) 0 j = St j := ⟨_, fun _ => rfl⟩
  obtain ⟨U, hU⟩ : ∃ U : Nat → Nat → Int, ∀ j, eaR (evS0 nn k) (opB B) 0 none3 j = U j := ⟨_, fun _ => rfl⟩
  simp only [hSt, hU] at HCN HUU HEA HES HU0 HS0
  clear hSt hU
  generalize evS0 nn k = S0 at *
  go_enter Tryd.func18, Tryd.ntmps18
  go_upto_region 1 with fail
  rw [HWW.out]
  go_upto_region 2 with (go_at_call 5; (with_reducible refine HBG.out.mono ?_); rintro e w2 ⟨p, b, rfl, hz⟩; have Z2 := hid hz; clear hz)
  have H3 := hid ((Gy.start Z2.out).new hM (paC p b (.slice none 0 0) (.slice none 0 0)) 28)
  obtain ⟨b11, hb1⟩ : ∃ b11, w2.heap.size = b11 := ⟨_, rfl⟩
  rw [hb1] at H3
  generalize w2.alloc (.cells #[.pointer (some ⟨p, 0, none⟩), .pointer (some ⟨b, 0, none⟩), .slice none 0 0, .slice none 0 0] 28) = w3 at *
  rw [hb1]
  clear hb1
  go_upto_region 5 with (go_at_call 31; (with_reducible refine (none_any _).mono ?_); rintro e w4 ⟨rfl, hb⟩; have H4 := hid (H3.out.self hM hb); clear hb)
  have H5 := hid (H4.out.new hM (wdV none3) 34)
  obtain ⟨b13, hb3⟩ : ∃ b13, w4.heap.size = b13 := ⟨_, rfl⟩
  rw [hb3, ← HU0.out] at H5
  have H5 : Hid (Gy Pm w0.heap.size (fun _ => False) w0 w2 (w4.alloc (.cells #[.int .i64 (none3 0), .int .i64 (none3 1), .int .i64 (none3 2)] 34)) p b (St 0) S0 [(b13, .cells (wdV (U 0)) 34 (0, 0)), (b11, .cells (paC p b (.slice none 0 0) (.slice none 0 0)) 28 (0, 0))]) := hid (by rw [HS0.out]; have := H5.out; rw [HU0.out] at this; rw [HU0.out]; exact this)
  generalize w4.alloc (.cells #[.int .i64 (none3 0), .int .i64 (none3 1), .int .i64 (none3 2)] 34) = w5 at *
  rw [hb3]
  clear hb3 H3 H4
  go_wp2
  go_loopw [14] (fun iv wr => ∃ j : Nat, j ≤ nn ∧ iv = .int .i64 j ∧ Gy Pm w0.heap.size (fun _ => False) w0 w2 wr p b (St j) S0 [(b13, .cells (wdV (U j)) 34 (0, 0)), (b11, .cells (paC p b (.slice none 0 0) (.slice none 0 0)) 28 (0, 0))]) (fun iv _ => nn - (intOf iv).toNat)
  case atStart => exact ⟨0, by omega, rfl, H5.out⟩
  case round =>
    clear H5
    obtain ⟨j, hj, rfl, hI⟩ := hrel
    have HI := hid hI
    clear hI
    have hn3 := HN3.out
    by_cases hlt : j < nn
    · have j1 : (j : Int) < (nn : Int) := by omega
      have j0 : (0 : Int) ≤ (j : Int) := by omega
      have j3 : (j : Int) < 3 := by omega
      have HJ3 : Hid (j < 3) := hid (by omega)
      have hj3 : j < 3 := by omega
      have e1 : IntKind.u64.wrap (j : Int) = (j : Int) := by rcases (by omega : j = 0 ∨ j = 1 ∨ j = 2) with rfl | rfl | rfl <;> rfl
      have e2 : min j 8 = j := by omega
      have c1 := row_c (i := 0) (u := .pointer (some ⟨p, 0, none⟩)) (HI.out.bl 1 rfl) rfl
      have HBZ : bbB B j = 0 ∨ bbB B j = 1 := by unfold bbB; omega
      have e3 : ((B : Int) / 2 ^ j).tmod 2 = ((bbB B j : Nat) : Int) := by
        have h : ((B : Int) / 2 ^ j) = ((B / 2 ^ j : Nat) : Int) := by rw [Int.natCast_ediv, Int.natCast_pow]; rfl
        unfold bbB
        rw [h]
        generalize B / 2 ^ j = X
        rw [Int.tmod_eq_emod_of_nonneg (by omega)]
        omega
      have e4 : IntKind.u64.wrap ((bbB B j : Nat) : Int) = ((bbB B j : Nat) : Int) := by rcases HBZ with h | h <;> rw [h] <;> rfl
      have HCJ := hid (fun wx p b w2 bs h => HCN.out j wx p b w2 bs hlt h)
      have HER2 : Hid ((wdV (U j)).setIfInBounds j (.int .i64 (rg j)) = wdV (U (j + 1))) := hid (by rw [wdV_upd _ j _ (by omega), HUU.out j])
      clear hj3 HBZ
      generalize bbB B j = z at *
      go_wp2_with (go_at_call 43; (with_reducible refine (HCJ.out _ _ _ _ _ HI.out).mono ?_); rintro e w6 ⟨rfl, hb⟩; have H6 := hid hb; clear hb c1; have cj := row_c (i := j) (H6.out.bl 0 rfl) (wdV_at (U j) j HJ3.out); have fj := frozen_of_row w6 b13 j _ _ (H6.out.bl 0 rfl))
      have H7 := hid (H6.out.cell hM j (.int .i64 (rg j)))
      rw [HER2.out] at H7
      go_roundw
      case rel => exact ⟨j + 1, by omega, by go_num, H7.out⟩
      case measure => simp [intOf]; omega
    · obtain rfl : j = nn := by omega
      clear hlt
      rw [HEA.out, HES.out] at HI
      have c1 := row_c (i := 0) (u := .pointer (some ⟨p, 0, none⟩)) (HI.out.bl 1 rfl) rfl
      go_upto_if 43 with fail
      go_cut [] from 44 to 51 (fun wx => Gy Pm w0.heap.size (fun _ => False) w0 w2 wx p b S3 S0 [(b13, .cells (wdV R3) 34 (0, 0)), (b11, .cells (paC p b (.slice none 0 0) (.slice none 0 0)) 28 (0, 0))])
      case first =>
        cases sm
        · go_wp2_with (first
            | (refine step_load_row rfl 34 _ rfl b13 34 (wdV A1) _ rfl (HI.out.bl 0 rfl) Tryd.underlying34 rfl (by kernel_rfl) ?_)
            | (go_at_call 12; (with_reducible refine (HFF.out _ _ _ _ _ rfl HI.out).mono ?_); rintro e w8 ⟨rfl, hb⟩; have H8 := hid hb; clear hb c1)
            | (refine step_store_row rfl 34 _ _ rfl b13 34 _ (wdV R3) rfl rfl (H8.out.bl 0 rfl) (by kernel_rfl) rfl (by kernel_rfl) ?_))
          go_meet
          exact H8.out.row hM (wdV R3)
        · go_wp2_with (first
            | (refine step_load_row rfl 34 _ rfl b13 34 (wdV A1) _ rfl (HI.out.bl 0 rfl) Tryd.underlying34 rfl (by kernel_rfl) ?_)
            | (go_at_call 10; (with_reducible refine (HFR.out _ _ _ _ _ rfl HI.out).mono ?_); rintro e w8 ⟨rfl, hb⟩; have H8 := hid hb; clear hb c1)
            | (refine step_store_row rfl 34 _ _ rfl b13 34 _ (wdV R3) rfl rfl (H8.out.bl 0 rfl) (by kernel_rfl) rfl (by kernel_rfl) ?_))
          go_meet
          exact H8.out.row hM (wdV R3)
      case rest =>
        have H9 := hid hcut
        clear hcut HI c1 HFR HFF
        obtain ⟨wd, hwd⟩ : ∃ wd, wc = wd := ⟨_, rfl⟩
        subst hwd
        go_wp2_with fail
        have G0 := hid (H9.out.self hM ((Below.refl _ wc).drew))
        refine wp_region_noPanic ?_
        refine wp_region_held_drew (S := fun w' => w'.heap[b13]? = some (.cells (wdV R3) 34 (0, 0)) ∧ w'.heap[b11]? = some (.cells (paC p b (.slice none 0 0) (.slice none 0 0)) 28 (0, 0))) (by kernel_rfl) (⟨G0.out.bl 0 rfl, G0.out.bl 1 rfl⟩) (fun h0 => ?_)
        generalize wc.drew = y0 at *
        refine wpAnyH_take (i := 0) (v := .pointer (some ⟨b11, 0, none⟩)) rfl (by kernel_rfl) (by kernel_rfl) (by kernel_rfl) (fun _ _ _ h => h) (.inl ⟨by rfl, fun w hw => by clear hw; go_simp⟩) h0 ?_
        try simp only [Act.put, lay_out]
        refine wpAnyH_take (i := 1) (v := .pointer (some ⟨p, 0, none⟩)) rfl (by kernel_rfl) (by kernel_rfl) (by kernel_rfl) (fun _ _ _ h => h) (.inl ⟨by rfl, fun w' hw => by have hc := row_c (i := 0) (u := .pointer (some ⟨p, 0, none⟩)) hw.2 rfl; clear hw; go_simp⟩) h0 ?_
        try simp only [Act.put, lay_out]
        refine wpAnyH_take (i := 3) (v := .agg (wdV R3)) rfl (by kernel_rfl) (by kernel_rfl) (by kernel_rfl) (fun _ _ _ h => h) (yields_load_row (by rfl) 34 _ rfl b13 34 (wdV R3) _ rfl (fun w h => h.1) Tryd.underlying34 rfl (by kernel_rfl)) h0 ?_
        try simp only [Act.put, lay_out]
        refine wpAnyH_take (i := 4) (v := .pointer (some ⟨b11, 0, none⟩)) rfl (by kernel_rfl) (by kernel_rfl) (by kernel_rfl) (fun _ _ _ h => h) (.inl ⟨by rfl, fun w hw => by clear hw; go_simp⟩) h0 ?_
        try simp only [Act.put, lay_out]
        refine wpAnyH_take (i := 5) (v := .pointer (some ⟨p, 0, none⟩)) rfl (by kernel_rfl) (by kernel_rfl) (by kernel_rfl) (fun _ _ _ h => h) (.inl ⟨by rfl, fun w' hw => by have hc := row_c (i := 0) (u := .pointer (some ⟨p, 0, none⟩)) hw.2 rfl; clear hw; go_simp⟩) h0 ?_
        try simp only [Act.put, lay_out]
        refine wpAnyH_ready (rs := [2]) (by kernel_rfl) (by simp) (AllReadyH.cons rfl (fun K hK => ?_) AllReadyH.nil)
        rw [if_pos (by rfl)]
        go_simp
        go_at_call 16
        (with_reducible refine (HVL.out _ _ _ _ _ G0.out).mono ?_); rintro e y1 ⟨⟨v, rfl, hv⟩, hz, hb⟩
        have G1 := hid hz
        have V1 := hid hv
        clear hz hv hb
        refine hK.out _ _ (⟨G1.out.bl 0 rfl, G1.out.bl 1 rfl⟩) (fun h1x => ?_)
        clear hK K
        try simp only [Act.put, lay_out]
        refine wpAnyH_ready (rs := [6]) (by kernel_rfl) (by simp) (AllReadyH.cons rfl (fun K hK => ?_) AllReadyH.nil)
        rw [if_pos (by rfl)]
        go_simp
        go_at_call 38
        (with_reducible refine (HER.out _ _ _ _ _ G1.out).mono ?_); rintro e y2 ⟨rfl, hz, hb⟩
        have G2 := hid hz
        have V2 := hid (V1.out.self hb)
        clear hz hb
        refine hK.out _ _ (⟨G2.out.bl 0 rfl, G2.out.bl 1 rfl⟩) (fun h2x => ?_)
        clear hK K
        try simp only [Act.put, lay_out]
        refine wpAnyH_take (i := 7) (v := .bool true) rfl (by kernel_rfl) (by kernel_rfl) (by kernel_rfl) (fun _ _ _ h => h) (.inl ⟨by rfl, fun w hw => by clear hw; go_simp⟩) h2x ?_
        try simp only [Act.put, lay_out]
        refine wpAnyH_take (i := 8) (v := v) rfl (by kernel_rfl) (by kernel_rfl) (by kernel_rfl) (fun _ _ _ h => h) (.inl ⟨by rfl, fun w hw => by clear hw; go_simp⟩) h2x ?_
        try simp only [Act.put, lay_out]
        have HX2 := hid ((G2.out.z.low.block _ HLT.out).trans HX0.out)
        refine wpAnyH_ready (rs := [9]) (by kernel_rfl) (by simp) (AllReadyH.cons rfl (fun K hK => ?_) AllReadyH.nil)
        rw [if_pos (by rfl)]
        refine wp_store_row 34 _ _ rfl (w.heap.size) (wdV R3) rfl rfl 34 _ HX2.out (by kernel_rfl) rfl (by kernel_rfl) ?_
        have HTC : Hid (Tch (fun k => k = w.heap.size) y2 (y2.setRow w.heap.size (wdV R3))) := hid ⟨rfl, rfl, rfl, by simp [World.setRow], fun k _ hF => setRow_other y2 w.heap.size k _ hF⟩
        have HG3 : Hid ((y2.setRow w.heap.size (wdV R3)).heap[b13]? = some (.cells (wdV R3) 34 (0, 0)) ∧ (y2.setRow w.heap.size (wdV R3)).heap[b11]? = some (.cells (paC p b (.slice none 0 0) (.slice none 0 0)) 28 (0, 0))) := hid ⟨(setRow_other y2 w.heap.size b13 _ (by have h1 := (G2.out.bx _ (List.mem_cons_self ..)).1; have h2 := HLT.out; have h3 := Z2.out.low.size; have h4 : w2.heap.size ≤ b13 := h1; omega)).trans (G2.out.bl 0 rfl), (setRow_other y2 w.heap.size b11 _ (by have h1 := (G2.out.bx _ (List.mem_cons_of_mem _ (List.mem_cons_self ..))).1; have h2 := HLT.out; have h3 := Z2.out.low.size; have h4 : w2.heap.size ≤ b11 := h1; omega)).trans (G2.out.bl 1 rfl)⟩
        refine hK.out _ _ (HG3.out) (fun h3x => ?_)
        clear hK K
        try simp only [Act.put, lay_out]
        refine wpAnyH_take (i := 10) (v := .bool true) rfl (by kernel_rfl) (by kernel_rfl) (by kernel_rfl) (fun _ _ _ h => h) (.inl ⟨by rfl, fun w hw => by clear hw; go_simp⟩) h3x ?_
        try simp only [Act.put, lay_out]
        refine wpAnyH_done (by kernel_rfl) ?_ _
        refine NoPanic.normal ?_
        clear h0 h1x h2x h3x
        try simp only [Act.put, lay_out]
        go_wp2
        refine ret_tmp_row_tmp rfl rfl (setRow_heap _ _ _ _ _ _ HX2.out) Tryd.underlying34 rfl (by kernel_rfl) rfl ?_
        exact ⟨v, rfl, rd_setRow V2.out HX2.out, below_setRow (HLOW.out.trans (G2.out.z.low.mono HLOW.out.size)) (Nat.le_refl _) _⟩
end Go.Proofs.YtinihebnajaejaaDoor
