import Derived.Test.YtkdbjejblbopeaaMa9
namespace Go.Proofs.Ytkdbjejblbopeaa
open Go.RowKit

/-! ### Told: a table of 256 tests -/
def bo (n : Nat) (p : Nat → Bool) : Array Value := ((List.range n).map fun i => Value.bool (p i)).toArray
theorem bo_size (n : Nat) (p : Nat → Bool) : (bo n p).size = n := by simp [bo]
theorem bo_get {n : Nat} (p : Nat → Bool) {j : Nat} (h : j < n) : (bo n p)[j]? = some (.bool (p j)) := by simp [bo, h]
theorem bo_ext {n : Nat} {p q : Nat → Bool} (h : ∀ i, i < n → p i = q i) : bo n p = bo n q := by
  unfold bo
  congr 1
  refine List.map_congr_left fun i hi => ?_
  rw [h i (List.mem_range.1 hi)]
theorem bo_set {n : Nat} (p : Nat → Bool) (j : Nat) (z : Bool) : (bo n p).setIfInBounds j (.bool z) = bo n (fun i => if i = j then z else p i) := by
  apply Array.ext_getElem?
  intro i
  rw [Array.getElem?_setIfInBounds, bo_size]
  by_cases hi : i < n
  · rw [bo_get _ hi, bo_get _ hi]
    by_cases e : j = i
    · subst e; simp [hi]
    · rw [if_neg e, if_neg (fun h => e h.symm)]
  · have h1 : ∀ q, (bo n q)[i]? = none := fun q => by simp [bo_size]; omega
    rw [h1, h1]
    by_cases e : j = i
    · rw [if_pos e, if_neg (by omega)]
    · rw [if_neg e]
theorem bo_one (n : Nat) (p : Nat → Bool) : (bo n p).all (·.oneCell') = true := by
  refine Array.all_eq_true_iff_forall_mem.2 (fun v hv => ?_)
  simp [bo] at hv
  obtain ⟨i, _, rfl⟩ := hv
  rfl
/-- Block b holds, whole, the cells cs. -/
def Bt (w : World) (b : Nat) (cs : Array Value) : Prop := w.heap[b]? = some (.cells cs 44 (0, 0))
theorem Bt.lt {w : World} {b : Nat} {cs : Array Value} (h : Bt w b cs) : b < w.heap.size := (Array.getElem?_eq_some_iff.1 h).1
theorem Bt.cell {w : World} {b n : Nat} {p : Nat → Bool} (h : Bt w b (bo n p)) {j : Nat} (hj : j < n) : w.cell? ⟨b, j, none⟩ = some (.bool (p j)) := by
  rw [cell_of_row w b j _ 44 (0, 0) h, bo_get p hj]
theorem Bt.free {w : World} {b : Nat} {cs : Array Value} (h : Bt w b cs) (o : Nat) : w.frozen? ⟨b, o, none⟩ = false := frozen_of_row w b o _ 44 h
theorem Bt.set {w : World} {b n : Nat} {p : Nat → Bool} (h : Bt w b (bo n p)) (j : Nat) (z : Bool) : Bt (w.setCell ⟨b, j, none⟩ (.bool z)) b (bo n (fun i => if i = j then z else p i)) := by
  unfold Bt
  rw [heap_setCell_same w b j _ 44 _ h, bo_set]
theorem Bt.apart {w : World} {b : Nat} {cs : Array Value} (h : Bt w b cs) {a : Addr} (ha : b ≠ a.block) (v : Value) : Bt (w.setCell a v) b cs := (heap_setCell_other w a b v ha).trans h
theorem Bt.self {w w' : World} {b : Nat} {cs : Array Value} (h : Bt w b cs) (hb : Below w.heap.size w w') : Bt w' b cs := (hb.block b h.lt).trans h
theorem Bt.alloc {w : World} {b : Nat} {cs : Array Value} (h : Bt w b cs) (o : Obj) : Bt (w.alloc o) b cs := (heap_alloc_old w o h.lt).trans h
theorem Bt.new (w : World) (cs : Array Value) : Bt (w.alloc (.cells cs 44)) w.heap.size cs := heap_alloc_new w _
theorem Bt.row {w : World} {b : Nat} {cs : Array Value} (h : Bt w b cs) (cs' : Array Value) : Bt (w.setRow b cs') b cs' := setRow_heap w b _ _ 44 _ h
theorem Bt.rowApart {w : World} {b c : Nat} {cs : Array Value} (h : Bt w b cs) (hc : b ≠ c) (ds : Array Value) : Bt (w.setRow c ds) b cs := (setRow_other w c b ds hc).trans h

theorem info44 : (Try.prog.info? 44).map (fun i => (i.zero, i.size)) = some (some (.agg (bo 256 (fun _ => false))), 256) := by kernel_rfl
theorem zero44 : ∀ w, (zeroValue 44).run Try.prog w = .ok (.agg (bo 256 (fun _ => false))) w := (zero_of_info info44).1
theorem size44 : (Try.prog.info? 44).map (·.size) = some 256 := (zero_of_info info44).2
theorem built44 : (Try.prog.built 44 []).getD #[] = bo 256 (fun _ => false) := by kernel_rfl
theorem built44' : (Try.prog.built 44 []).isSome = true := by kernel_rfl
theorem step_build_bo {w : World} {ops : Array Oper} {rest : List Oper} {o : Oper} {a : Act} {Q : Exit → Act → World → Prop} (hgd : o.guard = none) (ho : o.op = .build 44 #[])
    (k : wpList Try.prog ops Q rest (a.put o.dst (.agg (bo 256 (fun _ => false)))) w) : wpList Try.prog ops Q (o :: rest) a w := by
  have e : ((#[] : Array (Nat × Operand)).map fun (i, x) => (i, a.eval x)).toList = [] := by simp
  refine wpList_build hgd 44 #[] ho (by rw [e]; exact built44') ?_
  rw [e, built44]; exact k
theorem step_store_bt {w : World} {ops : Array Oper} {rest : List Oper} {o : Oper} {a : Act} {Q : Exit → Act → World → Prop} (hgd : o.guard = none) (x y : Operand) (ho : o.op = .store 44 x y)
    (b : Nat) (old cs : Array Value) (hx : a.eval x = .pointer (some ⟨b, 0, none⟩)) (hy : a.eval y = .agg cs) (hA : Bt w b old) (ho1 : old.size = 256) (hc : cs.size = 256) (h1 : cs.all (·.oneCell') = true)
    (k : wpList Try.prog ops Q rest (a.put o.dst undef) (w.setRow b cs)) : wpList Try.prog ops Q (o :: rest) a w :=
  wpList_store_row hgd 44 x y ho b cs hx hy 44 old hA (by rw [hc]; exact size44) (by rw [ho1, hc]) h1 k
theorem step_load_bt {w : World} {ops : Array Oper} {rest : List Oper} {o : Oper} {a : Act} {Q : Exit → Act → World → Prop} (hgd : o.guard = none) (x : Operand) (ho : o.op = .load 44 x)
    (b : Nat) (cs : Array Value) (hx : a.eval x = .pointer (some ⟨b, 0, none⟩)) (hA : Bt w b cs) (hc : cs.size = 256)
    (k : wpList Try.prog ops Q rest (a.put o.dst (.agg cs)) w) : wpList Try.prog ops Q (o :: rest) a w :=
  wpList_load_row hgd 44 x ho b hx 44 cs (0, 0) _ hA Try.underlying44 rfl (by rw [hc]; exact size44) k

/-- Three blocks: the matrix, what goes out, the table. -/
structure T3 (f : Nat → Nat) (F T : Array Value) (w wr : World) : Prop where
  low : Below w.heap.size w wr
  src : M wr w.heap.size f
  out : Bt wr (w.heap.size + 1) F
  var : Bt wr (w.heap.size + 2) T
theorem T3.start (f : Nat → Nat) (F : Array Value) (w : World) : T3 f F F w ((((w.alloc (.cells (ba 8 f) 23)).alloc (.cells F 44)).alloc (.cells F 44)).setRow (w.heap.size + 2) F) := by
  have n2 : Bt (((w.alloc (.cells (ba 8 f) 23)).alloc (.cells F 44)).alloc (.cells F 44)) (w.heap.size + 2) F := by
    have := Bt.new ((w.alloc (.cells (ba 8 f) 23)).alloc (.cells F 44)) F
    rw [World.size_alloc, World.size_alloc] at this
    exact this
  have n1 : Bt (((w.alloc (.cells (ba 8 f) 23)).alloc (.cells F 44)).alloc (.cells F 44)) (w.heap.size + 1) F := by
    have := Bt.new (w.alloc (.cells (ba 8 f) 23)) F
    rw [World.size_alloc] at this
    exact this.alloc _
  exact ⟨below_setRow ((((Below.refl _ _).alloc (Nat.le_refl _) _).alloc (by simp) _).alloc (by simp; omega) _) (by omega) _, (((At.new w 8 23 f).alloc _).alloc _).rowApart (by omega) _, n1.rowApart (by omega) _, n2.row F⟩
theorem T3.at2 (f : Nat → Nat) (F : Array Value) (w : World) : Bt (((w.alloc (.cells (ba 8 f) 23)).alloc (.cells F 44)).alloc (.cells F 44)) (w.heap.size + 2) F := by
  have := Bt.new ((w.alloc (.cells (ba 8 f) 23)).alloc (.cells F 44)) F
  rw [World.size_alloc, World.size_alloc] at this
  exact this
theorem T3.on {f : Nat → Nat} {F T : Array Value} {w wr w1 : World} (h : T3 f F T w wr) (hb : Below wr.heap.size wr w1) : T3 f F T w w1 :=
  ⟨h.low.trans (hb.mono h.low.size), h.src.self hb, h.out.self hb, h.var.self hb⟩
theorem T3.set {f : Nat → Nat} {F : Array Value} {p : Nat → Bool} {w wr : World} (h : T3 f F (bo 256 p) w wr) (j : Nat) : T3 f F (bo 256 (fun i => if i = j then true else p i)) w (wr.setCell ⟨w.heap.size + 2, j, none⟩ (.bool true)) :=
  ⟨h.low.setCell (by simp) _, h.src.apart (by simp) _, h.out.apart (by simp) _, h.var.set j true⟩
theorem hits_step (f : Nat → Nat) (n : Nat) : (fun i => if i = ap f n then true else hits f i n) = fun i => hits f i (n + 1) := by
  funext i
  rw [hits]
  by_cases e : i = ap f n
  · rw [if_pos e, if_pos e.symm]
  · rw [if_neg e, if_neg (fun h => e h.symm)]
theorem nd_step (f : Nat → Nat) (n : Nat) : nd (ap f) (n + 1) = nd (ap f) n + (if hits f (ap f n) n then 0 else 1) := by
  unfold nd
  rw [vals]
  by_cases h : ap f n ∈ vals (ap f) n
  · rw [if_pos h, if_pos ((hits_iff _ _ _).2 ((mem_vals _ _ _).1 h))]; rfl
  · rw [if_neg h, if_neg (fun hh => h ((mem_vals _ _ _).2 ((hits_iff _ _ _).1 hh)))]; rfl
theorem ret_bt_tmp {fn : Func} {p u : Tmp} {R : Ending → World → Prop} {a : Act} {w : World} {b : Nat} {cs : Array Value} (h : fn.results = #[.cell p 44, .tmp u])
    (hp : a.tmps.getD p undef = .pointer (some ⟨b, 0, none⟩)) (hd : a.defers = []) (hA : Bt w b cs) (hc : cs.size = 256)
    (k : R (.returned (.tuple #[.agg cs, a.tmps.getD u undef])) w) : bodyPost Try.prog fn R .ret a w := by
  refine bodyPost_ret ?_ hd k
  rw [results_cell_tmp h, hp]
  simp only [asAddr, Sem.run_pure, Result.andThen_ok, run_loadVar_row w b 44 44 cs (0, 0) _ hA Try.underlying44 rfl (by rw [hc]; exact size44)]

set_option maxRecDepth 20000 in
set_option maxHeartbeats 1600000 in
theorem told_any (f : Nat → Nat) (w : World) (hf : By f) :
    Calls Try.prog 24 #[.agg (ba 8 f)] w fun e w' => ∃ cs : Array Value, cs.size = 256 ∧ cs.all (·.oneCell') = true ∧ e = .returned (.tuple #[.agg cs, .int .i64 (nd (ap f) 256 : Nat)]) ∧ Below w.heap.size w w' := by
  have hz := zero44
  have hF8 : (bo 256 (fun _ => false)).size = 256 := bo_size _ _
  have hF1 := bo_one 256 (fun _ => false)
  have hst : T3 f (bo 256 (fun _ => false)) (bo 256 (fun i => hits f i 0)) w _ := T3.start f (bo 256 (fun _ => false)) w
  obtain ⟨F, hF⟩ : ∃ F, bo 256 (fun _ => false) = F := ⟨_, rfl⟩
  rw [hF] at hz hF8 hF1 hst
  have HF := hid hF
  have HF8 := hid hF8
  have HF1 := hid hF1
  have HS := hid hst
  have H2 := hid (T3.at2 f F w)
  have HFY := hid hf
  have HN : Hid (∀ n, n ≤ 256 → nd (ap f) n ≤ 256) := hid (fun n hn => Nat.le_trans (nd_le _ _) hn)
  have HNS := hid (nd_step f)
  have HN0 := hid (show nd (ap f) 0 = 0 from rfl)
  generalize nd (ap f) = N at HN HNS HN0 ⊢
  obtain ⟨N256, hN⟩ : ∃ x, N 256 = x := ⟨_, rfl⟩
  rw [hN]
  have HNE := hid hN
  clear hF hF8 hF1 hst hf hN
  go_enter Try.func24, Try.ntmps24
  go_wp2_with (first
    | (refine step_build_bo rfl rfl ?_; rw [HF.out])
    | (refine step_store_bt rfl _ _ rfl (w.heap.size + 2) F F rfl rfl H2.out HF8.out HF8.out HF1.out ?_))
  clear hz
  go_loopw [5, 6] (fun t xv wr => ∃ n : Nat, n ≤ 256 ∧ xv = .int .i64 n ∧ t = .int .i64 (N n : Nat) ∧ T3 f F (bo 256 (fun i => hits f i n)) w wr) (fun _ xv _ => 256 - (intOf xv).toNat)
  case atStart => exact ⟨0, by omega, rfl, by rw [HN0.out]; rfl, HS.out⟩
  case round =>
    obtain ⟨n, hn, rfl, rfl, hM⟩ := hrel
    have HK := hid hM
    clear hM
    have hNn := HN.out n hn
    by_cases hltn : n < 256
    · obtain ⟨y, hy⟩ : ∃ y, ap f n = y := ⟨_, rfl⟩
      have HA : Hid (∀ w, Calls Try.prog 11 #[.agg (ba 8 f), .int .u8 (n : Int)] w fun e w' => e = .returned (.int .u8 (y : Int)) ∧ Below w.heap.size w w') := hid (fun w => by
        have := refapply_any f n w HFY.out hltn; rw [hy] at this; exact this)
      have hy8 : y < 256 := by rw [← hy]; exact ap_lt _ _
      have hst := HNS.out n
      have hhs := hits_step f n
      rw [hy] at hst hhs
      have HHS := hid hhs
      obtain ⟨b, hb⟩ : ∃ b, hits f y n = b := ⟨_, rfl⟩
      rw [hb] at hst
      have HB := hid hb
      clear hb hhs hy
      cases b
      · have HST := hid hst
        clear hst
        go_wp2_with (first
          | (refine step_load_ba rfl 23 _ rfl w.heap.size 8 23 5 f rfl HK.out.src Try.underlying23 info23 ?_)
          | (go_at_call 11; (with_reducible refine (HA.out _).mono ?_); rintro e w1 ⟨rfl, hlow1⟩; have HK1 := hid (HK.out.on hlow1); have c1 := HK1.out.var.cell hy8; rw [HB.out] at c1; have f1 := HK1.out.var.free y; clear hlow1))
        go_roundw
        case rel => exact ⟨n + 1, by omega, by go_num, by rw [HST.out]; simp, by have := HK1.out.set y; rw [HHS.out] at this; exact this⟩
        case measure => simp [intOf]; omega
      · have HST := hid hst
        clear hst
        go_wp2_with (first
          | (refine step_load_ba rfl 23 _ rfl w.heap.size 8 23 5 f rfl HK.out.src Try.underlying23 info23 ?_)
          | (go_at_call 11; (with_reducible refine (HA.out _).mono ?_); rintro e w1 ⟨rfl, hlow1⟩; have HK1 := hid (HK.out.on hlow1); have c1 := HK1.out.var.cell hy8; rw [HB.out] at c1; have f1 := HK1.out.var.free y; clear hlow1))
        go_roundw
        case rel => exact ⟨n + 1, by omega, by go_num, by rw [HST.out]; simp, by have := HK1.out.set y; rw [HHS.out] at this; exact this⟩
        case measure => simp [intOf]; omega
    · have hn256 : n = 256 := by omega
      rw [hn256, HNE.out]
      rw [hn256, HNE.out] at hNn
      rw [hn256] at HK
      clear hn256
      have HT8 := hid (bo_size 256 (fun i => hits f i 256))
      have HT1 := hid (bo_one 256 (fun i => hits f i 256))
      generalize bo 256 (fun i => hits f i 256) = T at HK HT8 HT1
      go_wp2_with (first
        | (refine step_load_bt rfl _ rfl (w.heap.size + 2) T rfl HK.out.var HT8.out ?_)
        | (refine step_store_bt rfl _ _ rfl (w.heap.size + 1) F T rfl rfl HK.out.out HF8.out HT8.out HT1.out ?_))
      exact ret_bt_tmp rfl rfl rfl (HK.out.out.row T) HT8.out ⟨T, HT8.out, HT1.out, rfl, below_setRow HK.out.low (by omega) _⟩
end Go.Proofs.Ytkdbjejblbopeaa
