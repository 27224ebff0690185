import Derived.Maps.OwnSet
import Derived.DeepKeys5
import Derived.Test.YthkijncnndoafaaGreatDoorSgw
import Derived.Test.YthkijncnndoafaaGreatDoorWlm
import Derived.Test.YthkijncnndoafaaGreatDoorGen
import Derived.Test.YthkijncnndoafaaGreatDoorProg
import Derived.Test.YthkijncnndoafaaGreatDoorShp
import Derived.Test.YthkijncnndoafaaGreatDoorFrp
import Derived.Test.YthkijncnndoafaaGreatDoorWde
namespace Go.Proofs.YthkijncnndoafaaGreatDoor
open Go.Maps Go.ChangeMaps
abbrev prV (i k : Nat) : Value := .agg #[.int .i64 (i : Int), .int .i64 (k : Int)]
def MapO (P : Program) (k e : TypeId) (c : Nat) (r : Nat → Int) (o : Obj) : Prop :=
 ∃ D : DataW Unit, (∀ (w : World) (g : Nat), w.heap[g]? = some o → w.ownsMap P k (plainElem P e) g c D) ∧ IsMap D ∧
  ∀ i, i < 3 → ∀ j, j < 3 → ∃ kl, keyOf P k (prV i j) = some kl ∧ D.atKey kl (.lit (.int .i64 0)) = .lit (.int .i64 (r (i * 3 + j)))
section
variable {P : Program} {k e t : TypeId}
def PrK (P : Program) (k : TypeId) : Prop := ∀ i, i < 3 → ∀ j, j < 3 → ∃ kl, keyOf P k (prV i j) = some kl
theorem MapO.made (hk : PrK P k) : MapO P k e 0 zero9 (.map #[] 0) := by
 refine ⟨.map [], fun w g hg => ?_, isMap_empty, fun i hi j hj => ?_⟩
 · exact ⟨#[], 0, hg, ⟨by simp, MapKept.stamped_empty 0, by simp⟩, Nat.le_refl _, rfl⟩
 ·
  obtain ⟨kl, h⟩ := hk i hi j hj
  exact ⟨kl, h, rfl⟩
theorem MapO.mono {c c' : Nat} {r : Nat → Int} {o : Obj} (h : MapO P k e c r o) (hc : c ≤ c') : MapO P k e c' r o := by
 obtain ⟨D, h1, h2, h3⟩ := h
 exact ⟨D, fun w g hg => (h1 w g hg).mono hc, h2, h3⟩
theorem yields_lookP {ops : Array Oper} {S : World → Prop} {q : Oper} {a : Act} (hw : Region.wanted q (yielded ops a.tmps) = true) (m x : Operand) (hop : q.op = Op.lookup t m x false) {g i j : Nat} (z : Int) (hm : a.eval m = .map (some g)) (hx : a.eval x = prV i j)
  (hS : ∀ w, S w → (Instr.lookup t (.map (some g)) (prV i j) false).run P w = .ok (.int .i64 z) w) : YieldsIf P ops S q (.int .i64 z) a :=
 .inl ⟨hw, fun w h => by
  unfold execOp
  simp only [hop, hm, hx, hS w h, Sem.run_bind, Result.andThen_ok, Sem.run_pure]⟩
variable (K : Keyed P k) (ht : P.underlying t = some (.map k e)) (he : P.underlying e = some (.int .i64))
include K ht he
theorem MapO.look {c : Nat} {r : Nat → Int} {o : Obj} {w : World} {g i j : Nat} (hz : (zeroValue e).run P w = .ok (.int .i64 0) w) (h : MapO P k e c r o) (hg : w.heap[g]? = some o) (hi : i < 3) (hj : j < 3) :
  (Instr.lookup t (.map (some g)) (prV i j) false).run P w = .ok (.int .i64 (r (i * 3 + j))) w := by
 obtain ⟨D, h1, h2, h3⟩ := h
 obtain ⟨kl, hk, ha⟩ := h3 i hi j hj
 obtain ⟨x, hx, hat, _⟩ := (h1 w g hg).lookup_int K ht he hz hk
 rw [ha] at hat
 simp only [DataW.lit.injEq, Lit.int.injEq, true_and] at hat
 rw [hat]; exact hx
theorem MapO.store {c : Nat} {r : Nat → Int} {o : Obj} {w : World} {g i j : Nat} {x : Int} (h : MapO P k e c r o) (hg : w.heap[g]? = some o) (hc : c < maxLen) (hi : i < 3) (hj : j < 3) (hx : (Lit.int .i64 x).wf = true) :
  ∃ w' o', (Instr.mapUpdate t (.map (some g)) (prV i j) (.int .i64 x)).run P w = .ok () w' ∧ w'.heap[g]? = some o' ∧ MapO P k e (c + 1) (updI r (i * 3 + j) x) o' ∧ (∀ q, q ≠ g → w'.heap[q]? = w.heap[q]?) ∧ w'.heap.size = w.heap.size ∧ w'.os = w.os ∧ w'.tape = w.tape ∧ w'.output = w.output := by
 obtain ⟨D, h1, h2, h3⟩ := h
 obtain ⟨kl, hk, ha⟩ := h3 i hi j hj
 obtain ⟨w', hrun, hown, es, clock, es', clock', hb, rfl⟩ := (h1 w g hg).store K ht hc hk (plainElem_int he hx)
 refine ⟨_, .map es' clock', hrun, heap_setBlock_same hb _, ⟨D.put kl (.lit (.int .i64 x)), fun w2 g2 hg2 => ?_, h2.put _ _, fun i' hi' j' hj' => ?_⟩, fun q hq => heap_setBlock_other hb _ hq, by simp [setBlock], rfl, rfl, rfl⟩
 ·
  obtain ⟨es2, clock2, hb2, F, hs, hD⟩ := hown
  have e1 := (heap_setBlock_same hb (.map es' clock')).symm.trans hb2
  exact ⟨es2, clock2, hg2.trans e1, F, hs, hD⟩
 ·
  obtain ⟨kl', hk', ha'⟩ := h3 i' hi' j' hj'
  refine ⟨kl', hk', ?_⟩
  by_cases e1 : kl' = kl
  ·
   subst e1
   have e2 := K.inj hk hk'
   simp only [Value.agg.injEq, Array.mk.injEq, List.cons.injEq, Value.int.injEq, true_and, and_true] at e2
   obtain ⟨a1, a2⟩ := e2
   obtain rfl : i' = i := by omega
   obtain rfl : j' = j := by omega
   rw [atKey_put_same h2 (K.key hk), updI_at]
  ·
   rw [atKey_put_other e1, ha']
   have e3 : i' * 3 + j' ≠ i * 3 + j := fun e4 => by
    obtain rfl : i' = i := by omega
    obtain rfl : j' = j := by omega
    exact e1 (Option.some.inj (hk'.symm.trans hk))
   rw [updI_no _ _ e3]
theorem step_storeP {w : World} {ops : Array Oper} {rest : List Oper} {q : Oper} {a : Act} {Q : Exit → Act → World → Prop} (hg : q.guard = none) (m x v : Operand) (hop : q.op = Op.mapUpdate t m x v)
  {c : Nat} {r : Nat → Int} {o : Obj} {g i j : Nat} {z : Int} (hm : a.eval m = .map (some g)) (hx : a.eval x = prV i j) (hv : a.eval v = .int .i64 z) (hb : w.heap[g]? = some o) (h : MapO P k e c r o) (hc : c < maxLen) (hi : i < 3) (hj : j < 3) (hw : (Lit.int .i64 z).wf = true)
  (hK : ∀ w' o', w'.heap[g]? = some o' → MapO P k e (c + 1) (updI r (i * 3 + j) z) o' → (∀ q, q ≠ g → w'.heap[q]? = w.heap[q]?) → w'.heap.size = w.heap.size → (w'.os = w.os ∧ w'.tape = w.tape ∧ w'.output = w.output) → wpList P ops Q rest (a.put q.dst undef) w') : wpList P ops Q (q :: rest) a w := by
 refine wpList_plain hg fun K' hK' => ?_
 obtain ⟨w', o', hrun, r1, r2, r3, r4, r5⟩ := h.store K ht he hb hc hi hj hw
 unfold Oper.wp
 simp [execOp, hop, hm, hx, hv, hrun, Result.andThen]
 exact hK' _ _ (hK w' o' r1 r2 r3 r4 r5)
end
section
variable (dS : Ms → Op6 → Ms) (dR : Ms → Op6 → Int)
def mkI (S : Ms) (r : Nat → Int) (k : Nat) : Nat → Ms × (Nat → Int)
 | 0 => (S, r)
 | i + 1 => (dS (mkI S r k i).1 rnd6, updI (updI (mkI S r k i).2 (i * 3 + k) (dR (mkI S r k i).1 rnd6)) (k * 3 + i) (dR (mkI S r k i).1 rnd6))
def mkG (S : Ms) : Nat → Ms × (Nat → Int)
 | 0 => (S, zero9)
 | k + 1 => mkI dS dR (mkG S k).1 (mkG S k).2 k k
theorem mk_2 (S : Ms) : mkG dS dR S 2 = rnG dS dR S 2 2 := rfl
theorem mk_3 (S : Ms) : mkG dS dR S 3 = rnG dS dR S 3 3 := rfl
end
theorem mkI_bq {k j : Nat} {n : Int} {S : Ms} {r : Nat → Int} (h : Bn k n S) (hr : Wb r) : ∀ {i}, k + i ≤ 1000000 → Bn (k + i) n (mkI dS0 dR0 S r j i).1 ∧ Wb (mkI dS0 dR0 S r j i).2
 | 0, _ => ⟨h, hr⟩
 | i + 1, hk => by
  obtain ⟨h1, h2⟩ := mkI_bq (j := j) h hr (i := i) (by omega)
  exact ⟨h1.does rw1, (h2.upd (h1.reg (by omega) _)).upd (h1.reg (by omega) _)⟩
theorem mkG_bq {k : Nat} {n : Int} {S : Ms} (h : Bn k n S) : ∀ {j}, j ≤ 3 → k + 3 * j ≤ 1000000 → Bn (k + 3 * j) n (mkG dS0 dR0 S j).1 ∧ Wb (mkG dS0 dR0 S j).2
 | 0, _, _ => ⟨h, zero9_wb⟩
 | j + 1, hj, hk => by
  obtain ⟨h1, h2⟩ := mkG_bq h (j := j) (by omega) (by omega)
  obtain ⟨g1, g2⟩ := mkI_bq (j := j) h1 h2 (i := j) (by omega)
  exact ⟨g1.mono (by omega), g2⟩

def iz (n : Nat) (f : Nat → Int) : Array Value := ((List.range n).map fun i => Value.int .i64 (f i)).toArray
theorem iz_size (n : Nat) (f : Nat → Int) : (iz n f).size = n := by simp [iz]
theorem iz_get {n : Nat} (f : Nat → Int) {j : Nat} (h : j < n) : (iz n f)[j]? = some (.int .i64 (f j)) := by simp [iz, h]
theorem iz_set (n : Nat) (f : Nat → Int) (j : Nat) (z : Int) : (iz n f).setIfInBounds j (.int .i64 z) = iz n (updI f j z) := by
 apply Array.ext_getElem?
 intro i
 rw [Array.getElem?_setIfInBounds, iz_size]
 by_cases hi : i < n
 ·
  rw [iz_get _ hi, iz_get _ hi]
  by_cases e : j = i
  · subst e; rw [if_pos rfl, if_pos hi, updI_at]
  · rw [if_neg e, updI_no _ _ (fun h => e h.symm)]
 ·
  have h1 : (iz n f)[i]? = none := by simp [iz_size]; omega
  have h2 : (iz n (updI f j z))[i]? = none := by simp [iz_size]; omega
  rw [h1, h2]
  by_cases e : j = i
  · rw [if_pos e, if_neg (by omega)]
  · rw [if_neg e]
open Go.RowKit Go.Maps
set_option maxRecDepth 100000
theorem laidOutT : laidOutB Tryz.prog = true := by kernel_rfl
theorem kprK : Keyed Tryz.prog 134 := Keyed.of_law (deep_law_laid laidOutT (m := 3) (by omega) (of_decide_eq_true (by kernel_rfl)) (by kernel_rfl) (by kernel_rfl))
theorem prkP : PrK Tryz.prog 134 := fun i hi j hj => by
 have h : ∀ i j : Nat, i < 3 → j < 3 → (keyOf Tryz.prog 134 (prV i j)).isSome = true := fun i j hi hj => by
  rcases (by omega : i = 0 ∨ i = 1 ∨ i = 2) with rfl | rfl | rfl <;> rcases (by omega : j = 0 ∨ j = 1 ∨ j = 2) with rfl | rfl | rfl <;> kernel_rfl
 exact Option.isSome_iff_exists.1 (h i j hi hj)
theorem zeroI (w : World) : (zeroValue 3).run Tryz.prog w = .ok (.int .i64 0) w := by kernel_rfl
abbrev ptC (b g : Nat) (p : Nat → Int) : Array Value := #[.pointer (some ⟨b, 0, none⟩), .map (some g), .int .i64 (p 0), .int .i64 (p 1), .int .i64 (p 2), .int .i64 (p 3), .int .i64 (p 4), .int .i64 (p 5), .int .i64 (p 6), .int .i64 (p 7), .int .i64 (p 8)]
theorem pt_at (b g : Nat) (p : Nat → Int) {j : Nat} (hj : j < 9) : (ptC b g p)[2 + j]? = some (.int .i64 (p j)) := by
 rcases (by omega : j = 0 ∨ j = 1 ∨ j = 2 ∨ j = 3 ∨ j = 4 ∨ j = 5 ∨ j = 6 ∨ j = 7 ∨ j = 8) with rfl | rfl | rfl | rfl | rfl | rfl | rfl | rfl | rfl <;> rfl
abbrev Msk (c : Nat) (r : Nat → Int) (o : Obj) : Prop := MapO Tryz.prog 134 3 c r o
theorem Msk.run {c : Nat} {r : Nat → Int} {o : Obj} (h : Msk c r o) {w : World} {g i k : Nat} (hg : w.heap[g]? = some o) (hi : i < 3) (hk : k < 3) : (Instr.lookup 126 (.map (some g)) (prV i k) false).run Tryz.prog w = .ok (.int .i64 (r (i * 3 + k))) w := MapO.look kprK Tryz.underlying126 Tryz.underlying3 (zeroI w) h hg hi hk
theorem Ow.atB {Pm : World → Nat → Ms → (Nat → Prop) → Prop} {F0 : Nat → Prop} {w0 w : World} {b : Nat} {S : Ms} {bs : List (Nat × Obj)} (h : Ow Pm F0 w0 w b S bs) {n : Nat} {u : Obj} (hi : (n, u) ∈ bs) : w.heap[n]? = some u := (h.bx (n, u) hi).2
theorem built_pr (x y : Int) : Tryz.prog.built 134 [(0, .int .i64 x), (1, .int .i64 y)] = some #[.int .i64 x, .int .i64 y] := by kernel_rfl
theorem yields_build_pr {ops : Array Oper} {S : World → Prop} {o : Oper} {a : Act} (hw : Region.wanted o (yielded ops a.tmps) = true) (u v : Operand) (ho : o.op = .build 134 #[(0, u), (1, v)]) (x y : Int) (hx : a.eval u = .int .i64 x) (hy : a.eval v = .int .i64 y) : YieldsIf Tryz.prog ops S o (.agg #[.int .i64 x, .int .i64 y]) a :=
 .inl ⟨hw, fun w _ => by
  unfold execOp
  have e : ((#[(0, u), (1, v)] : Array (Nat × Operand)).map fun (i, x) => (i, a.eval x)).toList = [(0, .int .i64 x), (1, .int .i64 y)] := by simp [hx, hy]
  have hb := run_build (P := Tryz.prog) w 134 ((#[(0, u), (1, v)] : Array (Nat × Operand)).map fun (i, x) => (i, a.eval x)) _ (by rw [e]; exact built_pr x y)
  simp only [ho, Sem.run_bind, hb, Result.andThen_ok, Sem.run_pure]⟩
set_option maxHeartbeats 1600000 in
theorem txor_any {Pm : World → Nat → Ms → (Nat → Prop) → Prop} (hM : Mach Pm) {F0 : Nat → Prop} {w0 w : World} {b : Nat} {bs : List (Nat × Obj)} (g : Nat) (p : Nat → Int) (k i : Nat) (x z : Int) (S : Ms) (h : Ow Pm F0 w0 w b S bs) (hq : Bq k S) (hk : k ≤ 100000) (hi : i ≤ 1000) (hx : I64 x) (hz : I64 z) :
  Calls Tryz.prog 103 #[.agg (ptC b g p), .int .i64 (i : Int), .int .i64 x, .int .i64 z] w fun e w' => e = .returned (.int .i64 (dR0 S (xr6 i x z))) ∧ Ow Pm F0 w0 w' b (dS0 S (xr6 i x z)) bs := by
 have HC : Hid (∀ (bs' : List (Nat × Obj)) (w' : World), Ow Pm F0 w0 w' b S bs' → Calls Tryz.prog 85 #[.pointer (some ⟨b, 0, none⟩), .int .i64 5, .int .i64 (i : Int), .int .i64 x, .int .i64 z] w' fun e w2 => e = .returned (.int .i64 (dR0 S (xr6 i x z))) ∧ Ow Pm F0 w0 w2 b (dS0 S (xr6 i x z)) bs') := hid (fun bs' w' h' => h'.lift hM (fun F hF => hM.two b k S F 5 (i : Int) x z w' hF hq (by omega) (xr6_wf hi hx hz)))
 obtain ⟨w1, hw1⟩ : ∃ w1, w.alloc (.cells (ptC b g p) 129) = w1 := ⟨_, rfl⟩
 have H1 := hid (h.new hM (ptC b g p) 129)
 rw [hw1] at H1
 have HW := hid hw1
 have c0 := row_c (i := 0) (u := .pointer (some ⟨b, 0, none⟩)) (H1.out.bl 0 rfl) rfl
 clear h hq hk hi hx hz hw1
 generalize dS0 S (xr6 i x z) = S2 at *
 generalize dR0 S (xr6 i x z) = x2 at *
 go_enter Tryz.func103, Tryz.ntmps103
 go_upto_region 1 with fail
 rw [HW.out]
 go_wp2_with (go_at_call 85; (with_reducible refine (HC.out _ _ H1.out).mono ?_); rintro e w2 ⟨rfl, hb⟩; have H2 := hid hb; clear hb c0)
 go_ret
 exact ⟨rfl, H2.out.drop⟩
set_option maxHeartbeats 3200000 in
theorem tdom_any {Pm : World → Nat → Ms → (Nat → Prop) → Prop} (hM : Mach Pm) {F0 : Nat → Prop} {w0 w : World} {b : Nat} {bs : List (Nat × Obj)} (g : Nat) (o : Obj) (c : Nat) (r p : Nat → Int) (q i k : Nat) (S : Ms) (h : Ow Pm F0 w0 w b S bs) (hg : (g, o) ∈ bs) (ho : Msk c r o) (hq : Bq q S) (hk : q + 2 ≤ 100000) (hi : i < 3) (hk3 : k < 3) (hr : Wb r) (hp : Wb p) :
  Calls Tryz.prog 91 #[.agg (ptC b g p), .int .i64 (i : Int), .int .i64 (k : Int)] w fun e w' => e = .returned (.int .i64 (moG dS0 dR0 true r p S i k).2) ∧ Ow Pm F0 w0 w' b (moG dS0 dR0 true r p S i k).1 bs := by
 rw [moG_dom]
 have HC : Hid (∀ (w' : World), Ow Pm F0 w0 w' b S ((w.heap.size, .cells (ptC b g p) 129 (0, 0)) :: bs) → Calls Tryz.prog 103 #[.agg (ptC b g p), .int .i64 (i : Int), .int .i64 (p (i * 3 + k)), .int .i64 (r (i * 3 + k))] w' fun e w2 => e = .returned (.int .i64 (dR0 S (xr6 i (p (i * 3 + k)) (r (i * 3 + k))))) ∧ Ow Pm F0 w0 w2 b (dS0 S (xr6 i (p (i * 3 + k)) (r (i * 3 + k)))) ((w.heap.size, .cells (ptC b g p) 129 (0, 0)) :: bs)) := hid (fun w' h' => txor_any hM g p q i _ _ S h' hq (by omega) (by omega) (hp _) (hr _))
 obtain ⟨w1, hw1⟩ : ∃ w1, w.alloc (.cells (ptC b g p) 129) = w1 := ⟨_, rfl⟩
 have H1 := hid (h.new hM (ptC b g p) 129)
 rw [hw1] at H1
 obtain ⟨g3, hg3⟩ : ∃ g3, w.heap.size = g3 := ⟨_, rfl⟩
 rw [hg3] at H1
 have HG3 := hid hg3
 have HW := hid hw1
 have HO := hid ho
 have HG := hid hg
 have HI := hid hi
 have HK := hid hk3
 rw [hg3] at HC
 have HY1 : Hid ((ptC b g p)[2 + i * 3 + k]? = some (.int .i64 (p (i * 3 + k)))) := hid (by rw [Nat.add_assoc]; exact pt_at b g p (by omega))
 have i0 : (0 : Int) ≤ (i : Int) := by omega
 have i3 : (i : Int) < 3 := by omega
 have k0 : (0 : Int) ≤ (k : Int) := by omega
 have k3 : (k : Int) < 3 := by omega
 clear h hg ho hq hk hi hk3 hr hp hg3 hw1
 obtain ⟨y, hy⟩ : ∃ y, p (i * 3 + k) = y := ⟨_, rfl⟩
 obtain ⟨z, hz⟩ : ∃ z, r (i * 3 + k) = z := ⟨_, rfl⟩
 have HZ2 := hid hz
 rw [hy] at HY1
 simp only [hy, hz] at HC ⊢
 clear hy hz
 generalize dS0 S (xr6 i y z) = S2 at *
 generalize dR0 S (xr6 i y z) = x2 at *
 go_enter Tryz.func91, Tryz.ntmps91
 go_upto_region 1 with fail
 rw [HW.out, HG3.out]
 have H2 := hid (H1.out.self hM ((Below.refl _ w1).drew))
 refine wp_region_noPanic ?_
 refine wp_region_held_drew (S := fun w' => w'.heap[g3]? = some (.cells (ptC b g p) 129 (0, 0)) ∧ (Instr.lookup 126 (.map (some g)) (prV i k) false).run Tryz.prog w' = .ok (.int .i64 z) w') (by kernel_rfl) (⟨H2.out.bl 0 rfl, by have q := Msk.run HO.out (H2.out.drop.atB HG.out) HI.out HK.out; rw [HZ2.out] at q; exact q⟩) (fun h0 => ?_)
 generalize w1.drew = y1 at *
 refine tK 0 (.agg (ptC b g p)) rfl (yields_load_row (by rfl) 129 _ rfl g3 129 (ptC b g p) _ rfl (fun w hw => hw.1) Tryz.underlying129 rfl (by kernel_rfl)) h0 ?_
 try simp only [Act.put, lay_out]
 refine tK 1 (.int .i64 (i : Int)) rfl (.inl ⟨by rfl, fun w hw => by clear hw; go_simp⟩) h0 ?_
 try simp only [Act.put, lay_out]
 refine tK 2 (.int .i64 (i : Int)) rfl (.inl ⟨by rfl, fun w hw => by clear hw; go_simp⟩) h0 ?_
 try simp only [Act.put, lay_out]
 refine tK 3 (.int .i64 (k : Int)) rfl (.inl ⟨by rfl, fun w hw => by clear hw; go_simp⟩) h0 ?_
 try simp only [Act.put, lay_out]
 refine tK 4 (.pointer (some ⟨g3, 2, none⟩)) rfl (.inl ⟨by rfl, fun w hw => by clear hw; go_simp⟩) h0 ?_
 try simp only [Act.put, lay_out]
 refine tK 5 (.pointer (some ⟨g3, 2 + i * 3, none⟩)) rfl (.inl ⟨by rfl, fun w hw => by clear hw; go_simp⟩) h0 ?_
 try simp only [Act.put, lay_out]
 refine tK 6 (.pointer (some ⟨g3, 2 + i * 3 + k, none⟩)) rfl (.inl ⟨by rfl, fun w hw => by clear hw; go_simp⟩) h0 ?_
 try simp only [Act.put, lay_out]
 refine tK 7 (.int .i64 y) rfl (.inl ⟨by rfl, fun w' hw => by have hc := row_c (i := 2 + i * 3 + k) (u := .int .i64 y) (hw.1) (HY1.out); clear hw; go_simp⟩) h0 ?_
 try simp only [Act.put, lay_out]
 refine tK 8 (.pointer (some ⟨g3, 1, none⟩)) rfl (.inl ⟨by rfl, fun w hw => by clear hw; go_simp⟩) h0 ?_
 try simp only [Act.put, lay_out]
 refine tK 9 (.map (some g)) rfl (.inl ⟨by rfl, fun w' hw => by have hc := row_c (i := 1) (u := .map (some g)) (hw.1) (rfl); clear hw; go_simp⟩) h0 ?_
 try simp only [Act.put, lay_out]
 refine tK 10 (.int .i64 (i : Int)) rfl (.inl ⟨by rfl, fun w hw => by clear hw; go_simp⟩) h0 ?_
 try simp only [Act.put, lay_out]
 refine tK 11 (.int .i64 (k : Int)) rfl (.inl ⟨by rfl, fun w hw => by clear hw; go_simp⟩) h0 ?_
 try simp only [Act.put, lay_out]
 refine tK 12 (.agg #[.int .i64 (i : Int), .int .i64 (k : Int)]) rfl (yields_build_pr (by rfl) _ _ rfl (i : Int) (k : Int) rfl rfl) h0 ?_
 try simp only [Act.put, lay_out]
 refine tK 13 (.int .i64 z) rfl (yields_lookP (by rfl) _ _ rfl z rfl rfl (fun w hw => hw.2)) h0 ?_
 try simp only [Act.put, lay_out]
 refine wpAnyH_ready (rs := [14]) (by kernel_rfl) (by simp) (AllReadyH.cons rfl (fun K hK => ?_) AllReadyH.nil)
 rw [if_pos (by rfl)]
 go_simp
 go_at_call 103
 (with_reducible refine (HC.out _ H2.out).mono ?_); rintro e y2 ⟨rfl, hz⟩
 have H3 := hid hz
 clear hz
 refine hK.out _ _ (⟨H3.out.bl 0 rfl, by have q := Msk.run HO.out (H3.out.drop.atB HG.out) HI.out HK.out; rw [HZ2.out] at q; exact q⟩) (fun h1x => ?_)
 clear hK K
 try simp only [Act.put, lay_out]
 refine tK 15 (.int .i64 x2) rfl (.inl ⟨by rfl, fun w hw => by clear hw; go_simp⟩) h1x ?_
 try simp only [Act.put, lay_out]
 refine wpAnyH_done (by kernel_rfl) ?_ _
 refine NoPanic.normal ?_
 clear h0 h1x
 try simp only [Act.put, lay_out]
 go_wp2
 go_ret
 exact ⟨rfl, H3.out.drop⟩
set_option maxHeartbeats 3200000 in
theorem tiswU_any {Pm : World → Nat → Ms → (Nat → Prop) → Prop} (hM : Mach Pm) {F0 : Nat → Prop} {w0 w : World} {b : Nat} {bs : List (Nat × Obj)} (g : Nat) (o : Obj) (c : Nat) (r p : Nat → Int) (q i k : Nat) (S : Ms) (h : Ow Pm F0 w0 w b S bs) (hg : (g, o) ∈ bs) (ho : Msk c r o) (_ : Bq q S) (_ : q + 2 ≤ 100000) (hi : i < 3) (hk3 : k < 3) (hik : i < k) (_ : Wb r) (_ : Wb p) :
  Calls Tryz.prog 92 #[.agg (ptC b g p), .int .i64 (i : Int), .int .i64 (k : Int)] w fun e w' => e = .returned (.int .i64 (moG dS0 dR0 false r p S i k).2) ∧ Ow Pm F0 w0 w' b (moG dS0 dR0 false r p S i k).1 bs := by
 rw [moG_up _ _ _ hik]
 have HR : Hid (∀ w', Ow Pm F0 w0 w' b S ((w.heap.size, .cells (ptC b g p) 129 (0, 0)) :: bs) → (Instr.lookup 126 (.map (some g)) (prV i k) false).run Tryz.prog w' = .ok (.int .i64 (r (i * 3 + k))) w') := hid (fun w' h' => Msk.run ho (h'.drop.atB hg) hi hk3)
 obtain ⟨w1, hw1⟩ : ∃ w1, w.alloc (.cells (ptC b g p) 129) = w1 := ⟨_, rfl⟩
 have H1 := hid (h.new hM (ptC b g p) 129)
 rw [hw1] at H1
 obtain ⟨g3, hg3⟩ : ∃ g3, w.heap.size = g3 := ⟨_, rfl⟩
 rw [hg3] at H1
 have HG3 := hid hg3
 have HW := hid hw1
 have HO := hid ho
 have HG := hid hg
 have HI := hid hi
 have HK := hid hk3
 rw [hg3] at HR
 have q1 : decide ((k : Int) > (i : Int)) = true := decide_eq_true (by omega)
 have q2 : decide ((i : Int) < (k : Int)) = true := decide_eq_true (by omega)
 have q3 : decide (i < k) = true := decide_eq_true hik
 clear h hg ho hi hk3 hg3 hw1 hik
 obtain ⟨z, hz⟩ : ∃ z, r (i * 3 + k) = z := ⟨_, rfl⟩
 rw [hz] at HR
 rw [hz]
 clear hz
 have c1 := row_c (i := 1) (u := .map (some g)) (H1.out.bl 0 rfl) rfl
 have l1 := HR.out _ H1.out
 go_enter Tryz.func92, Tryz.ntmps92
 go_upto_region 1 with fail
 rw [HW.out, HG3.out]
 go_wp2
 go_ret
 exact ⟨rfl, H1.out.drop⟩
set_option maxHeartbeats 3200000 in
theorem tiswD_any {Pm : World → Nat → Ms → (Nat → Prop) → Prop} (hM : Mach Pm) {F0 : Nat → Prop} {w0 w : World} {b : Nat} {bs : List (Nat × Obj)} (g : Nat) (o : Obj) (c : Nat) (r p : Nat → Int) (q i k : Nat) (S : Ms) (h : Ow Pm F0 w0 w b S bs) (hg : (g, o) ∈ bs) (ho : Msk c r o) (hq : Bq q S) (hk : q + 2 ≤ 100000) (hi : i < 3) (hk3 : k < 3) (hki : k < i) (hsym : r (i * 3 + k) = r (k * 3 + i)) (hr : Wb r) (hp : Wb p) :
  Calls Tryz.prog 92 #[.agg (ptC b g p), .int .i64 (i : Int), .int .i64 (k : Int)] w fun e w' => e = .returned (.int .i64 (moG dS0 dR0 false r p S i k).2) ∧ Ow Pm F0 w0 w' b (moG dS0 dR0 false r p S i k).1 bs := by
 rw [moG_down _ _ _ hki]
 have w1_ : opwf (xr6 i (r (k * 3 + i)) (p (k * 3 + i))) := xr6_wf (by omega) (hr _) (hp _)
 have HC1 : Hid (∀ (w' : World), Ow Pm F0 w0 w' b S ((w.heap.size, .cells (ptC b g p) 129 (0, 0)) :: bs) → Calls Tryz.prog 103 #[.agg (ptC b g p), .int .i64 (i : Int), .int .i64 (r (k * 3 + i)), .int .i64 (p (k * 3 + i))] w' fun e w2 => e = .returned (.int .i64 (dR0 S (xr6 i (r (k * 3 + i)) (p (k * 3 + i))))) ∧ Ow Pm F0 w0 w2 b (dS0 S (xr6 i (r (k * 3 + i)) (p (k * 3 + i)))) ((w.heap.size, .cells (ptC b g p) 129 (0, 0)) :: bs)) := hid (fun w' h' => txor_any hM g p q i _ _ S h' hq (by omega) (by omega) (hr _) (hp _))
 have x1_ : I64 (dR0 S (xr6 i (r (k * 3 + i)) (p (k * 3 + i)))) := doR_bd hq (by omega) _
 have b1_ : Bq (q + 1) (dS0 S (xr6 i (r (k * 3 + i)) (p (k * 3 + i)))) := hq.does w1_ (by decide)
 have HC2 : Hid (∀ (w' : World), Ow Pm F0 w0 w' b (dS0 S (xr6 i (r (k * 3 + i)) (p (k * 3 + i)))) ((w.heap.size, .cells (ptC b g p) 129 (0, 0)) :: bs) → Calls Tryz.prog 103 #[.agg (ptC b g p), .int .i64 (i : Int), .int .i64 (dR0 S (xr6 i (r (k * 3 + i)) (p (k * 3 + i)))), .int .i64 (p (i * 3 + k))] w' fun e w2 => e = .returned (.int .i64 (dR0 (dS0 S (xr6 i (r (k * 3 + i)) (p (k * 3 + i)))) (xr6 i (dR0 S (xr6 i (r (k * 3 + i)) (p (k * 3 + i)))) (p (i * 3 + k))))) ∧ Ow Pm F0 w0 w2 b (dS0 (dS0 S (xr6 i (r (k * 3 + i)) (p (k * 3 + i)))) (xr6 i (dR0 S (xr6 i (r (k * 3 + i)) (p (k * 3 + i)))) (p (i * 3 + k)))) ((w.heap.size, .cells (ptC b g p) 129 (0, 0)) :: bs)) := hid (fun w' h' => txor_any hM g p (q + 1) i _ _ _ h' b1_ (by omega) (by omega) x1_ (hp _))
 have HR : Hid (∀ w', Ow Pm F0 w0 w' b S ((w.heap.size, .cells (ptC b g p) 129 (0, 0)) :: bs) → (Instr.lookup 126 (.map (some g)) (prV i k) false).run Tryz.prog w' = .ok (.int .i64 (r (k * 3 + i))) w') := hid (fun w' h' => hsym ▸ Msk.run ho (h'.drop.atB hg) hi hk3)
 obtain ⟨w1, hw1⟩ : ∃ w1, w.alloc (.cells (ptC b g p) 129) = w1 := ⟨_, rfl⟩
 have H1 := hid (h.new hM (ptC b g p) 129)
 rw [hw1] at H1
 obtain ⟨g3, hg3⟩ : ∃ g3, w.heap.size = g3 := ⟨_, rfl⟩
 rw [hg3] at H1
 have HG3 := hid hg3
 have HW := hid hw1
 have HO := hid ho
 have HG := hid hg
 have HI := hid hi
 have HK := hid hk3
 rw [hg3] at HR HC1 HC2
 have HY1 : Hid ((ptC b g p)[2 + k * 3 + i]? = some (.int .i64 (p (k * 3 + i)))) := hid (by rw [Nat.add_assoc]; exact pt_at b g p (by omega))
 have HY2 : Hid ((ptC b g p)[2 + i * 3 + k]? = some (.int .i64 (p (i * 3 + k)))) := hid (by rw [Nat.add_assoc]; exact pt_at b g p (by omega))
 have i0 : (0 : Int) ≤ (i : Int) := by omega
 have i3 : (i : Int) < 3 := by omega
 have k0 : (0 : Int) ≤ (k : Int) := by omega
 have k3 : (k : Int) < 3 := by omega
 have q1 : decide ((k : Int) > (i : Int)) = false := decide_eq_false (by omega)
 have q2 : decide ((i : Int) < (k : Int)) = false := decide_eq_false (by omega)
 have q3 : decide (i < k) = false := decide_eq_false (by omega)
 clear h hg ho hq hk hi hk3 hr hp hg3 hw1 hki w1_ x1_ b1_ hsym
 obtain ⟨y1v, hy1⟩ : ∃ y1v, p (k * 3 + i) = y1v := ⟨_, rfl⟩
 obtain ⟨y2v, hy2⟩ : ∃ y2v, p (i * 3 + k) = y2v := ⟨_, rfl⟩
 obtain ⟨z, hz⟩ : ∃ z, r (k * 3 + i) = z := ⟨_, rfl⟩
 rw [hy1] at HY1
 rw [hy2] at HY2
 rw [hz] at HR
 simp only [hy1, hy2, hz] at HC1 HC2 ⊢
 clear hy1 hy2 hz
 generalize dS0 S (xr6 i z y1v) = S2 at *
 generalize dR0 S (xr6 i z y1v) = x2 at *
 generalize dS0 S2 (xr6 i x2 y2v) = S3 at *
 generalize dR0 S2 (xr6 i x2 y2v) = x3 at *
 have c1 := row_c (i := 1) (u := .map (some g)) (H1.out.bl 0 rfl) rfl
 have l1 := HR.out _ H1.out
 go_enter Tryz.func92, Tryz.ntmps92
 go_upto_region 1 with fail
 rw [HW.out, HG3.out]
 go_upto_region 4 with fail
 clear c1 l1
 have H2 := hid (H1.out.self hM ((Below.refl _ w1).drew))
 refine wp_region_noPanic ?_
 refine wp_region_held_drew (S := fun w' => w'.heap[g3]? = some (.cells (ptC b g p) 129 (0, 0))) (by kernel_rfl) (H2.out.bl 0 rfl) (fun h0 => ?_)
 generalize w1.drew = y1 at *
 refine tK 0 (.agg (ptC b g p)) rfl (yields_load_row (by rfl) 129 _ rfl g3 129 (ptC b g p) _ rfl (fun w hw => hw) Tryz.underlying129 rfl (by kernel_rfl)) h0 ?_
 try simp only [Act.put, lay_out]
 refine tK 1 (.int .i64 (i : Int)) rfl (.inl ⟨by rfl, fun w hw => by clear hw; go_simp⟩) h0 ?_
 try simp only [Act.put, lay_out]
 refine tK 2 (.agg (ptC b g p)) rfl (yields_load_row (by rfl) 129 _ rfl g3 129 (ptC b g p) _ rfl (fun w hw => hw) Tryz.underlying129 rfl (by kernel_rfl)) h0 ?_
 try simp only [Act.put, lay_out]
 refine tK 3 (.int .i64 (i : Int)) rfl (.inl ⟨by rfl, fun w hw => by clear hw; go_simp⟩) h0 ?_
 try simp only [Act.put, lay_out]
 refine tK 4 (.int .i64 z) rfl (.inl ⟨by rfl, fun w hw => by clear hw; go_simp⟩) h0 ?_
 try simp only [Act.put, lay_out]
 refine tK 5 (.int .i64 (k : Int)) rfl (.inl ⟨by rfl, fun w hw => by clear hw; go_simp⟩) h0 ?_
 try simp only [Act.put, lay_out]
 refine tK 6 (.int .i64 (i : Int)) rfl (.inl ⟨by rfl, fun w hw => by clear hw; go_simp⟩) h0 ?_
 try simp only [Act.put, lay_out]
 refine tK 7 (.pointer (some ⟨g3, 2, none⟩)) rfl (.inl ⟨by rfl, fun w hw => by clear hw; go_simp⟩) h0 ?_
 try simp only [Act.put, lay_out]
 refine tK 8 (.pointer (some ⟨g3, 2 + k * 3, none⟩)) rfl (.inl ⟨by rfl, fun w hw => by clear hw; go_simp⟩) h0 ?_
 try simp only [Act.put, lay_out]
 refine tK 9 (.pointer (some ⟨g3, 2 + k * 3 + i, none⟩)) rfl (.inl ⟨by rfl, fun w hw => by clear hw; go_simp⟩) h0 ?_
 try simp only [Act.put, lay_out]
 refine tK 10 (.int .i64 y1v) rfl (.inl ⟨by rfl, fun w' hw => by have hc := row_c (i := 2 + k * 3 + i) (u := .int .i64 y1v) (hw) (HY1.out); clear hw; go_simp⟩) h0 ?_
 try simp only [Act.put, lay_out]
 refine tK 12 (.int .i64 (i : Int)) rfl (.inl ⟨by rfl, fun w hw => by clear hw; go_simp⟩) h0 ?_
 try simp only [Act.put, lay_out]
 refine tK 13 (.int .i64 (k : Int)) rfl (.inl ⟨by rfl, fun w hw => by clear hw; go_simp⟩) h0 ?_
 try simp only [Act.put, lay_out]
 refine tK 14 (.pointer (some ⟨g3, 2, none⟩)) rfl (.inl ⟨by rfl, fun w hw => by clear hw; go_simp⟩) h0 ?_
 try simp only [Act.put, lay_out]
 refine tK 15 (.pointer (some ⟨g3, 2 + i * 3, none⟩)) rfl (.inl ⟨by rfl, fun w hw => by clear hw; go_simp⟩) h0 ?_
 try simp only [Act.put, lay_out]
 refine tK 16 (.pointer (some ⟨g3, 2 + i * 3 + k, none⟩)) rfl (.inl ⟨by rfl, fun w hw => by clear hw; go_simp⟩) h0 ?_
 try simp only [Act.put, lay_out]
 refine tK 17 (.int .i64 y2v) rfl (.inl ⟨by rfl, fun w' hw => by have hc := row_c (i := 2 + i * 3 + k) (u := .int .i64 y2v) (hw) (HY2.out); clear hw; go_simp⟩) h0 ?_
 try simp only [Act.put, lay_out]
 refine wpAnyH_ready (rs := [11]) (by kernel_rfl) (by simp) (AllReadyH.cons rfl (fun K hK => ?_) AllReadyH.nil)
 rw [if_pos (by rfl)]
 go_simp
 go_at_call 103
 (with_reducible refine (HC1.out _ H2.out).mono ?_); rintro e y2 ⟨rfl, hz⟩
 have H3 := hid hz
 clear hz
 refine hK.out _ _ (H3.out.bl 0 rfl) (fun h1x => ?_)
 clear hK K
 try simp only [Act.put, lay_out]
 refine wpAnyH_ready (rs := [18]) (by kernel_rfl) (by simp) (AllReadyH.cons rfl (fun K hK => ?_) AllReadyH.nil)
 rw [if_pos (by rfl)]
 go_simp
 go_at_call 103
 (with_reducible refine (HC2.out _ H3.out).mono ?_); rintro e y3 ⟨rfl, hz⟩
 have H4 := hid hz
 clear hz
 refine hK.out _ _ (H4.out.bl 0 rfl) (fun h2x => ?_)
 clear hK K
 try simp only [Act.put, lay_out]
 refine tK 19 (.int .i64 x3) rfl (.inl ⟨by rfl, fun w hw => by clear hw; go_simp⟩) h2x ?_
 try simp only [Act.put, lay_out]
 refine wpAnyH_done (by kernel_rfl) ?_ _
 refine NoPanic.normal ?_
 clear h0 h1x h2x
 try simp only [Act.put, lay_out]
 go_wp2
 go_ret
 exact ⟨rfl, H4.out.drop⟩
open Go.RowKit Go.Maps
set_option maxRecDepth 100000
theorem tisw_any {Pm : World → Nat → Ms → (Nat → Prop) → Prop} (hM : Mach Pm) {F0 : Nat → Prop} {w0 w : World} {b : Nat} {bs : List (Nat × Obj)} (g : Nat) (o : Obj) (c : Nat) (r p : Nat → Int) (q i k : Nat) (S : Ms) (h : Ow Pm F0 w0 w b S bs) (hg : (g, o) ∈ bs) (ho : Msk c r o) (hq : Bq q S) (hk : q + 2 ≤ 100000) (hi : i < 3) (hk3 : k < 3) (hne : k ≠ i) (hsym : r (i * 3 + k) = r (k * 3 + i)) (hr : Wb r) (hp : Wb p) :
  Calls Tryz.prog 92 #[.agg (ptC b g p), .int .i64 (i : Int), .int .i64 (k : Int)] w fun e w' => e = .returned (.int .i64 (moG dS0 dR0 false r p S i k).2) ∧ Ow Pm F0 w0 w' b (moG dS0 dR0 false r p S i k).1 bs := by
 by_cases h1 : i < k
 · exact tiswU_any hM g o c r p q i k S h hg ho hq hk hi hk3 h1 hr hp
 · exact tiswD_any hM g o c r p q i k S h hg ho hq hk hi hk3 (by omega) hsym hr hp
set_option maxHeartbeats 6400000 in
theorem tshare_isw {Pm : World → Nat → Ms → (Nat → Prop) → Prop} (hM : Mach Pm) {F0 : Nat → Prop} {w0 w : World} {b : Nat} {bs : List (Nat × Obj)} (g : Nat) (o : Obj) (c : Nat) (r p : Nat → Int) (q nn i : Nat) (S : Ms) (h : Ow Pm F0 w0 w b S bs) (hg : (g, o) ∈ bs) (ho : Msk c r o) (hq : Bq q S) (hk : q + 12 ≤ 100000) (hn : S.n = (nn : Int)) (hn3 : nn ≤ 3) (hi : i < 3) (hsym : ∀ k, k < nn → r (i * 3 + k) = r (k * 3 + i)) (hr : Wb r) (hp : Wb p) :
  Calls Tryz.prog 102 #[.agg (ptC b g p), .int .i64 (i : Int), .func (.func 92) #[] #[]] w fun e w' => e = .returned (.int .i64 (fnI dS0 dR0 false r p S i nn).2) ∧ Ow Pm F0 w0 w' b (fnI dS0 dR0 false r p S i nn).1 bs := by
 have HB : ∀ k, k ≤ nn → Bn (q + 3 * k) (nn : Int) (fnI dS0 dR0 false r p S i k).1 ∧ I64 (fnI dS0 dR0 false r p S i k).2 := fun k hk2 => fnI_bq ⟨hq, hn⟩ (by omega) hr hp (by omega)
 have HNB : Hid (∀ (w' : World), Ow Pm F0 w0 w' b (fnI dS0 dR0 false r p S i 0).1 ((w.heap.size, .cells (ptC b g p) 129 (0, 0)) :: bs) → Calls Tryz.prog 76 #[.pointer (some ⟨b, 0, none⟩)] w' fun e w2 => e = .returned (.int .i64 (nn : Int)) ∧ Below w'.heap.size w' w2) := hid (fun w' h' => h'.asks (fun F hF => by have := hM.n b q S F w' hF hq (by omega); rw [hn] at this; exact this))
 have HMO : Hid (∀ k, k < nn → k ≠ i → ∀ (w' : World), Ow Pm F0 w0 w' b (fnI dS0 dR0 false r p S i k).1 ((w.heap.size, .cells (ptC b g p) 129 (0, 0)) :: bs) → Calls Tryz.prog 92 #[.agg (ptC b g p), .int .i64 (i : Int), .int .i64 (k : Int)] w' fun e w2 => e = .returned (.int .i64 (moG dS0 dR0 false r p (fnI dS0 dR0 false r p S i k).1 i k).2) ∧ Ow Pm F0 w0 w2 b (moG dS0 dR0 false r p (fnI dS0 dR0 false r p S i k).1 i k).1 ((w.heap.size, .cells (ptC b g p) 129 (0, 0)) :: bs)) := hid (fun k hk2 hne w' h' => by
  have hb := (HB k (by omega)).1
  exact tisw_any hM g o c r p _ i k _ h' (by simp [hg]) ho hb.1 (by omega) hi (by omega) hne (hsym k (by omega)) hr hp)
 have HXO : Hid (∀ k, k < nn → k ≠ i → ∀ (w' : World), Ow Pm F0 w0 w' b (moG dS0 dR0 false r p (fnI dS0 dR0 false r p S i k).1 i k).1 ((w.heap.size, .cells (ptC b g p) 129 (0, 0)) :: bs) → Calls Tryz.prog 103 #[.agg (ptC b g p), .int .i64 (i : Int), .int .i64 (fnI dS0 dR0 false r p S i k).2, .int .i64 (moG dS0 dR0 false r p (fnI dS0 dR0 false r p S i k).1 i k).2] w' fun e w2 => e = .returned (.int .i64 (fnI dS0 dR0 false r p S i (k + 1)).2) ∧ Ow Pm F0 w0 w2 b (fnI dS0 dR0 false r p S i (k + 1)).1 ((w.heap.size, .cells (ptC b g p) 129 (0, 0)) :: bs)) := hid (fun k hk2 hne w' h' => by
  obtain ⟨hb, hb2⟩ := HB k (by omega)
  obtain ⟨m1, m2⟩ := moG_bq (dom := false) (i := i) (j := k) hb (by omega) hr hp (by omega)
  have := fnI_step (dom := false) (S := S) (r := r) (p := p) (i := i) (k := k) hne _ _ _ _ rfl rfl rfl
  rw [this]
  exact txor_any hM g p _ i _ _ _ h' m1.1 (by omega) (by omega) hb2 m2)
 have HSM : Hid ((fnI dS0 dR0 false r p S i (i + 1)).1 = (fnI dS0 dR0 false r p S i i).1 ∧ (fnI dS0 dR0 false r p S i (i + 1)).2 = (fnI dS0 dR0 false r p S i i).2) := hid ⟨congrArg Prod.fst fnI_same, congrArg Prod.snd fnI_same⟩
 obtain ⟨w1, hw1⟩ : ∃ w1, w.alloc (.cells (ptC b g p) 129) = w1 := ⟨_, rfl⟩
 have H1 : Hid (Ow Pm F0 w0 w1 b (fnI dS0 dR0 false r p S i 0).1 ((w.heap.size, .cells (ptC b g p) 129 (0, 0)) :: bs)) := hid (by have := h.new hM (ptC b g p) 129; rw [hw1] at this; exact this)
 have HP0 : Hid ((fnI dS0 dR0 false r p S i 0).2 = p (i * 3 + i)) := hid rfl
 obtain ⟨g3, hg3⟩ : ∃ g3, w.heap.size = g3 := ⟨_, rfl⟩
 rw [hg3] at H1 HNB HMO HXO
 have HG3 := hid hg3
 have HW := hid hw1
 have HI := hid hi
 have HN3 := hid hn3
 have HII : Hid ((ptC b g p)[2 + i * 3 + i]? = some (.int .i64 (p (i * 3 + i)))) := hid (by rw [Nat.add_assoc]; exact pt_at b g p (by omega))
 have i0 : (0 : Int) ≤ (i : Int) := by omega
 have i3 : (i : Int) < 3 := by omega
 clear HB h hg ho hq hk hn hn3 hi hr hp hg3 hw1 hsym
 obtain ⟨FS, hFS⟩ : ∃ FS : Nat → Ms, ∀ j, (fnI dS0 dR0 false r p S i j).1 = FS j := ⟨_, fun _ => rfl⟩
 obtain ⟨FW, hFW⟩ : ∃ FW : Nat → Int, ∀ j, (fnI dS0 dR0 false r p S i j).2 = FW j := ⟨_, fun _ => rfl⟩
 simp only [hFS, hFW] at *
 clear hFS hFW
 rw [← HP0.out] at HII
 have c0 := row_c (i := 0) (u := .pointer (some ⟨b, 0, none⟩)) (H1.out.bl 0 rfl) rfl
 have cI := row_c (i := 2 + i * 3 + i) (H1.out.bl 0 rfl) HII.out
 go_enter Tryz.func102, Tryz.ntmps102
 go_upto_region 1 with fail
 rw [HW.out, HG3.out]
 go_upto_region 3 with (go_at_call 76; (with_reducible refine (HNB.out _ H1.out).mono ?_); rintro e w2 ⟨rfl, hb⟩; have H2 := hid (H1.out.self hM hb); clear hb c0 cI)
 go_loopw [7, 18] (fun sv kv wr => ∃ k : Nat, k ≤ nn ∧ kv = .int .i64 k ∧ sv = .int .i64 (FW k) ∧ Ow Pm F0 w0 wr b (FS k) ((g3, .cells (ptC b g p) 129 (0, 0)) :: bs)) (fun _ kv _ => nn - (intOf kv).toNat)
 case atStart => exact ⟨0, by omega, rfl, rfl, H2.out⟩
 case round =>
  clear H2 H1
  obtain ⟨k, hk, rfl, rfl, hJ⟩ := hrel
  have HJ := hid hJ
  clear hJ
  have hn3 := HN3.out
  by_cases hlt : k < nn
  ·
   have k1 : (k : Int) < (nn : Int) := by omega
   have k0 : (0 : Int) ≤ (k : Int) := by omega
   have HKX : Hid (k + 1 ≤ nn) := hid (by omega)
   by_cases hik : k = i
   ·
    subst hik
    have q1 : ((k : Int) != (k : Int)) = false := by simp
    clear hk
    go_wp2
    go_roundw
    case rel => exact ⟨k + 1, HKX.out, by go_num, by rw [HSM.out.2], by rw [HSM.out.1]; exact HJ.out⟩
    case measure => simp [intOf]; omega
   ·
    have q1 : ((k : Int) != (i : Int)) = true := by simp; omega
    replace HMO := hid (HMO.out k hlt hik)
    replace HXO := hid (HXO.out k hlt hik)
    generalize (moG dS0 dR0 false r p (FS k) i k).1 = T1 at *
    generalize (moG dS0 dR0 false r p (FS k) i k).2 = x1 at *
    clear hk hik
    go_upto_region 6 with fail
    have G0 := hid (HJ.out.self hM ((Below.refl _ wr).drew))
    refine wp_region_noPanic ?_
    refine wp_region_held_drew (S := fun w' => w'.heap[g3]? = some (.cells (ptC b g p) 129 (0, 0))) (by kernel_rfl) (G0.out.bl 0 rfl) (fun h0 => ?_)
    generalize wr.drew = y0 at *
    refine tK 0 (.agg (ptC b g p)) rfl (yields_load_row (by rfl) 129 _ rfl g3 129 (ptC b g p) _ rfl (fun w hw => hw) Tryz.underlying129 rfl (by kernel_rfl)) h0 ?_
    try simp only [Act.put, lay_out]
    refine tK 1 (.int .i64 (i : Int)) rfl (.inl ⟨by rfl, fun w hw => by clear hw; go_simp⟩) h0 ?_
    try simp only [Act.put, lay_out]
    refine tK 2 (.int .i64 (FW k)) rfl (.inl ⟨by rfl, fun w hw => by clear hw; go_simp⟩) h0 ?_
    try simp only [Act.put, lay_out]
    refine tK 3 (.func (.func 92) #[] #[]) rfl (.inl ⟨by rfl, fun w hw => by clear hw; go_simp⟩) h0 ?_
    try simp only [Act.put, lay_out]
    refine tK 4 (.agg (ptC b g p)) rfl (yields_load_row (by rfl) 129 _ rfl g3 129 (ptC b g p) _ rfl (fun w hw => hw) Tryz.underlying129 rfl (by kernel_rfl)) h0 ?_
    try simp only [Act.put, lay_out]
    refine tK 5 (.int .i64 (i : Int)) rfl (.inl ⟨by rfl, fun w hw => by clear hw; go_simp⟩) h0 ?_
    try simp only [Act.put, lay_out]
    refine tK 6 (.int .i64 (k : Int)) rfl (.inl ⟨by rfl, fun w hw => by clear hw; go_simp⟩) h0 ?_
    try simp only [Act.put, lay_out]
    refine wpAnyH_ready (rs := [7]) (by kernel_rfl) (by simp) (AllReadyH.cons rfl (fun K hK => ?_) AllReadyH.nil)
    rw [if_pos (by rfl)]
    go_simp
    go_at_call 92
    (with_reducible refine (HMO.out _ G0.out).mono ?_); rintro e y1 ⟨rfl, hz⟩
    have G1 := hid hz
    clear hz
    refine hK.out _ _ (G1.out.bl 0 rfl) (fun h1x => ?_)
    clear hK K
    try simp only [Act.put, lay_out]
    refine wpAnyH_ready (rs := [8]) (by kernel_rfl) (by simp) (AllReadyH.cons rfl (fun K hK => ?_) AllReadyH.nil)
    rw [if_pos (by rfl)]
    go_simp
    go_at_call 103
    (with_reducible refine (HXO.out _ G1.out).mono ?_); rintro e y2 ⟨rfl, hz⟩
    have G2 := hid hz
    clear hz
    refine hK.out _ _ (G2.out.bl 0 rfl) (fun h2x => ?_)
    clear hK K
    try simp only [Act.put, lay_out]
    refine tK 9 (.int .i64 (FW (k + 1))) rfl (.inl ⟨by rfl, fun w hw => by clear hw; go_simp⟩) h2x ?_
    try simp only [Act.put, lay_out]
    refine wpAnyH_done (by kernel_rfl) ?_ _
    refine NoPanic.normal ?_
    clear h0 h1x h2x
    try simp only [Act.put, lay_out]
    go_wp2
    go_roundw
    case rel => exact ⟨k + 1, HKX.out, by go_num, rfl, G2.out⟩
    case measure => simp [intOf]; omega
  ·
   obtain rfl : nn = k := by omega
   clear hlt hk
   go_wp2
   go_ret
   exact ⟨rfl, HJ.out.drop⟩
set_option maxHeartbeats 6400000 in
theorem tshare_dom {Pm : World → Nat → Ms → (Nat → Prop) → Prop} (hM : Mach Pm) {F0 : Nat → Prop} {w0 w : World} {b : Nat} {bs : List (Nat × Obj)} (g : Nat) (o : Obj) (c : Nat) (r p : Nat → Int) (q nn i : Nat) (S : Ms) (h : Ow Pm F0 w0 w b S bs) (hg : (g, o) ∈ bs) (ho : Msk c r o) (hq : Bq q S) (hk : q + 12 ≤ 100000) (hn : S.n = (nn : Int)) (hn3 : nn ≤ 3) (hi : i < 3) (hr : Wb r) (hp : Wb p) :
  Calls Tryz.prog 102 #[.agg (ptC b g p), .int .i64 (i : Int), .func (.func 91) #[] #[]] w fun e w' => e = .returned (.int .i64 (fnI dS0 dR0 true r p S i nn).2) ∧ Ow Pm F0 w0 w' b (fnI dS0 dR0 true r p S i nn).1 bs := by
 have HB : ∀ k, k ≤ nn → Bn (q + 3 * k) (nn : Int) (fnI dS0 dR0 true r p S i k).1 ∧ I64 (fnI dS0 dR0 true r p S i k).2 := fun k hk2 => fnI_bq ⟨hq, hn⟩ (by omega) hr hp (by omega)
 have HNB : Hid (∀ (w' : World), Ow Pm F0 w0 w' b (fnI dS0 dR0 true r p S i 0).1 ((w.heap.size, .cells (ptC b g p) 129 (0, 0)) :: bs) → Calls Tryz.prog 76 #[.pointer (some ⟨b, 0, none⟩)] w' fun e w2 => e = .returned (.int .i64 (nn : Int)) ∧ Below w'.heap.size w' w2) := hid (fun w' h' => h'.asks (fun F hF => by have := hM.n b q S F w' hF hq (by omega); rw [hn] at this; exact this))
 have HMO : Hid (∀ k, k < nn → k ≠ i → ∀ (w' : World), Ow Pm F0 w0 w' b (fnI dS0 dR0 true r p S i k).1 ((w.heap.size, .cells (ptC b g p) 129 (0, 0)) :: bs) → Calls Tryz.prog 91 #[.agg (ptC b g p), .int .i64 (i : Int), .int .i64 (k : Int)] w' fun e w2 => e = .returned (.int .i64 (moG dS0 dR0 true r p (fnI dS0 dR0 true r p S i k).1 i k).2) ∧ Ow Pm F0 w0 w2 b (moG dS0 dR0 true r p (fnI dS0 dR0 true r p S i k).1 i k).1 ((w.heap.size, .cells (ptC b g p) 129 (0, 0)) :: bs)) := hid (fun k hk2 hne w' h' => by
  have hb := (HB k (by omega)).1
  exact tdom_any hM g o c r p _ i k _ h' (by simp [hg]) ho hb.1 (by omega) hi (by omega) hr hp)
 have HXO : Hid (∀ k, k < nn → k ≠ i → ∀ (w' : World), Ow Pm F0 w0 w' b (moG dS0 dR0 true r p (fnI dS0 dR0 true r p S i k).1 i k).1 ((w.heap.size, .cells (ptC b g p) 129 (0, 0)) :: bs) → Calls Tryz.prog 103 #[.agg (ptC b g p), .int .i64 (i : Int), .int .i64 (fnI dS0 dR0 true r p S i k).2, .int .i64 (moG dS0 dR0 true r p (fnI dS0 dR0 true r p S i k).1 i k).2] w' fun e w2 => e = .returned (.int .i64 (fnI dS0 dR0 true r p S i (k + 1)).2) ∧ Ow Pm F0 w0 w2 b (fnI dS0 dR0 true r p S i (k + 1)).1 ((w.heap.size, .cells (ptC b g p) 129 (0, 0)) :: bs)) := hid (fun k hk2 hne w' h' => by
  obtain ⟨hb, hb2⟩ := HB k (by omega)
  obtain ⟨m1, m2⟩ := moG_bq (dom := true) (i := i) (j := k) hb (by omega) hr hp (by omega)
  have := fnI_step (dom := true) (S := S) (r := r) (p := p) (i := i) (k := k) hne _ _ _ _ rfl rfl rfl
  rw [this]
  exact txor_any hM g p _ i _ _ _ h' m1.1 (by omega) (by omega) hb2 m2)
 have HSM : Hid ((fnI dS0 dR0 true r p S i (i + 1)).1 = (fnI dS0 dR0 true r p S i i).1 ∧ (fnI dS0 dR0 true r p S i (i + 1)).2 = (fnI dS0 dR0 true r p S i i).2) := hid ⟨congrArg Prod.fst fnI_same, congrArg Prod.snd fnI_same⟩
 obtain ⟨w1, hw1⟩ : ∃ w1, w.alloc (.cells (ptC b g p) 129) = w1 := ⟨_, rfl⟩
 have H1 : Hid (Ow Pm F0 w0 w1 b (fnI dS0 dR0 true r p S i 0).1 ((w.heap.size, .cells (ptC b g p) 129 (0, 0)) :: bs)) := hid (by have := h.new hM (ptC b g p) 129; rw [hw1] at this; exact this)
 have HP0 : Hid ((fnI dS0 dR0 true r p S i 0).2 = p (i * 3 + i)) := hid rfl
 obtain ⟨g3, hg3⟩ : ∃ g3, w.heap.size = g3 := ⟨_, rfl⟩
 rw [hg3] at H1 HNB HMO HXO
 have HG3 := hid hg3
 have HW := hid hw1
 have HI := hid hi
 have HN3 := hid hn3
 have HII : Hid ((ptC b g p)[2 + i * 3 + i]? = some (.int .i64 (p (i * 3 + i)))) := hid (by rw [Nat.add_assoc]; exact pt_at b g p (by omega))
 have i0 : (0 : Int) ≤ (i : Int) := by omega
 have i3 : (i : Int) < 3 := by omega
 clear HB h hg ho hq hk hn hn3 hi hr hp hg3 hw1
 obtain ⟨FS, hFS⟩ : ∃ FS : Nat → Ms, ∀ j, (fnI dS0 dR0 true r p S i j).1 = FS j := ⟨_, fun _ => rfl⟩
 obtain ⟨FW, hFW⟩ : ∃ FW : Nat → Int, ∀ j, (fnI dS0 dR0 true r p S i j).2 = FW j := ⟨_, fun _ => rfl⟩
 simp only [hFS, hFW] at *
 clear hFS hFW
 rw [← HP0.out] at HII
 have c0 := row_c (i := 0) (u := .pointer (some ⟨b, 0, none⟩)) (H1.out.bl 0 rfl) rfl
 have cI := row_c (i := 2 + i * 3 + i) (H1.out.bl 0 rfl) HII.out
 go_enter Tryz.func102, Tryz.ntmps102
 go_upto_region 1 with fail
 rw [HW.out, HG3.out]
 go_upto_region 3 with (go_at_call 76; (with_reducible refine (HNB.out _ H1.out).mono ?_); rintro e w2 ⟨rfl, hb⟩; have H2 := hid (H1.out.self hM hb); clear hb c0 cI)
 go_loopw [7, 18] (fun sv kv wr => ∃ k : Nat, k ≤ nn ∧ kv = .int .i64 k ∧ sv = .int .i64 (FW k) ∧ Ow Pm F0 w0 wr b (FS k) ((g3, .cells (ptC b g p) 129 (0, 0)) :: bs)) (fun _ kv _ => nn - (intOf kv).toNat)
 case atStart => exact ⟨0, by omega, rfl, rfl, H2.out⟩
 case round =>
  clear H2 H1
  obtain ⟨k, hk, rfl, rfl, hJ⟩ := hrel
  have HJ := hid hJ
  clear hJ
  have hn3 := HN3.out
  by_cases hlt : k < nn
  ·
   have k1 : (k : Int) < (nn : Int) := by omega
   have k0 : (0 : Int) ≤ (k : Int) := by omega
   have HKX : Hid (k + 1 ≤ nn) := hid (by omega)
   by_cases hik : k = i
   ·
    subst hik
    have q1 : ((k : Int) != (k : Int)) = false := by simp
    clear hk
    go_wp2
    go_roundw
    case rel => exact ⟨k + 1, HKX.out, by go_num, by rw [HSM.out.2], by rw [HSM.out.1]; exact HJ.out⟩
    case measure => simp [intOf]; omega
   ·
    have q1 : ((k : Int) != (i : Int)) = true := by simp; omega
    replace HMO := hid (HMO.out k hlt hik)
    replace HXO := hid (HXO.out k hlt hik)
    generalize (moG dS0 dR0 true r p (FS k) i k).1 = T1 at *
    generalize (moG dS0 dR0 true r p (FS k) i k).2 = x1 at *
    clear hk hik
    go_upto_region 6 with fail
    have G0 := hid (HJ.out.self hM ((Below.refl _ wr).drew))
    refine wp_region_noPanic ?_
    refine wp_region_held_drew (S := fun w' => w'.heap[g3]? = some (.cells (ptC b g p) 129 (0, 0))) (by kernel_rfl) (G0.out.bl 0 rfl) (fun h0 => ?_)
    generalize wr.drew = y0 at *
    refine tK 0 (.agg (ptC b g p)) rfl (yields_load_row (by rfl) 129 _ rfl g3 129 (ptC b g p) _ rfl (fun w hw => hw) Tryz.underlying129 rfl (by kernel_rfl)) h0 ?_
    try simp only [Act.put, lay_out]
    refine tK 1 (.int .i64 (i : Int)) rfl (.inl ⟨by rfl, fun w hw => by clear hw; go_simp⟩) h0 ?_
    try simp only [Act.put, lay_out]
    refine tK 2 (.int .i64 (FW k)) rfl (.inl ⟨by rfl, fun w hw => by clear hw; go_simp⟩) h0 ?_
    try simp only [Act.put, lay_out]
    refine tK 3 (.func (.func 91) #[] #[]) rfl (.inl ⟨by rfl, fun w hw => by clear hw; go_simp⟩) h0 ?_
    try simp only [Act.put, lay_out]
    refine tK 4 (.agg (ptC b g p)) rfl (yields_load_row (by rfl) 129 _ rfl g3 129 (ptC b g p) _ rfl (fun w hw => hw) Tryz.underlying129 rfl (by kernel_rfl)) h0 ?_
    try simp only [Act.put, lay_out]
    refine tK 5 (.int .i64 (i : Int)) rfl (.inl ⟨by rfl, fun w hw => by clear hw; go_simp⟩) h0 ?_
    try simp only [Act.put, lay_out]
    refine tK 6 (.int .i64 (k : Int)) rfl (.inl ⟨by rfl, fun w hw => by clear hw; go_simp⟩) h0 ?_
    try simp only [Act.put, lay_out]
    refine wpAnyH_ready (rs := [7]) (by kernel_rfl) (by simp) (AllReadyH.cons rfl (fun K hK => ?_) AllReadyH.nil)
    rw [if_pos (by rfl)]
    go_simp
    go_at_call 91
    (with_reducible refine (HMO.out _ G0.out).mono ?_); rintro e y1 ⟨rfl, hz⟩
    have G1 := hid hz
    clear hz
    refine hK.out _ _ (G1.out.bl 0 rfl) (fun h1x => ?_)
    clear hK K
    try simp only [Act.put, lay_out]
    refine wpAnyH_ready (rs := [8]) (by kernel_rfl) (by simp) (AllReadyH.cons rfl (fun K hK => ?_) AllReadyH.nil)
    rw [if_pos (by rfl)]
    go_simp
    go_at_call 103
    (with_reducible refine (HXO.out _ G1.out).mono ?_); rintro e y2 ⟨rfl, hz⟩
    have G2 := hid hz
    clear hz
    refine hK.out _ _ (G2.out.bl 0 rfl) (fun h2x => ?_)
    clear hK K
    try simp only [Act.put, lay_out]
    refine tK 9 (.int .i64 (FW (k + 1))) rfl (.inl ⟨by rfl, fun w hw => by clear hw; go_simp⟩) h2x ?_
    try simp only [Act.put, lay_out]
    refine wpAnyH_done (by kernel_rfl) ?_ _
    refine NoPanic.normal ?_
    clear h0 h1x h2x
    try simp only [Act.put, lay_out]
    go_wp2
    go_roundw
    case rel => exact ⟨k + 1, HKX.out, by go_num, rfl, G2.out⟩
    case measure => simp [intOf]; omega
  ·
   obtain rfl : nn = k := by omega
   clear hlt hk
   go_wp2
   go_ret
   exact ⟨rfl, HJ.out.drop⟩
end Go.Proofs.YthkijncnndoafaaGreatDoor
