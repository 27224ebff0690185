import Derived.Test.YthkijncnndoafaaGreatDoorSgw
import Derived.Test.YthkijncnndoafaaGreatDoorGen
import Derived.Test.YthkijncnndoafaaGreatDoorGenA
import Derived.Test.YthkijncnndoafaaGreatDoorWlm
import Derived.Test.YthkijncnndoafaaGreatDoorAcw
import Derived.Test.YthkijncnndoafaaGreatDoorWdg
import Derived.Test.YthkijncnndoafaaGreatDoorOcb
import Derived.Test.YthkijncnndoafaaGreatDoorWde
namespace Go.Proofs.YthkijncnndoafaaGreatDoor
open Go.ChangeShapes Go.WideShapes Go.ChangeAt Go.RowKit Go.Deep
set_option maxRecDepth 100000
theorem wdL_all {zs : List Int} (h : ∀ z ∈ zs, (Lit.int .u64 z).wf = true) : ∃ x : Nat → Nat, zs = wdL x zs.length ∧ ∀ i, x i < 2 ^ 64 := by
 obtain ⟨h1, h2⟩ := wdL_of h
 refine ⟨fun i => if i < zs.length then (nth zs i).toNat else 0, ?_, fun i => ?_⟩
 ·
  refine h1.trans ?_
  unfold wdL
  refine List.map_congr_left fun i hi => ?_
  show ((nth zs i).toNat : Int) = ((if i < zs.length then (nth zs i).toNat else 0 : Nat) : Int)
  rw [if_pos (List.mem_range.1 hi)]
 ·
  show (if i < zs.length then (nth zs i).toNat else 0) < 2 ^ 64
  split
  · exact h2 i (by assumption)
  · exact Nat.two_pow_pos 64
theorem ask6_open {H : Type} {enc : TypeId × Value → H} {P : Program} {W : World} {held : Bool} {t tb ti te s : TypeId} {fs : Array Field} {base : Nat} {v : Value} {d : DataW H} {p : List MemPlace} {ts : List TypeId} {ds : List (DataW H)} {j : Nat}
  (ht : P.underlying t = some (.struct fs)) (hfs : fs.toList.map (fun f => (f.type, f.offset)) = [(tb, 0), (ti, 1), (ti, 2), (ti, 3), (s, 4), (s, 5)]) (hb : P.underlying tb = some .bool) (hi : P.underlying ti = some (.int .i64)) (he : P.underlying te = some (.int .u64)) (hs : P.underlying s = some (.slice te))
  (cb : P.cellsOf tb = 1) (ci : P.cellsOf ti = 1) (cs : P.cellsOf s = 1) (ct : P.cellsOf t = 6) (ce : P.cellsOf te = 1) (be : P.bytesOf te = 8)
  (hv : Value.okWide P W .any base t v) (h : DataW.Trod enc P W 0 (fun _ => true) held t v d p) (hlt : ∀ x ∈ p, x.block < W.heap.size)
  (hsz : (DataW.weightsEach P ts ds).all (· ≤ reachBytes) = true) (hj : ts[j]? = some t) (hd : ds[j]? = some d) :
  ∃ (b : Bool) (kd K z : Int) (lv mv : Value) (x tw : Nat → Nat) (TL TN : Nat), v = .agg #[.bool b, .int .i64 kd, .int .i64 K, .int .i64 z, lv, mv] ∧ (Lit.int .i64 K).wf = true ∧ (∀ i, x i < 2 ^ 64) ∧
   RdS .u64 W (fun g => g < W.heap.size) lv (wdL x TL) ∧ TL ≤ 17592186043904 ∧ RdS .u64 W (fun g => g < W.heap.size) mv (wdL tw TN) ∧ (∀ i, tw i < 2 ^ 64) ∧ TN ≤ 17592186043904 := by
 obtain ⟨cells, rfl, hcs⟩ : ∃ cs, v = .agg cs ∧ cs.size = P.cellsOf t := by
  unfold Value.okWide at hv
  rw [ht] at hv
  obtain ⟨cs, h1, h2, _⟩ := hv
  exact ⟨cs, h1, h2⟩
 rw [ct] at hcs
 obtain ⟨l⟩ := cells
 match l, hcs with
 | [c0, c1, c2, c3, c4, c5], _ =>
  obtain ⟨fuel, hf⟩ := h
  obtain ⟨xs, m, _, hx, _, hlen, hget⟩ := DataW.trod_struct ht hf
  have hfl : fs.size = 6 := by have := congrArg List.length hfs; simpa using this
  rw [hfl] at hlen
  have hfi : ∀ i q o, [(tb, 0), (ti, 1), (ti, 2), (ti, 3), (s, 4), (s, 5)][i]? = some (q, o) → ∃ f : Field, fs[i]? = some f ∧ f.type = q ∧ f.offset = o := fun i q o hq => by
   rw [← hfs, List.getElem?_map, Option.map_eq_some_iff] at hq
   obtain ⟨f, h1, h2⟩ := hq
   injection h2 with h3 h4
   exact ⟨f, by simpa using h1, h3, h4⟩
  match xs, hlen with
  | [y0, y1, y2, y3, y4, y5], _ =>
   simp only [Prod.mk.injEq] at hx
   obtain ⟨rfl, rfl⟩ := hx
   have g : ∀ (i : Nat) (q : TypeId) (o : Nat), [(tb, 0), (ti, 1), (ti, 2), (ti, 3), (s, 4), (s, 5)][i]? = some (q, o) → DataW.trod enc P W 0 (fun _ => true) held m q (([c0, c1, c2, c3, c4, c5].drop o).take (P.cellsOf q)) = [y0, y1, y2, y3, y4, y5][i]? := fun i q o hq => by
    obtain ⟨f, h1, rfl, rfl⟩ := hfi i q o hq
    exact hget i f h1
   have g0 := g 0 tb 0 rfl
   have g1 := g 1 ti 1 rfl
   have g2 := g 2 ti 2 rfl
   have g3 := g 3 ti 3 rfl
   have g4 := g 4 s 4 rfl
   have g5 := g 5 s 5 rfl
   rw [cb] at g0
   rw [ci] at g1 g2 g3
   rw [cs] at g4 g5
   simp only [List.drop_succ_cons, List.drop_zero, List.take_succ_cons, List.take_zero, List.getElem?_cons_zero, List.getElem?_cons_succ] at g0 g1 g2 g3 g4 g5
   obtain ⟨b, e0, _⟩ := DataW.trod_bool hb g0
   obtain ⟨kd, e1, _, w1⟩ := DataW.trod_int hi g1
   obtain ⟨K, e2, _, w2⟩ := DataW.trod_int hi g2
   obtain ⟨z, e3, _, w3⟩ := DataW.trod_int hi g3
   simp only [List.cons.injEq, and_true] at e0 e1 e2 e3
   subst e0 e1 e2 e3
   have hall : ∀ (i : Nat) (y : DataW H), (fs.toList.map (·.type))[i]? = some s → ([y0, y1, y2, y3, y4, y5].map (·.1))[i]? = some y → ∀ k ∈ y.weights P s, k ≤ reachBytes := fun i y h1 h2 k hk => by
    have h8 := List.all_eq_true.1 hsz k (DataW.weights_mem_each hj hd k (by simp only [DataW.weights, ht]; exact each_has h1 h2 k hk))
    exact of_decide_eq_true h8
   have htp : fs.toList.map (·.type) = [tb, ti, ti, ti, s, s] := by
    have := congrArg (List.map Prod.fst) hfs
    rw [List.map_map] at this
    exact this
   have key : ∀ {c : Value} {y : DataW H × List MemPlace} (i : Nat), DataW.trod enc P W 0 (fun _ => true) held m s [c] = some y → (∀ x ∈ y.2, x.block < W.heap.size) → (fs.toList.map (·.type))[i]? = some s → ([y0, y1, y2, y3, y4, y5].map (·.1))[i]? = some y.1 → ∃ (x : Nat → Nat) (L : Nat), RdS .u64 W (fun g => g < W.heap.size) c (wdL x L) ∧ (∀ i, x i < 2 ^ 64) ∧ L ≤ 17592186043904 := fun i hg hl h1 h2 => by
    obtain ⟨zs, ⟨a, cap, rfl, hl, hw, hp⟩, hcap⟩ := rd_of_part (k := .u64) hs he ce be hg hl (hall i _ h1 h2)
    obtain ⟨x, hz, hbd⟩ := wdL_all hw
    have hc2 := hcap _ _ _ rfl
    have h8 : IntKind.u64.bits / 8 = 8 := rfl
    refine ⟨x, zs.length, hz ▸ ⟨a, cap, rfl, hc2.1, hc2.2, hl, hw, fun h0 => ?_⟩, hbd, by rw [h8] at hl; omega⟩
    obtain ⟨b, off, e1, e2, e3⟩ := hp h0
    exact ⟨b, off, e1, e2, e2, e3⟩
   obtain ⟨x, TL, k1, k2, k3⟩ := key 4 g4 (fun x hx => hlt x (by simp [hx])) (by rw [htp]; rfl) rfl
   obtain ⟨tw, TN, l1, l2, l3⟩ := key 5 g5 (fun x hx => hlt x (by simp [hx])) (by rw [htp]; rfl) rfl
   exact ⟨b, kd, K, z, _, _, x, tw, TL, TN, rfl, w2, k2, k1, k3, l1, l2, l3⟩
end Go.Proofs.YthkijncnndoafaaGreatDoor
