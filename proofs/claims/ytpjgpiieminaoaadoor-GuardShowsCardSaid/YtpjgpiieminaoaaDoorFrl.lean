import Derived.Test.YtpjgpiieminaoaaDoorProg
import Derived.Test.YtpjgpiieminaoaaDoorAcv
import Derived.Test.YtpjgpiieminaoaaDoorWdg
import Derived.Test.YtpjgpiieminaoaaDoorFsh
import Derived.Test.YtpjgpiieminaoaaDoorWma
import Derived.KernelRfl
/- Fresh: both machines in one world; a law's beginning; the example. -/
namespace Go.Proofs.YtpjgpiieminaoaaDoor
open Go.RowKit
set_option maxRecDepth 100000
theorem Pv.bz {Pm : World → Nat → Ms → (Nat → Prop) → Prop} {lo : Nat} {X : Nat → Prop} {W w : World} {p b : Nat} {S1 S2 : Ms} (h : Pv W) (hl : gpair < lo) (hz : Bz Pm lo X W w p b S1 S2) : Pv w := h.stays hz.low.size (hz.low.block _ hl)
section
variable {Pm : World → Nat → Ms → (Nat → Prop) → Prop} (hM : Mach Pm) {lo : Nat} {X : Nat → Prop} {W w : World} {b bd k : Nat} {S S2 : Ms}
include hM
theorem qfull (A : Nat → Int) (h : Bz Pm lo X W w b bd S S2) (hp : Pv w) (hl : gpair < lo) (hq : Bq k S) (hk : k + 20 ≤ 100000) (hn : S.n = 2 ∨ S.n = 3) (hA : Wb A) :
    Calls Tryd.prog 59 #[.pointer (some ⟨b, 0, none⟩), .agg (wdV A)] w fun e w' => e = .returned (.agg (wdV (frR S false A))) ∧ Bz Pm lo X W w' b bd (frS S false A) S2 ∧ ∀ k, X k → w'.heap[k]? = w.heap[k]? := by
  obtain ⟨F, G, ov, bv, vv, tv, h1, h2, h3, h4, h5, h6, h7⟩ := h
  exact (ffull_any hM b k S F A w h1 hp (fun e => by have := (h3 _ e).1; omega) hq hk hn hA).mono fun e w' hr => ⟨hr.1, Bz.prog hM h1 h2 h3 h4 h5 h6 h7 hr.2⟩
end
end Go.Proofs.YtpjgpiieminaoaaDoor

/- General: two words, multiplied bit by bit: ops one behind the other; what each is, and what they stand for. No program is named. -/
namespace Go.Proofs.YtpjgpiieminaoaaDoor

theorem Blk.and {S : Ms} {kd : Int} {op : Nat → (Nat → Int) → Op6} {m j : Nat} (B : Blk S kd op m) (hj : j < m) {d a b : Int} (h : op j (exR S.L j) = ⟨7, d, a, b, -1, 0⟩) :
    (blkS S kd op m).v (S.L + j) = wordAt (blkS S kd op m).v (blkS S kd op m).L a &&& wordAt (blkS S kd op m).v (blkS S kd op m).L b := by
  have := B.word j hj
  rw [h] at this
  exact this.trans (ev7 _ _ _ _ _)
/-! ### as loops make them -/
section
variable (dS : Ms → Op6 → Ms) (dR : Ms → Op6 → Int)
end
/-- Bounds, and the number of shares. -/
def Bn (k : Nat) (n : Int) (S : Ms) : Prop := Bq k S ∧ S.n = n
theorem Bn.does {k : Nat} {n : Int} {S : Ms} (h : Bn k n S) {o : Op6} (ho : opwf o) : Bn (k + 1) n (dS0 S o) := ⟨h.1.does ho (by decide), (doS_n _ _ _).trans h.2⟩
theorem Bn.mono {k k' : Nat} {n : Int} {S : Ms} (h : Bn k n S) (hk : k ≤ k') : Bn k' n S := ⟨h.1.mono hk, h.2⟩
theorem Bn.reg {k : Nat} {n : Int} {S : Ms} (h : Bn k n S) (hk : k ≤ 1000000) (o : Op6) : I64 (dR0 S o) := doR_bd h.1 hk o
end Go.Proofs.YtpjgpiieminaoaaDoor

/- General: what two words both have, and what is made of it: states, registers, bounds, and what they stand for. No program is named. -/
namespace Go.Proofs.YtpjgpiieminaoaaDoor

/-- A machine whose words may be told. -/
structure Wt (S : Ms) : Prop where
  skip : S.skip = 0
  dry : S.dry = false
  n : S.n = 2 ∨ S.n = 3
theorem Wt.ext {S S' : Ms} (h : Wt S) (x : Ext S S') : Wt S' := ⟨x.skip.trans h.skip, x.dry.trans h.dry, by rw [x.n]; exact h.n⟩
/-- A word stands for x. -/
structure Sf (S : Ms) (A : Nat → Int) (x : Nat) : Prop where
  gw : Gw S A
  vl : vlN S.v S.L A = x
theorem Sf.ext {S S' : Ms} {A : Nat → Int} {x : Nat} (h : Sf S A x) (k : Ext S S') : Sf S' A x := ⟨h.gw.ext k, (vl_ext k (fun i hi => h.gw.lt i hi)).trans h.vl⟩
theorem Sf.lt {S : Ms} {A : Nat → Int} {x k : Nat} (h : Sf S A x) (hq : Bq k S) : x < 2 ^ 64 := h.vl ▸ vlP_lt hq.v A 3
theorem blk_e {S : Ms} {kd : Int} {op : Nat → (Nat → Int) → Op6} {m : Nat} (h : (blkS S kd op m).e = 0) : S.e = 0 := (beginS_e (sq_e (endS_e h).1 0 (Nat.zero_le _))).1
/-! ### what there was -/
theorem cs_sf {S : Ms} {c : Nat} (W : Wt S) (h : (cstS S 3 c).e = 0) : Sf (cstS S 3 c) (cstR S 3 c) c ∧ S.e = 0 := by
  obtain ⟨h1, h2⟩ := cst_vl h W.skip W.n (.inl rfl)
  exact ⟨⟨h2, h1⟩, eaS_e h 0 (Nat.zero_le _)⟩
theorem oneR_wb {k : Nat} {S : Ms} (h : Bq k S) (hk : k + 10 ≤ 1000000) (hn : S.n = 2 ∨ S.n = 3) {K : Int} (hK : I64 K) {A : Nat → Int} (hA : Wb A) {c : Nat} (hc : c < 2 ^ 64) : Wb (oneR S K A c) := by
  have := sh_bd hn
  exact eaR_wb h 0 none3_wb _ (fun j hj => opOne_wf hK hA hc (by omega)) (by omega)
theorem cstR_wb {k : Nat} {S : Ms} (h : Bq k S) (hk : k + 10 ≤ 1000000) (hn : S.n = 2 ∨ S.n = 3) {K : Int} (hK : I64 K) {c : Nat} (hc : c < 2 ^ 64) : Wb (cstR S K c) := by
  have := sh_bd hn
  exact eaR_wb h 0 none3_wb _ (fun j hj => opCst_wf hK hc (by omega)) (by omega)
theorem oneS_ext (S : Ms) (K : Int) (A : Nat → Int) (c : Nat) : Ext S (oneS S K A c) := eaS_ext _ _ _ _
theorem cstS_ext (S : Ms) (K : Int) (c : Nat) : Ext S (cstS S K c) := eaS_ext _ _ _ _
/-! ### And -/
section
variable {S : Ms} {k : Nat} {dom : Bool} {A B : Nat → Int} {x y : Nat}
/-! ### Less -/
/-! ### Or -/
/-! ### Any -/
/-! ### Fold -/
theorem on_e {S : Ms} {K : Int} {A : Nat → Int} {c : Nat} (h : (oneS S K A c).e = 0) : S.e = 0 := eaS_e h 0 (Nat.zero_le _)
/-! ### Pick, Alike -/
end
end Go.Proofs.YtpjgpiieminaoaaDoor

/- General: what is picked, what is folded, as numbers; the states of a law that lays words and goes on. -/
namespace Go.Proofs.YtpjgpiieminaoaaDoor

/-! ### words that are laid one behind the other -/
def lyS (S : Ms) (x : Nat → Nat) : Nat → Ms
  | 0 => S
  | i + 1 => cstS (lyS S x i) 3 (x i)
def lyR (S : Ms) (x : Nat → Nat) (i : Nat) : Nat → Int := cstR (lyS S x i) 3 (x i)
theorem lyS_n (S : Ms) (x : Nat → Nat) : ∀ i, (lyS S x i).n = S.n
  | 0 => rfl
  | i + 1 => (cstS_ext (lyS S x i) 3 (x i)).n.trans (lyS_n S x i)
theorem lyS_more (S : Ms) (x : Nat → Nat) (i : Nat) : ∀ d, Ext (lyS S x i) (lyS S x (i + d))
  | 0 => Ext.refl _
  | d + 1 => (lyS_more S x i d).trans (cstS_ext (lyS S x (i + d)) 3 (x (i + d)))
theorem ly_bq {k : Nat} {S : Ms} {x : Nat → Nat} (h : Bq k S) (hn : S.n = 2 ∨ S.n = 3) (hx : ∀ i, x i < 2 ^ 64) : ∀ i, Bq (k + 6 * i) (lyS S x i)
  | 0 => h
  | i + 1 => (cstS_bq (ly_bq h hn hx i) (by rw [lyS_n]; exact hn) (i64k 3 (by decide) (by decide)) (hx i)).mono (by omega)
theorem lyR_wb {k : Nat} {S : Ms} {x : Nat → Nat} (h : Bq k S) (hn : S.n = 2 ∨ S.n = 3) (hx : ∀ i, x i < 2 ^ 64) {i : Nat} (hk : k + 6 * i + 10 ≤ 1000000) : Wb (lyR S x i) :=
  cstR_wb (ly_bq h hn hx i) hk (by rw [lyS_n]; exact hn) (i64k 3 (by decide) (by decide)) (hx i)
theorem ly_e {S : Ms} {x : Nat → Nat} {i : Nat} : ∀ {d}, (lyS S x (i + d)).e = 0 → (lyS S x i).e = 0
  | 0, h => h
  | d + 1, h => ly_e (d := d) (eaS_e (m := (lyS S x (i + d)).sh) h 0 (Nat.zero_le _))
theorem ly_sf {S : Ms} {x : Nat → Nat} (W : Wt S) {i m : Nat} (hi : i < m) (h : (lyS S x m).e = 0) : Sf (lyS S x m) (lyR S x i) (x i) := by
  obtain ⟨d, rfl⟩ : ∃ d, m = i + 1 + d := ⟨m - (i + 1), by omega⟩
  have e1 : (lyS S x (i + 1)).e = 0 := ly_e h
  have W1 := W.ext (by have := lyS_more S x 0 i; rw [Nat.zero_add] at this; exact this : Ext S (lyS S x i))
  exact (cs_sf (S := lyS S x i) (c := x i) W1 e1).1.ext (lyS_more S x (i + 1) d)
/-! ### what is picked, and whether words are alike -/
end Go.Proofs.YtpjgpiieminaoaaDoor

/- General: machines on which all goes well: what may be done is done. No program is named. -/
namespace Go.Proofs.YtpjgpiieminaoaaDoor

/-- All has gone well; L words, u masks of T drawn. -/
structure Fin_ (T M : Nat) (S : Ms) (L u : Nat) : Prop where
  e : S.e = 0
  kind : S.kind = 0
  L : S.L = L
  used : S.used = u
  draws : S.draws = u
  TN : S.TN = T
  free : S.free = T - u
  most : S.most = (M : Int)
  skip : S.skip = 0
  dry : S.dry = false
  n : S.n = 2 ∨ S.n = 3
section
variable {T M L u : Nat} {S : Ms}
theorem Fin_.wt (h : Fin_ T M S L u) : Wt S := ⟨h.skip, h.dry, h.n⟩
theorem Fin_.len (h : Fin_ T M S L u) : S.len = L := by unfold Ms.len; rw [h.skip, h.L]; omega
theorem Fin_.does {o : Op6} (h : Fin_ T M S L u) (ho : okOp o (L : Int) S.n = true) (h1 : o.K ≠ 1) (h2 : o.K ≠ 2) (hL : L < M) : Fin_ T M (S.doS o 0) (L + 1) u ∧ S.doR o = (L : Int) := by
  have hbad : S.bad o = false := by
    unfold Ms.bad
    rw [h.len, ho]
    simp [h2]
  have hfull : S.full = false := by
    unfold Ms.full
    rw [h.dry, h.len, h.most]
    simp; omega
  have hout : S.out o = false := by
    unfold Ms.out
    simp [h1]
  have e1 : S.doS o 0 = S.put o 0 := by
    unfold Ms.doS
    rw [if_neg (by rw [h.e]; decide), if_neg (by rw [hbad]; decide), if_neg (by rw [hfull]; decide), if_neg (by rw [hout]; decide)]
  have e2 : S.doR o = (L : Int) := by
    unfold Ms.doR
    rw [if_neg (by rw [hbad, hfull, hout, h.e]; simp), h.len]
  refine ⟨?_, e2⟩
  rw [e1]
  unfold Ms.put
  exact ⟨h.e, h.kind, by show S.L + 1 = _; rw [h.L], by show (if o.K = 1 ∧ S.dry = false then S.used + 1 else S.used) = u; rw [if_neg (fun q => h1 q.1)]; exact h.used, by show (if o.K = 1 then S.draws + 1 else S.draws) = u; rw [if_neg h1]; exact h.draws, h.TN, by show (if o.K = 1 ∧ S.dry = false then S.free - 1 else S.free) = _; rw [if_neg (fun q => h1 q.1)]; exact h.free, h.most, h.skip, h.dry, h.n⟩
/-- Draws and masks go together. -/
theorem doS_du (S : Ms) (o : Op6) (x : Nat) (hd : S.dry = false) : (S.doS o x).draws + S.used = (S.doS o x).used + S.draws := by
  unfold Ms.doS
  by_cases c1 : S.e ≠ 0
  · rw [if_pos c1]; omega
  · rw [if_neg c1]
    by_cases c2 : S.bad o = true
    · rw [if_pos c2]; exact Nat.add_comm _ _
    · rw [if_neg c2]
      by_cases c3 : S.full = true
      · rw [if_pos c3]; exact Nat.add_comm _ _
      · rw [if_neg c3]
        by_cases c4 : S.out o = true
        · rw [if_pos c4]; exact Nat.add_comm _ _
        · rw [if_neg c4]
          show (if o.K = 1 then S.draws + 1 else S.draws) + S.used = (if o.K = 1 ∧ S.dry = false then S.used + 1 else S.used) + S.draws
          by_cases h : o.K = 1
          · rw [if_pos h, if_pos ⟨h, hd⟩]; omega
          · rw [if_neg h, if_neg (fun q => h q.1)]; omega
theorem beginS_du (S : Ms) (k : Int) : (S.beginS k).draws = S.draws ∧ (S.beginS k).used = S.used := by
  unfold Ms.beginS
  repeat' split
  all_goals exact ⟨rfl, rfl⟩
theorem endS_du (S : Ms) : S.endS.draws = S.draws ∧ S.endS.used = S.used := by
  unfold Ms.endS
  repeat' split
  all_goals exact ⟨rfl, rfl⟩
theorem sq_du (S : Ms) (op : Nat → (Nat → Int) → Op6) (hd : S.dry = false) : ∀ m, (sqS S op m).draws + S.used = (sqS S op m).used + S.draws
  | 0 => Nat.add_comm _ _
  | m + 1 => by
    have h1 := sq_du S op hd m
    have h2 := doS_du (sqS S op m) (sqO S op m) 0 ((sq_ext S op m).dry.trans hd)
    rw [sqS_next]
    omega
theorem blk_du (S : Ms) (kd : Int) (op : Nat → (Nat → Int) → Op6) (hd : S.dry = false) (m : Nat) : (blkS S kd op m).draws + S.used = (blkS S kd op m).used + S.draws := by
  have h1 := sq_du (S.beginS kd) op ((beginS_ext S kd).dry.trans hd) m
  obtain ⟨b1, b2⟩ := beginS_du S kd
  obtain ⟨e1, e2⟩ := endS_du (sqS (S.beginS kd) op m)
  unfold blkS
  rw [e1, e2]
  omega
theorem Fin_.blk {kd : Int} {op : Nat → (Nat → Int) → Op6} {m r : Nat} (h : Fin_ T M S L u) (hkd : 1 ≤ kd ∧ kd ≤ 3) (ho : ∀ j, j < m → okOp (op j (exR L j)) ((L + j : Nat) : Int) S.n = true ∧ (op j (exR L j)).K ≠ 2) (hr : rands op L m = r) (hm : L + m ≤ M) (hu : u + r ≤ T) : Fin_ T M (blkS S kd op m) (L + m) (u + r) := by
  have hX := blk_ext S kd op m
  obtain ⟨f1, f2, f3, f4, f5, f6⟩ := blk_fine (kd := kd) (op := op) (m := m) h.skip h.dry h.e h.kind hkd (by rw [h.L]; exact ho) (by rw [h.L, h.most]; omega) (by rw [h.L, hr, h.used, h.TN]; exact hu) (by rw [h.L, hr, h.free]; omega)
  rw [h.L, hr] at f3 f4
  have hB := blk_of (kd := kd) (op := op) (m := m) h.skip h.dry f1
  have hdu := blk_du S kd op h.dry m
  refine ⟨f1, f2, by rw [hB.L, h.L], by rw [f3, h.used], ?_, by rw [f6, h.TN], by rw [f4, h.free]; omega, by rw [f5, h.most], hX.skip.trans h.skip, hX.dry.trans h.dry, by rw [hX.n]; exact h.n⟩
  rw [f3, h.used, h.draws] at hdu
  omega
end
/-- Registers that are there. -/
def Rl (S : Ms) (A : Nat → Int) : Prop := ∀ i, i < 3 → (i < S.sh → 0 ≤ A i ∧ A i < (S.L : Int)) ∧ (S.sh ≤ i → A i = -1)
theorem Rl.ext {S S' : Ms} {A : Nat → Int} (h : Rl S A) (x : Ext S S') : Rl S' A := fun i hi => by
  have e : S'.sh = S.sh := by unfold Ms.sh; rw [x.n]
  have := x.L
  rw [e]
  exact ⟨fun q => by have := (h i hi).1 q; omega, (h i hi).2⟩
theorem Rl.gw {S : Ms} {A : Nat → Int} (h : Rl S A) : Gw S A := ⟨fun i hi => by
    by_cases q : i < S.sh
    · exact ((h i hi).1 q).2
    · rw [(h i hi).2 (by omega)]; omega, fun i hi hj => by rw [(h i hj).2 hi]; decide⟩
theorem rl_three {n at_ a b e D K : Int} {C : Nat} (hn : n = 2 ∨ n = 3) (hD : 0 ≤ D ∧ D < n)
    (h : (K = 5 ∨ K = 7) ∧ C = 0 ∧ (0 ≤ a ∧ a < at_) ∧ (0 ≤ b ∧ b < at_) ∧ e = -1 ∨ K = 10 ∧ C < 64 ∧ (0 ≤ a ∧ a < at_) ∧ b = -1 ∧ e = -1 ∨ K = 6 ∧ C = 0 ∧ (0 ≤ a ∧ a < at_) ∧ b = -1 ∧ e = -1 ∨ K = 3 ∧ a = -1 ∧ b = -1 ∧ e = -1) : okOp ⟨K, D, a, b, e, C⟩ at_ n = true := by
  have hh : okH ⟨K, D, a, b, e, C⟩ n = true := by unfold okH; simp only [decide_eq_true_eq]; omega
  have hc : okC K C = true := by
    unfold okC
    rcases h with h | h | h | h
    · rw [if_neg (by omega), if_neg (by omega), if_neg (by omega)]; simp [h.2.1]
    · rw [if_pos (by omega)]; simp [h.2.1]
    · rw [if_neg (by omega), if_neg (by omega), if_neg (by omega)]; simp [h.2.1]
    · rw [if_neg (by omega), if_neg (by omega), if_pos (by omega)]
  have hq : ¬ (n ≠ 2 ∧ n ≠ 3) := by omega
  have hr : allB (rgB ⟨K, D, a, b, e, C⟩ at_ n) 3 = true := allB_of fun j hj => by
    show (if (j : Int) < rgN K n then decide (0 ≤ rgL ⟨K, D, a, b, e, C⟩ j ∧ rgL ⟨K, D, a, b, e, C⟩ j < at_) else decide (rgL ⟨K, D, a, b, e, C⟩ j = -1)) = true
    rcases h with ⟨h1, h⟩ | ⟨h1, h⟩ | ⟨h1, h⟩ | ⟨h1, h⟩
    · have hN : rgN K n = 2 := by unfold rgN; rw [if_neg hq, if_neg (by omega), if_pos (by omega)]
      rw [hN]
      rcases (by omega : j = 0 ∨ j = 1 ∨ j = 2) with rfl | rfl | rfl
      · exact decide_eq_true h.2.1
      · exact decide_eq_true h.2.2.1
      · exact decide_eq_true h.2.2.2
    · have hN : rgN K n = 1 := by unfold rgN; rw [if_neg hq, if_neg (by omega), if_neg (by omega), if_pos (by omega)]
      rw [hN]
      rcases (by omega : j = 0 ∨ j = 1 ∨ j = 2) with rfl | rfl | rfl
      · exact decide_eq_true h.2.1
      · exact decide_eq_true h.2.2.1
      · exact decide_eq_true h.2.2.2
    · have hN : rgN K n = 1 := by unfold rgN; rw [if_neg hq, if_neg (by omega), if_neg (by omega), if_pos (by omega)]
      rw [hN]
      rcases (by omega : j = 0 ∨ j = 1 ∨ j = 2) with rfl | rfl | rfl
      · exact decide_eq_true h.2.1
      · exact decide_eq_true h.2.2.1
      · exact decide_eq_true h.2.2.2
    · have hN : rgN K n = 0 := by unfold rgN; rw [if_neg hq, if_neg (by omega), if_neg (by omega), if_neg (by omega), if_neg (by omega)]
      rw [hN]
      rcases (by omega : j = 0 ∨ j = 1 ∨ j = 2) with rfl | rfl | rfl
      · exact decide_eq_true h.1
      · exact decide_eq_true h.2.1
      · exact decide_eq_true h.2.2
  unfold okOp
  rw [hh, hr, hc]
  rfl
theorem rd_ok {n at_ : Int} (hn : n = 2 ∨ n = 3) : okOp ⟨1, -1, -1, -1, -1, 0⟩ at_ n = true := by
  rcases hn with rfl | rfl <;> rfl
section
variable {T M L u : Nat} {S : Ms} {A B : Nat → Int}
theorem sh_n (hn : S.n = 2 ∨ S.n = 3) : (S.sh : Int) = S.n ∧ 2 ≤ S.sh ∧ S.sh ≤ 3 := by unfold Ms.sh; omega
theorem ea_fin {op : Nat → Op6} (h : Fin_ T M S L u) : ∀ {m}, (∀ j, j < m → okOp (op j) ((L + j : Nat) : Int) S.n = true ∧ (op j).K ≠ 1 ∧ (op j).K ≠ 2) → L + m ≤ M → Fin_ T M (eaS S op 0 m) (L + m) u ∧ ∀ j, j < m → (eaS S op 0 j).doR (op j) = ((L + j : Nat) : Int)
  | 0, _, _ => ⟨h, fun j hj => absurd hj (Nat.not_lt_zero j)⟩
  | m + 1, ho, hm => by
    obtain ⟨h1, h2⟩ := ea_fin h (m := m) (fun j hj => ho j (by omega)) (by omega)
    obtain ⟨o1, o2, o3⟩ := ho m (by omega)
    obtain ⟨g1, g2⟩ := h1.does (o := op m) (by rw [eaS_n]; exact o1) o2 o3 (by omega)
    refine ⟨?_, fun j hj => ?_⟩
    · show Fin_ T M ((eaS S op 0 m).doS (op (0 + m)) 0) _ _
      rw [Nat.zero_add]
      exact g1
    · by_cases e : j = m
      · subst e; exact g2
      · exact h2 j (by omega)
theorem ea_rl {op : Nat → Op6} (h : Fin_ T M S L u) (ho : ∀ j, j < S.sh → okOp (op j) ((L + j : Nat) : Int) S.n = true ∧ (op j).K ≠ 1 ∧ (op j).K ≠ 2) (hm : L + S.sh ≤ M) : Fin_ T M (eaS S op 0 S.sh) (L + S.sh) u ∧ Rl (eaS S op 0 S.sh) (eaR S op 0 none3 S.sh) := by
  obtain ⟨g1, g2⟩ := ea_fin h ho hm
  have e : (eaS S op 0 S.sh).sh = S.sh := by unfold Ms.sh; rw [eaS_n]
  refine ⟨g1, fun i hi => ?_⟩
  rw [e, g1.L]
  refine ⟨fun q => ?_, fun q => ?_⟩
  · have := eaR_at S op 0 none3 S.sh i q
    rw [Nat.zero_add] at this
    rw [this, g2 i q]
    omega
  · rw [eaR_keep S op 0 none3 S.sh i (.inr (by omega))]; rfl
theorem cst_fin {c : Nat} (h : Fin_ T M S L u) (hm : L + 3 ≤ M) : Fin_ T M (cstS S 3 c) (L + S.sh) u ∧ Rl (cstS S 3 c) (cstR S 3 c) := by
  obtain ⟨s1, s2, s3⟩ := sh_n h.n
  exact ea_rl h (fun j hj => by
    unfold opCst
    by_cases e : j = 0
    · rw [if_pos e]; exact ⟨rl_three h.n (by omega) (.inr (.inr (.inr ⟨rfl, rfl, rfl, rfl⟩))), by show (3 : Int) ≠ 1; decide, by show (3 : Int) ≠ 2; decide⟩
    · rw [if_neg e]; exact ⟨rl_three h.n (by omega) (.inr (.inr (.inr ⟨rfl, rfl, rfl, rfl⟩))), by show (3 : Int) ≠ 1; decide, by show (3 : Int) ≠ 2; decide⟩) (by omega)
theorem rl_of_q {S' : Ms} {R : Nat → Int} {q : Nat → Nat} (hn : S'.n = S.n) (h : ∀ i, i < 3 → (i < S.sh → R i = ((q i : Nat) : Int) ∧ q i < S'.L) ∧ (S.sh ≤ i → R i = -1)) : Rl S' R := fun i hi => by
  have e : S'.sh = S.sh := by unfold Ms.sh; rw [hn]
  rw [e]
  exact ⟨fun k => by obtain ⟨a, b⟩ := (h i hi).1 k; rw [a]; omega, (h i hi).2⟩
theorem fr_fin (h : Fin_ T M S L u) (hA : Rl S A) (hm : L + 9 ≤ M) (hu : u + 3 ≤ T) : Fin_ T M (frS S false A) (L + frM S.n false) (u + (if S.n = 3 then 3 else 1)) ∧ Rl (frS S false A) (frR S false A) := by
  have a0 := hA 0 (by omega)
  have a1 := hA 1 (by omega)
  have a2 := hA 2 (by omega)
  have hf : Fin_ T M (frS S false A) (L + frM S.n false) (u + (if S.n = 3 then 3 else 1)) := by
    obtain ⟨s1, s2, s3⟩ := sh_n h.n
    rw [h.L] at a0 a1 a2
    unfold frS frO frM
    rcases h.n with e | e
    · rw [e, if_neg (by decide), if_neg (by decide), if_neg (by decide)]
      refine h.blk (by decide) (fun j hj => ?_) rfl (by omega) (by omega)
      have b0 := a0.1 (by omega)
      have b1 := a1.1 (by omega)
      rcases (by omega : j = 0 ∨ j = 1 ∨ j = 2) with rfl | rfl | rfl
      · exact ⟨rd_ok h.n, by show (1 : Int) ≠ 2; decide⟩
      · refine ⟨rl_three h.n (by omega) (.inl ⟨.inl rfl, rfl, by omega, ?_, rfl⟩), by show (5 : Int) ≠ 2; decide⟩
        rw [exR_at (by decide)]; omega
      · refine ⟨rl_three h.n (by omega) (.inl ⟨.inl rfl, rfl, by omega, ?_, rfl⟩), by show (5 : Int) ≠ 2; decide⟩
        rw [exR_at (by decide)]; omega
    · rw [e, if_pos rfl, if_pos rfl, if_pos rfl, if_neg (by decide), if_neg (by decide)]
      refine h.blk (by decide) (fun j hj => ?_) rfl (by omega) (by omega)
      have b0 := a0.1 (by omega)
      have b1 := a1.1 (by omega)
      have b2 := a2.1 (by omega)
      rcases (by omega : j = 0 ∨ j = 1 ∨ j = 2 ∨ j = 3 ∨ j = 4 ∨ j = 5 ∨ j = 6 ∨ j = 7 ∨ j = 8) with rfl | rfl | rfl | rfl | rfl | rfl | rfl | rfl | rfl
      · exact ⟨rd_ok h.n, by show (1 : Int) ≠ 2; decide⟩
      · exact ⟨rd_ok h.n, by show (1 : Int) ≠ 2; decide⟩
      · exact ⟨rd_ok h.n, by show (1 : Int) ≠ 2; decide⟩
      all_goals (refine ⟨rl_three h.n (by omega) (.inl ⟨.inl rfl, rfl, ?_, ?_, rfl⟩), by show (5 : Int) ≠ 2; decide⟩ <;> first | omega | (rw [exR_at (by decide)]; omega))
  obtain ⟨q, hq, _⟩ := fr_words (sm := false) h.skip h.dry h.n hA.gw hf.e
  exact ⟨hf, rl_of_q (frS_ext _ _ _).n hq⟩
end
end Go.Proofs.YtpjgpiieminaoaaDoor

/- General: words that are opened: states, what is told, bounds, what it stands for; runs on which all goes well, and how many ops open. No program is named. -/
namespace Go.Proofs.YtpjgpiieminaoaaDoor

/-- A word is opened: made fresh, and told. -/
def opOp (A : Nat → Int) : Op6 := ⟨12, -1, A 0, A 1, A 2, 0⟩
def gdS (S : Ms) (A : Nat → Int) : Ms := (frS S false A).doS (opOp (frR S false A)) 0
def gdV (S : Ms) (A : Nat → Int) : Nat := (frS S false A).opR (opOp (frR S false A))
/-- Some of its bits alone. -/
def gmS (S : Ms) (A : Nat → Int) (c : Nat) : Ms := gdS (oneS S 8 A c) (oneR S 8 A c)
def gmV (S : Ms) (A : Nat → Int) (c : Nat) : Nat := gdV (oneS S 8 A c) (oneR S 8 A c)
theorem gdS_ext (S : Ms) (A : Nat → Int) : Ext S (gdS S A) := (frS_ext _ _ _).trans (doS_ext _ _ _)
theorem gmS_ext (S : Ms) (A : Nat → Int) (c : Nat) : Ext S (gmS S A c) := (oneS_ext _ _ _ _).trans (gdS_ext _ _)
theorem opOp_wf {A : Nat → Int} (h : Wb A) : opwf (opOp A) := ⟨i64c 12 (by decide) (by decide), I64.m1, h 0, h 1, h 2, by show 0 < _; omega⟩
section
variable {S : Ms} {k c x : Nat} {A : Nat → Int}
theorem gd_bq (h : Bq k S) (hk : k + 20 ≤ 1000000) (hA : Wb A) : Bq (k + 11) (gdS S A) := (frS_bq h (by omega) hA).does (opOp_wf (frR_wb h (by omega) hA)) (by decide)
theorem gm_bq (h : Bq k S) (hn : S.n = 2 ∨ S.n = 3) (hk : k + 30 ≤ 1000000) (hA : Wb A) (hc : c < 2 ^ 64) : Bq (k + 14) (gmS S A c) := by
  have hs := sh_bd hn
  have h1 : Bq (k + 3) (oneS S 8 A c) := (eaS_bq h 0 _ (fun j hj => opOne_wf (i64c 8 (by decide) (by decide)) hA hc (by omega))).mono (by omega)
  exact gd_bq h1 (by omega) (oneR_wb h (by omega) hn (i64c 8 (by decide) (by decide)) hA hc)
theorem opR_lt {o : Op6} (h : Bq k S) (ho : opwf o) : S.opR o < 2 ^ 64 := by
  unfold Ms.opR
  split
  · decide
  · split
    · decide
    · rename_i h1 h2
      have hd : S.dry = false := by simpa using h2
      obtain ⟨e1, e2⟩ := doR_yes h1
      have hq := h.does (x := 0) ho (by decide)
      have hw := h.wet hd
      refine hq.v _ ?_
      rw [e2 0]
      show S.len < S.L + 1
      unfold Ms.len
      omega
theorem gd_lt (h : Bq k S) (hk : k + 20 ≤ 1000000) (hA : Wb A) : gdV S A < 2 ^ 64 := opR_lt (frS_bq h (by omega) hA) (opOp_wf (frR_wb h (by omega) hA))
theorem gm_lt (h : Bq k S) (hn : S.n = 2 ∨ S.n = 3) (hk : k + 30 ≤ 1000000) (hA : Wb A) (hc : c < 2 ^ 64) : gmV S A c < 2 ^ 64 := by
  have hs := sh_bd hn
  have h1 : Bq (k + 3) (oneS S 8 A c) := (eaS_bq h 0 _ (fun j hj => opOne_wf (i64c 8 (by decide) (by decide)) hA hc (by omega))).mono (by omega)
  exact gd_lt h1 (by omega) (oneR_wb h (by omega) hn (i64c 8 (by decide) (by decide)) hA hc)
/-- What is opened without an error is what the word stands for. -/
theorem gd_sf (W : Wt S) (hA : Sf S A x) (h : (gdS S A).e = 0) : gdV S A = x ∧ S.e = 0 := by
  have h1 : (frS S false A).e = 0 := (do_ok h).1
  obtain ⟨v1, v2⟩ := fr_vl (sm := false) W.skip W.dry W.n hA.gw h1
  have hX := frS_ext S false A
  have hs : (frS S false A).skip = 0 := hX.skip.trans W.skip
  have hd : (frS S false A).dry = false := hX.dry.trans W.dry
  obtain ⟨w1, w2, w3⟩ := do_word h hs
  refine ⟨?_, blk_e h1⟩
  unfold gdV Ms.opR
  rw [w1, if_neg (by omega), if_neg (by rw [hd]; decide)]
  rw [w1, wordAt_nat (by rw [w2]; omega)] at w3
  have hl : (frS S false A).len = (frS S false A).L := by unfold Ms.len; rw [hs]; omega
  rw [hl, w3]
  unfold Ms.makes
  rw [show (opOp (frR S false A)).K = 12 from rfl, ev12]
  show wordAt _ _ (frR S false A 0) ^^^ wordAt _ _ (frR S false A 1) ^^^ wordAt _ _ (frR S false A 2) = x
  rw [← vl_three, v1, hA.vl]
theorem mk_sf (W : Wt S) (hq : Bq k S) (hA : Sf S A x) (h : (oneS S 8 A c).e = 0) : Sf (oneS S 8 A c) (oneR S 8 A c) (x &&& c) ∧ S.e = 0 := by
  obtain ⟨h1, h2⟩ := one_vl h W.skip W.n (by decide) hq.v hA.gw
  refine ⟨⟨h2, ?_⟩, eaS_e h 0 (Nat.zero_le _)⟩
  rw [h1, hA.vl]
  unfold mvN
  rw [ev8]
theorem gd_e (h : (gdS S A).e = 0) : S.e = 0 := blk_e (do_ok h).1
theorem gm_e (h : (gmS S A c).e = 0) : S.e = 0 := on_e (gd_e h)
theorem gm_sf (W : Wt S) (hq : Bq k S) (hA : Sf S A x) (h : (gmS S A c).e = 0) : gmV S A c = x &&& c ∧ S.e = 0 := by
  have h1 := gd_e h
  obtain ⟨a1, a2⟩ := mk_sf W hq hA h1
  exact ⟨(gd_sf (W.ext (oneS_ext _ _ _ _)) a1 h).1, a2⟩
end
/-! ### bytes of words -/
/-- The lowest bits. -/
def lwN (m : Nat) : Nat := 2 ^ m - 1
theorem lwN_lt {m : Nat} (h : m ≤ 64) : lwN m < 2 ^ 64 := by
  unfold lwN
  have := Nat.pow_le_pow_right (n := 2) (by decide) h
  have := Nat.two_pow_pos m
  omega
/-- How many bytes of word j are asked for. -/
def gyK (N : Int) (j : Nat) : Nat := (min (max (N - 8 * (j : Int)) 0) 8).toNat
theorem gyK_le (N : Int) (j : Nat) : gyK N j ≤ 8 := by unfold gyK; omega
/-- Of how many words. -/
def gyC (N : Int) (L : Nat) : Nat := min L ((max N 0 + 7) / 8).toNat
theorem gyC_le (N : Int) (L : Nat) : gyC N L ≤ L := Nat.min_le_left _ _
theorem gyC_lt {N : Int} {L j : Nat} : j < gyC N L ↔ j < L ∧ 8 * (j : Int) < N := by unfold gyC; omega
theorem gyK_pos {N : Int} {L j : Nat} (h : j < gyC N L) : 0 < gyK N j := by have := (gyC_lt.1 h).2; unfold gyK; omega
def gyS (S : Ms) (V : Nat → Nat → Int) (N : Int) : Nat → Ms
  | 0 => S
  | j + 1 => gmS (gyS S V N j) (V j) (lwN (8 * gyK N j))
def gyV (S : Ms) (V : Nat → Nat → Int) (N : Int) (j : Nat) : Nat := gmV (gyS S V N j) (V j) (lwN (8 * gyK N j))
/-- A word's bytes. -/
def byF (x : Nat) (i : Nat) : Nat := x / 2 ^ (8 * i) % 256
/-- All bytes: of word i / 8 byte i % 8. -/
def gyF (S : Ms) (V : Nat → Nat → Int) (N : Int) (i : Nat) : Nat := byF (gyV S V N (i / 8)) (i % 8)
theorem gyF_lt (S : Ms) (V : Nat → Nat → Int) (N : Int) (i : Nat) : gyF S V N i < 256 := Nat.mod_lt _ (by decide)
/-- How many bytes there are behind j words. -/
def gyM (N : Int) (j : Nat) : Nat := (min (max N 0) (8 * (j : Int))).toNat
theorem gyM_next {N : Int} {L j : Nat} (h : j < gyC N L) : gyM N j = 8 * j ∧ gyM N (j + 1) = gyM N j + gyK N j := by have := (gyC_lt.1 h).2; unfold gyM gyK; omega
theorem gyM_le (N : Int) (j : Nat) : gyM N j ≤ 8 * j := by unfold gyM; omega
theorem gyS_ext (S : Ms) (V : Nat → Nat → Int) (N : Int) : ∀ j, Ext S (gyS S V N j)
  | 0 => Ext.refl _
  | j + 1 => (gyS_ext S V N j).trans (gmS_ext _ _ _)
theorem gyS_bq {k : Nat} {S : Ms} {V : Nat → Nat → Int} {N : Int} (h : Bq k S) (hn : S.n = 2 ∨ S.n = 3) (hV : ∀ j, Wb (V j)) : ∀ {j}, k + 14 * j + 30 ≤ 1000000 → Bq (k + 14 * j) (gyS S V N j)
  | 0, _ => h
  | j + 1, hk => (gm_bq (gyS_bq h hn hV (j := j) (by omega)) (by rw [(gyS_ext S V N j).n]; exact hn) (by omega) (hV j) (lwN_lt (by have := gyK_le N j; omega))).mono (by omega)
theorem gyV_lt {k : Nat} {S : Ms} {V : Nat → Nat → Int} {N : Int} (h : Bq k S) (hn : S.n = 2 ∨ S.n = 3) (hV : ∀ j, Wb (V j)) {j : Nat} (hk : k + 14 * j + 30 ≤ 1000000) : gyV S V N j < 2 ^ 64 :=
  gm_lt (gyS_bq h hn hV (by omega)) (by rw [(gyS_ext S V N j).n]; exact hn) (by omega) (hV j) (lwN_lt (by have := gyK_le N j; omega))
/-! ### bytes of planes -/
end Go.Proofs.YtpjgpiieminaoaaDoor

/- Boxes beside machines: one of them is turned, wherever it stands in the list. -/
namespace Go.Proofs.YtpjgpiieminaoaaDoor
open Go.RowKit
set_option maxRecDepth 100000
theorem nodup_at {l : List Nat} (h : l.Nodup) {i j n : Nat} (hi : l[i]? = some n) (hj : l[j]? = some n) : i = j := by
  obtain ⟨h1, e1⟩ := List.getElem?_eq_some_iff.1 hi
  obtain ⟨h2, e2⟩ := List.getElem?_eq_some_iff.1 hj
  exact (List.getElem_inj h).1 (e1.trans e2.symm)
theorem bxs_set {bs : List (Nat × Obj)} {w w' : World} {lo i n : Nat} {o o' : Obj} (hnd : (bs.map (·.1)).Nodup) (hb : ∀ q ∈ bs, lo ≤ q.1 ∧ w.heap[q.1]? = some q.2) (hi : bs[i]? = some (n, o)) (hn : w'.heap[n]? = some o') (ho : ∀ k, k ≠ n → w'.heap[k]? = w.heap[k]?) :
    (bs.set i (n, o')).map (·.1) = bs.map (·.1) ∧ ∀ q ∈ bs.set i (n, o'), lo ≤ q.1 ∧ w'.heap[q.1]? = some q.2 := by
  have hlt : i < bs.length := (List.getElem?_eq_some_iff.1 hi).1
  have hin := hb _ (List.mem_of_getElem? hi)
  refine ⟨?_, fun q hq => ?_⟩
  · apply List.ext_getElem?
    intro j
    rw [List.getElem?_map, List.getElem?_map, List.getElem?_set]
    by_cases e : i = j
    · subst e; rw [if_pos rfl, if_pos hlt, hi]; rfl
    · rw [if_neg e]
  · obtain ⟨j, hj⟩ := List.mem_iff_getElem?.1 hq
    rw [List.getElem?_set] at hj
    by_cases e : i = j
    · subst e
      rw [if_pos rfl, if_pos hlt] at hj
      obtain rfl := Option.some.inj hj
      exact ⟨hin.1, hn⟩
    · rw [if_neg e] at hj
      have hq' := hb q (List.mem_of_getElem? hj)
      have hne : q.1 ≠ n := fun e2 => e (nodup_at hnd (i := i) (j := j) (n := n) (by rw [List.getElem?_map, hi]; rfl) (by rw [List.getElem?_map, hj]; exact congrArg some e2))
      exact ⟨hq'.1, (ho _ hne).trans hq'.2⟩
theorem mem_fst {bs bs' : List (Nat × Obj)} (h : bs'.map (·.1) = bs.map (·.1)) {q : Nat × Obj} (hq : q ∈ bs') : ∃ r ∈ bs, r.1 = q.1 := by
  have : q.1 ∈ bs'.map (·.1) := List.mem_map.2 ⟨q, hq, rfl⟩
  rw [h] at this
  exact List.mem_map.1 this
section
variable {lg : LoG} {F0 : Nat → Prop} {w0 w w' : World} {b : Nat} {S : Ms} {bs : List (Nat × Obj)}
theorem Od.turnI {i n : Nat} {o o' : Obj} (h : Od lg F0 w0 w b S bs) (hi : bs[i]? = some (n, o)) (hn : w'.heap[n]? = some o') (ho : ∀ k, k ≠ n → w'.heap[k]? = w.heap[k]?) (hs : w.heap.size ≤ w'.heap.size) (hos : w'.os = w.os ∧ w'.tape = w.tape ∧ w'.output = w.output) : Od lg F0 w0 w' b S (bs.set i (n, o')) := by
  obtain ⟨h1, h2⟩ := bxs_set h.nd h.bx hi hn ho
  have hq := List.mem_of_getElem? hi
  obtain ⟨ov, bv, vv, tv, g1, g2, g3⟩ := h.ex
  have hn0 : w0.heap.size ≤ n := (h.bx _ hq).1
  have hne : ∀ k, Ft b ov bv vv k → k ≠ n := fun k hk e => g3 _ hq (by show Ft b ov bv vv n; rw [← e]; exact hk)
  refine ⟨⟨ov, bv, vv, tv, g1.stays hs (fun k hk => ho k (hne k hk)) (fun k hk _ => ho k (by have := h.g k hk; omega)), g2, fun q hq => ?_⟩, ?_, h.g, h2, h1 ▸ h.nd⟩
  · obtain ⟨r, hr, e⟩ := mem_fst h1 hq
    rw [← e]; exact g3 r hr
  · exact h.tch.trans ⟨hos.1, hos.2.1, hos.2.2, hs, fun k hk hF => ho k (fun e => hF (by show n = k; exact e.symm))⟩ (G := fun k => n = k) (fun j hj e => by have e' : n = j := e; omega)
end
section
variable {Pm : World → Nat → Ms → (Nat → Prop) → Prop} {F0 : Nat → Prop} {w0 w w' : World} {b : Nat} {S : Ms} {bs : List (Nat × Obj)}
theorem Ow.turnI {i n : Nat} {o o' : Obj} (hM : Mach Pm) (h : Ow Pm F0 w0 w b S bs) (hi : bs[i]? = some (n, o)) (hn : w'.heap[n]? = some o') (ho : ∀ k, k ≠ n → w'.heap[k]? = w.heap[k]?) (hs : w.heap.size ≤ w'.heap.size) (hos : w'.os = w.os ∧ w'.tape = w.tape ∧ w'.output = w.output) : Ow Pm F0 w0 w' b S (bs.set i (n, o')) := by
  obtain ⟨h1, h2⟩ := bxs_set h.nd h.bx hi hn ho
  have hq := List.mem_of_getElem? hi
  obtain ⟨F, g1, g2, g3⟩ := h.ex
  have hn0 : w0.heap.size ≤ n := (h.bx _ hq).1
  have hne : ∀ k, F k → k ≠ n := fun k hk e => g3 _ hq (by show F n; rw [← e]; exact hk)
  refine ⟨⟨F, hM.stays g1 hs (fun k hk => ho k (hne k hk)), g2, fun q hq => ?_⟩, ?_, h2, h1 ▸ h.nd⟩
  · obtain ⟨r, hr, e⟩ := mem_fst h1 hq
    rw [← e]; exact g3 r hr
  · exact h.tch.trans ⟨hos.1, hos.2.1, hos.2.2, hs, fun k hk hF => ho k (fun e => hF (by show n = k; exact e.symm))⟩ (G := fun k => n = k) (fun j hj e => by have e' : n = j := e; omega)
end
section
variable {Pm : World → Nat → Ms → (Nat → Prop) → Prop} {lo : Nat} {X0 : Nat → Prop} {W w0 w w' : World} {p b : Nat} {S1 S2 : Ms} {bs : List (Nat × Obj)}
theorem Gy.turnI {i n : Nat} {o o' : Obj} (hM : Mach Pm) (h : Gy Pm lo X0 W w0 w p b S1 S2 bs) (hi : bs[i]? = some (n, o)) (hn : w'.heap[n]? = some o') (ho : ∀ k, k ≠ n → w'.heap[k]? = w.heap[k]?) (hs : w.heap.size ≤ w'.heap.size) (hos : w'.os = w.os ∧ w'.tape = w.tape ∧ w'.output = w.output) : Gy Pm lo X0 W w0 w' p b S1 S2 (bs.set i (n, o')) := by
  obtain ⟨h1, h2⟩ := bxs_set h.nd h.bx hi hn ho
  have hq := List.mem_of_getElem? hi
  have hn0 : w0.heap.size ≤ n := (h.bx _ hq).1
  have hT : Tch (fun k => k = n) w w' := ⟨hos.1, hos.2.1, hos.2.2, hs, fun k _ hk => ho k hk⟩
  refine ⟨(h.z.apart hM hT (fun k hk => ?_)).less (fun k hk => ?_), h2, fun k hk => ⟨(h.st k hk).1, (ho k (by have := (h.st k hk).1; omega)).trans (h.st k hk).2⟩, h.lo, Nat.le_trans h.le hs, h1 ▸ h.nd⟩
  · subst hk
    exact ⟨.inr ⟨(k, o), hq, rfl⟩, Nat.le_trans h.lo hn0⟩
  · rcases hk with e | ⟨q, hq, rfl⟩
    · exact .inl e
    · obtain ⟨r, hr, e⟩ := mem_fst h1 hq
      exact .inr ⟨r, hr, e⟩
end
end Go.Proofs.YtpjgpiieminaoaaDoor

/- Guard: rows of bytes beside two machines; what tells a row. -/
namespace Go.Proofs.YtpjgpiieminaoaaDoor
open Go.RowKit
set_option maxRecDepth 100000
/-- What is neither machine's is turned, and there are new blocks. -/
theorem Bz.grow {Pm : World → Nat → Ms → (Nat → Prop) → Prop} {lo : Nat} {X Y H : Nat → Prop} {W wx wy : World} {p b : Nat} {S1 S2 : Ms} (hM : Mach Pm) (h : Bz Pm lo X W wx p b S1 S2) (hb : Tch H wx wy) (hH : ∀ k, H k → X k ∧ lo ≤ k) (hY : ∀ k, Y k → X k ∨ wx.heap.size ≤ k ∧ k < wy.heap.size) : Bz Pm lo Y W wy p b S1 S2 := by
  obtain ⟨F, G, ov, bv, vv, tv, h1, h2, h3, h4, h5, h6, h7⟩ := h
  refine ⟨F, G, ov, bv, vv, tv, hM.stays h1 hb.size (fun k hk => hb.block k (hM.lt h1 k hk) (fun f => (h3 k hk).2.2.2 (hH k f).1)), h2.stays hb.size (fun k hk => hb.block k (h2.ftlt hk) (fun f => (h4 k (hH k f).1).2.1 hk)) (fun k hk hlt => hb.block k hlt (fun f => (h4 k (hH k f).1).2.2 hk)), fun k hk => ⟨(h3 k hk).1, (h3 k hk).2.1, (h3 k hk).2.2.1, fun y => ?_⟩, fun k hk => ?_, fun k hk => Nat.lt_of_lt_of_le (h5 k hk) hb.size, h6.trans (hb.below (fun k f => (hH k f).2) h7), Nat.le_trans h7 hb.size⟩
  · rcases hY k y with e | e
    · exact (h3 k hk).2.2.2 e
    · have := hM.lt h1 k hk; omega
  · rcases hY k hk with e | e
    · exact ⟨Nat.lt_of_lt_of_le (h4 k e).1 hb.size, (h4 k e).2⟩
    · exact ⟨e.2, fun f => by have := h2.ftlt f; omega, fun g => by have := h5 k g; omega⟩
section
variable {Pm : World → Nat → Ms → (Nat → Prop) → Prop} {lo : Nat} {X0 : Nat → Prop} {W w0 wx wy : World} {p b : Nat} {S1 S2 : Ms} {bs : List (Nat × Obj)}
/-- The first box's row grows: it lies where it lay, or anew. -/
theorem Gy.grown (hM : Mach Pm) {n g : Nat} {o o' : Obj} (h : Gy Pm lo X0 W w0 wx p b S1 S2 ((n, o) :: bs)) (hg : wx.grownBy wy (some n)) (hp : some n = some g ∨ g = wx.heap.size) (hn : wy.heap[g]? = some o') : Gy Pm lo X0 W w0 wy p b S1 S2 ((g, o') :: bs) := by
  have hb := h.bx _ (List.mem_cons_self ..)
  have hnd := h.nd
  rw [List.map_cons, List.nodup_cons] at hnd
  have hT : Tch (fun k => k = n) wx wy := Tch.of_grown hg (fun k e => (Option.some.inj e).symm)
  have hgl : g < wy.heap.size := (Array.getElem?_eq_some_iff.1 hn).1
  refine ⟨h.z.grow (Y := fun k => X0 k ∨ ∃ q ∈ (g, o') :: bs, q.1 = k) hM hT (fun k hk => ?_) (fun k hk => ?_), fun q hq => ?_, fun k hk => ⟨(h.st k hk).1, (hg.block k (Nat.lt_of_lt_of_le (h.st k hk).1 h.le) (fun e => by have e' : k = n := Option.some.inj e; have := (h.st k hk).1; have e2 : w0.heap.size ≤ n := hb.1; omega)).trans (h.st k hk).2⟩, h.lo, Nat.le_trans h.le hg.size, ?_⟩
  · subst hk
    exact ⟨.inr ⟨(k, o), List.mem_cons_self .., rfl⟩, Nat.le_trans h.lo hb.1⟩
  · rcases hk with e | ⟨q, hq, rfl⟩
    · exact .inl (.inl e)
    · rcases List.mem_cons.1 hq with rfl | hq
      · rcases hp with hp | hp
        · have e' : n = g := Option.some.inj hp
          exact .inl (.inr ⟨(n, o), List.mem_cons_self .., e'⟩)
        · exact .inr ⟨Nat.le_of_eq hp.symm, hgl⟩
      · exact .inl (.inr ⟨q, List.mem_cons_of_mem _ hq, rfl⟩)
  · rcases List.mem_cons.1 hq with rfl | hq
    · refine ⟨?_, hn⟩
      rcases hp with hp | hp
      · have e' : n = g := Option.some.inj hp
        rw [← e']; exact hb.1
      · show w0.heap.size ≤ g
        rw [hp]; exact h.le
    · exact ⟨(h.bx q (List.mem_cons_of_mem _ hq)).1, (hg.block q.1 (h.lt (List.mem_cons_of_mem _ hq)) (fun e => hnd.1 (List.mem_map.2 ⟨q, hq, Option.some.inj e⟩))).trans (h.bx q (List.mem_cons_of_mem _ hq)).2⟩
  · rw [List.map_cons, List.nodup_cons]
    refine ⟨fun e => ?_, hnd.2⟩
    rcases hp with hp | hp
    · have e' : n = g := Option.some.inj hp
      rw [← e'] at e; exact hnd.1 e
    · obtain ⟨q, hq, e⟩ := List.mem_map.1 e
      have := h.lt (List.mem_cons_of_mem _ hq)
      have e' : q.1 = g := e
      omega
end
/-- v reads as the L words V; they lie in a block of X. -/
def WsR (w : World) (v : Value) (L : Nat) (V : Nat → Nat → Int) (X : Nat → Prop) : Prop :=
  ∃ a cap, v = .slice a L cap ∧ L ≤ cap ∧ cap ≤ maxLen ∧ (0 < L → ∃ g off, a = some ⟨g, off, none⟩ ∧ X g ∧ g < w.heap.size ∧ ∀ j, j < L → ∀ c, c < 3 → w.cell? ⟨g, off + j * 3 + c, none⟩ = some (.int .i64 (V j c)))
/-- v is a row of n bytes f that is the block g, o all that lies there. -/
def BoB (E : TypeId) (v : Value) (n : Nat) (f : Nat → Nat) (g : Nat) (o : Obj) : Prop :=
  ∃ cap cur, v = .slice (some ⟨g, 0, none⟩) n cap ∧ o = .cells cur E (0, 0) ∧ n ≤ cap ∧ cap ≤ maxLen ∧ cur.size = cap * 1 ∧ cur.toList.take (n * 1) = (ns n f).map (Value.int .u8)
section
variable {E : TypeId} {n g : Nat} {v : Value} {f : Nat → Nat} {o : Obj} {w : World}
theorem BoB.row (h : BoB E v n f g o) (hg : w.heap[g]? = some o) : w.ownsRow 0 E 1 v n ((ns n f).map (Value.int .u8)) := by
  obtain ⟨cap, cur, rfl, rfl, h1, h2, h3, h4⟩ := h
  exact ⟨by rw [List.length_map, ns_len]; omega, .inr ⟨g, cap, cur, rfl, Nat.zero_le _, hg, h1, h2, h3, h4⟩⟩
theorem BoB.of {cap : Nat} (h : w.ownsRow 0 E 1 (.slice (some ⟨g, 0, none⟩) n cap) n ((ns n f).map (Value.int .u8))) : ∃ o, BoB E (.slice (some ⟨g, 0, none⟩) n cap) n f g o ∧ w.heap[g]? = some o := by
  obtain ⟨h5, h⟩ := h
  rcases h with ⟨e, _⟩ | ⟨g', cap', cur, e, hb, hg, h1, h2, h3, h4⟩
  · cases e
  · cases e
    exact ⟨_, ⟨cap, cur, rfl, rfl, h1, h2, h3, h4⟩, hg⟩
theorem BoB.empty (E : TypeId) (f : Nat → Nat) (g : Nat) : BoB E (.slice (some ⟨g, 0, none⟩) 0 0) 0 f g (.cells #[] E (0, 0)) := ⟨0, #[], rfl, rfl, Nat.le_refl _, Nat.zero_le _, rfl, rfl⟩
theorem BoB.own (h : BoB E v n f g o) : v.ownBlock = some g := by
  obtain ⟨cap, cur, rfl, _⟩ := h
  rfl
theorem BoB.cell (h : BoB E v n f g o) (hg : w.heap[g]? = some o) {j : Nat} (hj : j < n) : w.cell? ⟨g, j, none⟩ = some (.int .u8 (f j : Int)) := by
  have h1 := h.row hg
  obtain ⟨cap, cur, rfl, _⟩ := h
  have := World.ownsRow.cells (g := g) h1 rfl j (.int .u8 (f j : Int)) (by rw [List.getElem?_map, ns_at f hj]; rfl)
  simpa [Addr.add_lit] using this
theorem BoB.rds (h : BoB E v n f g o) (hg : w.heap[g]? = some o) (hf : ∀ j, j < n → f j < 256) (hn : n ≤ 100000000) : RdS .u8 w (fun k => k = g) v (ns n f) := by
  have hc := fun j (hj : j < n) => h.cell hg hj
  obtain ⟨cap, cur, rfl, _, h1, h2, _⟩ := h
  refine ⟨some ⟨g, 0, none⟩, cap, by rw [ns_len], by rw [ns_len]; exact h1, h2, by rw [ns_len, show IntKind.u8.bits / 8 = 1 from rfl]; omega, ns_wf hf, fun _ => ⟨g, 0, rfl, rfl, (Array.getElem?_eq_some_iff.1 hg).1, fun j hj => ?_⟩⟩
  rw [ns_len] at hj
  rw [Nat.zero_add, ns_nth f hj]
  exact hc j hj
end
/-- One byte is turned. -/
theorem BoB.set {E : TypeId} {v : Value} {n : Nat} {f : Nat → Nat} {g : Nat} {o : Obj} {Pm : World → Nat → Ms → (Nat → Prop) → Prop} {lo : Nat} {X0 : Nat → Prop} {W w0 wx : World} {p b : Nat} {S1 S2 : Ms} {bs : List (Nat × Obj)} (hM : Mach Pm) (h : BoB E v n f g o) {i : Nat} (_ : i < n) (z : Nat) (hG : Gy Pm lo X0 W w0 wx p b S1 S2 ((g, o) :: bs)) :
    ∃ o', BoB E v n (upd f i z) g o' ∧ Gy Pm lo X0 W w0 (wx.setCell ⟨g, i, none⟩ (.int .u8 (z : Int))) p b S1 S2 ((g, o') :: bs) := by
  obtain ⟨cap, cur, rfl, rfl, h1, h2, h3, h4⟩ := h
  refine ⟨_, ⟨cap, cur.setIfInBounds i (.int .u8 (z : Int)), rfl, rfl, h1, h2, by simpa using h3, ?_⟩, hG.cell hM i _⟩
  rw [Array.toList_setIfInBounds, ← ns_set, List.map_set, ← h4, List.take_set]
/-- More bytes behind a row of bytes. -/
theorem wp_append_bob {P : Program} {w : World} {o : Oper} {a : Act} {K : Act → World → Prop} {Q : Exit → Act → World → Prop} (s x : Operand) (t : TypeId)
    (ho : o.op = .call { callee := .builtin .append, args := #[s, x], argTypes := #[t, t] }) (E : TypeId) (ht : P.underlying t = some (.slice E))
    (hinfo : (P.info? E).map (fun i => (i.zero, i.size, i.bytes)) = some (some (.int .u8 0), 1, 1))
    (sv : Value) (n : Nat) (f : Nat → Nat) {g0 : Nat} {o0 : Obj} (hs : a.eval s = sv) (hr : BoB E sv n f g0 o0) (h0 : w.heap[g0]? = some o0)
    (xv : Value) (m : Nat) (y : Nat → Nat) (hx : a.eval x = xv) (hrd : Rd .u8 w xv (ns m y)) (hm : 0 < m) (hf : ∀ q, q < m → f (n + q) = y q) (hlim : n + m ≤ 100000000)
    (h : ∀ g cap' w' o', BoB E (.slice (some ⟨g, 0, none⟩) (n + m) cap') (n + m) f g o' → w'.heap[g]? = some o' → w.grownBy w' (some g0) → (some g0 = some g ∨ g = w.heap.size) → K (a.put o.dst (.slice (some ⟨g, 0, none⟩) (n + m) cap')) w') : o.wp P a w K Q := by
  obtain ⟨i0, hi, hz0, hz1, hz2⟩ := info_parts hinfo
  obtain ⟨sa, scap, rfl, hl, hwf, hc⟩ := hrd
  rw [ns_len] at hx hc
  obtain ⟨b, off, rfl, hbw, hc⟩ := hc hm
  refine wp_append_lies w s x t ho 0 E i0 _ 1 1 ht hi hz0 hz1 hz2 rfl (by decide) sv n ((ns n f).map (Value.int .u8)) hs (hr.row h0) ⟨b, off, none⟩ m scap ((ns m y).map (Value.int .u8)) hx (by rw [List.length_map, ns_len]; omega) (fun j u hu => ?_) (fun u hu => ?_) hm (by unfold maxLen; omega) (by omega) (Nat.zero_le _) w.heap.size rfl (fun g cap' w' h1 h2 h3 _ => ?_)
  · have hj : j < m := by have := (List.getElem?_eq_some_iff.1 hu).1; rw [List.length_map, ns_len] at this; exact this
    rw [List.getElem?_map, ns_at y hj] at hu
    have e : u = .int .u8 (y j : Int) := (Option.some.inj hu).symm
    rw [show (Addr.mk b off none).add j = ⟨b, off + j, none⟩ by simp [Addr.add_lit], hc j hj, ns_nth y hj, e]
  · obtain ⟨z, _, rfl⟩ := List.mem_map.1 hu
    rfl
  · have e : (ns n f).map (Value.int .u8) ++ (ns m y).map (Value.int .u8) = (ns (n + m) f).map (Value.int .u8) := by
      rw [← List.map_append, ← ns_app n m f]
      congr 2
      exact ns_ext fun q hq => (hf q hq).symm
    rw [e] at h1
    obtain ⟨o', e1, e2⟩ := BoB.of h1
    rw [hr.own] at h2 h3
    exact h g cap' w' o' e1 e2 h2 h3
theorem wpList_append_bob {P : Program} {w : World} {ops : Array Oper} {rest : List Oper} {o : Oper} {a : Act} {Q : Exit → Act → World → Prop} (hgd : o.guard = none) (s x : Operand) (t : TypeId)
    (ho : o.op = .call { callee := .builtin .append, args := #[s, x], argTypes := #[t, t] }) (E : TypeId) (ht : P.underlying t = some (.slice E))
    (hinfo : (P.info? E).map (fun i => (i.zero, i.size, i.bytes)) = some (some (.int .u8 0), 1, 1))
    (sv : Value) (n : Nat) (f : Nat → Nat) {g0 : Nat} {o0 : Obj} (hs : a.eval s = sv) (hr : BoB E sv n f g0 o0) (h0 : w.heap[g0]? = some o0)
    (xv : Value) (m : Nat) (y : Nat → Nat) (hx : a.eval x = xv) (hrd : Rd .u8 w xv (ns m y)) (hm : 0 < m) (hf : ∀ q, q < m → f (n + q) = y q) (hlim : n + m ≤ 100000000)
    (h : ∀ g cap' w' o', BoB E (.slice (some ⟨g, 0, none⟩) (n + m) cap') (n + m) f g o' → w'.heap[g]? = some o' → w.grownBy w' (some g0) → (some g0 = some g ∨ g = w.heap.size) → wpList P ops Q rest (a.put o.dst (.slice (some ⟨g, 0, none⟩) (n + m) cap')) w') : wpList P ops Q (o :: rest) a w :=
  wpList_plain hgd fun _ hK => wp_append_bob s x t ho E ht hinfo sv n f hs hr h0 xv m y hx hrd hm hf hlim fun g cap' w' o' h1 h2 h3 h4 => hK _ _ (h g cap' w' o' h1 h2 h3 h4)
theorem BoB.form {E : TypeId} {v : Value} {n : Nat} {f : Nat → Nat} {g : Nat} {o : Obj} (h : BoB E v n f g o) : ∃ cap, v = .slice (some ⟨g, 0, none⟩) n cap ∧ n ≤ cap ∧ cap ≤ maxLen := by
  obtain ⟨cap, cur, e, _, h1, h2, _⟩ := h
  exact ⟨cap, e, h1, h2⟩
/-- What reads as bytes, off blocks that are known whole. -/
def RdY (v : Value) (zs : List Int) (Ys : List (Nat × Obj)) : Prop :=
  ∃ a cap, v = .slice a zs.length cap ∧ zs.length ≤ cap ∧ cap ≤ maxLen ∧ zs.length * 1 ≤ 140737488351232 ∧ (∀ z ∈ zs, (Lit.int .u8 z).wf = true) ∧
    (0 < zs.length → ∃ g off o, a = some ⟨g, off, none⟩ ∧ (g, o) ∈ Ys ∧ ∀ w : World, w.heap[g]? = some o → ∀ j, j < zs.length → w.cell? ⟨g, off + j, none⟩ = some (.int .u8 (nth zs j)))
theorem RdY.rd {v : Value} {zs : List Int} {Ys : List (Nat × Obj)} {w : World} (h : RdY v zs Ys) (hb : ∀ q ∈ Ys, w.heap[q.1]? = some q.2) : Rd .u8 w v zs := by
  obtain ⟨a, cap, rfl, h1, h2, h3, h4, h5⟩ := h
  refine ⟨a, cap, rfl, h3, h4, fun hp => ?_⟩
  obtain ⟨g, off, o, e, hm, hc⟩ := h5 hp
  have := hb _ hm
  exact ⟨g, off, e, (Array.getElem?_eq_some_iff.1 this).1, hc w this⟩
theorem cell_same {w w' : World} {g : Nat} (h : w'.heap[g]? = w.heap[g]?) (i : Nat) : w'.cell? ⟨g, i, none⟩ = w.cell? ⟨g, i, none⟩ := by
  unfold World.cell?
  rw [h]
/-- A call tells a row of bytes in blocks of its own, and both machines go on. -/
def TellsB (Pm : World → Nat → Ms → (Nat → Prop) → Prop) (lo : Nat) (X : Nat → Prop) (W w : World) (p b : Nat) (S1 S2 : Ms) (zs : List Int) (e : Ending) (w' : World) : Prop :=
  ∃ v Y, e = .returned v ∧ RdS .u8 w' Y v zs ∧ (∀ k, Y k → w.heap.size ≤ k) ∧ Bz Pm lo (fun k => X k ∨ Y k) W w' p b S1 S2 ∧ ∀ k, X k → w'.heap[k]? = w.heap[k]?
theorem Gy.tells {Pm : World → Nat → Ms → (Nat → Prop) → Prop} {lo : Nat} {X0 : Nat → Prop} {W w0 wx : World} {p b : Nat} {S1 S2 S1' S2' : Ms} {bs : List (Nat × Obj)} {zs : List Int} (h : Gy Pm lo X0 W w0 wx p b S1 S2 bs) {f : FuncId} {args : Array Value}
    (hc : ∀ X : Nat → Prop, (∀ k, X0 k → X k) → (∀ q ∈ bs, X q.1) → ∀ W, Bz Pm lo X W wx p b S1 S2 → Calls Tryd.prog f args wx (TellsB Pm lo X W wx p b S1' S2' zs)) :
    Calls Tryd.prog f args wx fun e w' => ∃ v Ys, e = .returned v ∧ RdY v zs Ys ∧ Gy Pm lo X0 W w0 w' p b S1' S2' (bs ++ Ys) := by
  refine (hc _ (fun k hk => .inl hk) (fun q hq => .inr ⟨q, hq, rfl⟩) wx h.z.base).mono fun e w' hr => ?_
  obtain ⟨v, Y, rfl, hrd, hY, hz, hX⟩ := hr
  have hsz := hz.low.size
  have hz2 := hz.up h.z.low
  have hst : ∀ k, X0 k → k < w0.heap.size ∧ w'.heap[k]? = w0.heap[k]? := fun k hk => ⟨(h.st k hk).1, (hX k (.inl hk)).trans (h.st k hk).2⟩
  have hbx : ∀ q ∈ bs, w0.heap.size ≤ q.1 ∧ w'.heap[q.1]? = some q.2 := fun q hq => ⟨(h.bx q hq).1, (hX q.1 (.inr ⟨q, hq, rfl⟩)).trans (h.bx q hq).2⟩
  by_cases hp : 0 < zs.length
  · obtain ⟨a, cap, rfl, b1, b2, b3, b4, b5⟩ := hrd
    obtain ⟨g, off, rfl, hYg, hg, hcell⟩ := b5 hp
    obtain ⟨o, ho⟩ : ∃ o, w'.heap[g]? = some o := ⟨_, Array.getElem?_eq_getElem hg⟩
    have hgx := hY g hYg
    refine ⟨_, [(g, o)], rfl, ⟨some ⟨g, off, none⟩, cap, rfl, b1, b2, b3, b4, fun _ => ⟨g, off, o, rfl, List.mem_singleton.2 rfl, fun w hw j hj => by rw [cell_same (hw.trans ho.symm)]; exact hcell j hj⟩⟩, hz2.less (fun k hk => ?_), fun q hq => ?_, hst, h.lo, Nat.le_trans h.le hsz, ?_⟩
    · rcases hk with e | ⟨q, hq, rfl⟩
      · exact .inl (.inl e)
      · rcases List.mem_append.1 hq with e | e
        · exact .inl (.inr ⟨q, e, rfl⟩)
        · obtain rfl := List.mem_singleton.1 e
          exact .inr hYg
    · rcases List.mem_append.1 hq with e | e
      · exact hbx q e
      · obtain rfl := List.mem_singleton.1 e
        exact ⟨Nat.le_trans h.le hgx, ho⟩
    · rw [List.map_append, List.nodup_append]
      refine ⟨h.nd, by simp, fun x hx y hy e => ?_⟩
      obtain ⟨q, hq, rfl⟩ := List.mem_map.1 hx
      have hy' : y = g := by simpa using hy
      have := h.lt hq
      omega
  · obtain ⟨a, cap, rfl, b1, b2, b3, b4, b5⟩ := hrd
    refine ⟨_, [], rfl, ⟨a, cap, rfl, b1, b2, b3, b4, fun q => absurd q hp⟩, ?_⟩
    rw [List.append_nil]
    exact ⟨hz2.less (fun k hk => .inl hk), hbx, hst, h.lo, Nat.le_trans h.le hsz, h.nd⟩
/-! ### bytes of planes -/
/-! ### words of lowest bits; a word's bytes -/
theorem low_nat : ∀ m, m ≤ 64 → rlow m = (lwN m : Int)
  | 0, _ => rfl
  | m + 1, h => by
    have ih := low_nat m (by omega)
    have h1 := lwN_lt (m := m + 1) h
    have e : lwN (m + 1) = 2 * lwN m + 1 := by
      unfold lwN
      have := Nat.two_pow_pos m
      rw [Nat.pow_succ]
      omega
    unfold rlow
    rw [ih, IntKind.wrap_u64, IntKind.wrap_u64]
    omega
theorem rsTo_nat (x : Nat) : ∀ k, rsTo (x : Int) k = ((x / 2 ^ (8 * k) : Nat) : Int)
  | 0 => by simp [rsTo]
  | k + 1 => by
    rw [rsTo, rsTo_nat x k, show 8 * (k + 1) = 8 * k + 8 by omega, Nat.pow_add, ← Nat.div_div_eq_div_mul]
    omega
theorem rsL_ns (x : Nat) : ∀ k, rsL (x : Int) k = ns k (byF x)
  | 0 => rfl
  | k + 1 => by
    rw [rsL, rsL_ns x k, rsTo_nat, ← ns_snoc]
    unfold byF
    congr 2
theorem byF_lt (x i : Nat) : byF x i < 256 := Nat.mod_lt _ (by decide)
theorem gyF_word {S : Ms} {V : Nat → Nat → Int} {z : Int} {j q : Nat} (hq : q < 8) : gyF S V z (8 * j + q) = byF (gyV S V z j) q := by
  unfold gyF
  rw [show (8 * j + q) / 8 = j by omega, show (8 * j + q) % 8 = q by omega]
end Go.Proofs.YtpjgpiieminaoaaDoor

/- Guard: Open, Masked, Yes, Draws: the document's and the program's, over both machines. -/
namespace Go.Proofs.YtpjgpiieminaoaaDoor
open Go.RowKit
set_option maxRecDepth 100000
theorem gi64K8 : I64 8 := i64k 8 (by decide) (by decide)
/-- So many lowest bits, from 0 to 64 of them. -/
def lwZ (z : Int) : Nat := lwN (min (max z 0) 64).toNat
theorem lwZ_lt (z : Int) : lwZ z < 2 ^ 64 := lwN_lt (by omega)
theorem lwZ_of {z : Int} {m : Nat} (h : (min (max z 0) 64).toNat = m) : lwZ z = lwN m := by unfold lwZ; rw [h]
theorem glow_any (z : Int) (w : World) : Calls Tryd.prog 54 #[.int .i64 z] w fun e w' => e = .returned (.int .u64 (lwZ z : Int)) ∧ w' = w := by
  have := low_any z w
  rw [low_math _ (by omega), low_nat _ (by omega)] at this
  exact this
set_option maxHeartbeats 6400000 in
theorem qgopen {Pm : World → Nat → Ms → (Nat → Prop) → Prop} (hM : Mach Pm) {lo : Nat} {X : Nat → Prop} {W w : World} {b bd k : Nat} {S S2 : Ms} (A : Nat → Int) (h : Bz Pm lo X W w b bd S S2) (hp : Pv w) (hl : gpair < lo) (hq : Bq k S) (hk : k + 20 ≤ 100000) (hn : S.n = 2 ∨ S.n = 3) (hA : Wb A) :
    Calls Tryd.prog 52 #[.pointer (some ⟨b, 0, none⟩), .agg (wdV A)] w fun e w' => e = .returned (.int .u64 (gdV S A : Int)) ∧ Bz Pm lo X W w' b bd (gdS S A) S2 ∧ ∀ k, X k → w'.heap[k]? = w.heap[k]? := by
  have HC1 : Hid (∀ (bs : List (Nat × Obj)) (w' : World), Gy Pm lo X w w w' b bd S S2 bs → Calls Tryd.prog 59 #[.pointer (some ⟨b, 0, none⟩), .agg (wdV A)] w' fun e w2 => e = .returned (.agg (wdV (frR S false A))) ∧ Gy Pm lo X w w w2 b bd (frS S false A) S2 bs) := hid (fun bs w' h' => h'.lift (fun _ _ hz => qfull hM A hz (Pv.bz hp hl h'.z) hl hq (by omega) hn hA))
  have HC2 : Hid (∀ (bs : List (Nat × Obj)) (w' : World), Gy Pm lo X w w w' b bd (frS S false A) S2 bs → Calls Tryd.prog 60 #[.pointer (some ⟨b, 0, none⟩), .int .i64 (frR S false A 0), .int .i64 (frR S false A 1), .int .i64 (frR S false A 2)] w' fun e w2 => e = .returned (.int .u64 (gdV S A : Int)) ∧ Gy Pm lo X w w w2 b bd (gdS S A) S2 bs) := hid (fun bs w' h' => h'.lift (fun _ _ hz => zopen_ hM _ _ _ hz (frS_bq hq (by omega) hA) (by omega) (opOp_wf (frR_wb hq (by omega) hA))))
  have HLOW : Hid (Below lo W w) := hid h.low
  obtain ⟨w1, hw1⟩ : ∃ w1, (w).alloc (.cells (wdV A) 35) = w1 := ⟨_, rfl⟩
  have H1 : Hid (Gy Pm lo X w w w1 b bd S S2 [(w.heap.size, Obj.cells (wdV A) 35 (0, 0))]) := hid (by
    have := ((Gy.start h.base).new hM (wdV A) 35)
    rw [hw1] at this
    skip
    exact this)
  have HW := hid hw1
  clear h hq hk hn hp hl hw1 hA
  generalize gdV S A = z at *
  generalize gdS S A = S9 at *
  generalize frS S false A = T1 at *
  generalize frR S false A = R1 at *
  go_enter Tryd.func52, Tryd.ntmps52
  go_upto_region 1 with fail
  rw [HW.out]
  go_upto_region 2 with (first
    | (refine step_load_row rfl 35 _ rfl (w.heap.size) 35 (wdV A) _ rfl (H1.out.bl 0 rfl) Tryd.underlying35 rfl (by kernel_rfl) ?_)
    | (go_at_call 59; (with_reducible refine (HC1.out _ _ H1.out).mono ?_); rintro e w2 ⟨rfl, hb⟩; have H2 := hid hb; clear hb))
  have H3 := hid (H2.out.new hM (wdV R1) 35)
  obtain ⟨g9, hg9⟩ : ∃ g9, w2.heap.size = g9 := ⟨_, rfl⟩
  rw [hg9] at H3
  generalize w2.alloc (.cells #[.int .i64 (R1 0), .int .i64 (R1 1), .int .i64 (R1 2)] 35) = w3 at *
  rw [hg9]
  clear hg9 H2 H1
  have k0 := row_c (i := 0) (u := .int .i64 (R1 0)) (H3.out.bl 0 rfl) rfl
  have k1 := row_c (i := 1) (u := .int .i64 (R1 1)) (H3.out.bl 0 rfl) rfl
  have k2 := row_c (i := 2) (u := .int .i64 (R1 2)) (H3.out.bl 0 rfl) rfl
  go_wp2_with (go_at_call 60; (with_reducible refine (HC2.out _ _ H3.out).mono ?_); rintro e w4 ⟨rfl, hb⟩; have H4 := hid hb; clear hb)
  go_ret
  exact ⟨rfl, H4.out.fin.1.up HLOW.out, H4.out.fin.2⟩
set_option maxHeartbeats 6400000 in
theorem qglow {Pm : World → Nat → Ms → (Nat → Prop) → Prop} (hM : Mach Pm) {lo : Nat} {X : Nat → Prop} {W w : World} {b bd k : Nat} {S S2 : Ms} (A : Nat → Int) (z : Int) (c : Nat) (ec : c = lwZ z) (h : Bz Pm lo X W w b bd S S2) (hp : Pv w) (hl : gpair < lo) (hq : Bq k S) (hk : k + 40 ≤ 100000) (hn : S.n = 2 ∨ S.n = 3) (hA : Wb A) :
    Calls Tryd.prog 46 #[.pointer (some ⟨b, 0, none⟩), .agg (wdV A), .int .i64 z] w fun e w' => e = .returned (.int .u64 (gmV S A c : Int)) ∧ Bz Pm lo X W w' b bd (gmS S A c) S2 ∧ ∀ k, X k → w'.heap[k]? = w.heap[k]? := by
  have hc : c < 2 ^ 64 := by rw [ec]; exact lwZ_lt z
  have hsh := sh_bd hn
  have q1 : Bq (k + 3) (oneS S 8 A c) := (eaS_bq hq 0 _ (fun j hj => opOne_wf gi64K8 hA hc (by omega))).mono (by omega)
  have HC1 : Hid (∀ (bs : List (Nat × Obj)) (w' : World), Gy Pm lo X w w w' b bd S S2 bs → Calls Tryd.prog 53 #[.pointer (some ⟨b, 0, none⟩), .int .i64 8, .agg (wdV A), .int .u64 (c : Int)] w' fun e w2 => e = .returned (.agg (wdV (oneR S 8 A c))) ∧ Gy Pm lo X w w w2 b bd (oneS S 8 A c) S2 bs) := hid (fun bs w' h' => h'.lift (fun _ _ hz => qone hM (shI hM) 8 A c hz hq (by omega) hn gi64K8 hA hc))
  have HC2 : Hid (∀ (bs : List (Nat × Obj)) (w' : World), Gy Pm lo X w w w' b bd (oneS S 8 A c) S2 bs → Calls Tryd.prog 52 #[.pointer (some ⟨b, 0, none⟩), .agg (wdV (oneR S 8 A c))] w' fun e w2 => e = .returned (.int .u64 (gmV S A c : Int)) ∧ Gy Pm lo X w w w2 b bd (gmS S A c) S2 bs) := hid (fun bs w' h' => h'.lift (fun _ _ hz => qgopen hM (oneR S 8 A c) hz (Pv.bz hp hl h'.z) hl q1 (by omega) (by rw [(oneS_ext S 8 A c).n]; exact hn) (oneR_wb hq (by omega) hn gi64K8 hA hc)))
  have HLW : Hid (∀ w, Calls Tryd.prog 54 #[.int .i64 z] w fun e w' => e = .returned (.int .u64 (c : Int)) ∧ w' = w) := hid (fun w => by rw [ec]; exact glow_any z w)
  have HLOW : Hid (Below lo W w) := hid h.low
  obtain ⟨w1, hw1⟩ : ∃ w1, (w).alloc (.cells (wdV A) 35) = w1 := ⟨_, rfl⟩
  have H1 : Hid (Gy Pm lo X w w w1 b bd S S2 [(w.heap.size, Obj.cells (wdV A) 35 (0, 0))]) := hid (by
    have := ((Gy.start h.base).new hM (wdV A) 35)
    rw [hw1] at this
    skip
    exact this)
  have HW := hid hw1
  clear h hq hk hn hp hl hw1 hA hc q1 hsh ec
  generalize gmV S A c = zv at *
  generalize gmS S A c = S9 at *
  generalize oneS S 8 A c = T1 at *
  generalize oneR S 8 A c = R1 at *
  go_enter Tryd.func46, Tryd.ntmps46
  go_upto_region 1 with fail
  rw [HW.out]
  have G0 := hid (H1.out.self hM ((Below.refl _ w1).drew))
  refine wp_region_noPanic ?_
  refine wp_region_held_drew (S := fun w' => w'.heap[w.heap.size]? = some (.cells (wdV A) 35 (0, 0))) (by kernel_rfl) (G0.out.bl 0 rfl) (fun h0 => ?_)
  generalize w1.drew = y0 at *
  refine wpAnyH_take (i := 0) (v := .pointer (some ⟨b, 0, none⟩)) rfl (by kernel_rfl) (by kernel_rfl) (by kernel_rfl) (fun _ _ _ h => h) (.inl ⟨by rfl, fun w hw => by clear hw; go_simp⟩) h0 ?_
  try simp only [Act.put, lay_out]
  refine wpAnyH_take (i := 1) (v := .pointer (some ⟨b, 0, none⟩)) rfl (by kernel_rfl) (by kernel_rfl) (by kernel_rfl) (fun _ _ _ h => h) (.inl ⟨by rfl, fun w hw => by clear hw; go_simp⟩) h0 ?_
  try simp only [Act.put, lay_out]
  refine wpAnyH_take (i := 2) (v := .agg (wdV A)) rfl (by kernel_rfl) (by kernel_rfl) (by kernel_rfl) (fun _ _ _ h => h) (yields_load_row (by rfl) 35 _ rfl (w.heap.size) 35 (wdV A) _ rfl (fun w hw => hw) Tryd.underlying35 rfl (by kernel_rfl)) h0 ?_
  try simp only [Act.put, lay_out]
  refine wpAnyH_take (i := 3) (v := .int .i64 z) rfl (by kernel_rfl) (by kernel_rfl) (by kernel_rfl) (fun _ _ _ h => h) (.inl ⟨by rfl, fun w hw => by clear hw; go_simp⟩) h0 ?_
  try simp only [Act.put, lay_out]
  refine wpAnyH_ready (rs := [4]) (by kernel_rfl) (by simp) (AllReadyH.cons rfl (fun K hK => ?_) AllReadyH.nil)
  rw [if_pos (by rfl)]
  go_simp
  go_at_call 54
  (with_reducible refine (HLW.out _).mono ?_); rintro e y1 ⟨rfl, ey⟩
  obtain rfl : y0 = y1 := ey.symm
  refine hK.out _ _ (G0.out.bl 0 rfl) (fun h1x => ?_)
  clear hK K
  try simp only [Act.put, lay_out]
  refine wpAnyH_ready (rs := [5]) (by kernel_rfl) (by simp) (AllReadyH.cons rfl (fun K hK => ?_) AllReadyH.nil)
  rw [if_pos (by rfl)]
  go_simp
  go_at_call 53
  (with_reducible refine (HC1.out _ _ G0.out).mono ?_); rintro e y2 ⟨rfl, hz⟩
  have G2 := hid hz
  clear hz
  refine hK.out _ _ (G2.out.bl 0 rfl) (fun h2x => ?_)
  clear hK K
  try simp only [Act.put, lay_out]
  refine wpAnyH_ready (rs := [6]) (by kernel_rfl) (by simp) (AllReadyH.cons rfl (fun K hK => ?_) AllReadyH.nil)
  rw [if_pos (by rfl)]
  go_simp
  go_at_call 52
  (with_reducible refine (HC2.out _ _ G2.out).mono ?_); rintro e y3 ⟨rfl, hz⟩
  have G3 := hid hz
  clear hz
  refine hK.out _ _ (G3.out.bl 0 rfl) (fun h3x => ?_)
  clear hK K
  try simp only [Act.put, lay_out]
  refine wpAnyH_take (i := 7) (v := .int .u64 (zv : Int)) rfl (by kernel_rfl) (by kernel_rfl) (by kernel_rfl) (fun _ _ _ h => h) (.inl ⟨by rfl, fun w hw => by clear hw; go_simp⟩) h3x ?_
  try simp only [Act.put, lay_out]
  refine wpAnyH_done (by kernel_rfl) ?_ _
  refine NoPanic.normal ?_
  clear h0 h1x h2x h3x
  try simp only [Act.put, lay_out]
  go_wp2
  go_ret
  exact ⟨rfl, G3.out.fin.1.up HLOW.out, G3.out.fin.2⟩
end Go.Proofs.YtpjgpiieminaoaaDoor
