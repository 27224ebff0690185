import Derived.Test.YtpjgpiieminaoaaDoorFrl
import Derived.Test.YtpjgpiieminaoaaDoorWdg
import Derived.Test.YtpjgpiieminaoaaDoorGen
import Derived.Test.YtpjgpiieminaoaaDoorWma
import Derived.ArgAppend
import Derived.Lib.AppendStr
import Derived.Lib.AppendIntMem
import Derived.Lib.ConvBytes
import Derived.Laws.Rows
import Derived.Laws.Tables
import Derived.Laws.StructEq
import Derived.ChangeKeysEq
import Derived.Deep.WholeRow
/- General: runs that open words and on which all goes well; how many ops open, and what they tell; words that are encoded one behind the other. No program is named. -/
namespace Go.Proofs.YtpjgpiieminaoaaDoor

section
variable {T M L u : Nat} {S : Ms} {A : Nat → Int}
theorem op_ok {at_ n : Int} (hn : n = 2 ∨ n = 3) (h0 : 0 ≤ A 0 ∧ A 0 < at_) (h1 : 0 ≤ A 1 ∧ A 1 < at_) (h2 : n = 3 → 0 ≤ A 2 ∧ A 2 < at_) (h3 : n = 2 → A 2 = -1) : okOp (opOp A) at_ n = true := by
  have hh : okH (opOp A) n = true := by
    show decide ((n = 2 ∨ n = 3) ∧ (1 : Int) ≤ 12 ∧ (12 : Int) ≤ 12 ∧ (-1 : Int) ≤ -1 ∧ (-1 : Int) < n ∧ ((12 : Int) = 12 → (-1 : Int) = -1)) = true
    exact decide_eq_true ⟨hn, by decide, by decide, by decide, by omega, fun _ => rfl⟩
  have hr : allB (rgB (opOp A) at_ n) 3 = true := allB_of fun j hj => by
    show (if (j : Int) < rgN 12 n then decide (0 ≤ rgL (opOp A) j ∧ rgL (opOp A) j < at_) else decide (rgL (opOp A) j = -1)) = true
    have hN : rgN 12 n = n := by
      unfold rgN
      rw [if_neg (by omega), if_neg (by decide), if_neg (by decide), if_neg (by decide), if_pos rfl]
    rw [hN]
    rcases (by omega : j = 0 ∨ j = 1 ∨ j = 2) with rfl | rfl | rfl
    · rw [if_pos (by omega)]; exact decide_eq_true h0
    · rw [if_pos (by omega)]; exact decide_eq_true h1
    · rcases hn with e | e
      · rw [if_neg (by omega)]; exact decide_eq_true (h3 e)
      · rw [if_pos (by omega)]; exact decide_eq_true (h2 e)
  unfold okOp
  rw [hh, hr]
  rfl
theorem op_fin (h : Fin_ T M S L u) (hA : Rl S A) (hm : L + 1 ≤ M) : Fin_ T M (S.doS (opOp A) 0) (L + 1) u ∧ S.doR (opOp A) = (L : Int) := by
  obtain ⟨s1, s2, s3⟩ := sh_n h.n
  have a0 := (hA 0 (by omega)).1 (by omega)
  have a1 := (hA 1 (by omega)).1 (by omega)
  have a2 := hA 2 (by omega)
  rw [h.L] at a0 a1 a2
  exact h.does (op_ok h.n a0 a1 (fun e => a2.1 (by omega)) (fun e => a2.2 (by omega))) (by show (12 : Int) ≠ 1; decide) (by show (12 : Int) ≠ 2; decide) (by omega)
theorem mk_ok {at_ n a D : Int} {C : Nat} (hn : n = 2 ∨ n = 3) (hD : 0 ≤ D ∧ D < n) (ha : 0 ≤ a ∧ a < at_) : okOp ⟨8, D, a, -1, -1, C⟩ at_ n = true := by
  have hh : okH ⟨8, D, a, -1, -1, C⟩ n = true := by unfold okH; simp only [decide_eq_true_eq]; omega
  have hq : ¬ (n ≠ 2 ∧ n ≠ 3) := by omega
  have hr : allB (rgB ⟨8, D, a, -1, -1, C⟩ at_ n) 3 = true := allB_of fun j hj => by
    show (if (j : Int) < rgN 8 n then decide (0 ≤ rgL ⟨8, D, a, -1, -1, C⟩ j ∧ rgL ⟨8, D, a, -1, -1, C⟩ j < at_) else decide (rgL ⟨8, D, a, -1, -1, C⟩ j = -1)) = true
    have hN : rgN 8 n = 1 := by unfold rgN; rw [if_neg hq, if_neg (by decide), if_neg (by decide), if_pos (by decide)]
    rw [hN]
    rcases (by omega : j = 0 ∨ j = 1 ∨ j = 2) with rfl | rfl | rfl
    · exact decide_eq_true ha
    · rfl
    · rfl
  unfold okOp
  rw [hh, hr]
  rfl
theorem mk_fin {c : Nat} (h : Fin_ T M S L u) (hA : Rl S A) (hm : L + 3 ≤ M) : Fin_ T M (oneS S 8 A c) (L + S.sh) u ∧ Rl (oneS S 8 A c) (oneR S 8 A c) := by
  obtain ⟨s1, s2, s3⟩ := sh_n h.n
  exact ea_rl h (fun j hj => by
    have := (hA j (by omega)).1 hj
    rw [h.L] at this
    exact ⟨mk_ok h.n (by omega) (by omega), by show (8 : Int) ≠ 1; decide, by show (8 : Int) ≠ 2; decide⟩) (by omega)
/-- How many masks an opening takes. -/
def frN (n : Int) : Nat := if n = 3 then 3 else 1
theorem frN_le (n : Int) : frN n ≤ 3 := by unfold frN; split <;> omega
theorem gd_fin (h : Fin_ T M S L u) (hA : Rl S A) (hm : L + 10 ≤ M) (hu : u + 3 ≤ T) : Fin_ T M (gdS S A) (L + frM S.n false + 1) (u + frN S.n) := by
  obtain ⟨f1, f2⟩ := fr_fin h hA (by omega) hu
  have l1 : frM S.n false ≤ 9 := frM_le _ _
  exact (op_fin f1 f2 (by omega)).1
theorem gm_fin {c : Nat} (h : Fin_ T M S L u) (hA : Rl S A) (hm : L + 13 ≤ M) (hu : u + 3 ≤ T) : Fin_ T M (gmS S A c) (L + S.sh + frM S.n false + 1) (u + frN S.n) := by
  obtain ⟨s1, s2, s3⟩ := sh_n h.n
  obtain ⟨f1, f2⟩ := mk_fin (c := c) h hA (by omega)
  have := gd_fin f1 f2 (by omega) hu
  rw [(oneS_ext S 8 A c).n] at this
  exact this
theorem gy_fin {V : Nat → Nat → Int} {N : Int} (h : Fin_ T M S L u) (hV : ∀ j, j < 8 → Rl S (V j)) {j : Nat} (hj : j ≤ 8) (hm : L + 13 * j ≤ M) (hu : u + 3 * j ≤ T) : ∃ L', L' ≤ L + 13 * j ∧ Fin_ T M (gyS S V N j) L' (u + j * frN S.n) := by
  induction j with
  | zero => exact ⟨L, Nat.le_refl _, by rw [Nat.zero_mul]; exact h⟩
  | succ j ih =>
    obtain ⟨L', l1, f1⟩ := ih (by omega) (by omega) (by omega)
    have hd := frN_le S.n
    have hjd : j * frN S.n ≤ j * 3 := Nat.mul_le_mul_left j hd
    have hX := gyS_ext S V N j
    have l2 : frM S.n false ≤ 9 := frM_le _ _
    obtain ⟨s1, s2, s3⟩ := sh_n f1.n
    have g := gm_fin (c := lwN (8 * gyK N j)) f1 ((hV j (by omega)).ext hX) (by omega) (by omega)
    refine ⟨L' + (gyS S V N j).sh + frM S.n false + 1, by omega, ?_⟩
    show Fin_ T M (gmS (gyS S V N j) (V j) (lwN (8 * gyK N j))) _ _
    rw [hX.n] at g
    rw [Nat.add_mul, Nat.one_mul, ← Nat.add_assoc]
    exact g
theorem ly_fin {x : Nat → Nat} (h : Fin_ T M S L u) {j : Nat} (hm : L + 3 * j ≤ M) : (∃ L', L' ≤ L + 3 * j ∧ Fin_ T M (lyS S x j) L' u) ∧ ∀ i, i < j → Rl (lyS S x j) (lyR S x i) := by
  induction j with
  | zero => exact ⟨⟨L, Nat.le_refl _, h⟩, fun i hi => absurd hi (Nat.not_lt_zero i)⟩
  | succ j ih =>
    obtain ⟨⟨L', l1, f1⟩, f2⟩ := ih (by omega)
    obtain ⟨s1, s2, s3⟩ := sh_n f1.n
    obtain ⟨g1, g2⟩ := cst_fin (c := x j) f1 (by omega)
    refine ⟨⟨L' + (lyS S x j).sh, by omega, g1⟩, fun i hi => ?_⟩
    by_cases e : i = j
    · subst e; exact g2
    · exact (f2 i (by omega)).ext (cstS_ext _ _ _)
end
/-! ### how many ops open, and what they tell -/
def is12 (o : Op6) : Bool := decide (o.K = 12)
/-- m ops open; each tells no more bits than are left of K bytes. -/
structure Opd (K : Nat) (S : Ms) (m : Nat) : Prop where
  n : cnt is12 S.f S.L = m
  ok : ∀ i, i < S.L → (S.f i).K = 12 → S.v i < 2 ^ (8 * (K - 8 * cnt is12 S.f i))
section
variable {K m : Nat} {S : Ms}
theorem Opd.puts {o : Op6} {x : Nat} (h : Opd K S m) (ho : o.K = 12 → S.makes o x < 2 ^ (8 * (K - 8 * m))) : Opd K (S.put o x) (m + if o.K = 12 then 1 else 0) := by
  refine ⟨?_, fun i hi hk => ?_⟩
  · show cnt is12 (updO S.f S.L o) (S.L + 1) = _
    rw [cnt_updN, h.n]
    unfold is12
    simp only [decide_eq_true_eq]
  · have hi' : i < S.L + 1 := hi
    have hk' : (updO S.f S.L o i).K = 12 := hk
    show updN S.v S.L (S.makes o x) i < 2 ^ (8 * (K - 8 * cnt is12 (updO S.f S.L o) i))
    by_cases e : i = S.L
    · subst e
      rw [updN_at, cnt_upd (Nat.le_refl _), h.n]
      rw [updO_at] at hk'
      exact ho hk'
    · rw [updN_no _ _ e, cnt_upd (by omega)]
      rw [updO_no _ _ e] at hk'
      exact h.ok i (by omega) hk'
theorem Opd.does {o : Op6} {x : Nat} (h : Opd K S m) (ho : o.K ≠ 12) : Opd K (S.doS o x) m := by
  unfold Ms.doS
  repeat' split
  · exact h
  · exact ⟨h.n, h.ok⟩
  · exact ⟨h.n, h.ok⟩
  · exact ⟨h.n, h.ok⟩
  · have := h.puts (o := o) (x := x) (fun e => absurd e ho)
    rw [if_neg ho] at this
    exact this
theorem Opd.begins (h : Opd K S m) (k : Int) : Opd K (S.beginS k) m := by
  unfold Ms.beginS
  repeat' split
  all_goals exact ⟨h.n, h.ok⟩
theorem Opd.ends (h : Opd K S m) : Opd K S.endS m := by
  unfold Ms.endS
  repeat' split
  all_goals exact ⟨h.n, h.ok⟩
theorem Opd.sq {op : Nat → (Nat → Int) → Op6} (ho : ∀ j r, (op j r).K ≠ 12) (h : Opd K S m) : ∀ d, Opd K (sqS S op d) m
  | 0 => h
  | d + 1 => (Opd.sq ho h d).does (ho _ _)
theorem Opd.ea {op : Nat → Op6} (ho : ∀ j, (op j).K ≠ 12) (h : Opd K S m) (lo : Nat) : ∀ d, Opd K (eaS S op lo d) m
  | 0 => h
  | d + 1 => (Opd.ea ho h lo d).does (ho _)
theorem opF2_k (A : Nat → Int) (j : Nat) (r : Nat → Int) : (opF2 A j r).K ≠ 12 := by unfold opF2; split <;> first | (show (1 : Int) ≠ 12; decide) | (show (5 : Int) ≠ 12; decide)
theorem opF3_k (A : Nat → Int) (j : Nat) (r : Nat → Int) : (opF3 A j r).K ≠ 12 := by unfold opF3; split <;> first | (show (1 : Int) ≠ 12; decide) | (show (5 : Int) ≠ 12; decide)
theorem Opd.fr {A : Nat → Int} (h : Opd K S m) : Opd K (frS S false A) m := by
  unfold frS blkS
  refine (Opd.sq (fun j r => ?_) (h.begins 2) _).ends
  unfold frO
  split
  · exact opF3_k A j r
  · exact opF2_k A j r
theorem Opd.one {A : Nat → Int} {c : Nat} (h : Opd K S m) : Opd K (oneS S 8 A c) m := Opd.ea (fun j => by show (8 : Int) ≠ 12; decide) h 0 _
theorem Opd.cst {c : Nat} (h : Opd K S m) : Opd K (cstS S 3 c) m := Opd.ea (fun j => by unfold opCst; split <;> (show (3 : Int) ≠ 12; decide)) h 0 _
theorem Opd.ly {x : Nat → Nat} (h : Opd K S m) : ∀ j, Opd K (lyS S x j) m
  | 0 => h
  | j + 1 => (Opd.ly h j).cst
/-- A word is opened. -/
theorem Opd.gd {A : Nat → Int} {x : Nat} (W : Wt S) (hA : Sf S A x) (he : (gdS S A).e = 0) (h : Opd K S m) (hx : x < 2 ^ (8 * (K - 8 * m))) : Opd K (gdS S A) (m + 1) := by
  have hv := gd_sf W hA he
  have hX := frS_ext S false A
  have hs : (frS S false A).skip = 0 := hX.skip.trans W.skip
  have hd : (frS S false A).dry = false := hX.dry.trans W.dry
  obtain ⟨d1, d2, d3, d4⟩ := do_ok he
  obtain ⟨w1, w2, w3⟩ := do_word he hs
  have hval : (frS S false A).makes (opOp (frR S false A)) 0 = x := by
    rw [← hv.1]
    unfold gdV Ms.opR
    rw [w1, if_neg (by omega), if_neg (by rw [hd]; decide)]
    have hl : (frS S false A).len = (frS S false A).L := by unfold Ms.len; rw [hs]; omega
    rw [hl]
    rw [w1, wordAt_nat (by rw [w2]; omega)] at w3
    exact w3.symm
  have := (h.fr (A := A)).puts (o := opOp (frR S false A)) (x := 0) (fun _ => by rw [hval]; exact hx)
  rw [if_pos (by rfl)] at this
  unfold gdS
  rw [d2]
  exact this
theorem Opd.gm {A : Nat → Int} {x c k : Nat} (W : Wt S) (hq : Bq k S) (hA : Sf S A x) (he : (gmS S A c).e = 0) (h : Opd K S m) (hc : c < 2 ^ (8 * (K - 8 * m))) : Opd K (gmS S A c) (m + 1) :=
  Opd.gd (W.ext (oneS_ext _ _ _ _)) (mk_sf W hq hA (gd_e he)).1 he h.one (Nat.lt_of_le_of_lt Nat.and_le_right hc)
/-- Words are opened one behind the other. -/
theorem Opd.gy {V : Nat → Nat → Int} {x : Nat → Nat} {k : Nat} (W : Wt S) (hq : Bq k S) (hw : ∀ j, Wb (V j)) (hV : ∀ j, j < 8 → Sf S (V j) (x j)) (h : Opd K S 0) {j : Nat} (hj : j ≤ gyC (K : Int) 8) (hk : k + 14 * j + 30 ≤ 1000000) (he : (gyS S V (K : Int) j).e = 0) : Opd K (gyS S V (K : Int) j) j := by
  induction j with
  | zero => exact h
  | succ j ih =>
    have e1 := gm_e he
    have hl := gyC_lt.1 (Nat.lt_of_succ_le hj)
    have hX := gyS_ext S V (K : Int) j
    refine Opd.gm (W.ext hX) (gyS_bq (N := (K : Int)) hq W.n hw (j := j) (by omega)) ((hV j hl.1).ext hX) he (ih (by omega) (by omega) e1) ?_
    have h1 : 8 * gyK (K : Int) j ≤ 8 * (K - 8 * j) := by unfold gyK; omega
    have h2 := Nat.pow_le_pow_right (n := 2) (by decide) h1
    have := Nat.two_pow_pos (8 * gyK (K : Int) j)
    unfold lwN
    omega
end
/-! ### what is told -/
theorem and_low (x m : Nat) : x &&& lwN m = x % 2 ^ m := Nat.and_two_pow_sub_one_eq_mod x m
theorem gyV_sf {S : Ms} {V : Nat → Nat → Int} {x : Nat → Nat} {k : Nat} {N : Int} (W : Wt S) (hq : Bq k S) (hw : ∀ j, Wb (V j)) (hV : ∀ j, j < 8 → Sf S (V j) (x j)) {j : Nat} (hj : j < 8) (hk : k + 14 * j + 30 ≤ 1000000) (he : (gyS S V N (j + 1)).e = 0) : gyV S V N j = x j % 2 ^ (8 * gyK N j) := by
  have hX := gyS_ext S V N j
  rw [← and_low]
  exact (gm_sf (W.ext hX) (gyS_bq hq W.n hw (by omega)) ((hV j hj).ext hX) he).1
theorem gyS_e {S : Ms} {V : Nat → Nat → Int} {N : Int} {i : Nat} : ∀ {d}, (gyS S V N (i + d)).e = 0 → (gyS S V N i).e = 0
  | 0, h => h
  | d + 1, h => gyS_e (d := d) (gm_e (S := gyS S V N (i + d)) h)
/-- The bytes that are told are the words' bytes. -/
theorem gyF_sf {S : Ms} {V : Nat → Nat → Int} {x : Nat → Nat} {k : Nat} {K : Nat} (W : Wt S) (hq : Bq k S) (hw : ∀ j, Wb (V j)) (hV : ∀ j, j < 8 → Sf S (V j) (x j)) (hk : k + 200 ≤ 1000000) (hK : K ≤ 64) (he : (gyS S V (K : Int) (gyC (K : Int) 8)).e = 0) {i : Nat} (hi : i < K) : gyF S V (K : Int) i = byF (x (i / 8)) (i % 8) := by
  have hc : i / 8 < gyC (K : Int) 8 := gyC_lt.2 ⟨by omega, by omega⟩
  have e1 : (gyS S V (K : Int) (i / 8 + 1)).e = 0 := gyS_e (d := gyC (K : Int) 8 - (i / 8 + 1)) (by rw [show i / 8 + 1 + (gyC (K : Int) 8 - (i / 8 + 1)) = gyC (K : Int) 8 by omega]; exact he)
  unfold gyF
  rw [gyV_sf W hq hw hV (by omega) (by omega) e1]
  unfold byF
  have h1 : i % 8 < gyK (K : Int) (i / 8) := by unfold gyK; omega
  generalize gyK (K : Int) (i / 8) = m at *
  generalize x (i / 8) = y
  generalize i % 8 = r at *
  obtain ⟨d, rfl⟩ : ∃ d, m = r + 1 + d := ⟨m - (r + 1), by omega⟩
  rw [show 2 ^ (8 * (r + 1 + d)) = 2 ^ (8 * r) * (256 * 2 ^ (8 * d)) by rw [show 8 * (r + 1 + d) = 8 * r + (8 + 8 * d) by omega, Nat.pow_add, Nat.pow_add], Nat.mod_mul_right_div_self, Nat.mod_mul_right_mod]
/-! ### words that are encoded one behind the other -/
def enX (S : Ms) (x : Nat → Nat) : Nat → Ms
  | 0 => S
  | j + 1 => encS (enX S x j) (x j)
theorem enX_n (S : Ms) (x : Nat → Nat) : ∀ j, (enX S x j).n = S.n
  | 0 => rfl
  | j + 1 => (encS_ext (enX S x j) (x j)).n.trans (enX_n S x j)
theorem enX_bq {k : Nat} {S : Ms} {x : Nat → Nat} (h : Bq k S) (hn : S.n = 2 ∨ S.n = 3) (hx : ∀ i, x i < 2 ^ 64) : ∀ j, k + 10 * j + 10 ≤ 100000 → Bq (k + 10 * j) (enX S x j)
  | 0, _ => h
  | j + 1, hk => (encS_bq (enX_bq h hn hx j (by omega)) (by omega) (by rw [enX_n]; exact hn) (hx j)).mono (by omega)
theorem doS_words {S : Ms} {o : Op6} {x : Nat} (h : o.K ≠ 2) : (S.doS o x).words = S.words := by
  unfold Ms.doS
  repeat' split
  · rfl
  · rfl
  · rfl
  · rfl
  · show (if o.K = 2 then S.words + 1 else S.words) = S.words
    rw [if_neg h]
theorem doS_fr (S : Ms) (o : Op6) (x : Nat) : (S.doS o x).fr = S.fr := by
  unfold Ms.doS
  repeat' split
  all_goals rfl
/-- All has gone well, in a block. -/
structure Fob (T M : Nat) (S : Ms) (L u : Nat) (kd : Int) : Prop where
  e : S.e = 0
  kind : S.kind = kd
  L : S.L = L
  used : S.used = u
  draws : S.draws = u
  TN : S.TN = T
  free : S.free = T - u
  most : S.most = (M : Int)
  skip : S.skip = 0
  dry : S.dry = false
  n : S.n = 2 ∨ S.n = 3
theorem Fob.len {T M L u : Nat} {S : Ms} {kd : Int} (h : Fob T M S L u kd) : S.len = L := by unfold Ms.len; rw [h.skip, h.L]; omega
theorem Fob.does {T M L u : Nat} {S : Ms} {kd : Int} {o : Op6} {x : Nat} (h : Fob T M S L u kd) (ho : okOp o (L : Int) S.n = true) (h1 : o.K = 1 → u < T) (h2 : o.K = 2 → o.C = S.words) (hL : L < M) : Fob T M (S.doS o x) (L + 1) (u + if o.K = 1 then 1 else 0) kd ∧ S.doR o = (L : Int) := by
  have hbad : S.bad o = false := by
    unfold Ms.bad
    rw [h.len, ho]
    rw [Bool.not_true, Bool.false_or]
    exact decide_eq_false (fun q => q.2 (h2 q.1))
  have hfull : S.full = false := by
    unfold Ms.full
    rw [h.dry, h.len, h.most]
    simp; omega
  have hout : S.out o = false := by
    unfold Ms.out
    rw [h.dry, h.free, h.TN, h.used]
    by_cases e : o.K = 1
    · have := h1 e
      simp only [e, decide_true, Bool.not_false, Bool.true_and, decide_eq_false_iff_not]; omega
    · simp [e]
  have e1 : S.doS o x = S.put o x := by
    unfold Ms.doS
    rw [if_neg (by rw [h.e]; decide), if_neg (by rw [hbad]; decide), if_neg (by rw [hfull]; decide), if_neg (by rw [hout]; decide)]
  have e2 : S.doR o = (L : Int) := by
    unfold Ms.doR
    rw [if_neg (by rw [hbad, hfull, hout, h.e]; simp), h.len]
  refine ⟨?_, e2⟩
  rw [e1]
  have c1 : (if o.K = 1 ∧ S.dry = false then S.used + 1 else S.used) = u + if o.K = 1 then 1 else 0 := by
    by_cases e : o.K = 1
    · rw [if_pos ⟨e, h.dry⟩, if_pos e, h.used]
    · rw [if_neg (fun q => e q.1), if_neg e, h.used]; omega
  have c2 : (if o.K = 1 then S.draws + 1 else S.draws) = u + if o.K = 1 then 1 else 0 := by
    by_cases e : o.K = 1
    · rw [if_pos e, if_pos e, h.draws]
    · rw [if_neg e, if_neg e, h.draws]; omega
  have c3 : (if o.K = 1 ∧ S.dry = false then S.free - 1 else S.free) = T - (u + if o.K = 1 then 1 else 0) := by
    by_cases e : o.K = 1
    · rw [if_pos ⟨e, h.dry⟩, if_pos e, h.free]; omega
    · rw [if_neg (fun q => e q.1), if_neg e, h.free]; omega
  exact ⟨h.e, h.kind, by show S.L + 1 = _; rw [h.L], c1, c2, h.TN, c3, h.most, h.skip, h.dry, h.n⟩
theorem key_ok {at_ n a b : Int} {C : Nat} (hn : n = 2 ∨ n = 3) (hC : C < 1048576) (ha : 0 ≤ a ∧ a < at_) (hb : n = 3 → 0 ≤ b ∧ b < at_) (hb2 : n = 2 → b = -1) : okOp ⟨2, 0, a, b, -1, C⟩ at_ n = true := by
  have hh : okH ⟨2, 0, a, b, -1, C⟩ n = true := by unfold okH; simp only [decide_eq_true_eq]; omega
  have hq : ¬ (n ≠ 2 ∧ n ≠ 3) := by omega
  have hr : allB (rgB ⟨2, 0, a, b, -1, C⟩ at_ n) 3 = true := allB_of fun j hj => by
    show (if (j : Int) < rgN 2 n then decide (0 ≤ rgL ⟨2, 0, a, b, -1, C⟩ j ∧ rgL ⟨2, 0, a, b, -1, C⟩ j < at_) else decide (rgL ⟨2, 0, a, b, -1, C⟩ j = -1)) = true
    have hN : rgN 2 n = n - 1 := by unfold rgN; rw [if_neg hq, if_pos rfl]
    rw [hN]
    rcases (by omega : j = 0 ∨ j = 1 ∨ j = 2) with rfl | rfl | rfl
    · rw [if_pos (by omega)]; exact decide_eq_true ha
    · rcases hn with e | e
      · rw [if_neg (by omega)]; exact decide_eq_true (hb2 e)
      · rw [if_pos (by omega)]; exact decide_eq_true (hb e)
    · rw [if_neg (by omega)]; rfl
  have hc : okC 2 C = true := by unfold okC; rw [if_neg (by decide), if_pos rfl]; exact decide_eq_true hC
  unfold okOp
  rw [hh, hr, hc]
  rfl
theorem rand_ok {at_ n : Int} {i : Nat} (hn : n = 2 ∨ n = 3) (hi : (i : Int) < n) : okOp (opRand i) at_ n = true := by
  have hh : okH (opRand i) n = true := by
    show decide ((n = 2 ∨ n = 3) ∧ (1 : Int) ≤ 1 ∧ (1 : Int) ≤ 12 ∧ (-1 : Int) ≤ (i : Int) ∧ (i : Int) < n ∧ ((1 : Int) = 12 → (i : Int) = -1)) = true
    exact decide_eq_true ⟨hn, by decide, by decide, by omega, by omega, fun e => absurd e (by decide)⟩
  have hq : ¬ (n ≠ 2 ∧ n ≠ 3) := by omega
  have hr : allB (rgB (opRand i) at_ n) 3 = true := allB_of fun j hj => by
    show (if (j : Int) < rgN 1 n then decide (0 ≤ rgL (opRand i) j ∧ rgL (opRand i) j < at_) else decide (rgL (opRand i) j = -1)) = true
    have hN : rgN 1 n = 0 := by unfold rgN; rw [if_neg hq, if_neg (by decide), if_neg (by decide), if_neg (by decide), if_neg (by decide)]
    rw [hN, if_neg (by omega)]
    rcases (by omega : j = 0 ∨ j = 1 ∨ j = 2) with rfl | rfl | rfl <;> rfl
  unfold okOp
  rw [hh, hr]
  rfl
theorem rands_fin {T M L u : Nat} {S : Ms} {kd : Int} (h : Fob T M S L u kd) : ∀ {m : Nat}, ((m : Int) < S.n) → L + m ≤ M → u + m ≤ T → Fob T M (eaS S opRand 1 m) (L + m) (u + m) kd ∧ (eaS S opRand 1 m).words = S.words ∧ ∀ j, j < m → (eaS S opRand 1 j).doR (opRand (1 + j)) = ((L + j : Nat) : Int)
  | 0, _, _, _ => ⟨h, rfl, fun j hj => absurd hj (Nat.not_lt_zero j)⟩
  | m + 1, hn, hm, hu => by
    obtain ⟨h1, h2, h3⟩ := rands_fin h (m := m) (by omega) (by omega) (by omega)
    have en := eaS_n S opRand 1 m
    obtain ⟨g1, g2⟩ := h1.does (o := opRand (1 + m)) (x := 0) (rand_ok h1.n (by rw [en]; omega)) (fun _ => by omega) (fun e => absurd e (by show ¬ ((1 : Int) = 2); decide)) (by omega)
    rw [if_pos (show (opRand (1 + m)).K = 1 from rfl)] at g1
    refine ⟨g1, (doS_words (S := eaS S opRand 1 m) (o := opRand (1 + m)) (x := 0) (by show (1 : Int) ≠ 2; decide)).trans h2, fun j hj => ?_⟩
    by_cases e : j = m
    · subst e; exact g2
    · exact h3 j (by omega)
theorem enc_fin {T M L u x : Nat} {S : Ms} (h : Fin_ T M S L u) (hw : S.words < 1048576) (hm : L + 3 ≤ M) (hu : u + 2 ≤ T) : Fin_ T M (encS S x) (L + S.sh) (u + (S.sh - 1)) ∧ (encS S x).words = S.words + 1 := by
  obtain ⟨s1, s2, s3⟩ := sh_n h.n
  have hb : S.beginS 1 = { S with kind := 1, fr := S.len } := by
    unfold Ms.beginS
    rw [if_neg (by rw [h.e]; decide), if_neg (by rw [h.kind]; omega)]
  have f0 : Fob T M (S.beginS 1) L u 1 := by
    rw [hb]
    exact ⟨h.e, rfl, h.L, h.used, h.draws, h.TN, h.free, h.most, h.skip, h.dry, h.n⟩
  have w0 : (S.beginS 1).words = S.words := by rw [hb]
  have n0 : (S.beginS 1).n = S.n := by rw [hb]
  have e0 : (S.beginS 1).fr = L := by rw [hb]; exact h.len
  obtain ⟨f1, w1, r1⟩ := rands_fin f0 (m := S.sh - 1) (by rw [n0]; omega) (by omega) (by omega)
  have n1 : (enS1 S).n = S.n := (eaS_n _ _ _ _).trans n0
  have frs : ∀ m : Nat, (eaS (S.beginS 1) opRand 1 m).fr = L := fun m => by
    induction m with
    | zero => exact e0
    | succ m ih => exact (doS_fr _ _ _).trans ih
  have reg : ∀ j, j < S.sh - 1 → enR1 S (1 + j) = ((L + j : Nat) : Int) := fun j hj => by
    show eaR (S.beginS 1) opRand 1 none3 (S.sh - 1) (1 + j) = _
    rw [eaR_at _ _ _ _ _ _ hj]
    exact r1 j hj
  have q1 := reg 0 (by omega)
  obtain ⟨g1, g2⟩ := f1.does (o := opEn S) (x := x) (by
    show okOp ⟨2, 0, enR1 S 1, enR1 S 2, -1, (enS1 S).words⟩ ((L + (S.sh - 1) : Nat) : Int) (enS1 S).n = true
    rw [n1]
    refine key_ok h.n (by rw [show (enS1 S).words = S.words from w1.trans w0]; exact hw) ?_ (fun e => ?_) (fun e => ?_)
    · have : enR1 S 1 = ((L + 0 : Nat) : Int) := q1
      rw [this]; omega
    · have : enR1 S 2 = ((L + 1 : Nat) : Int) := reg 1 (by omega)
      rw [this]; omega
    · exact eaR_keep (S.beginS 1) opRand 1 none3 (S.sh - 1) 2 (by omega)) (fun e => absurd e (by show ¬ ((2 : Int) = 1); decide)) (fun _ => rfl) (by omega)
  rw [if_neg (by show ¬ ((2 : Int) = 1); decide)] at g1
  have hfr : ((eaS (S.beginS 1) opRand 1 (S.sh - 1)).doS (opEn S) x).fr = L := (doS_fr _ _ _).trans (frs _)
  have hws : ((eaS (S.beginS 1) opRand 1 (S.sh - 1)).doS (opEn S) x).words = S.words + 1 := by
    obtain ⟨_, d2, _, _⟩ := do_ok g1.e
    rw [d2]
    show (if (2 : Int) = 2 then (eaS (S.beginS 1) opRand 1 (S.sh - 1)).words + 1 else (eaS (S.beginS 1) opRand 1 (S.sh - 1)).words) = _
    rw [if_pos rfl, w1, w0]
  have he : encS S x = ((eaS (S.beginS 1) opRand 1 (S.sh - 1)).doS (opEn S) x).endS := rfl
  rw [he]
  generalize (eaS (S.beginS 1) opRand 1 (S.sh - 1)).doS (opEn S) x = Q at *
  have hl := g1.len
  have hend : Q.endS = { Q with M := Q.M + 1, g := updS Q.g Q.M ⟨Q.kind, (Q.fr : Int), (Q.len : Int)⟩, kind := 0 } := by
    unfold Ms.endS
    rw [if_neg (by rw [g1.e]; decide), if_neg (by rw [g1.kind]; decide), if_pos (by omega)]
  rw [hend]
  exact ⟨⟨g1.e, rfl, by show Q.L = _; rw [g1.L]; omega, g1.used, g1.draws, g1.TN, by show Q.free = _; rw [g1.free]; rfl, g1.most, g1.skip, g1.dry, g1.n⟩, hws⟩
theorem enX_fin {T M L u : Nat} {S : Ms} {x : Nat → Nat} (h : Fin_ T M S L u) (hw : S.words = 0) {j : Nat} (hj : j ≤ 8) (hm : L + 3 * j ≤ M) (hu : u + 2 * j ≤ T) : ∃ L' u', L' ≤ L + 3 * j ∧ u' ≤ u + 2 * j ∧ Fin_ T M (enX S x j) L' u' ∧ (enX S x j).words = j := by
  induction j with
  | zero => exact ⟨L, u, Nat.le_refl _, Nat.le_refl _, h, hw⟩
  | succ j ih =>
    obtain ⟨L', u', l1, l2, f1, f2⟩ := ih (by omega) (by omega) (by omega)
    obtain ⟨s1, s2, s3⟩ := sh_n f1.n
    obtain ⟨g1, g2⟩ := enc_fin (x := x j) f1 (by omega) (by omega) (by omega)
    exact ⟨_, _, by omega, by omega, g1, by show (encS (enX S x j) (x j)).words = j + 1; omega⟩
end Go.Proofs.YtpjgpiieminaoaaDoor

/- General: arrays of ints by value, told by a function. No program is named. -/
namespace Go.Proofs.YtpjgpiieminaoaaDoor

/-- The n cells of an array of ints. -/
def iz (n : Nat) (f : Nat → Int) : Array Value := ((List.range n).map fun i => Value.int .i64 (f i)).toArray
theorem iz_size (n : Nat) (f : Nat → Int) : (iz n f).size = n := by simp [iz]
theorem iz_get {n : Nat} (f : Nat → Int) {j : Nat} (h : j < n) : (iz n f)[j]? = some (.int .i64 (f j)) := by simp [iz, h]
end Go.Proofs.YtpjgpiieminaoaaDoor

/- Guard: what the program must tell, whatever it is made of; the chapter's example. -/
namespace Go.Proofs.YtpjgpiieminaoaaDoor
open Go.RowKit Go.Deep
set_option maxRecDepth 100000
/-- What the program's guard must tell. -/
structure GdI (Pm : World → Nat → Ms → (Nat → Prop) → Prop) : Prop where
  op : ∀ {lo : Nat} {X : Nat → Prop} {W w : World} {b bd k : Nat} {S S2 : Ms} (A : Nat → Int), Bz Pm lo X W w b bd S S2 → Pv w → gpair < lo → Bq k S → k + 60 ≤ 100000 → (S.n = 2 ∨ S.n = 3) → Wb A → Calls Tryd.prog 52 #[.pointer (some ⟨b, 0, none⟩), .agg (wdV A)] w fun e w' => e = .returned (.int .u64 (gdV S A : Int)) ∧ Bz Pm lo X W w' b bd (gdS S A) S2 ∧ ∀ k, X k → w'.heap[k]? = w.heap[k]?
  bytes : ∀ {lo : Nat} {X : Nat → Prop} {W w : World} {b bd k : Nat} {S S2 : Ms} (V : Nat → Nat → Int) (L : Nat) (v : Value) (z : Int), Bz Pm lo X W w b bd S S2 → Pv w → gpair < lo → Bq k S → k + 14 * L + 200 ≤ 100000 → (S.n = 2 ∨ S.n = 3) → S.dry = false → (∀ j, Wb (V j)) → WsR w v L V X → I64 z → Calls Tryd.prog 9 #[.pointer (some ⟨b, 0, none⟩), v, .int .i64 z] w (TellsB Pm lo X W w b bd (gyS S V z (gyC z L)) S2 (ns (gyM z (gyC z L)) (gyF S V z)))
/-! ### the example -/
def gaw : Nat → Nat := fun _ => 77
def gaS0 : Ms := startD 2 99 gaw 1 0 1
def gaS1 : Ms := cstS gaS0 3 258
def gaR : Nat → Int := cstR gaS0 3 258
def gaV (j : Nat) : Nat → Int := if j = 0 then gaR else none3
def gaS2 : Ms := gyS gaS1 gaV 2 1
theorem ga0_bq : Bq 0 gaS0 := startD_bq 2 99 gaw 1 0 1 0 (.inl rfl) (by decide) (by decide) (by decide) (fun i _ => by unfold gaw; decide) (by decide) (Nat.le_refl _)
theorem ga0_n : gaS0.n = 2 ∨ gaS0.n = 3 := .inl rfl
theorem ga1_bq : Bq 6 gaS1 := cstS_bq ga0_bq ga0_n (i64k 3 (by decide) (by decide)) (by decide)
theorem ga1_n : gaS1.n = 2 ∨ gaS1.n = 3 := by rw [show gaS1.n = gaS0.n from (cstS_ext _ _ _).n]; exact ga0_n
theorem gaV_wb (j : Nat) : Wb (gaV j) := by
  unfold gaV
  split
  · exact cstR_wb ga0_bq (by decide) ga0_n (i64k 3 (by decide) (by decide)) (by decide)
  · exact none3_wb
theorem ga2_e : gaS2.e = 0 := by decide +kernel
theorem ga_tells : ns (gyM 2 (gyC 2 1)) (gyF gaS1 gaV 2) = [2, 1] := by
  have W0 : Wt gaS0 := ⟨rfl, rfl, .inl rfl⟩
  have h2 : (gmS gaS1 (gaV 0) (lwN (8 * gyK 2 0))).e = 0 := ga2_e
  have h1 : (cstS gaS0 3 258).e = 0 := gm_e h2
  obtain ⟨s1, _⟩ := cs_sf (S := gaS0) (c := 258) W0 h1
  have W1 : Wt gaS1 := W0.ext (cstS_ext _ _ _)
  have hv := (gm_sf W1 ga1_bq (A := gaV 0) (x := 258) (c := lwN (8 * gyK 2 0)) s1 h2).1
  have e : gyV gaS1 gaV 2 0 = 258 := hv
  show [((gyF gaS1 gaV 2 0 : Nat) : Int), ((gyF gaS1 gaV 2 1 : Nat) : Int)] = [2, 1]
  have a0 : gyF gaS1 gaV 2 0 = byF (gyV gaS1 gaV 2 0) 0 := rfl
  have a1 : gyF gaS1 gaV 2 1 = byF (gyV gaS1 gaV 2 0) 1 := rfl
  rw [a0, a1, e]
  rfl
set_option maxHeartbeats 12800000 in
theorem gawake_any {Pm : World → Nat → Ms → (Nat → Prop) → Prop} (hM : Mach Pm) (hN : MachN Pm) (hG : GdI Pm) (w : World) (hp : Pv w) :
    Calls Tryd.prog 14 #[] w fun e w' => e = .returned (.bool true) ∧ Below w.heap.size w w' := by
  have hlow := (Below.refl w.heap.size w).alloc (Nat.le_refl _) (.cells #[.int .u64 77] 22)
  have HLOW := hid hlow
  have hp0 := hp.self hlow
  have HGL : Hid (gpair < (w.alloc (.cells #[.int .u64 77] 22)).heap.size) := hid hp0.1
  have HPV := hid hp0
  have HBG : Hid (Calls Tryd.prog 4 #[.int .i64 2, .slice (some ⟨w.heap.size, 0, none⟩) 1 1, .int .i64 99] (w.alloc (.cells #[.int .u64 77] 22)) fun e w' => ∃ p b, e = .returned (.tuple #[.agg (paC p b (.slice none 0 0) (.slice none 0 0)), .bool true]) ∧ Bz Pm (w.alloc (.cells #[.int .u64 77] 22)).heap.size (fun _ => False) (w.alloc (.cells #[.int .u64 77] 22)) w' p b gaS0 gaS0) := hid (by
    have hrd : RdS .u64 (w.alloc (.cells #[.int .u64 77] 22)) (fun g => g < (w.alloc (.cells #[.int .u64 77] 22)).heap.size) (.slice (some ⟨w.heap.size, 0, none⟩) 1 1) (wdL gaw 1) := by
      have hz : wdL gaw 1 = [(77 : Int)] := rfl
      rw [hz]
      refine ⟨some ⟨w.heap.size, 0, none⟩, 1, rfl, Nat.le_refl _, by decide, by show 1 * 8 ≤ _; decide, fun z hz => ?_, fun _ => ⟨w.heap.size, 0, rfl, by rw [sz_al]; omega, by rw [sz_al]; omega, fun j hj => ?_⟩⟩
      · simp at hz; rw [hz]; rfl
      · have hj2 : j < 1 := hj
        obtain rfl : j = 0 := by omega
        exact row_c (i := 0) (heap_alloc_new w _) rfl
    exact lbegins_any hM hN 2 99 (.inl rfl) (by decide) (by decide) gaw 1 _ _ hrd)
  have HSZ : Hid ((w.alloc (.cells #[.int .u64 77] 22)).heap.size = w.heap.size + 1) := hid (sz_al _ _)
  clear hlow hp hp0
  obtain ⟨w0, hw0⟩ : ∃ w0, w.alloc (.cells #[.int .u64 77] 22) = w0 := ⟨_, rfl⟩
  rw [hw0] at HBG HSZ HLOW HGL HPV
  have HW0 := hid hw0
  clear hw0
  have HC1 := hid (fun (w0' wx : World) (p b : Nat) (bs : List (Nat × Obj)) (h : Gy Pm w0.heap.size (fun _ => False) w0 w0' wx p b gaS0 gaS0 bs) => h.lift (f := 6) (args := #[.pointer (some ⟨p, 0, none⟩), .int .u64 258]) (E := fun e => e = .returned (.agg (wdV gaR))) (S1' := gaS1) (fun X W hz => qpub hM (shI hM) 258 hz ga0_bq (by decide) ga0_n (by decide)))
  have HC2 := hid (fun (w0' wx : World) (p b g : Nat) (bs : List (Nat × Obj)) (h : Gy Pm w0.heap.size (fun _ => False) w0 w0' wx p b gaS1 gaS0 ((g, .cells (wdV gaR) 35 (0, 0)) :: bs)) => h.tells (f := 9) (args := #[.pointer (some ⟨p, 0, none⟩), .slice (some ⟨g, 0, none⟩) 1 1, .int .i64 2]) (S1' := gaS2) (S2' := gaS0) (zs := ns (gyM 2 (gyC 2 1)) (gyF gaS1 gaV 2)) (fun X hX0 hX W hz => hG.bytes gaV 1 (.slice (some ⟨g, 0, none⟩) 1 1) 2 hz (Pv.bz HPV.out HGL.out h.z) HGL.out ga1_bq (by decide) ga1_n rfl gaV_wb ⟨_, 1, rfl, Nat.le_refl _, by decide, fun _ => ⟨g, 0, rfl, hX _ (List.mem_cons_self ..), h.lt (List.mem_cons_self ..), fun j hj c hc => by
    obtain rfl : j = 0 := by omega
    rw [Nat.zero_mul, Nat.zero_add]
    exact row_c (i := c) (h.bl 0 rfl) (by rcases (by omega : c = 0 ∨ c = 1 ∨ c = 2) with rfl | rfl | rfl <;> rfl)⟩⟩ (i64k 2 (by decide) (by decide))))
  rw [ga_tells] at HC2
  generalize gaS2 = E2 at *
  generalize gaS1 = E1 at *
  generalize gaS0 = E0 at *
  generalize gaR = R1 at *
  go_enter Tryd.func14, Tryd.ntmps14
  go_upto_region 1 with fail
  go_upto_region 2 with (first
    | (rw [HW0.out]; go_at_call 4; (with_reducible refine (HBG.out).mono ?_); rintro e w2 ⟨p, b, rfl, hz⟩; have Z2 := hid hz; clear hz)
    | (go_at_call 4; (with_reducible refine (HBG.out).mono ?_); rintro e w2 ⟨p, b, rfl, hz⟩; have Z2 := hid hz; clear hz))
  have H3 := hid ((Gy.start Z2.out).new hM (paC p b (.slice none 0 0) (.slice none 0 0)) 30)
  obtain ⟨b1, hb1⟩ : ∃ b1, w2.heap.size = b1 := ⟨_, rfl⟩
  rw [hb1] at H3
  generalize w2.alloc (.cells #[.pointer (some ⟨p, 0, none⟩), .pointer (some ⟨b, 0, none⟩), .slice none 0 0, .slice none 0 0] 30) = w3 at *
  rw [hb1]
  clear hb1 HBG HW0
  go_upto_region 4 with fail
  have G0 := hid (H3.out.self hM ((Below.refl _ w3).drew))
  refine wp_region_noPanic ?_
  refine wp_region_held_drew (S := fun w' => w'.heap[b1]? = some (.cells (paC p b (.slice none 0 0) (.slice none 0 0)) 30 (0, 0))) (by kernel_rfl) (G0.out.mem (by simp)) (fun h0 => ?_)
  generalize w3.drew = y0 at *
  refine wpAnyH_take (i := 0) (v := .pointer (some ⟨b1, 0, none⟩)) rfl (by kernel_rfl) (by kernel_rfl) (by kernel_rfl) (fun _ _ _ h => h) (.inl ⟨by rfl, fun w hw => by clear hw; go_simp⟩) h0 ?_
  try simp only [Act.put, lay_out]
  refine wpAnyH_take (i := 1) (v := .pointer (some ⟨p, 0, none⟩)) rfl (by kernel_rfl) (by kernel_rfl) (by kernel_rfl) (fun _ _ _ h => h) (.inl ⟨by rfl, fun w' hw => by have hc := row_c (i := 0) (u := .pointer (some ⟨p, 0, none⟩)) hw rfl; clear hw; go_simp⟩) h0 ?_
  try simp only [Act.put, lay_out]
  refine wpAnyH_take (i := 2) (v := .pointer (some ⟨b1, 0, none⟩)) rfl (by kernel_rfl) (by kernel_rfl) (by kernel_rfl) (fun _ _ _ h => h) (.inl ⟨by rfl, fun w hw => by clear hw; go_simp⟩) h0 ?_
  try simp only [Act.put, lay_out]
  refine wpAnyH_take (i := 3) (v := .pointer (some ⟨p, 0, none⟩)) rfl (by kernel_rfl) (by kernel_rfl) (by kernel_rfl) (fun _ _ _ h => h) (.inl ⟨by rfl, fun w' hw => by have hc := row_c (i := 0) (u := .pointer (some ⟨p, 0, none⟩)) hw rfl; clear hw; go_simp⟩) h0 ?_
  try simp only [Act.put, lay_out]
  refine wpAnyH_ready (rs := [4]) (by kernel_rfl) (by simp) (AllReadyH.cons rfl (fun K hK => ?_) AllReadyH.nil)
  rw [if_pos (by rfl)]
  go_simp
  go_at_call 6
  (with_reducible refine (HC1.out _ _ _ _ _ G0.out).mono ?_); rintro e y1 ⟨rfl, hz⟩
  have G1 := hid hz
  clear hz
  refine hK.out _ _ (G1.out.mem (by simp)) (fun h1x => ?_)
  clear hK K
  try simp only [Act.put, lay_out]
  refine wpAnyH_ready (rs := [5]) (by kernel_rfl) (by simp) (AllReadyH.cons rfl (fun K hK => ?_) AllReadyH.nil)
  rw [if_pos (by rfl)]
  go_simp
  have G2 := hid (G1.out.new hM (wdV R1) 35)
  refine hK.out _ _ (G2.out.mem (by simp)) (fun h2x => ?_)
  clear hK K
  try simp only [Act.put, lay_out]
  refine wpAnyH_ready (rs := [6]) (by kernel_rfl) (by simp) (AllReadyH.cons rfl (fun K hK => ?_) AllReadyH.nil)
  rw [if_pos (by rfl)]
  go_simp
  go_at_call 9
  (with_reducible refine (HC2.out _ _ _ _ _ _ G2.out).mono ?_); rintro e y3 ⟨v, Ys, rfl, hr, hz⟩
  have G3 := hid hz
  have HR := hid hr
  clear hz hr
  refine hK.out _ _ (G3.out.mem (by simp)) (fun h3x => ?_)
  clear hK K
  try simp only [Act.put, lay_out]
  refine wpAnyH_take (i := 7) (v := v) rfl (by kernel_rfl) (by kernel_rfl) (by kernel_rfl) (fun _ _ _ h => h) (.inl ⟨by rfl, fun w hw => by clear hw; go_simp⟩) h3x ?_
  try simp only [Act.put, lay_out]
  refine wpAnyH_done (by kernel_rfl) ?_ _
  refine NoPanic.normal ?_
  clear h0 h1x h2x h3x
  try simp only [Act.put, lay_out]
  have hrd := HR.out.rd (w := y3) (fun q hq => G3.out.mem (List.mem_append_right _ hq))
  obtain ⟨a, cap, e, _, _, h4⟩ := hrd
  obtain ⟨g, off, e2, hg, hc⟩ := h4 (by decide)
  subst e2
  have c0 := hc 0 (by decide)
  have c1 := hc 1 (by decide)
  have e3 : v = .slice (some ⟨g, off, none⟩) 2 cap := e
  rw [Nat.add_zero] at c0
  have c0' : y3.cell? ⟨g, off, none⟩ = some (.int .u8 2) := c0
  have c1' : y3.cell? ⟨g, off + 1, none⟩ = some (.int .u8 1) := c1
  have HFIN : Hid (Below w.heap.size w y3) := hid (HLOW.out.trans (G3.out.fin.1.low.mono (by have := HSZ.out; omega)))
  subst e3
  clear e hc h4 c0 c1 HR hg
  go_wp2
  go_ret
  exact ⟨rfl, HFIN.out⟩
end Go.Proofs.YtpjgpiieminaoaaDoor

/- Guard: one program's machine beside another pair and boxes. -/
namespace Go.Proofs.YtpjgpiieminaoaaDoor
open Go.RowKit
set_option maxRecDepth 100000
/-- Both machines with boxes beside them, and another program's machine pa. -/
structure Gq (Pm : World → Nat → Ms → (Nat → Prop) → Prop) (lo : Nat) (W w0 wx : World) (p b : Nat) (S1 S2 : Ms) (pa : Nat) (SA : Ms) (bs : List (Nat × Obj)) : Prop where
  ex : ∃ FA, Pm wx pa SA FA ∧ (∀ k, FA k → lo ≤ k ∧ ∀ q ∈ bs, q.1 ≠ k) ∧ Bz Pm lo (fun k => FA k ∨ ∃ q ∈ bs, q.1 = k) W wx p b S1 S2
  bx : ∀ q ∈ bs, w0.heap.size ≤ q.1 ∧ wx.heap[q.1]? = some q.2
  lo : lo ≤ w0.heap.size
  le : w0.heap.size ≤ wx.heap.size
  nd : (bs.map (·.1)).Nodup
section
variable {Pm : World → Nat → Ms → (Nat → Prop) → Prop} {lo : Nat} {W w0 wx wy : World} {p b pa : Nat} {S1 S2 S1' S2' SA : Ms} {bs : List (Nat × Obj)}
/-- The other machine rests. -/
theorem Gq.gy (h : Gq Pm lo W w0 wx p b S1 S2 pa SA bs) : Gy Pm lo (fun _ => False) W w0 wx p b S1 S2 bs := by
  obtain ⟨FA, h1, h2, h3⟩ := h.ex
  exact ⟨h3.less (fun k hk => .inr (hk.resolve_left (fun e => e))), h.bx, fun k hk => hk.elim, h.lo, h.le, h.nd⟩
theorem Gq.low (h : Gq Pm lo W w0 wx p b S1 S2 pa SA bs) : Below lo W wx := h.gy.z.low
theorem Gq.lt (h : Gq Pm lo W w0 wx p b S1 S2 pa SA bs) {q : Nat × Obj} (hq : q ∈ bs) : q.1 < wx.heap.size := h.gy.lt hq
theorem Gq.mem (h : Gq Pm lo W w0 wx p b S1 S2 pa SA bs) {n : Nat} {u : Obj} (hq : (n, u) ∈ bs) : wx.heap[n]? = some u := (h.bx _ hq).2
theorem Gq.bl (h : Gq Pm lo W w0 wx p b S1 S2 pa SA bs) (i : Nat) {n : Nat} {u : Obj} (hi : bs[i]? = some (n, u)) : wx.heap[n]? = some u := (h.bx (n, u) (List.mem_of_getElem? hi)).2
theorem Gq.self (hM : Mach Pm) (h : Gq Pm lo W w0 wx p b S1 S2 pa SA bs) (hb : Below wx.heap.size wx wy) : Gq Pm lo W w0 wy p b S1 S2 pa SA bs := by
  obtain ⟨FA, h1, h2, h3⟩ := h.ex
  have hg := h.gy.self hM hb
  exact ⟨⟨FA, hM.stays h1 hb.size (fun k hk => hb.block k (hM.lt h1 k hk)), h2, h3.self hM hb⟩, hg.bx, hg.lo, hg.le, hg.nd⟩
theorem Gq.new (hM : Mach Pm) (h : Gq Pm lo W w0 wx p b S1 S2 pa SA bs) (cs : Array Value) (T : TypeId) : Gq Pm lo W w0 (wx.alloc (.cells cs T)) p b S1 S2 pa SA ((wx.heap.size, .cells cs T (0, 0)) :: bs) := by
  obtain ⟨FA, h1, h2, h3⟩ := h.ex
  have hb := (Below.refl wx.heap.size wx).alloc (Nat.le_refl _) (.cells cs T)
  have hg := h.gy.new hM cs T
  refine ⟨⟨FA, hM.stays h1 hb.size (fun k hk => hb.block k (hM.lt h1 k hk)), fun k hk => ⟨(h2 k hk).1, fun q hq => ?_⟩, (h3.more hM hb).less (fun k hk => ?_)⟩, hg.bx, hg.lo, hg.le, hg.nd⟩
  · rcases List.mem_cons.1 hq with rfl | hq
    · have := hM.lt h1 k hk; show wx.heap.size ≠ k; omega
    · exact (h2 k hk).2 q hq
  · rcases hk with e | ⟨q, hq, rfl⟩
    · exact .inl (.inl e)
    · rcases List.mem_cons.1 hq with rfl | hq
      · exact .inr ⟨Nat.le_refl _, by simp⟩
      · exact .inl (.inr ⟨q, hq, rfl⟩)
/-- A box is turned. -/
theorem Gq.turnI {i n : Nat} {o o' : Obj} (hM : Mach Pm) (h : Gq Pm lo W w0 wx p b S1 S2 pa SA bs) (hi : bs[i]? = some (n, o)) (hn : wy.heap[n]? = some o') (ho : ∀ k, k ≠ n → wy.heap[k]? = wx.heap[k]?) (hs : wx.heap.size ≤ wy.heap.size) (hos : wy.os = wx.os ∧ wy.tape = wx.tape ∧ wy.output = wx.output) : Gq Pm lo W w0 wy p b S1 S2 pa SA (bs.set i (n, o')) := by
  obtain ⟨FA, h1, h2, h3⟩ := h.ex
  have hg := h.gy.turnI hM hi hn ho hs hos
  have hm : (n, o) ∈ bs := List.mem_of_getElem? hi
  have hT : Tch (fun k => k = n) wx wy := ⟨hos.1, hos.2.1, hos.2.2, hs, fun k _ hk => ho k hk⟩
  have hsub : ∀ q ∈ bs.set i (n, o'), ∃ r ∈ bs, r.1 = q.1 := fun q hq => by
    rcases List.mem_or_eq_of_mem_set hq with e | rfl
    · exact ⟨q, e, rfl⟩
    · exact ⟨(n, o), hm, rfl⟩
  refine ⟨⟨FA, hM.stays h1 hs (fun k hk => ho k (fun e => (h2 k hk).2 _ hm e.symm)), fun k hk => ⟨(h2 k hk).1, fun q hq => ?_⟩, (h3.apart hM hT (fun k hk => ?_)).less (fun k hk => ?_)⟩, hg.bx, hg.lo, hg.le, hg.nd⟩
  · obtain ⟨r, hr, e⟩ := hsub q hq
    exact e ▸ (h2 k hk).2 r hr
  · subst hk
    exact ⟨.inr ⟨(k, o), hm, rfl⟩, Nat.le_trans h.lo (h.bx _ hm).1⟩
  · rcases hk with e | ⟨q, hq, rfl⟩
    · exact .inl e
    · obtain ⟨r, hr, e⟩ := hsub q hq
      exact .inr ⟨r, hr, e⟩
/-- The first box's row grows. -/
theorem Gq.grown (hM : Mach Pm) {n g : Nat} {o o' : Obj} (h : Gq Pm lo W w0 wx p b S1 S2 pa SA ((n, o) :: bs)) (hg : wx.grownBy wy (some n)) (hp : some n = some g ∨ g = wx.heap.size) (hn : wy.heap[g]? = some o') : Gq Pm lo W w0 wy p b S1 S2 pa SA ((g, o') :: bs) := by
  obtain ⟨FA, h1, h2, h3⟩ := h.ex
  have hy := h.gy.grown hM hg hp hn
  have hb := h.bx _ (List.mem_cons_self ..)
  have hT : Tch (fun k => k = n) wx wy := Tch.of_grown hg (fun k e => (Option.some.inj e).symm)
  have hgl : g < wy.heap.size := (Array.getElem?_eq_some_iff.1 hn).1
  refine ⟨⟨FA, hM.stays h1 hg.size (fun k hk => hg.block k (hM.lt h1 k hk) (fun e => (h2 k hk).2 _ (List.mem_cons_self ..) (Option.some.inj e).symm)), fun k hk => ⟨(h2 k hk).1, fun q hq => ?_⟩, h3.grow (Y := fun k => FA k ∨ ∃ q ∈ (g, o') :: bs, q.1 = k) hM hT (fun k hk => ?_) (fun k hk => ?_)⟩, hy.bx, hy.lo, hy.le, hy.nd⟩
  · rcases List.mem_cons.1 hq with rfl | hq
    · show g ≠ k
      rcases hp with e | e
      · have e' : n = g := Option.some.inj e
        exact e' ▸ (h2 k hk).2 _ (List.mem_cons_self ..)
      · have := hM.lt h1 k hk; omega
    · exact (h2 k hk).2 q (List.mem_cons_of_mem _ hq)
  · subst hk
    exact ⟨.inr ⟨(k, o), List.mem_cons_self .., rfl⟩, Nat.le_trans h.lo hb.1⟩
  · rcases hk with e | ⟨q, hq, rfl⟩
    · exact .inl (.inl e)
    · rcases List.mem_cons.1 hq with rfl | hq
      · rcases hp with e | e
        · have e' : n = g := Option.some.inj e
          exact .inl (.inr ⟨(n, o), List.mem_cons_self .., e'⟩)
        · exact .inr ⟨Nat.le_of_eq e.symm, hgl⟩
      · exact .inl (.inr ⟨q, List.mem_cons_of_mem _ hq, rfl⟩)
/-- A call of the pair's. -/
theorem Gq.lift (hM : Mach Pm) (h : Gq Pm lo W w0 wx p b S1 S2 pa SA bs) {f : FuncId} {args : Array Value} {E : Ending → Prop} (hc : ∀ X W, Bz Pm lo X W wx p b S1 S2 → Calls Tryd.prog f args wx fun e w' => E e ∧ Bz Pm lo X W w' p b S1' S2' ∧ ∀ k, X k → w'.heap[k]? = wx.heap[k]?) :
    Calls Tryd.prog f args wx fun e w' => E e ∧ Gq Pm lo W w0 w' p b S1' S2' pa SA bs := by
  obtain ⟨FA, h1, h2, h3⟩ := h.ex
  refine (hc _ wx h3.base).mono fun e w' hr => ⟨hr.1, ⟨FA, hM.stays h1 hr.2.1.low.size (fun k hk => hr.2.2 k (.inl hk)), h2, hr.2.1.up h3.low⟩, fun q hq => ⟨(h.bx q hq).1, (hr.2.2 _ (.inr ⟨q, hq, rfl⟩)).trans (h.bx q hq).2⟩, h.lo, Nat.le_trans h.le hr.2.1.low.size, h.nd⟩
/-- A word is encoded by the other machine. -/
theorem Gq.enc (hM : Mach Pm) (hS : ShI Pm) {k : Nat} (x : Nat) (h : Gq Pm lo W w0 wx p b S1 S2 pa SA bs) (hq : Bq k SA) (hk : k + 10 ≤ 100000) (hn : SA.n = 2 ∨ SA.n = 3) (hx : x < 2 ^ 64) :
    Calls Tryd.prog 5 #[.pointer (some ⟨pa, 0, none⟩), .int .u64 (x : Int)] wx fun e w' => e = .returned (.agg (wdV (encR SA))) ∧ Gq Pm lo W w0 w' p b S1 S2 pa (encS SA x) bs := by
  obtain ⟨FA, h1, h2, h3⟩ := h.ex
  refine (hS.enc pa k SA FA x wx h1 hq hk hn hx).mono fun e w' hr => ⟨hr.1, ?_⟩
  obtain ⟨F', g1, g2, g3⟩ := hr.2
  refine ⟨⟨F', g1, fun k hk => ⟨?_, fun q hq => ?_⟩, h3.grow (Y := fun k => F' k ∨ ∃ q ∈ bs, q.1 = k) hM g2 (fun k hk => ⟨.inl hk, (h2 k hk).1⟩) (fun k hk => ?_)⟩, fun q hq => ⟨(h.bx q hq).1, (g2.block _ (h.lt hq) (fun f => (h2 _ f).2 q hq rfl)).trans (h.bx q hq).2⟩, h.lo, Nat.le_trans h.le g2.size, h.nd⟩
  · rcases g3 k hk with f | f
    · exact (h2 k f).1
    · exact Nat.le_trans h.lo (Nat.le_trans h.le f)
  · rcases g3 k hk with f | f
    · exact (h2 k f).2 q hq
    · have := h.lt hq; omega
  · rcases hk with e | e
    · rcases g3 k e with f | f
      · exact .inl (.inl f)
      · exact .inr ⟨f, hM.lt g1 k e⟩
    · exact .inl (.inr e)
/-- The other machine's error. -/
theorem Gq.err (hM : Mach Pm) {k : Nat} (h : Gq Pm lo W w0 wx p b S1 S2 pa SA bs) (hq : Bq k SA) (hk : k ≤ 1000000) :
    Calls Tryd.prog 8 #[.pointer (some ⟨pa, 0, none⟩)] wx fun e w' => e = .returned (.int .i64 (SA.e : Nat)) ∧ Gq Pm lo W w0 w' p b S1 S2 pa SA bs := by
  obtain ⟨FA, h1, h2, h3⟩ := h.ex
  exact (hM.err pa k SA FA wx h1 hq hk).mono fun e w' hr => ⟨hr.1, h.self hM hr.2⟩
/-- The pair's own machine is left for another one, which is new: it rests. -/
theorem Gq.start (hM : Mach Pm) {w2 : World} {F2 : Nat → Prop} (hg : Gy Pm lo (fun _ => False) W w0 w2 pa b SA S2 bs) (hb : Below w2.heap.size w2 wx) (h2 : Pm wx p S1 F2) (hF : ∀ k, F2 k → w2.heap.size ≤ k) : Gq Pm lo W w0 wx p b S1 S2 pa SA bs := by
  obtain ⟨F, G, ov, bv, vv, tv, h1, hd, h3, h4, h5, h6, h7⟩ := hg.z
  refine ⟨⟨F, hM.stays h1 hb.size (fun k hk => hb.block k (hM.lt h1 k hk)), fun k hk => ⟨(h3 k hk).1, fun q hq e => (h3 k hk).2.2.2 (.inr ⟨q, hq, e⟩)⟩, F2, G, ov, bv, vv, tv, h2, hd.self hb, fun k hk => ⟨Nat.le_trans h7 (hF k hk), fun e => ?_, fun e => ?_, fun e => ?_⟩, fun k hk => ?_, fun k hk => Nat.lt_of_lt_of_le (h5 k hk) hb.size, h6.trans (hb.mono h7), Nat.le_trans h7 hb.size⟩, fun q hq => ⟨(hg.bx q hq).1, (hb.block _ (hg.lt hq)).trans (hg.bx q hq).2⟩, hg.lo, Nat.le_trans hg.le hb.size, hg.nd⟩
  · have := hd.ftlt e; have := hF k hk; omega
  · have := h5 k e; have := hF k hk; omega
  · rcases e with e | ⟨q, hq, rfl⟩
    · have := hM.lt h1 k e; have := hF k hk; omega
    · have := hg.lt hq; have := hF _ hk; omega
  · rcases hk with e | ⟨q, hq, rfl⟩
    · exact ⟨Nat.lt_of_lt_of_le (hM.lt h1 k e) hb.size, (h3 k e).2.1, (h3 k e).2.2.1⟩
    · exact ⟨Nat.lt_of_lt_of_le (hg.lt hq) hb.size, (h4 _ (.inr ⟨q, hq, rfl⟩)).2⟩
end
end Go.Proofs.YtpjgpiieminaoaaDoor

/- General: what GuardTells' machines come to. No program is named. -/
namespace Go.Proofs.YtpjgpiieminaoaaDoor

/-- The eight words that are laid. -/
def luV (S : Ms) (X : Nat → Nat) (j : Nat) : Nat → Int := if j < 8 then lyR S X j else none3
theorem luV_at (S : Ms) (X : Nat → Nat) {j : Nat} (h : j < 8) : luV S X j = lyR S X j := if_pos h
section
variable {S : Ms} {X : Nat → Nat} {Kd z : Int} {mm : Nat}
theorem lu_laid (h : Bq 0 S) (hn : S.n = 2 ∨ S.n = 3) (hX : ∀ i, X i < 2 ^ 64) : Bq 48 (lyS S X 8) ∧ ((lyS S X 8).n = 2 ∨ (lyS S X 8).n = 3) ∧ ∀ j, Wb (luV S X j) := by
  refine ⟨ly_bq h hn hX 8, by rw [lyS_n]; exact hn, fun j => ?_⟩
  unfold luV
  split
  · exact lyR_wb h hn hX (by omega)
  · exact none3_wb
end
/-! ### words in an array of eight -/
/-- Words in a row, the first i laid. -/
def auF (S : Ms) (X : Nat → Nat) (i : Nat) : Nat → Int := fun q => if q / 3 < i then lyR S X (q / 3) (q % 3) else 0
def updW (f : Nat → Int) (i : Nat) (R : Nat → Int) : Nat → Int := fun q => if q / 3 = i then R (q % 3) else f q
theorem auF_next (S : Ms) (X : Nat → Nat) (i : Nat) : updW (auF S X i) i (lyR S X i) = auF S X (i + 1) := by
  funext q
  unfold updW auF
  by_cases e : q / 3 = i
  · rw [if_pos e, if_pos (by omega), e]
  · rw [if_neg e]
    by_cases e2 : q / 3 < i
    · rw [if_pos e2, if_pos (by omega)]
    · rw [if_neg e2, if_neg (by omega)]
theorem auF_at (S : Ms) (X : Nat → Nat) {c d m : Nat} (hc : c < m) (hd : d < 3) : auF S X m (c * 3 + d) = lyR S X c d := by
  unfold auF
  rw [if_pos (by omega), show (c * 3 + d) / 3 = c by omega, show (c * 3 + d) % 3 = d by omega]
theorem auF_0 (S : Ms) (X : Nat → Nat) : auF S X 0 = fun _ => 0 := by funext q; unfold auF; rw [if_neg (by omega)]
end Go.Proofs.YtpjgpiieminaoaaDoor

/- General: what GuardShows' machines come to. No program is named. -/
namespace Go.Proofs.YtpjgpiieminaoaaDoor

def tg0 (n : Nat) (tw : Nat → Nat) : Ms := startD (n : Int) 600 tw 24 0 24
theorem tg0_bq {n : Nat} (hn : n = 2 ∨ n = 3) {tw : Nat → Nat} (htw : ∀ i, i < 24 → tw i < 2 ^ 64) : Bq 0 (tg0 n tw) := startD_bq (n : Int) 600 tw 24 0 24 0 (by omega) (by decide) (by decide) (by omega) htw (by omega) (Nat.le_refl _)
theorem tg0_fin {n : Nat} (hn : n = 2 ∨ n = 3) (tw : Nat → Nat) : Fin_ 24 600 (tg0 n tw) 0 0 := ⟨rfl, rfl, rfl, rfl, rfl, rfl, rfl, rfl, rfl, rfl, by show (n : Int) = 2 ∨ (n : Int) = 3; omega⟩
theorem tg0_opd (K n : Nat) (tw : Nat → Nat) : Opd K (tg0 n tw) 0 := ⟨rfl, fun i hi => absurd hi (Nat.not_lt_zero i)⟩
/-- What is shown. -/
def gsS (n : Nat) (tw x : Nat → Nat) (K : Nat) : Ms := gyS (lyS (tg0 n tw) x 8) (luV (tg0 n tw) x) (K : Int) (gyC (K : Int) 8)
def gsB (x : Nat → Nat) (q : Nat) : Nat := byF (x (q / 8)) (q % 8)
theorem gsC {K : Nat} (hK : K ≤ 64) : gyC (K : Int) 8 = (K + 7) / 8 := by unfold gyC; omega
theorem gsM {K : Nat} (hK : K ≤ 64) : gyM (K : Int) (gyC (K : Int) 8) = K := by rw [gsC hK]; unfold gyM; omega
section
variable {n : Nat} {tw x : Nat → Nat} {K : Nat}
theorem gs_enc (hn : n = 2 ∨ n = 3) (htw : ∀ i, i < 24 → tw i < 2 ^ 64) (hx : ∀ i, x i < 2 ^ 64) : (∀ i, i ≤ 8 → Bq (10 * i) (enX (tg0 n tw) x i) ∧ ((enX (tg0 n tw) x i).n = 2 ∨ (enX (tg0 n tw) x i).n = 3)) ∧ (enX (tg0 n tw) x 8).e = 0 := by
  refine ⟨fun i hi => ⟨?_, ?_⟩, ?_⟩
  · have := enX_bq (tg0_bq hn htw) (tg0_fin hn tw).n hx i (by omega)
    rwa [Nat.zero_add] at this
  · rw [enX_n]; exact (tg0_fin hn tw).n
  · obtain ⟨L', u', _, _, f, _⟩ := enX_fin (x := x) (tg0_fin hn tw) rfl (j := 8) (by decide) (by decide) (by decide)
    exact f.e
theorem gs_all (hn : n = 2 ∨ n = 3) (htw : ∀ i, i < 24 → tw i < 2 ^ 64) (hx : ∀ i, x i < 2 ^ 64) (hK : K ≤ 64) :
    Bq 48 (lyS (tg0 n tw) x 8) ∧ ((lyS (tg0 n tw) x 8).n = 2 ∨ (lyS (tg0 n tw) x 8).n = 3) ∧ (∀ j, Wb (luV (tg0 n tw) x j)) ∧ (lyS (tg0 n tw) x 8).dry = false ∧
      Bq 200 (gsS n tw x K) ∧ (gsS n tw x K).dry = false ∧ (gsS n tw x K).e = 0 ∧ (gsS n tw x K).L ≤ 600 ∧ Opd K (gsS n tw x K) ((K + 7) / 8) ∧
      ns (gyM (K : Int) (gyC (K : Int) 8)) (gyF (lyS (tg0 n tw) x 8) (luV (tg0 n tw) x) (K : Int)) = ns K (gsB x) := by
  have h0 := tg0_bq hn htw
  have f0 := tg0_fin hn tw
  obtain ⟨h1, h2, h3⟩ := lu_laid h0 f0.n hx
  obtain ⟨⟨L1, l1, f1⟩, r1⟩ := ly_fin (x := x) f0 (j := 8) (by decide)
  have hs : ∀ j, j < 8 → Sf (lyS (tg0 n tw) x 8) (luV (tg0 n tw) x j) (x j) := fun j hj => by rw [luV_at _ _ hj]; exact ly_sf f0.wt hj f1.e
  have hr : ∀ j, j < 8 → Rl (lyS (tg0 n tw) x 8) (luV (tg0 n tw) x j) := fun j hj => by rw [luV_at _ _ hj]; exact r1 j hj
  have hc := gsC hK
  have hc8 : gyC (K : Int) 8 ≤ 8 := gyC_le _ _
  obtain ⟨L2, l2, f2⟩ := gy_fin (N := (K : Int)) f1 hr (j := gyC (K : Int) 8) hc8 (by omega) (by omega)
  have hb2 := gyS_bq (N := (K : Int)) h1 h2 h3 (j := gyC (K : Int) 8) (by omega)
  refine ⟨h1, h2, h3, f1.dry, hb2.mono (by omega), f2.dry, f2.e, ?_, ?_, ?_⟩
  · show (gyS _ _ _ _).L ≤ 600
    rw [f2.L]; omega
  · rw [← hc]
    exact Opd.gy f1.wt h1 h3 hs ((tg0_opd K n tw).ly 8) (Nat.le_refl _) (by omega) f2.e
  · rw [gsM hK]
    exact ns_ext fun q hq => gyF_sf f1.wt h1 h3 hs (by decide) hK f2.e hq
end
/-- How many open among the first i; what is left of K bytes there. -/
def gsN (S : Ms) (i : Nat) : Nat := cnt is12 S.f i
theorem gsN_next (S : Ms) (i : Nat) : gsN S (i + 1) = gsN S i + (if (S.f i).K = 12 then 1 else 0) := by
  unfold gsN
  rw [cnt]
  unfold is12
  simp only [decide_eq_true_eq]
theorem gsN_le (S : Ms) : ∀ {i j : Nat}, i ≤ j → gsN S i ≤ gsN S j
  | i, 0, h => by rw [Nat.le_zero.1 h]; exact Nat.le_refl _
  | i, j + 1, h => by
    by_cases e : i = j + 1
    · rw [e]; exact Nat.le_refl _
    · have := gsN_le S (i := i) (j := j) (by omega)
      have := gsN_next S j
      omega
/-- A word of few bits is itself, masked by them. -/
theorem low_same {v m : Nat} (h : v < 2 ^ m) : v &&& lwN m = v := by rw [and_low]; exact Nat.mod_eq_of_lt h
end Go.Proofs.YtpjgpiieminaoaaDoor

/- General: a row of bytes that a call owns, whatever is frozen behind its end ('[]byte(s)' freezes one place there). No program is named. -/
namespace Go.Proofs.YtpjgpiieminaoaaDoor
open Go.RowKit Go.Lib

def Ob (B : Nat) (E : TypeId) (w : World) (v : Value) (xs : List UInt8) : Prop :=
  ∃ g cap cur fz, v = .slice (some ⟨g, 0, none⟩) xs.length cap ∧ B ≤ g ∧ w.heap[g]? = some (.cells cur E fz) ∧ (∀ j, xs.length ≤ j → j < cap → (decide (fz.1 ≤ j) && decide (j < fz.2)) = false) ∧ xs.length ≤ cap ∧ cap ≤ maxLen ∧ cur.size = cap ∧ cur.toList.take xs.length = Lib.byteCells xs
theorem setCells_row (g : Nat) (E : TypeId) (fz : Nat × Nat) : ∀ (vs : List Value) (o : Nat) (w : World) (cur : Array Value), w.heap[g]? = some (.cells cur E fz) → o + vs.length ≤ cur.size →
    (w.setCells g o vs).heap[g]? = some (.cells (cur.toList.take o ++ vs ++ cur.toList.drop (o + vs.length)).toArray E fz)
  | [], o, w, cur, h, _ => by
    show w.heap[g]? = _
    rw [h]
    simp
  | v :: r, o, w, cur, h, hl => by
    show ((w.setCell ⟨g, o, none⟩ v).setCells g (o + 1) r).heap[g]? = _
    have hlt : o < cur.size := by simp at hl; omega
    have h1 : (w.setCell ⟨g, o, none⟩ v).heap[g]? = some (.cells (cur.setIfInBounds o v) E fz) := by
      rw [setCell_eq_setRow w g o cur E fz v h]
      exact setRow_heap w g cur _ E fz h
    rw [setCells_row g E fz r (o + 1) _ _ h1 (by simp at hl ⊢; omega)]
    congr 2
    apply Array.ext'
    simp only [Array.toList_setIfInBounds]
    have e1 : (cur.toList.set o v).take (o + 1) = cur.toList.take o ++ [v] := by
      rw [List.take_set, List.take_add_one, List.set_append_right _ _ (by simp; omega)]
      have hm : min o cur.toList.length = o := by simp; omega
      rw [List.length_take, hm, Nat.sub_self]
      have hs : cur.toList[o]? = some cur[o] := by simp [hlt]
      rw [hs]
      simp
    have e2 : (cur.toList.set o v).drop (o + 1 + r.length) = cur.toList.drop (o + (r.length + 1)) := by
      rw [List.drop_set_of_lt (by omega)]
      congr 1
      omega
    rw [e1, e2]
    simp
theorem setCells_apart (g : Nat) : ∀ (vs : List Value) (o : Nat) (w : World) (k : Nat), k ≠ g → (w.setCells g o vs).heap[k]? = w.heap[k]?
  | [], _, _, _, _ => rfl
  | v :: r, o, w, k, h => by
    show ((w.setCell ⟨g, o, none⟩ v).setCells g (o + 1) r).heap[k]? = _
    rw [setCells_apart g r (o + 1) _ k h]
    exact heap_setCell_other w ⟨g, o, none⟩ k v h
theorem setCells_size (g : Nat) : ∀ (vs : List Value) (o : Nat) (w : World), (w.setCells g o vs).heap.size = w.heap.size
  | [], _, _ => rfl
  | v :: r, o, w => by
    show ((w.setCell ⟨g, o, none⟩ v).setCells g (o + 1) r).heap.size = _
    rw [setCells_size g r (o + 1) _]
    simp [World.setCell]
theorem setCells_out (g : Nat) : ∀ (vs : List Value) (o : Nat) (w : World), (w.setCells g o vs).os = w.os ∧ (w.setCells g o vs).tape = w.tape ∧ (w.setCells g o vs).output = w.output
  | [], _, _ => ⟨rfl, rfl, rfl⟩
  | v :: r, o, w => by
    obtain ⟨h1, h2, h3⟩ := setCells_out g r (o + 1) (w.setCell ⟨g, o, none⟩ v)
    exact ⟨h1.trans rfl, h2.trans rfl, h3.trans rfl⟩
section
variable {B : Nat} {E : TypeId} {w w' : World} {v : Value} {xs : List UInt8}
theorem Ob.lt (h : Ob B E w v xs) : ∀ k, v.ownBlock = some k → B ≤ k ∧ k < w.heap.size := by
  obtain ⟨g, cap, cur, fz, rfl, hb, hg, _⟩ := h
  intro k hk
  obtain rfl : g = k := by simpa [Value.ownBlock] using hk
  exact ⟨hb, (Array.getElem?_eq_some_iff.1 hg).1⟩
theorem Ob.stays (h : Ob B E w v xs) (hs : ∀ k, v.ownBlock = some k → w'.heap[k]? = w.heap[k]?) : Ob B E w' v xs := by
  obtain ⟨g, cap, cur, fz, rfl, hb, hg, r⟩ := h
  exact ⟨g, cap, cur, fz, rfl, hb, (hs g rfl).trans hg, r⟩
theorem Ob.self (h : Ob B E w v xs) (hb : Below w.heap.size w w') : Ob B E w' v xs := h.stays fun k hk => hb.block k (h.lt k hk).2
theorem Ob.alloc (h : Ob B E w v xs) (o : Obj) : Ob B E (w.alloc o) v xs := h.stays fun k hk => heap_alloc_old w o (h.lt k hk).2
theorem Ob.drew (h : Ob B E w v xs) : Ob B E w.drew v xs := h
theorem Ob.mono {B' : Nat} (h : Ob B E w v xs) (hB : B' ≤ B) : Ob B' E w v xs := by
  obtain ⟨g, cap, cur, fz, e, hb, r⟩ := h
  exact ⟨g, cap, cur, fz, e, by omega, r⟩
theorem Ob.cells {g n cap : Nat} (h : Ob B E w (.slice (some ⟨g, 0, none⟩) n cap) xs) : ∀ j u, (Lib.byteCells xs)[j]? = some u → w.cell? ⟨g, j, none⟩ = some u := by
  obtain ⟨g', cap', cur, fz, e, _, hg, _, _, _, _, ht⟩ := h
  simp only [Value.slice.injEq, Option.some.injEq, Addr.mk.injEq, and_true] at e
  obtain ⟨rfl, _, rfl⟩ := e
  intro j u hj
  rw [cell_of_row w g j cur E fz hg]
  rw [← ht, List.getElem?_take] at hj
  split at hj
  · simpa using hj
  · cases hj
end
section
variable {P : Program} {w : World}
end
end Go.Proofs.YtpjgpiieminaoaaDoor

/- General: arrays of words of 64 bits by value and in a block (Arr's, for u64). No program is named. -/
namespace Go.Proofs.YtpjgpiieminaoaaDoor
open Go.ChangeShapes Go.WideShapes Go.ChangeAt Go.RowKit

/-- The n cells of an array of words. -/
def wa (n : Nat) (f : Nat → Nat) : Array Value := ((List.range n).map fun i => Value.int .u64 (f i : Int)).toArray

theorem wa_size (n : Nat) (f : Nat → Nat) : (wa n f).size = n := by simp [wa]
theorem wa_get {n : Nat} (f : Nat → Nat) {j : Nat} (h : j < n) : (wa n f)[j]? = some (.int .u64 (f j : Int)) := by simp [wa, h]
theorem wa_ext {n : Nat} {f g : Nat → Nat} (h : ∀ i, i < n → f i = g i) : wa n f = wa n g := by
  unfold wa
  congr 1
  refine List.map_congr_left fun i hi => ?_
  rw [h i (List.mem_range.1 hi)]
theorem wa_set {n : Nat} (f : Nat → Nat) (j z : Nat) : (wa n f).setIfInBounds j (.int .u64 (z : Int)) = wa n (upd f j z) := by
  apply Array.ext_getElem?
  intro i
  rw [Array.getElem?_setIfInBounds, wa_size]
  by_cases hi : i < n
  · rw [wa_get _ hi, wa_get _ hi]
    by_cases e : j = i
    · subst e; rw [if_pos rfl, if_pos hi, upd_same]
    · rw [if_neg e, upd_other _ _ _ _ (fun h => e h.symm)]
  · have h1 : (wa n f)[i]? = none := by simp [wa_size]; omega
    have h2 : (wa n (upd f j z))[i]? = none := by simp [wa_size]; omega
    rw [h1, h2]
    by_cases e : j = i
    · rw [if_pos e, if_neg (by omega)]
    · rw [if_neg e]
theorem wa_one (n : Nat) (f : Nat → Nat) : (wa n f).all (·.oneCell') = true := by
  refine Array.all_eq_true_iff_forall_mem.2 (fun v hv => ?_)
  simp [wa] at hv
  obtain ⟨i, _, rfl⟩ := hv
  rfl

section prog
variable {P : Program}

end prog
/-! ### an array in a block of its own -/
/-- Block b holds, whole, the n words of f, as a variable of type t. -/
def Aw (w : World) (b n : Nat) (t : TypeId) (f : Nat → Nat) : Prop := w.heap[b]? = some (.cells (wa n f) t (0, 0))
theorem Aw.lt {w : World} {b n : Nat} {t : TypeId} {f : Nat → Nat} (h : Aw w b n t f) : b < w.heap.size := (Array.getElem?_eq_some_iff.1 h).1
theorem Aw.cell {w : World} {b n : Nat} {t : TypeId} {f : Nat → Nat} (h : Aw w b n t f) {j : Nat} (hj : j < n) : w.cell? ⟨b, j, none⟩ = some (.int .u64 (f j : Int)) := by
  rw [cell_of_row w b j _ t (0, 0) h, wa_get f hj]
theorem Aw.free {w : World} {b n : Nat} {t : TypeId} {f : Nat → Nat} (h : Aw w b n t f) (o : Nat) : w.frozen? ⟨b, o, none⟩ = false := frozen_of_row w b o _ t h
theorem Aw.set {w : World} {b n : Nat} {t : TypeId} {f : Nat → Nat} (h : Aw w b n t f) (j z : Nat) : Aw (w.setCell ⟨b, j, none⟩ (.int .u64 (z : Int))) b n t (upd f j z) := by
  unfold Aw
  rw [heap_setCell_same w b j _ t _ h, wa_set]
theorem Aw.apart {w : World} {b n : Nat} {t : TypeId} {f : Nat → Nat} (h : Aw w b n t f) {a : Addr} (ha : b ≠ a.block) (v : Value) : Aw (w.setCell a v) b n t f := (heap_setCell_other w a b v ha).trans h
theorem Aw.row {w : World} {b n : Nat} {t : TypeId} {f : Nat → Nat} (h : Aw w b n t f) (g : Nat → Nat) : Aw (w.setRow b (wa n g)) b n t g := setRow_heap w b _ _ t _ h
theorem Aw.alloc {w : World} {b n : Nat} {t : TypeId} {f : Nat → Nat} (h : Aw w b n t f) (o : Obj) : Aw (w.alloc o) b n t f := (heap_alloc_old w o h.lt).trans h
theorem Aw.new (w : World) (n : Nat) (t : TypeId) (f : Nat → Nat) : Aw (w.alloc (.cells (wa n f) t)) w.heap.size n t f := heap_alloc_new w _
theorem Aw.drew {w : World} {b n : Nat} {t : TypeId} {f : Nat → Nat} (h : Aw w b n t f) : Aw w.drew b n t f := h
theorem Aw.below {w w' : World} {b n B : Nat} {t : TypeId} {f : Nat → Nat} (h : Aw w b n t f) (hb : Below B w w') (hB : b < B) : Aw w' b n t f := (hb.block b hB).trans h
theorem Aw.self {w w' : World} {b n : Nat} {t : TypeId} {f : Nat → Nat} (h : Aw w b n t f) (hb : Below w.heap.size w w') : Aw w' b n t f := h.below hb h.lt
theorem Aw.ext {w : World} {b n : Nat} {t : TypeId} {f g : Nat → Nat} (h : Aw w b n t f) (e : ∀ i, i < n → f i = g i) : Aw w b n t g := by
  unfold Aw at h ⊢; rw [h, wa_ext e]

section prog2
variable {P : Program}
theorem Aw.load {w : World} {b n : Nat} {t : TypeId} {f : Nat → Nat} {e : TypeId} (h : Aw w b n t f) (ty : TypeId) (hu : P.underlying ty = some (.array n e)) (hi : (P.info? ty).map (·.size) = some n) :
    (loadVar ty ⟨b, 0, none⟩).run P w = .ok (.agg (wa n f)) w :=
  run_loadVar_row w b t ty _ (0, 0) _ h hu rfl (by rw [wa_size]; exact hi)
theorem Aw.store {w : World} {b n : Nat} {t : TypeId} {f : Nat → Nat} (h : Aw w b n t f) (ty : TypeId) (g : Nat → Nat) (hi : (P.info? ty).map (·.size) = some n) :
    (storeVar ty ⟨b, 0, none⟩ (.agg (wa n g))).run P w = .ok () (w.setRow b (wa n g)) :=
  run_storeVar_row w b t ty _ _ h (by rw [wa_size]; exact hi) (by rw [wa_size, wa_size]) (wa_one n g)
end prog2

/-! ### returns of arrays -/
/-! ### whole loads and stores, as arms of a walk -/
/-- An array of n words that comes in by value. -/
theorem wa_open {H : Type} {enc : TypeId × Value → H} {P : Program} {W : World} {sp : Nat → Bool} {held : Bool} {n : Nat} {t e : TypeId} {base : Nat} {v : Value} {d : DataW H} {p : List MemPlace} {b0 : Nat}
    (ht : P.underlying t = some (.array n e)) (he : P.underlying e = some (.int .u64)) (hc : P.cellsOf e = 1) (hct : P.cellsOf t = n)
    (hv : Value.okWide P W .any b0 t v) (h : DataW.Trod enc P W base sp held t v d p) :
    ∃ f : Nat → Nat, v = .agg (wa n f) ∧ ∀ i, i < n → f i < 2 ^ 64 := by
  obtain ⟨zs, rfl, hl, hw⟩ := arr_open ht he hc hct hv h
  have hb : ∀ i, i < n → 0 ≤ nth zs i ∧ nth zs i ≤ 18446744073709551615 := fun i hi => by
    rw [nth_of (show i < zs.length by omega)]; exact bounds_u64 (hw _ (List.getElem_mem _))
  refine ⟨fun i => (nth zs i).toNat, ?_, fun i hi => by have := hb i hi; show (nth zs i).toNat < 2 ^ 64; omega⟩
  congr 1
  apply Array.ext_getElem?
  intro i
  by_cases hi : i < n
  · rw [wa_get _ hi]
    have := hb i hi
    simp only [List.getElem?_toArray, List.getElem?_map, List.getElem?_eq_getElem (show i < zs.length by omega), Option.map_some]
    rw [nth_of (show i < zs.length by omega)] at this ⊢
    congr 2; omega
  · have h2 : (wa n (fun i => (nth zs i).toNat))[i]? = none := by simp [wa_size]; omega
    rw [h2]
    simp; omega
end Go.Proofs.YtpjgpiieminaoaaDoor
