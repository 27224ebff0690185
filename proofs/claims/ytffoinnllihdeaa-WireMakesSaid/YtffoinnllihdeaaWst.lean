import Derived.Test.YtffoinnllihdeaaTrm
import Derived.Test.YtffoinnllihdeaaWrd
/- General: the machine that has every word as shares, as numbers. No program is named. -/
namespace Go.Proofs.Ytffoinnllihdeaa

def updO (f : Nat → Op6) (j : Nat) (o : Op6) : Nat → Op6 := fun i => if i = j then o else f i
def updS (g : Nat → Sp3) (j : Nat) (s : Sp3) : Nat → Sp3 := fun i => if i = j then s else g i
def updN (v : Nat → Nat) (j : Nat) (z : Nat) : Nat → Nat := fun i => if i = j then z else v i
theorem updO_at (f : Nat → Op6) (j : Nat) (o : Op6) : updO f j o j = o := by simp [updO]
theorem updO_no (f : Nat → Op6) {j i : Nat} (o : Op6) (h : i ≠ j) : updO f j o i = f i := by simp [updO, h]
theorem updS_at (g : Nat → Sp3) (j : Nat) (s : Sp3) : updS g j s j = s := by simp [updS]
theorem updS_no (g : Nat → Sp3) {j i : Nat} (s : Sp3) (h : i ≠ j) : updS g j s i = g i := by simp [updS, h]
theorem updN_at (v : Nat → Nat) (j z : Nat) : updN v j z j = z := by simp [updN]
theorem updN_no (v : Nat → Nat) {j i : Nat} (z : Nat) (h : i ≠ j) : updN v j z i = v i := by simp [updN, h]

/-- A machine: shares, bound, words of keys, masks drawn, where the open block began, ops ahead (of a dry one), the open block's kind, the error, ops, blocks, words; the tape's words, how many there are, how many are used, how many may be drawn. -/
structure Ms where
  n : Int
  most : Int
  words : Nat
  draws : Nat
  fr : Nat
  skip : Nat
  kind : Int
  e : Nat
  L : Nat
  f : Nat → Op6
  M : Nat
  g : Nat → Sp3
  v : Nat → Nat
  tw : Nat → Nat
  TN : Nat
  used : Nat
  free : Nat
  dry : Bool
/-- A register's word; 0 of none. -/
def wordAt (v : Nat → Nat) (L : Nat) (r : Int) : Nat := if 0 ≤ r ∧ r < (L : Int) then v r.toNat else 0
namespace Ms
def len (S : Ms) : Nat := S.skip + S.L
def bad (S : Ms) (o : Op6) : Bool := !(okOp o (S.len : Int) S.n) || decide (o.K = 2 ∧ o.C ≠ S.words)
def full (S : Ms) : Bool := !S.dry && decide (S.most ≤ (S.len : Int))
def out (S : Ms) (o : Op6) : Bool := decide (o.K = 1) && !S.dry && decide (S.free < 1 ∨ S.TN ≤ S.used)
def word (S : Ms) (o : Op6) (x : Nat) : Nat := if o.K = 1 ∧ S.dry = false then S.tw S.used else x
def makes (S : Ms) (o : Op6) (x : Nat) : Nat := evN o.K o.C (wordAt S.v S.L o.A) (wordAt S.v S.L o.B) (wordAt S.v S.L o.E) (S.word o x)
def put (S : Ms) (o : Op6) (x : Nat) : Ms :=
  { S with
    draws := if o.K = 1 then S.draws + 1 else S.draws
    words := if o.K = 2 then S.words + 1 else S.words
    used := if o.K = 1 ∧ S.dry = false then S.used + 1 else S.used
    free := if o.K = 1 ∧ S.dry = false then S.free - 1 else S.free
    L := S.L + 1
    f := updO S.f S.L o
    v := updN S.v S.L (S.makes o x) }
/-- An op is done, or an error stays. -/
def doS (S : Ms) (o : Op6) (x : Nat) : Ms := if S.e ≠ 0 then S else if S.bad o = true then { S with e := 1 } else if S.full = true then { S with e := 3 } else if S.out o = true then { S with e := 2 } else S.put o x
def doR (S : Ms) (o : Op6) : Int := if S.e ≠ 0 ∨ S.bad o = true ∨ S.full = true ∨ S.out o = true then -1 else (S.len : Int)
def beginS (S : Ms) (k : Int) : Ms := if S.e ≠ 0 then S else if S.kind ≠ 0 ∨ k < 1 ∨ 3 < k then { S with e := 1 } else { S with kind := k, fr := S.len }
def endS (S : Ms) : Ms :=
  if S.e ≠ 0 then S else if S.kind = 0 then { S with e := 1 }
  else if S.fr < S.len then { S with M := S.M + 1, g := updS S.g S.M ⟨S.kind, (S.fr : Int), (S.len : Int)⟩, kind := 0 } else { S with kind := 0 }
end Ms

/-! ### what a wet machine did is a trace that may be -/
/-- The outside word of the op of place i. -/
def wdAt (f : Nat → Op6) (mk : Nat → Nat) (TN : Nat) (ks : Nat → Nat) (KN : Nat) (i : Nat) : Nat :=
  if (f i).K = 1 ∧ cnt (fun o => decide (o.K = 1)) f i < TN then mk (cnt (fun o => decide (o.K = 1)) f i) else if (f i).K = 2 ∧ (f i).C < KN then ks (f i).C else 0
/-- Is the word of place i what its op makes? -/
def okW (f : Nat → Op6) (v : Nat → Nat) (L : Nat) (mk : Nat → Nat) (TN : Nat) (ks : Nat → Nat) (KN : Nat) (i : Nat) : Prop :=
  v i = evN (f i).K (f i).C (wordAt v L (f i).A) (wordAt v L (f i).B) (wordAt v L (f i).E) (wdAt f mk TN ks KN i)
structure Wi (S : Ms) (ks : Nat → Nat) (KN : Nat) : Prop where
  wet : S.dry = false
  sk : S.skip = 0
  hn : S.n = 2 ∨ S.n = 3
  ops : ∀ i, i < S.L → okO S.n S.f i = true
  wk : S.words = cnt (fun o => decide (o.K = 2)) S.f S.L
  kn : KN = S.words
  us : S.used = cnt (fun o => decide (o.K = 1)) S.f S.L
  le : S.used ≤ S.TN
  blk : ∀ j, j < S.M → okS S.L S.g j = true
  open_ : S.kind ≠ 0 → (1 ≤ S.kind ∧ S.kind ≤ 3) ∧ lastT S.g S.M ≤ (S.fr : Int) ∧ S.fr ≤ S.L
  last : lastT S.g S.M ≤ (S.L : Int)
  word : ∀ i, i < S.L → okW S.f S.v S.L S.tw S.TN ks KN i
theorem cnt_upd {p : Op6 → Bool} {f : Nat → Op6} {L : Nat} {o : Op6} : ∀ {i : Nat}, i ≤ L → cnt p (updO f L o) i = cnt p f i
  | 0, _ => rfl
  | i + 1, h => by rw [cnt, cnt, cnt_upd (by omega), updO_no f o (by omega)]
theorem cnt_updN {p : Op6 → Bool} {f : Nat → Op6} {L : Nat} {o : Op6} : cnt p (updO f L o) (L + 1) = cnt p f L + (if p o = true then 1 else 0) := by
  rw [cnt, cnt_upd (Nat.le_refl _), updO_at]
theorem okO_upd {n : Int} {f : Nat → Op6} {L : Nat} {o : Op6} {i : Nat} (h : i < L) : okO n (updO f L o) i = okO n f i := by
  unfold okO
  rw [updO_no f o (by omega), cnt_upd (by omega)]
/-- Registers of an op that may stand. -/
theorem okOp_regs {o : Op6} {i : Nat} {n : Int} (h : okOp o (i : Int) n = true) : o.A < (i : Int) ∧ o.B < (i : Int) ∧ o.E < (i : Int) := by
  unfold okOp at h
  rw [Bool.and_eq_true, Bool.and_eq_true] at h
  have hr := allB_all h.1.2
  have key : ∀ j, j < 3 → rgL o j < (i : Int) := fun j hj => by
    have := hr j hj
    unfold rgB at this
    split at this
    · have := of_decide_eq_true this; exact this.2
    · have := of_decide_eq_true this; omega
  exact ⟨key 0 (by omega), key 1 (by omega), key 2 (by omega)⟩
theorem wordAt_upd {v : Nat → Nat} {L z : Nat} {r : Int} (h : r < (L : Int)) : wordAt (updN v L z) (L + 1) r = wordAt v L r := by
  unfold wordAt
  by_cases h0 : 0 ≤ r
  · rw [if_pos ⟨h0, by omega⟩, if_pos ⟨h0, h⟩, updN_no v z (by omega)]
  · rw [if_neg (fun e => h0 e.1), if_neg (fun e => h0 e.1)]
theorem okS_more {L : Nat} {g : Nat → Sp3} {j : Nat} (h : okS L g j = true) : okS (L + 1) g j = true := by
  unfold okS at h ⊢
  have := of_decide_eq_true h
  exact decide_eq_true ⟨this.1, this.2.1, this.2.2.1, by omega⟩
theorem lastT_upd {g : Nat → Sp3} {M : Nat} {s : Sp3} {j : Nat} (h : j ≤ M) : lastT (updS g M s) j = lastT g j := by
  unfold lastT
  split
  · rfl
  · rw [updS_no g s (by omega)]
theorem okS_upd {L : Nat} {g : Nat → Sp3} {M : Nat} {s : Sp3} {j : Nat} (h : j < M) : okS L (updS g M s) j = okS L g j := by
  unfold okS
  rw [lastT_upd (by omega), updS_no g s (by omega)]
theorem Wi.fails {S : Ms} {ks : Nat → Nat} {KN : Nat} (h : Wi S ks KN) (e : Nat) : Wi { S with e := e } ks KN := ⟨h.wet, h.sk, h.hn, h.ops, h.wk, h.kn, h.us, h.le, h.blk, h.open_, h.last, h.word⟩
theorem Wi.begins {S : Ms} {ks : Nat → Nat} {KN : Nat} (h : Wi S ks KN) (k : Int) : Wi (S.beginS k) ks KN := by
  unfold Ms.beginS
  split
  · exact h
  · split
    · exact h.fails 1
    · rename_i h2
      have hl : S.len = S.L := by unfold Ms.len; rw [h.sk]; omega
      exact ⟨h.wet, h.sk, h.hn, h.ops, h.wk, h.kn, h.us, h.le, h.blk, fun _ => ⟨by show 1 ≤ k ∧ k ≤ 3; omega, by show lastT S.g S.M ≤ (S.len : Int); rw [hl]; exact h.last, by show S.len ≤ S.L; omega⟩, h.last, h.word⟩
theorem Wi.ends {S : Ms} {ks : Nat → Nat} {KN : Nat} (h : Wi S ks KN) : Wi S.endS ks KN := by
  have hl : S.len = S.L := by unfold Ms.len; rw [h.sk]; omega
  unfold Ms.endS
  split
  · exact h
  · split
    · exact h.fails 1
    · rename_i hk
      obtain ⟨o1, o2, o3⟩ := h.open_ hk
      split
      · rename_i hlt
        refine ⟨h.wet, h.sk, h.hn, h.ops, h.wk, h.kn, h.us, h.le, fun j hj => ?_, fun e => absurd rfl e, ?_, h.word⟩
        · show okS S.L (updS S.g S.M ⟨S.kind, (S.fr : Int), (S.len : Int)⟩) j = true
          have hj' : j < S.M + 1 := hj
          by_cases e : j = S.M
          · subst e
            unfold okS
            rw [lastT_upd (Nat.le_refl _), updS_at]
            exact decide_eq_true ⟨o1, o2, by show (S.fr : Int) < (S.len : Int); omega, by show (S.len : Int) ≤ (S.L : Int); omega⟩
          · rw [okS_upd (by omega)]; exact h.blk j (by omega)
        · show lastT (updS S.g S.M ⟨S.kind, (S.fr : Int), (S.len : Int)⟩) (S.M + 1) ≤ (S.L : Int)
          unfold lastT
          rw [if_neg (by omega), Nat.add_sub_cancel, updS_at]
          show (S.len : Int) ≤ (S.L : Int)
          omega
      · exact ⟨h.wet, h.sk, h.hn, h.ops, h.wk, h.kn, h.us, h.le, h.blk, fun e => absurd rfl e, h.last, h.word⟩
theorem cnt_lt {p : Op6 → Bool} {f : Nat → Op6} {i : Nat} (hp : p (f i) = true) : ∀ {L : Nat}, i < L → cnt p f i < cnt p f L
  | 0, h => by omega
  | L + 1, h => by
    rw [cnt]
    by_cases e : i = L
    · subst e; rw [if_pos hp]; omega
    · have := cnt_lt (L := L) hp (by omega); omega
theorem ev_x {K : Int} {C a b d x y : Nat} (h1 : K ≠ 1) (h2 : K ≠ 2) : evN K C a b d x = evN K C a b d y := by
  unfold evN
  rw [if_neg h1, if_neg h1, if_neg h2, if_neg h2]
theorem Wi.puts {S : Ms} {ks : Nat → Nat} {KN : Nat} (h : Wi S ks KN) (o : Op6) (x : Nat) (hb : S.bad o = false) (ho : S.out o = false) (ks' : Nat → Nat) (KN' : Nat)
    (hk : o.K = 2 → KN' = KN + 1 ∧ ks' = updN ks KN x) (hk' : o.K ≠ 2 → KN' = KN ∧ ks' = ks) : Wi (S.put o x) ks' KN' := by
  have hl : S.len = S.L := by unfold Ms.len; rw [h.sk]; omega
  unfold Ms.bad at hb
  rw [Bool.or_eq_false_iff, Bool.not_eq_false', hl] at hb
  obtain ⟨hb1, hb2⟩ := hb
  have hc : o.K = 2 → o.C = S.words := fun e => by
    by_cases hc : o.C = S.words
    · exact hc
    · rw [decide_eq_true ⟨e, hc⟩] at hb2; cases hb2
  obtain ⟨rA, rB, rE⟩ := okOp_regs hb1
  have hout : o.K = 1 → S.used < S.TN ∧ 1 ≤ S.free := fun e => by
    unfold Ms.out at ho
    rw [decide_eq_true e, h.wet, Bool.not_false, Bool.true_and, Bool.true_and] at ho
    have := of_decide_eq_false ho
    omega
  have hws : (if o.K = 2 then S.words + 1 else S.words) = cnt (fun o => decide (o.K = 2)) (updO S.f S.L o) (S.L + 1) := by
    rw [cnt_updN, ← h.wk]
    by_cases e : o.K = 2
    · rw [if_pos e, if_pos (by simpa using e)]
    · rw [if_neg e, if_neg (by simpa using e)]; rfl
  have hus : (if o.K = 1 ∧ S.dry = false then S.used + 1 else S.used) = cnt (fun o => decide (o.K = 1)) (updO S.f S.L o) (S.L + 1) := by
    rw [cnt_updN, ← h.us]
    by_cases e : o.K = 1
    · rw [if_pos ⟨e, h.wet⟩, if_pos (by simpa using e)]
    · rw [if_neg (fun q => e q.1), if_neg (by simpa using e)]; rfl
  have hkw : KN' = (if o.K = 2 then S.words + 1 else S.words) := by
    by_cases e : o.K = 2
    · rw [(hk e).1, if_pos e, h.kn]
    · rw [(hk' e).1, if_neg e, h.kn]
  refine ⟨h.wet, h.sk, h.hn, fun i hi => ?_, hws, hkw, hus, ?_, fun j hj => okS_more (h.blk j hj), fun e => ?_, ?_, fun i hi => ?_⟩
  · show okO S.n (updO S.f S.L o) i = true
    have hi' : i < S.L + 1 := hi
    by_cases e : i = S.L
    · subst e
      unfold okO
      rw [updO_at, cnt_upd (Nat.le_refl _), hb1, Bool.true_and]
      exact decide_eq_true (fun e2 => by rw [hc e2, h.wk])
    · rw [okO_upd (by omega)]; exact h.ops i (by omega)
  · show (if o.K = 1 ∧ S.dry = false then S.used + 1 else S.used) ≤ S.TN
    split
    · rename_i e; have := (hout e.1).1; omega
    · exact h.le
  · obtain ⟨o1, o2, o3⟩ := h.open_ e
    exact ⟨o1, o2, by show S.fr ≤ S.L + 1; omega⟩
  · have := h.last
    show lastT S.g S.M ≤ ((S.L + 1 : Nat) : Int)
    omega
  · show okW (updO S.f S.L o) (updN S.v S.L (S.makes o x)) (S.L + 1) S.tw S.TN ks' KN' i
    have hi' : i < S.L + 1 := hi
    by_cases e : i = S.L
    · subst e
      unfold okW
      rw [updN_at, updO_at, wordAt_upd rA, wordAt_upd rB, wordAt_upd rE]
      unfold Ms.makes
      by_cases e1 : o.K = 1
      · have hw : wdAt (updO S.f S.L o) S.tw S.TN ks' KN' S.L = S.word o x := by
          unfold wdAt Ms.word
          rw [updO_at, cnt_upd (Nat.le_refl _), ← h.us, if_pos ⟨e1, (hout e1).1⟩, if_pos ⟨e1, h.wet⟩]
        rw [hw]
      · by_cases e2 : o.K = 2
        · have a1 : wdAt (updO S.f S.L o) S.tw S.TN ks' KN' S.L = x := by
            have hkn := h.kn
            unfold wdAt
            rw [updO_at, if_neg (fun q => e1 q.1), if_pos ⟨e2, by rw [(hk e2).1, hc e2]; omega⟩, (hk e2).2, hc e2, ← h.kn, updN_at]
          have a2 : S.word o x = x := by
            unfold Ms.word
            rw [if_neg (fun q => e1 q.1)]
          rw [a1, a2]
        · exact ev_x e1 e2
    · have hi2 : i < S.L := by omega
      have h0 := h.word i hi2
      have hr : okOp (S.f i) (i : Int) S.n = true := by
        have := h.ops i hi2
        unfold okO at this
        rw [Bool.and_eq_true] at this
        exact this.1
      have hkey : (S.f i).K = 2 → (S.f i).C < KN := fun e2 => by
        have := h.ops i hi2
        unfold okO at this
        rw [Bool.and_eq_true] at this
        have hcc := of_decide_eq_true this.2 e2
        have := cnt_lt (p := fun o => decide (o.K = 2)) (f := S.f) (i := i) (by simpa using e2) hi2
        rw [h.kn, h.wk, hcc]
        exact this
      obtain ⟨qA, qB, qE⟩ := okOp_regs hr
      unfold okW at h0 ⊢
      have hw : wdAt (updO S.f S.L o) S.tw S.TN ks' KN' i = wdAt S.f S.tw S.TN ks KN i := by
        unfold wdAt
        rw [updO_no S.f o e, cnt_upd (by omega)]
        by_cases e2 : (S.f i).K = 2
        · have hlt := hkey e2
          have h1 : ¬ ((S.f i).K = 1 ∧ cnt (fun o => decide (o.K = 1)) S.f i < S.TN) := fun q => by omega
          have r1 : (if (S.f i).K = 2 ∧ (S.f i).C < KN then ks (S.f i).C else 0) = ks (S.f i).C := if_pos ⟨e2, hlt⟩
          have r2 : (if (S.f i).K = 2 ∧ (S.f i).C < KN' then ks' (S.f i).C else 0) = ks (S.f i).C := by
            by_cases e3 : o.K = 2
            · rw [(hk e3).1, (hk e3).2, if_pos ⟨e2, by omega⟩, updN_no ks x (by omega)]
            · rw [(hk' e3).1, (hk' e3).2, if_pos ⟨e2, hlt⟩]
          rw [r1, r2]
        · rw [if_neg (fun (q : (S.f i).K = 2 ∧ (S.f i).C < KN') => e2 q.1), if_neg (fun (q : (S.f i).K = 2 ∧ (S.f i).C < KN) => e2 q.1)]
      rw [hw, updO_no S.f o e, updN_no S.v _ e, wordAt_upd (by omega), wordAt_upd (by omega), wordAt_upd (by omega)]
      exact h0
/-- An op is done or not; a key's word is told besides if it is. -/
theorem Wi.does {S : Ms} {ks : Nat → Nat} {KN : Nat} (h : Wi S ks KN) (o : Op6) (x : Nat) :
    if o.K = 2 ∧ S.doR o ≠ -1 then Wi (S.doS o x) (updN ks KN x) (KN + 1) else Wi (S.doS o x) ks KN := by
  unfold Ms.doS Ms.doR
  by_cases h0 : S.e ≠ 0
  · rw [if_pos h0, if_neg (by rw [if_pos (.inl h0)]; simp)]; exact h
  · rw [if_neg h0]
    by_cases h1 : S.bad o = true
    · rw [if_pos h1, if_neg (by rw [if_pos (.inr (.inl h1))]; simp)]; exact h.fails 1
    · rw [if_neg h1]
      by_cases h2 : S.full = true
      · rw [if_pos h2, if_neg (by rw [if_pos (.inr (.inr (.inl h2)))]; simp)]; exact h.fails 3
      · rw [if_neg h2]
        by_cases h3 : S.out o = true
        · rw [if_pos h3, if_neg (by rw [if_pos (.inr (.inr (.inr h3)))]; simp)]; exact h.fails 2
        · rw [if_neg h3]
          have hd : (if S.e ≠ 0 ∨ S.bad o = true ∨ S.full = true ∨ S.out o = true then (-1 : Int) else (S.len : Int)) = (S.len : Int) := if_neg (by rintro (q | q | q | q) <;> contradiction)
          rw [hd]
          by_cases hk : o.K = 2
          · rw [if_pos ⟨hk, by omega⟩]
            exact h.puts o x (by simpa using h1) (by simpa using h3) _ _ (fun _ => ⟨rfl, rfl⟩) (fun q => absurd hk q)
          · rw [if_neg (fun q => hk q.1)]
            exact h.puts o x (by simpa using h1) (by simpa using h3) _ _ (fun q => absurd q hk) (fun _ => ⟨rfl, rfl⟩)
/-- What the law asks at its end. -/
theorem Wi.trace {S : Ms} {ks : Nat → Nat} {KN : Nat} (h : Wi S ks KN) (hL : S.L ≤ 1048576) : trB S.n S.L S.M S.f S.g = true := by
  unfold trB
  rw [decide_eq_true ⟨h.hn, hL⟩, allB_of h.ops, allB_of h.blk]
  rfl
end Go.Proofs.Ytffoinnllihdeaa
