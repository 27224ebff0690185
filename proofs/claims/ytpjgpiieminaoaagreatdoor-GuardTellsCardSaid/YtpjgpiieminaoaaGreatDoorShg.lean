import Derived.Test.YtpjgpiieminaoaaGreatDoorWls
/- General: ops one behind the other, each told by the registers that were made so far. No program is named. -/
namespace Go.Proofs.YtpjgpiieminaoaaGreatDoor

/-- m ops, one behind the other: the machine, and the registers that they made. -/
def sq (S : Ms) (op : Nat → (Nat → Int) → Op6) : Nat → Ms × (Nat → Int)
  | 0 => (S, none3)
  | m + 1 => ((sq S op m).1.doS (op m (sq S op m).2) 0, updI (sq S op m).2 m ((sq S op m).1.doR (op m (sq S op m).2)))
def sqS (S : Ms) (op : Nat → (Nat → Int) → Op6) (m : Nat) : Ms := (sq S op m).1
def sqR (S : Ms) (op : Nat → (Nat → Int) → Op6) (m : Nat) : Nat → Int := (sq S op m).2
/-- The op of place m, and its register. -/
def sqO (S : Ms) (op : Nat → (Nat → Int) → Op6) (m : Nat) : Op6 := op m (sqR S op m)
def sqr (S : Ms) (op : Nat → (Nat → Int) → Op6) (m : Nat) : Int := (sqS S op m).doR (sqO S op m)
theorem sqS_next (S : Ms) (op : Nat → (Nat → Int) → Op6) (m : Nat) : sqS S op (m + 1) = (sqS S op m).doS (sqO S op m) 0 := rfl
theorem sqR_next (S : Ms) (op : Nat → (Nat → Int) → Op6) (m : Nat) : sqR S op (m + 1) = updI (sqR S op m) m (sqr S op m) := rfl
/-- Registers that were made stay. -/
theorem sqR_at (S : Ms) (op : Nat → (Nat → Int) → Op6) {j : Nat} : ∀ {m}, j < m → sqR S op m j = sqr S op j
  | m + 1, h => by
    rw [sqR_next]
    by_cases e : j = m
    · subst e; exact updI_at _ _ _
    · rw [updI_no _ _ e]; exact sqR_at S op (by omega)
theorem sq_more (S : Ms) (op : Nat → (Nat → Int) → Op6) (m : Nat) : ∀ d, Ext (sqS S op m) (sqS S op (m + d))
  | 0 => Ext.refl _
  | d + 1 => (sq_more S op m d).trans (by rw [show m + (d + 1) = (m + d) + 1 from rfl, sqS_next]; exact doS_ext _ _ _)
theorem sq_ext (S : Ms) (op : Nat → (Nat → Int) → Op6) (m : Nat) : Ext S (sqS S op m) := by
  have := sq_more S op 0 m
  rw [Nat.zero_add] at this
  exact this
theorem sq_tw (S : Ms) (op : Nat → (Nat → Int) → Op6) : ∀ m, (sqS S op m).tw = S.tw
  | 0 => rfl
  | m + 1 => by rw [sqS_next, doS_tw]; exact sq_tw S op m
theorem sq_bq {k : Nat} {S : Ms} (h : Bq k S) {op : Nat → (Nat → Int) → Op6} : ∀ {m}, (∀ j, j < m → ∀ r, Wb r → opwf (op j r)) → k + m ≤ 1000000 → Bq (k + m) (sqS S op m) ∧ Wb (sqR S op m)
  | 0, _, _ => ⟨h, none3_wb⟩
  | m + 1, ho, hk => by
    obtain ⟨h1, h2⟩ := sq_bq h (op := op) (m := m) (fun j hj => ho j (by omega)) (by omega)
    exact ⟨h1.does (ho m (by omega) _ h2) (by decide), h2.upd (doR_bd h1 (by omega) _)⟩
theorem sq_e {S : Ms} {op : Nat → (Nat → Int) → Op6} : ∀ {m}, (sqS S op m).e = 0 → ∀ j, j ≤ m → (sqS S op j).e = 0
  | 0, h, j, hj => by obtain rfl : j = 0 := by omega
                      exact h
  | m + 1, h, j, hj => by
    by_cases e : j = m + 1
    · subst e; exact h
    · exact sq_e (do_ok h).1 j (by omega)
/-- The registers of ops that are all done. -/
def exR (L m : Nat) : Nat → Int := fun i => if i < m then ((L + i : Nat) : Int) else -1
theorem exR_at {L m i : Nat} (h : i < m) : exR L m i = ((L + i : Nat) : Int) := if_pos h
theorem sq_regs {S : Ms} {op : Nat → (Nat → Int) → Op6} (hs : S.skip = 0) : ∀ {m}, (sqS S op m).e = 0 → sqR S op m = exR S.L m ∧ (sqS S op m).L = S.L + m
  | 0, _ => ⟨rfl, rfl⟩
  | m + 1, h => by
    obtain ⟨h1, h2⟩ := sq_regs (op := op) hs (do_ok h).1
    obtain ⟨w1, w2, _⟩ := do_word h ((sq_ext S op m).skip.trans hs)
    have w2' : (sqS S op (m + 1)).L = (sqS S op m).L + 1 := w2
    refine ⟨?_, by rw [w2', h2]; omega⟩
    funext i
    rw [sqR_next]
    have w1' : sqr S op m = ((S.L + m : Nat) : Int) := by rw [← h2]; exact w1
    by_cases e : i = m
    · subst e; rw [updI_at, exR_at (by omega), w1']
    · rw [updI_no _ _ e, h1]
      unfold exR
      by_cases q : i < m
      · rw [if_pos q, if_pos (by omega)]
      · rw [if_neg q, if_neg (by omega)]
/-- How many masks the first m ops draw. -/
def rands (op : Nat → (Nat → Int) → Op6) (L : Nat) : Nat → Nat
  | 0 => 0
  | m + 1 => rands op L m + (if (op m (exR L m)).K = 1 then 1 else 0)
theorem sq_used {S : Ms} {op : Nat → (Nat → Int) → Op6} (hs : S.skip = 0) (hd : S.dry = false) : ∀ {m}, (sqS S op m).e = 0 → (sqS S op m).used = S.used + rands op S.L m
  | 0, _ => rfl
  | m + 1, h => by
    have h0 := (do_ok h).1
    have h1 := sq_used (op := op) hs hd h0
    have h2 : (sqS S op m).doS (sqO S op m) 0 = (sqS S op m).put (sqO S op m) 0 := (do_ok h).2.1
    have hdd : (sqS S op m).dry = false := (sq_ext S op m).dry.trans hd
    rw [sqS_next, h2]
    show (if (sqO S op m).K = 1 ∧ (sqS S op m).dry = false then (sqS S op m).used + 1 else (sqS S op m).used) = S.used + (rands op S.L m + _)
    have ho : sqO S op m = op m (exR S.L m) := by unfold sqO; rw [(sq_regs hs h0).1]
    rw [ho, h1]
    by_cases e : (op m (exR S.L m)).K = 1
    · rw [if_pos ⟨e, hdd⟩, if_pos e]; omega
    · rw [if_neg (fun q => e q.1), if_neg e]; omega
/-- A register's word, where all ops are done. -/
theorem sq_word {S : Ms} {op : Nat → (Nat → Int) → Op6} {m j : Nat} (hs : S.skip = 0) (hd : S.dry = false) (h : (sqS S op m).e = 0) (hj : j < m) :
    (sqS S op m).v (S.L + j) = evN (op j (exR S.L j)).K (op j (exR S.L j)).C (wordAt (sqS S op m).v (sqS S op m).L (op j (exR S.L j)).A) (wordAt (sqS S op m).v (sqS S op m).L (op j (exR S.L j)).B) (wordAt (sqS S op m).v (sqS S op m).L (op j (exR S.L j)).E) (if (op j (exR S.L j)).K = 1 then S.tw (S.used + rands op S.L j) else 0) := by
  have hj1 : (sqS S op (j + 1)).e = 0 := sq_e h _ (by omega)
  have hj0 : (sqS S op j).e = 0 := sq_e h _ (by omega)
  have hsj : (sqS S op j).skip = 0 := (sq_ext S op j).skip.trans hs
  have hdj : (sqS S op j).dry = false := (sq_ext S op j).dry.trans hd
  obtain ⟨h1, h2⟩ := sq_regs hs hj0
  have ho : sqO S op j = op j (exR S.L j) := by unfold sqO; rw [h1]
  have hM := sq_more S op (j + 1) (m - (j + 1))
  rw [show j + 1 + (m - (j + 1)) = m by omega] at hM
  have hM0 := sq_more S op j (m - j)
  rw [show j + (m - j) = m by omega] at hM0
  have hL1 : (sqS S op (j + 1)).L = S.L + (j + 1) := (sq_regs hs hj1).2
  obtain ⟨_, g2, _, g4⟩ := do_ok (S := sqS S op j) (o := sqO S op j) (x := 0) hj1
  have hv : (sqS S op (j + 1)).v (S.L + j) = (sqS S op j).makes (sqO S op j) 0 := by
    rw [sqS_next, g2]
    show updN (sqS S op j).v (sqS S op j).L _ _ = _
    rw [h2]; exact updN_at _ _ _
  have hlen : (sqS S op j).len = S.L + j := by unfold Ms.len; rw [hsj, h2]; omega
  unfold Ms.bad at g4
  rw [Bool.or_eq_false_iff, Bool.not_eq_false', hlen] at g4
  obtain ⟨rA, rB, rE⟩ := okOp_regs g4.1
  rw [hM.v (S.L + j) (by omega), hv]
  unfold Ms.makes
  rw [← wordAt_ext hM0 (by rw [h2]; exact rA), ← wordAt_ext hM0 (by rw [h2]; exact rB), ← wordAt_ext hM0 (by rw [h2]; exact rE), ho]
  congr 1
  unfold Ms.word
  by_cases e : (op j (exR S.L j)).K = 1
  · rw [if_pos ⟨e, hdj⟩, if_pos e, sq_tw, sq_used hs hd hj0]
  · rw [if_neg (fun q => e q.1), if_neg e]
/-- Ops that may be done are. -/
theorem sq_fine {S : Ms} {op : Nat → (Nat → Int) → Op6} (hs : S.skip = 0) (hd : S.dry = false) (he : S.e = 0) : ∀ {m}, (∀ j, j < m → okOp (op j (exR S.L j)) ((S.L + j : Nat) : Int) S.n = true ∧ (op j (exR S.L j)).K ≠ 2) → ((S.L + m : Nat) : Int) ≤ S.most → S.used + rands op S.L m ≤ S.TN → rands op S.L m ≤ S.free →
    (sqS S op m).e = 0 ∧ (sqS S op m).free = S.free - rands op S.L m ∧ (sqS S op m).most = S.most ∧ (sqS S op m).TN = S.TN
  | 0, _, _, _, _ => ⟨he, rfl, rfl, rfl⟩
  | m + 1, ho, hm, hu, hf => by
    have hr : rands op S.L (m + 1) = rands op S.L m + (if (op m (exR S.L m)).K = 1 then 1 else 0) := rfl
    obtain ⟨h1, h2, h3, h4⟩ := sq_fine hs hd he (op := op) (m := m) (fun j hj => ho j (by omega)) (by omega) (by omega) (by omega)
    obtain ⟨r1, r2⟩ := sq_regs (op := op) hs h1
    have hsm : (sqS S op m).skip = 0 := (sq_ext S op m).skip.trans hs
    have hdm : (sqS S op m).dry = false := (sq_ext S op m).dry.trans hd
    have hnm : (sqS S op m).n = S.n := (sq_ext S op m).n
    have hlen : (sqS S op m).len = S.L + m := by unfold Ms.len; rw [hsm, r2]; omega
    have hus := sq_used (op := op) hs hd h1
    obtain ⟨o1, o2⟩ := ho m (by omega)
    have hoo : sqO S op m = op m (exR S.L m) := by unfold sqO; rw [r1]
    have hput : (sqS S op m).doS (sqO S op m) 0 = (sqS S op m).put (sqO S op m) 0 := by
      unfold Ms.doS
      rw [if_neg (by omega), if_neg ?_, if_neg ?_, if_neg ?_]
      · unfold Ms.out
        rw [hoo, hdm, h4, hus]
        intro q
        simp only [Bool.not_false, Bool.and_true, Bool.and_eq_true, decide_eq_true_eq] at q
        rw [if_pos q.1] at hr
        have := q.2
        omega
      · unfold Ms.full
        rw [hdm, h3, hlen]
        intro q
        simp only [Bool.not_false, Bool.true_and, decide_eq_true_eq] at q
        omega
      · unfold Ms.bad
        rw [hlen, hnm, hoo, o1]
        intro q
        simp only [Bool.not_true, Bool.false_or, decide_eq_true_eq] at q
        exact o2 q.1
    rw [sqS_next, hput]
    refine ⟨h1, ?_, h3, h4⟩
    show (if (sqO S op m).K = 1 ∧ (sqS S op m).dry = false then (sqS S op m).free - 1 else (sqS S op m).free) = _
    rw [hoo, h2, hr]
    by_cases e : (op m (exR S.L m)).K = 1
    · rw [if_pos ⟨e, hdm⟩, if_pos e]; omega
    · rw [if_neg (fun q => e q.1), if_neg e]; omega
end Go.Proofs.YtpjgpiieminaoaaGreatDoor

/- General: words that get new masks. No program is named. -/
namespace Go.Proofs.YtpjgpiieminaoaaGreatDoor

/-- A block of ops. -/
def blkS (S : Ms) (kd : Int) (op : Nat → (Nat → Int) → Op6) (m : Nat) : Ms := (sqS (S.beginS kd) op m).endS
theorem endS_e {S : Ms} (h : S.endS.e = 0) : S.e = 0 ∧ S.kind ≠ 0 := by
  unfold Ms.endS at h
  by_cases e : S.e = 0
  · refine ⟨e, fun k => ?_⟩
    rw [if_neg (by omega), if_pos k] at h
    simp at h
  · rw [if_pos e] at h; exact absurd h e
theorem endS_v (S : Ms) : S.endS.v = S.v ∧ S.endS.L = S.L ∧ S.endS.used = S.used ∧ S.endS.free = S.free ∧ S.endS.TN = S.TN ∧ S.endS.most = S.most ∧ S.endS.words = S.words := by
  unfold Ms.endS
  repeat' split
  all_goals exact ⟨rfl, rfl, rfl, rfl, rfl, rfl, rfl⟩
theorem beginS_v (S : Ms) (k : Int) : (S.beginS k).v = S.v ∧ (S.beginS k).L = S.L ∧ (S.beginS k).used = S.used ∧ (S.beginS k).free = S.free ∧ (S.beginS k).TN = S.TN ∧ (S.beginS k).most = S.most ∧ (S.beginS k).words = S.words := by
  unfold Ms.beginS
  repeat' split
  all_goals exact ⟨rfl, rfl, rfl, rfl, rfl, rfl, rfl⟩
theorem beginS_e {S : Ms} {k : Int} (h : (S.beginS k).e = 0) : S.e = 0 ∧ S.kind = 0 := by
  unfold Ms.beginS at h
  by_cases e : S.e = 0
  · rw [if_neg (by omega)] at h
    refine ⟨e, ?_⟩
    by_cases q : S.kind ≠ 0 ∨ k < 1 ∨ 3 < k
    · rw [if_pos q] at h; simp at h
    · omega
  · rw [if_pos e] at h; exact absurd h e
theorem blk_ext (S : Ms) (kd : Int) (op : Nat → (Nat → Int) → Op6) (m : Nat) : Ext S (blkS S kd op m) := ((beginS_ext S kd).trans (sq_ext _ _ _)).trans (endS_ext _)
theorem blk_bq {k : Nat} {S : Ms} (h : Bq k S) {kd : Int} {op : Nat → (Nat → Int) → Op6} {m : Nat} (ho : ∀ j, j < m → ∀ r, Wb r → opwf (op j r)) (hk : k + m ≤ 1000000) : Bq (k + m + 1) (blkS S kd op m) := ((sq_bq (h.begins kd) ho hk).1.ends hk)
/-- Where a block is done: its ops' words, and registers. -/
structure Blk (S : Ms) (kd : Int) (op : Nat → (Nat → Int) → Op6) (m : Nat) : Prop where
  L : (blkS S kd op m).L = S.L + m
  reg : ∀ j, j < m → sqr (S.beginS kd) op j = ((S.L + j : Nat) : Int)
  word : ∀ j, j < m → (blkS S kd op m).v (S.L + j) = evN (op j (exR S.L j)).K (op j (exR S.L j)).C (wordAt (blkS S kd op m).v (blkS S kd op m).L (op j (exR S.L j)).A) (wordAt (blkS S kd op m).v (blkS S kd op m).L (op j (exR S.L j)).B) (wordAt (blkS S kd op m).v (blkS S kd op m).L (op j (exR S.L j)).E) (if (op j (exR S.L j)).K = 1 then S.tw (S.used + rands op S.L j) else 0)
  e : S.e = 0
theorem blk_of {S : Ms} {kd : Int} {op : Nat → (Nat → Int) → Op6} {m : Nat} (hs : S.skip = 0) (hd : S.dry = false) (h : (blkS S kd op m).e = 0) : Blk S kd op m := by
  have h1 : (sqS (S.beginS kd) op m).e = 0 := (endS_e h).1
  have hB := beginS_ext S kd
  obtain ⟨b1, b2, b3, _⟩ := beginS_v S kd
  obtain ⟨_, b5, _⟩ := beginS_n S kd
  obtain ⟨e1, e2, _⟩ := endS_v (sqS (S.beginS kd) op m)
  have hs' : (S.beginS kd).skip = 0 := hB.skip.trans hs
  have hd' : (S.beginS kd).dry = false := hB.dry.trans hd
  refine ⟨?_, fun j hj => ?_, fun j hj => ?_, ?_⟩
  · show (sqS (S.beginS kd) op m).endS.L = _
    rw [e2, (sq_regs hs' h1).2, b2]
  · have hj0 := sq_e h1 (j + 1) (by omega)
    have := (do_word hj0 ((sq_ext _ op j).skip.trans hs')).1
    show (sqS (S.beginS kd) op j).doR _ = _
    refine Eq.trans this ?_
    rw [show (sq (S.beginS kd) op j).1 = sqS (S.beginS kd) op j from rfl, (sq_regs hs' (sq_e h1 j (by omega))).2, b2]
  · have := sq_word hs' hd' h1 hj
    rw [b2, b5, b3] at this
    show (sqS (S.beginS kd) op m).endS.v _ = evN _ _ (wordAt (sqS (S.beginS kd) op m).endS.v (sqS (S.beginS kd) op m).endS.L _) (wordAt (sqS (S.beginS kd) op m).endS.v (sqS (S.beginS kd) op m).endS.L _) (wordAt (sqS (S.beginS kd) op m).endS.v (sqS (S.beginS kd) op m).endS.L _) _
    rw [e1, e2]
    exact this
  · exact (beginS_e (sq_e h1 0 (by omega))).1
/-- A block that may be done is. -/
theorem blk_fine {S : Ms} {kd : Int} {op : Nat → (Nat → Int) → Op6} {m : Nat} (hs : S.skip = 0) (hd : S.dry = false) (he : S.e = 0) (hk0 : S.kind = 0) (hkd : 1 ≤ kd ∧ kd ≤ 3) (ho : ∀ j, j < m → okOp (op j (exR S.L j)) ((S.L + j : Nat) : Int) S.n = true ∧ (op j (exR S.L j)).K ≠ 2) (hm : ((S.L + m : Nat) : Int) ≤ S.most) (hu : S.used + rands op S.L m ≤ S.TN) (hf : rands op S.L m ≤ S.free) :
    (blkS S kd op m).e = 0 ∧ (blkS S kd op m).kind = 0 ∧ (blkS S kd op m).used = S.used + rands op S.L m ∧ (blkS S kd op m).free = S.free - rands op S.L m ∧ (blkS S kd op m).most = S.most ∧ (blkS S kd op m).TN = S.TN := by
  obtain ⟨b1, b2, b3, b4, b5, b6, _⟩ := beginS_v S kd
  have hB := beginS_ext S kd
  have hs' : (S.beginS kd).skip = 0 := hB.skip.trans hs
  have hd' : (S.beginS kd).dry = false := hB.dry.trans hd
  have hbe : S.beginS kd = { S with kind := kd, fr := S.len } := by
    unfold Ms.beginS
    rw [if_neg (by omega), if_neg (by omega)]
  have he' : (S.beginS kd).e = 0 := by rw [hbe]; exact he
  obtain ⟨h1, h2, h3, h4⟩ := sq_fine (op := op) (m := m) hs' hd' he' (by rw [b2, hB.n]; exact ho) (by rw [b2, b6]; exact hm) (by rw [b2, b3, b5]; exact hu) (by rw [b2, b4]; exact hf)
  have hus := sq_used (op := op) hs' hd' h1
  rw [b2] at hus h2
  have hkk : ∀ m, (sqS (S.beginS kd) op m).kind = kd := fun m => by
    induction m with
    | zero => show (S.beginS kd).kind = kd; rw [hbe]
    | succ m ih =>
      rw [sqS_next]
      unfold Ms.doS
      repeat' split
      all_goals exact ih
  have hk := hkk m
  obtain ⟨_, _, e3, e4, e5, e6, _⟩ := endS_v (sqS (S.beginS kd) op m)
  unfold blkS
  refine ⟨?_, ?_, by rw [e3, hus, b3], by rw [e4, h2, b4], by rw [e6, h3, b6], by rw [e5, h4, b5]⟩
  · unfold Ms.endS
    rw [if_neg (by omega), if_neg (by omega)]
    split <;> exact h1
  · unfold Ms.endS
    rw [if_neg (by omega), if_neg (by omega)]
    split <;> rfl
theorem wordAt_nat {v : Nat → Nat} {L i : Nat} (h : i < L) : wordAt v L ((i : Nat) : Int) = v i := by
  unfold wordAt
  rw [if_pos ⟨by omega, by omega⟩, Int.toNat_natCast]

theorem Blk.xor {S : Ms} {kd : Int} {op : Nat → (Nat → Int) → Op6} {m j : Nat} (B : Blk S kd op m) (hj : j < m) {d a b : Int} (h : op j (exR S.L j) = ⟨5, d, a, b, -1, 0⟩) :
    (blkS S kd op m).v (S.L + j) = wordAt (blkS S kd op m).v (blkS S kd op m).L a ^^^ wordAt (blkS S kd op m).v (blkS S kd op m).L b := by
  have := B.word j hj
  rw [h] at this
  exact this.trans (ev5 _ _ _ _ _)
theorem Blk.rand {S : Ms} {kd : Int} {op : Nat → (Nat → Int) → Op6} {m j : Nat} (B : Blk S kd op m) (hj : j < m) {d : Int} {r : Nat} (h : op j (exR S.L j) = ⟨1, d, -1, -1, -1, 0⟩) (hr : rands op S.L j = r) : (blkS S kd op m).v (S.L + j) = S.tw (S.used + r) := by
  have := B.word j hj
  rw [h] at this
  rw [this, hr, if_pos rfl]
  exact ev1 _ _ _ _ _
theorem Blk.at_ {S : Ms} {kd : Int} {op : Nat → (Nat → Int) → Op6} {m j : Nat} (B : Blk S kd op m) (hj : j < m) : wordAt (blkS S kd op m).v (blkS S kd op m).L ((S.L + j : Nat) : Int) = (blkS S kd op m).v (S.L + j) := by
  unfold wordAt
  rw [if_pos ⟨by omega, by rw [B.L]; omega⟩, Int.toNat_natCast]

/-! ### fresh -/
def opF2 (A : Nat → Int) (j : Nat) (r : Nat → Int) : Op6 :=
  match j with
  | 0 => ⟨1, -1, -1, -1, -1, 0⟩
  | 1 => ⟨5, 0, A 0, r 0, -1, 0⟩
  | _ => ⟨5, 1, A 1, r 0, -1, 0⟩
def opF3 (A : Nat → Int) (j : Nat) (r : Nat → Int) : Op6 :=
  match j with
  | 0 => ⟨1, -1, -1, -1, -1, 0⟩
  | 1 => ⟨1, -1, -1, -1, -1, 0⟩
  | 2 => ⟨1, -1, -1, -1, -1, 0⟩
  | 3 => ⟨5, 0, A 0, r 0, -1, 0⟩
  | 4 => ⟨5, 0, r 3, r 1, -1, 0⟩
  | 5 => ⟨5, 1, A 1, r 0, -1, 0⟩
  | 6 => ⟨5, 1, r 5, r 2, -1, 0⟩
  | 7 => ⟨5, 2, A 2, r 1, -1, 0⟩
  | _ => ⟨5, 2, r 7, r 2, -1, 0⟩
def opG3 (A : Nat → Int) (j : Nat) (r : Nat → Int) : Op6 :=
  match j with
  | 0 => ⟨1, -1, -1, -1, -1, 0⟩
  | 1 => ⟨1, -1, -1, -1, -1, 0⟩
  | 2 => ⟨5, 0, A 0, r 0, -1, 0⟩
  | 3 => ⟨5, 0, r 2, r 1, -1, 0⟩
  | 4 => ⟨5, 1, A 1, r 0, -1, 0⟩
  | _ => ⟨5, 2, A 2, r 1, -1, 0⟩
/-- Three registers. -/
def reg3 (a b c : Int) : Nat → Int := fun i => if i = 0 then a else if i = 1 then b else if i = 2 then c else -1
theorem reg3_0 (a b c : Int) : reg3 a b c 0 = a := if_pos rfl
theorem reg3_1 (a b c : Int) : reg3 a b c 1 = b := (if_neg (by decide)).trans (if_pos rfl)
theorem reg3_2 (a b c : Int) : reg3 a b c 2 = c := (if_neg (by decide)).trans ((if_neg (by decide)).trans (if_pos rfl))
def nat3 (a b c : Nat) : Nat → Nat := fun i => if i = 0 then a else if i = 1 then b else c
theorem nat3_0 (a b c : Nat) : nat3 a b c 0 = a := if_pos rfl
theorem nat3_1 (a b c : Nat) : nat3 a b c 1 = b := (if_neg (by decide)).trans (if_pos rfl)
theorem nat3_2 (a b c : Nat) : nat3 a b c 2 = c := (if_neg (by decide)).trans (if_neg (by decide))
theorem reg3_wb {a b c : Int} (ha : I64 a) (hb : I64 b) (hc : I64 c) : Wb (reg3 a b c) := fun i => by
  unfold reg3
  repeat' split
  · exact ha
  · exact hb
  · exact hc
  · exact I64.m1
/-- Which ops: of two shares, of three simply, of three fully. -/
def frO (n : Int) (simple : Bool) (A : Nat → Int) : Nat → (Nat → Int) → Op6 := if n = 3 then (if simple = true then opG3 A else opF3 A) else opF2 A
def frM (n : Int) (simple : Bool) : Nat := if n = 3 then (if simple = true then 6 else 9) else 3
def frS (S : Ms) (simple : Bool) (A : Nat → Int) : Ms := blkS S 2 (frO S.n simple A) (frM S.n simple)
def frR (S : Ms) (simple : Bool) (A : Nat → Int) : Nat → Int :=
  if S.n = 3 then (if simple = true then reg3 (sqr (S.beginS 2) (opG3 A) 3) (sqr (S.beginS 2) (opG3 A) 4) (sqr (S.beginS 2) (opG3 A) 5) else reg3 (sqr (S.beginS 2) (opF3 A) 4) (sqr (S.beginS 2) (opF3 A) 6) (sqr (S.beginS 2) (opF3 A) 8))
  else reg3 (sqr (S.beginS 2) (opF2 A) 1) (sqr (S.beginS 2) (opF2 A) 2) (-1)
theorem rw1 : opwf ⟨1, -1, -1, -1, -1, 0⟩ := ⟨i64c 1 (by decide) (by decide), I64.m1, I64.m1, I64.m1, I64.m1, by show 0 < _; omega⟩
theorem xw5 {d a b : Int} (hd : 0 ≤ d ∧ d ≤ 1000) (ha : I64 a) (hb : I64 b) : opwf ⟨5, d, a, b, -1, 0⟩ := ⟨i64c 5 (by decide) (by decide), i64c d hd.1 hd.2, ha, hb, I64.m1, by show 0 < _; omega⟩
theorem opF2_wf {A r : Nat → Int} (hA : Wb A) (hr : Wb r) (j : Nat) : opwf (opF2 A j r) := by
  unfold opF2
  split
  · exact rw1
  · exact xw5 (by decide) (hA _) (hr _)
  · exact xw5 (by decide) (hA _) (hr _)
theorem opF3_wf {A r : Nat → Int} (hA : Wb A) (hr : Wb r) (j : Nat) : opwf (opF3 A j r) := by
  unfold opF3
  split
  · exact rw1
  · exact rw1
  · exact rw1
  all_goals first | exact xw5 (by decide) (hA _) (hr _) | exact xw5 (by decide) (hr _) (hr _)
theorem opG3_wf {A r : Nat → Int} (hA : Wb A) (hr : Wb r) (j : Nat) : opwf (opG3 A j r) := by
  unfold opG3
  split
  · exact rw1
  · exact rw1
  all_goals first | exact xw5 (by decide) (hA _) (hr _) | exact xw5 (by decide) (hr _) (hr _)
theorem frO_wf {n : Int} {sm : Bool} {A r : Nat → Int} (hA : Wb A) (hr : Wb r) (j : Nat) : opwf (frO n sm A j r) := by
  unfold frO
  repeat' split
  · exact opG3_wf hA hr j
  · exact opF3_wf hA hr j
  · exact opF2_wf hA hr j
theorem frM_le (n : Int) (sm : Bool) : frM n sm ≤ 9 := by unfold frM; repeat' split
                                                          all_goals omega
theorem frS_bq {k : Nat} {S : Ms} (h : Bq k S) (hk : k + 9 ≤ 1000000) {sm : Bool} {A : Nat → Int} (hA : Wb A) : Bq (k + 10) (frS S sm A) := by
  have := frM_le S.n sm
  exact (blk_bq h (kd := 2) (op := frO S.n sm A) (m := frM S.n sm) (fun j _ r hr => frO_wf hA hr j) (by omega)).mono (by omega)
theorem frS_ext (S : Ms) (sm : Bool) (A : Nat → Int) : Ext S (frS S sm A) := blk_ext _ _ _ _
theorem sqr_bd {k : Nat} {S : Ms} (h : Bq k S) {op : Nat → (Nat → Int) → Op6} {m : Nat} (ho : ∀ j, j < m → ∀ r, Wb r → opwf (op j r)) (hk : k + m ≤ 1000000) : I64 (sqr S op m) := doR_bd (sq_bq h ho hk).1 hk _
theorem frR_wb {k : Nat} {S : Ms} (h : Bq k S) (hk : k + 9 ≤ 1000000) {sm : Bool} {A : Nat → Int} (hA : Wb A) : Wb (frR S sm A) := by
  have hB := h.begins 2
  unfold frR
  repeat' split
  · exact reg3_wb (sqr_bd hB (fun j _ r hr => opG3_wf hA hr j) (by omega)) (sqr_bd hB (fun j _ r hr => opG3_wf hA hr j) (by omega)) (sqr_bd hB (fun j _ r hr => opG3_wf hA hr j) (by omega))
  · exact reg3_wb (sqr_bd hB (fun j _ r hr => opF3_wf hA hr j) (by omega)) (sqr_bd hB (fun j _ r hr => opF3_wf hA hr j) (by omega)) (sqr_bd hB (fun j _ r hr => opF3_wf hA hr j) (by omega))
  · exact reg3_wb (sqr_bd hB (fun j _ r hr => opF2_wf hA hr j) (by omega)) (sqr_bd hB (fun j _ r hr => opF2_wf hA hr j) (by omega)) I64.m1
set_option maxHeartbeats 3200000 in
/-- What each share is, made fresh: the shares that there were, and masks. -/
theorem fr_words {S : Ms} {sm : Bool} {A : Nat → Int} (hs : S.skip = 0) (hd : S.dry = false) (hn : S.n = 2 ∨ S.n = 3) (hA : Gw S A) (h : (frS S sm A).e = 0) :
    ∃ q : Nat → Nat, (∀ i, i < 3 → (i < S.sh → frR S sm A i = ((q i : Nat) : Int) ∧ q i < (frS S sm A).L) ∧ (S.sh ≤ i → frR S sm A i = -1)) ∧
      (S.n = 2 → (frS S sm A).v (q 0) = wordAt S.v S.L (A 0) ^^^ S.tw S.used ∧ (frS S sm A).v (q 1) = wordAt S.v S.L (A 1) ^^^ S.tw S.used) ∧
      (S.n = 3 → sm = false → (frS S sm A).v (q 0) = wordAt S.v S.L (A 0) ^^^ S.tw S.used ^^^ S.tw (S.used + 1) ∧ (frS S sm A).v (q 1) = wordAt S.v S.L (A 1) ^^^ S.tw S.used ^^^ S.tw (S.used + 2) ∧ (frS S sm A).v (q 2) = wordAt S.v S.L (A 2) ^^^ S.tw (S.used + 1) ^^^ S.tw (S.used + 2)) ∧
      (S.n = 3 → sm = true → (frS S sm A).v (q 0) = wordAt S.v S.L (A 0) ^^^ S.tw S.used ^^^ S.tw (S.used + 1) ∧ (frS S sm A).v (q 1) = wordAt S.v S.L (A 1) ^^^ S.tw S.used ∧ (frS S sm A).v (q 2) = wordAt S.v S.L (A 2) ^^^ S.tw (S.used + 1)) := by
  have hX := frS_ext S sm A
  have old : ∀ i, i < 3 → wordAt (frS S sm A).v (frS S sm A).L (A i) = wordAt S.v S.L (A i) := fun i hi => wordAt_ext hX (hA.lt i hi)
  have o0 := old 0 (by omega)
  have o1 := old 1 (by omega)
  have o2 := old 2 (by omega)
  unfold frS frR at *
  rcases hn with e | e
  · have hsh : S.sh = 2 := by unfold Ms.sh; omega
    have hO : frO S.n sm A = opF2 A := if_neg (by omega)
    have hM : frM S.n sm = 3 := if_neg (by omega)
    clear hX old
    rw [hO, hM] at h o0 o1 o2 ⊢
    have B := blk_of hs hd h
    have hL := B.L
    refine ⟨nat3 (S.L + 1) (S.L + 2) 0, fun i hi => ⟨fun hi2 => ?_, fun hi2 => ?_⟩, fun _ => ?_, fun q => by omega, fun q => by omega⟩
    · rw [if_neg (by omega), hL]
      rcases (by omega : i = 0 ∨ i = 1) with rfl | rfl
      · rw [reg3_0, B.reg 1 (by omega), nat3_0]; exact ⟨rfl, by omega⟩
      · rw [reg3_1, B.reg 2 (by omega), nat3_1]; exact ⟨rfl, by omega⟩
    · obtain rfl : i = 2 := by omega
      rw [if_neg (by omega), reg3_2]
    · have w0 : (blkS S 2 (opF2 A) 3).v (S.L + 0) = S.tw S.used := B.rand (j := 0) (d := -1) (r := 0) (by omega) rfl (by simp [rands])
      have w1 := B.xor (j := 1) (d := 0) (a := (A 0)) (b := ((S.L + 0 : Nat) : Int)) (by omega) (by simp [opF2, exR])
      rw [o0, B.at_ (j := 0) (by omega), w0] at w1
      have w2 := B.xor (j := 2) (d := 1) (a := (A 1)) (b := ((S.L + 0 : Nat) : Int)) (by omega) (by simp [opF2, exR])
      rw [o1, B.at_ (j := 0) (by omega), w0] at w2
      rw [nat3_0, nat3_1]; exact ⟨w1, w2⟩
  · have hsh : S.sh = 3 := by unfold Ms.sh; omega
    cases sm with
    | true =>
      have hO : frO S.n true A = opG3 A := (if_pos e).trans (if_pos rfl)
      have hM : frM S.n true = 6 := (if_pos e).trans (if_pos rfl)
      clear hX old
      rw [hO, hM] at h o0 o1 o2 ⊢
      have B := blk_of hs hd h
      have hL := B.L
      refine ⟨nat3 (S.L + 3) (S.L + 4) (S.L + 5), fun i hi => ⟨fun _ => ?_, fun hi2 => by omega⟩, fun q => by omega, fun _ q => (Bool.noConfusion q), fun _ _ => ?_⟩
      · rw [if_pos e, if_pos rfl, hL]
        rcases (by omega : i = 0 ∨ i = 1 ∨ i = 2) with rfl | rfl | rfl
        · rw [reg3_0, B.reg 3 (by omega), nat3_0]; exact ⟨rfl, by omega⟩
        · rw [reg3_1, B.reg 4 (by omega), nat3_1]; exact ⟨rfl, by omega⟩
        · rw [reg3_2, B.reg 5 (by omega), nat3_2]; exact ⟨rfl, by omega⟩
      · have w0 : (blkS S 2 (opG3 A) 6).v (S.L + 0) = S.tw S.used := B.rand (j := 0) (d := -1) (r := 0) (by omega) rfl (by simp [rands])
        have w1 := B.rand (j := 1) (d := -1) (r := 1) (by omega) rfl (by simp [rands, opG3])
        have w2 := B.xor (j := 2) (d := 0) (a := (A 0)) (b := ((S.L + 0 : Nat) : Int)) (by omega) (by simp [opG3, exR])
        rw [o0, B.at_ (j := 0) (by omega), w0] at w2
        have w3 := B.xor (j := 3) (d := 0) (a := ((S.L + 2 : Nat) : Int)) (b := ((S.L + 1 : Nat) : Int)) (by omega) (by simp [opG3, exR])
        rw [B.at_ (j := 2) (by omega), w2, B.at_ (j := 1) (by omega), w1] at w3
        have w4 := B.xor (j := 4) (d := 1) (a := (A 1)) (b := ((S.L + 0 : Nat) : Int)) (by omega) (by simp [opG3, exR])
        rw [o1, B.at_ (j := 0) (by omega), w0] at w4
        have w5 := B.xor (j := 5) (d := 2) (a := (A 2)) (b := ((S.L + 1 : Nat) : Int)) (by omega) (by simp [opG3, exR])
        rw [o2, B.at_ (j := 1) (by omega), w1] at w5
        rw [nat3_0, nat3_1, nat3_2]; exact ⟨w3, w4, w5⟩
    | false =>
      have hO : frO S.n false A = opF3 A := (if_pos e).trans (if_neg (by decide))
      have hM : frM S.n false = 9 := (if_pos e).trans (if_neg (by decide))
      clear hX old
      rw [hO, hM] at h o0 o1 o2 ⊢
      have B := blk_of hs hd h
      have hL := B.L
      refine ⟨nat3 (S.L + 4) (S.L + 6) (S.L + 8), fun i hi => ⟨fun _ => ?_, fun hi2 => by omega⟩, fun q => by omega, fun _ _ => ?_, fun _ q => (Bool.noConfusion q)⟩
      · rw [if_pos e, if_neg (by decide), hL]
        rcases (by omega : i = 0 ∨ i = 1 ∨ i = 2) with rfl | rfl | rfl
        · rw [reg3_0, B.reg 4 (by omega), nat3_0]; exact ⟨rfl, by omega⟩
        · rw [reg3_1, B.reg 6 (by omega), nat3_1]; exact ⟨rfl, by omega⟩
        · rw [reg3_2, B.reg 8 (by omega), nat3_2]; exact ⟨rfl, by omega⟩
      · have w0 : (blkS S 2 (opF3 A) 9).v (S.L + 0) = S.tw S.used := B.rand (j := 0) (d := -1) (r := 0) (by omega) rfl (by simp [rands])
        have w1 := B.rand (j := 1) (d := -1) (r := 1) (by omega) rfl (by simp [rands, opF3])
        have w2 := B.rand (j := 2) (d := -1) (r := 2) (by omega) rfl (by simp [rands, opF3])
        have w3 := B.xor (j := 3) (d := 0) (a := (A 0)) (b := ((S.L + 0 : Nat) : Int)) (by omega) (by simp [opF3, exR])
        rw [o0, B.at_ (j := 0) (by omega), w0] at w3
        have w4 := B.xor (j := 4) (d := 0) (a := ((S.L + 3 : Nat) : Int)) (b := ((S.L + 1 : Nat) : Int)) (by omega) (by simp [opF3, exR])
        rw [B.at_ (j := 3) (by omega), w3, B.at_ (j := 1) (by omega), w1] at w4
        have w5 := B.xor (j := 5) (d := 1) (a := (A 1)) (b := ((S.L + 0 : Nat) : Int)) (by omega) (by simp [opF3, exR])
        rw [o1, B.at_ (j := 0) (by omega), w0] at w5
        have w6 := B.xor (j := 6) (d := 1) (a := ((S.L + 5 : Nat) : Int)) (b := ((S.L + 2 : Nat) : Int)) (by omega) (by simp [opF3, exR])
        rw [B.at_ (j := 5) (by omega), w5, B.at_ (j := 2) (by omega), w2] at w6
        have w7 := B.xor (j := 7) (d := 2) (a := (A 2)) (b := ((S.L + 1 : Nat) : Int)) (by omega) (by simp [opF3, exR])
        rw [o2, B.at_ (j := 1) (by omega), w1] at w7
        have w8 := B.xor (j := 8) (d := 2) (a := ((S.L + 7 : Nat) : Int)) (b := ((S.L + 2 : Nat) : Int)) (by omega) (by simp [opF3, exR])
        rw [B.at_ (j := 7) (by omega), w7, B.at_ (j := 2) (by omega), w2] at w8
        rw [nat3_0, nat3_1, nat3_2]; exact ⟨w4, w6, w8⟩
/-- A word that was made fresh stands for what it did. -/
theorem fr_vl {S : Ms} {sm : Bool} {A : Nat → Int} (hs : S.skip = 0) (hd : S.dry = false) (hn : S.n = 2 ∨ S.n = 3) (hA : Gw S A) (h : (frS S sm A).e = 0) :
    vlN (frS S sm A).v (frS S sm A).L (frR S sm A) = vlN S.v S.L A ∧ Gw (frS S sm A) (frR S sm A) := by
  obtain ⟨q, hq, h2, h3, h4⟩ := fr_words hs hd hn hA h
  have at_ : ∀ i, i < 3 → i < S.sh → wordAt (frS S sm A).v (frS S sm A).L (frR S sm A i) = (frS S sm A).v (q i) := fun i hi hj => by
    obtain ⟨e, l⟩ := (hq i hi).1 hj
    rw [e]; exact wordAt_nat l
  have gw : Gw (frS S sm A) (frR S sm A) := ⟨fun i hi => by
      by_cases e : i < S.sh
      · obtain ⟨e1, l⟩ := (hq i hi).1 e
        rw [e1]; omega
      · rw [(hq i hi).2 (by omega)]; omega, fun i hi hj => by
      have e2 : (frS S sm A).sh = S.sh := by unfold Ms.sh; rw [(frS_ext S sm A).n]
      rw [e2] at hi
      rw [(hq i hj).2 hi]; omega⟩
  refine ⟨?_, gw⟩
  rw [vl_three, vl_three]
  rcases hn with e | e
  · have hsh : S.sh = 2 := by unfold Ms.sh; omega
    obtain ⟨a, b⟩ := h2 e
    rw [at_ 0 (by omega) (by omega), at_ 1 (by omega) (by omega), (hq 2 (by omega)).2 (by omega), a, b, wordAt_neg (by omega : (-1 : Int) < 0), wordAt_neg (hA.no 2 (by omega) (by omega))]
    generalize wordAt S.v S.L (A 0) = x
    generalize wordAt S.v S.L (A 1) = y
    generalize S.tw S.used = r
    refine Nat.eq_of_testBit_eq fun j => ?_
    simp only [Nat.testBit_xor]
    cases x.testBit j <;> cases y.testBit j <;> cases r.testBit j <;> rfl
  · have hsh : S.sh = 3 := by unfold Ms.sh; omega
    rw [at_ 0 (by omega) (by omega), at_ 1 (by omega) (by omega), at_ 2 (by omega) (by omega)]
    cases sm with
    | true =>
      obtain ⟨a, b, c⟩ := h4 e rfl
      rw [a, b, c]
      generalize wordAt S.v S.L (A 0) = x
      generalize wordAt S.v S.L (A 1) = y
      generalize wordAt S.v S.L (A 2) = z
      generalize S.tw S.used = r
      generalize S.tw (S.used + 1) = s
      refine Nat.eq_of_testBit_eq fun j => ?_
      simp only [Nat.testBit_xor]
      cases x.testBit j <;> cases y.testBit j <;> cases z.testBit j <;> cases r.testBit j <;> cases s.testBit j <;> rfl
    | false =>
      obtain ⟨a, b, c⟩ := h3 e rfl
      rw [a, b, c]
      generalize wordAt S.v S.L (A 0) = x
      generalize wordAt S.v S.L (A 1) = y
      generalize wordAt S.v S.L (A 2) = z
      generalize S.tw S.used = r
      generalize S.tw (S.used + 1) = s
      generalize S.tw (S.used + 2) = t
      refine Nat.eq_of_testBit_eq fun j => ?_
      simp only [Nat.testBit_xor]
      cases x.testBit j <;> cases y.testBit j <;> cases z.testBit j <;> cases r.testBit j <;> cases s.testBit j <;> cases t.testBit j <;> rfl
end Go.Proofs.YtpjgpiieminaoaaGreatDoor

/- General: masks drawn into an array, shares covered by masks, two shares a mask: the ops of fresh. No program is named. -/
namespace Go.Proofs.YtpjgpiieminaoaaGreatDoor

/-- Is mask k put to share i, of c masks? Each mask is put to all but one of three shares. -/
def tch (c i k : Nat) : Bool := decide (k < c) && decide (i + k ≠ 2)
abbrev rnd6 : Op6 := ⟨1, -1, -1, -1, -1, 0⟩
abbrev xr6 (i : Nat) (r z : Int) : Op6 := ⟨5, (i : Int), r, z, -1, 0⟩
section
variable (dS : Ms → Op6 → Ms) (dR : Ms → Op6 → Int)
/-- Masks, into an array of zeros. -/
def drG (S : Ms) : Nat → Ms × (Nat → Int)
  | 0 => (S, fun _ => 0)
  | j + 1 => (dS (drG S j).1 rnd6, updI (drG S j).2 j (dR (drG S j).1 rnd6))
/-- A share with the first k pairs gone through. -/
def cvG (c i : Nat) (mk : Nat → Int) (S : Ms) (r : Int) : Nat → Ms × Int
  | 0 => (S, r)
  | k + 1 => if tch c i k = true then (dS (cvG c i mk S r k).1 (xr6 i (cvG c i mk S r k).2 (mk k)), dR (cvG c i mk S r k).1 (xr6 i (cvG c i mk S r k).2 (mk k))) else cvG c i mk S r k
/-- The first i shares. -/
def nwG (c : Nat) (mk A : Nat → Int) (S : Ms) : Nat → Ms × (Nat → Int)
  | 0 => (S, none3)
  | i + 1 => ((cvG dS dR c i mk (nwG c mk A S i).1 (A i) 3).1, updI (nwG c mk A S i).2 i (cvG dS dR c i mk (nwG c mk A S i).1 (A i) 3).2)
def sqG (S : Ms) (op : Nat → (Nat → Int) → Op6) : Nat → Ms × (Nat → Int)
  | 0 => (S, none3)
  | m + 1 => (dS (sqG S op m).1 (op m (sqG S op m).2), updI (sqG S op m).2 m (dR (sqG S op m).1 (op m (sqG S op m).2)))
def sqgR (S : Ms) (op : Nat → (Nat → Int) → Op6) (m : Nat) : Int := dR (sqG dS dR S op m).1 (op m (sqG dS dR S op m).2)
def anG (n c : Nat) (A : Nat → Int) (S : Ms) : Ms × (Nat → Int) := nwG dS dR c (drG dS dR S c).2 A (drG dS dR S c).1 n
theorem an2 (A : Nat → Int) (S : Ms) : (anG dS dR 2 1 A S).1 = (sqG dS dR S (opF2 A) 3).1 ∧ (anG dS dR 2 1 A S).2 0 = sqgR dS dR S (opF2 A) 1 ∧ (anG dS dR 2 1 A S).2 1 = sqgR dS dR S (opF2 A) 2 ∧ (anG dS dR 2 1 A S).2 2 = -1 := ⟨rfl, rfl, rfl, rfl⟩
theorem an3s (A : Nat → Int) (S : Ms) : (anG dS dR 3 2 A S).1 = (sqG dS dR S (opG3 A) 6).1 ∧ (anG dS dR 3 2 A S).2 0 = sqgR dS dR S (opG3 A) 3 ∧ (anG dS dR 3 2 A S).2 1 = sqgR dS dR S (opG3 A) 4 ∧ (anG dS dR 3 2 A S).2 2 = sqgR dS dR S (opG3 A) 5 := ⟨rfl, rfl, rfl, rfl⟩
theorem an3f (A : Nat → Int) (S : Ms) : (anG dS dR 3 3 A S).1 = (sqG dS dR S (opF3 A) 9).1 ∧ (anG dS dR 3 3 A S).2 0 = sqgR dS dR S (opF3 A) 4 ∧ (anG dS dR 3 3 A S).2 1 = sqgR dS dR S (opF3 A) 6 ∧ (anG dS dR 3 3 A S).2 2 = sqgR dS dR S (opF3 A) 8 := ⟨rfl, rfl, rfl, rfl⟩
end
/-- At the machine. -/
def dS0 (S : Ms) (o : Op6) : Ms := S.doS o 0
def dR0 (S : Ms) (o : Op6) : Int := S.doR o
theorem sq_G (S : Ms) (op : Nat → (Nat → Int) → Op6) : ∀ m, sqG dS0 dR0 S op m = sq S op m
  | 0 => rfl
  | m + 1 => by
    have ih := sq_G S op m
    unfold sqG sq
    rw [ih]
    rfl
theorem sqr_G (S : Ms) (op : Nat → (Nat → Int) → Op6) (m : Nat) : sqgR dS0 dR0 S op m = sqr S op m := by
  unfold sqgR sqr sqO sqS sqR
  rw [sq_G]
  rfl
/-- What fresh's function leaves and tells, of n shares and c masks. -/
def anS (n c : Nat) (A : Nat → Int) (S : Ms) : Ms := (anG dS0 dR0 n c A (S.beginS 2)).1.endS
def anR (n c : Nat) (A : Nat → Int) (S : Ms) : Nat → Int := (anG dS0 dR0 n c A (S.beginS 2)).2
/-- How many masks. -/
def frC (n : Int) (simple : Bool) : Nat := if n = 3 then (if simple = true then 2 else 3) else 1
theorem an_fr {S : Ms} {sm : Bool} {A : Nat → Int} (hn : S.n = 2 ∨ S.n = 3) : anS S.sh (frC S.n sm) A S = frS S sm A ∧ ∀ i, i < 3 → anR S.sh (frC S.n sm) A S i = frR S sm A i := by
  unfold frS frR frO frM frC anS anR blkS sqS
  rcases hn with e | e
  · have hsh : S.sh = 2 := by unfold Ms.sh; omega
    have h3 : ¬ S.n = 3 := by omega
    rw [hsh, if_neg h3, if_neg h3, if_neg h3, if_neg h3]
    obtain ⟨a, b, c, d⟩ := an2 dS0 dR0 A (S.beginS 2)
    rw [a, sq_G]
    refine ⟨rfl, fun i hi => ?_⟩
    rcases (by omega : i = 0 ∨ i = 1 ∨ i = 2) with rfl | rfl | rfl
    · rw [b, sqr_G, reg3_0]
    · rw [c, sqr_G, reg3_1]
    · rw [d, reg3_2]
  · have hsh : S.sh = 3 := by unfold Ms.sh; omega
    rw [hsh, if_pos e, if_pos e, if_pos e, if_pos e]
    cases sm with
    | true =>
      rw [if_pos rfl, if_pos rfl, if_pos rfl, if_pos rfl]
      obtain ⟨a, b, c, d⟩ := an3s dS0 dR0 A (S.beginS 2)
      rw [a, sq_G]
      refine ⟨rfl, fun i hi => ?_⟩
      rcases (by omega : i = 0 ∨ i = 1 ∨ i = 2) with rfl | rfl | rfl
      · rw [b, sqr_G, reg3_0]
      · rw [c, sqr_G, reg3_1]
      · rw [d, sqr_G, reg3_2]
    | false =>
      rw [if_neg (by decide), if_neg (by decide), if_neg (by decide), if_neg (by decide)]
      obtain ⟨a, b, c, d⟩ := an3f dS0 dR0 A (S.beginS 2)
      rw [a, sq_G]
      refine ⟨rfl, fun i hi => ?_⟩
      rcases (by omega : i = 0 ∨ i = 1 ∨ i = 2) with rfl | rfl | rfl
      · rw [b, sqr_G, reg3_0]
      · rw [c, sqr_G, reg3_1]
      · rw [d, sqr_G, reg3_2]
/-- Bounds. -/
theorem xr6_wf {i : Nat} {r z : Int} (hi : i ≤ 1000) (hr : I64 r) (hz : I64 z) : opwf (xr6 i r z) := xw5 (by omega) hr hz
theorem zero_wb : Wb (fun _ => 0) := fun _ => i64c 0 (by decide) (by decide)
theorem dr_bq {k : Nat} {S : Ms} (h : Bq k S) : ∀ {j}, k + j ≤ 1000000 → Bq (k + j) (drG dS0 dR0 S j).1 ∧ Wb (drG dS0 dR0 S j).2
  | 0, _ => ⟨h, zero_wb⟩
  | j + 1, hk => by
    obtain ⟨h1, h2⟩ := dr_bq h (j := j) (by omega)
    exact ⟨h1.does rw1 (by decide), h2.upd (doR_bd h1 (by omega) _)⟩
theorem cv_bq {k c i : Nat} {S : Ms} {mk : Nat → Int} {r : Int} (h : Bq k S) (hi : i ≤ 1000) (hm : Wb mk) (hr : I64 r) : ∀ {j}, k + j ≤ 1000000 → Bq (k + j) (cvG dS0 dR0 c i mk S r j).1 ∧ I64 (cvG dS0 dR0 c i mk S r j).2
  | 0, _ => ⟨h, hr⟩
  | j + 1, hk => by
    obtain ⟨h1, h2⟩ := cv_bq (c := c) h hi hm hr (j := j) (by omega)
    unfold cvG
    split
    · exact ⟨h1.does (xr6_wf hi h2 (hm j)) (by decide), doR_bd h1 (by omega) _⟩
    · exact ⟨h1.mono (by omega), h2⟩
theorem nw_bq {k c : Nat} {S : Ms} {mk A : Nat → Int} (h : Bq k S) (hm : Wb mk) (hA : Wb A) : ∀ {i}, i ≤ 1000 → k + 3 * i ≤ 1000000 → Bq (k + 3 * i) (nwG dS0 dR0 c mk A S i).1 ∧ Wb (nwG dS0 dR0 c mk A S i).2
  | 0, _, _ => ⟨h, none3_wb⟩
  | i + 1, hi, hk => by
    obtain ⟨h1, h2⟩ := nw_bq (c := c) h hm hA (i := i) (by omega) (by omega)
    obtain ⟨g1, g2⟩ := cv_bq (c := c) (i := i) h1 (by omega) hm (hA i) (j := 3) (by omega)
    exact ⟨g1.mono (by omega), h2.upd g2⟩
theorem cv_yes {c i k : Nat} (mk : Nat → Int) (S : Ms) (r : Int) (h : tch c i k = true) : (cvG dS0 dR0 c i mk S r (k + 1)).1 = (cvG dS0 dR0 c i mk S r k).1.doS (xr6 i (cvG dS0 dR0 c i mk S r k).2 (mk k)) 0 ∧ (cvG dS0 dR0 c i mk S r (k + 1)).2 = (cvG dS0 dR0 c i mk S r k).1.doR (xr6 i (cvG dS0 dR0 c i mk S r k).2 (mk k)) := by
  have e : cvG dS0 dR0 c i mk S r (k + 1) = _ := if_pos h
  rw [e]
  exact ⟨rfl, rfl⟩
theorem cv_no {c i k : Nat} (mk : Nat → Int) (S : Ms) (r : Int) (h : tch c i k = false) : cvG dS0 dR0 c i mk S r (k + 1) = cvG dS0 dR0 c i mk S r k := if_neg (by rw [h]; decide)
end Go.Proofs.YtpjgpiieminaoaaGreatDoor
