import Derived.Test.YtpjgpiieminaoaaDoorWma
import Derived.Test.YtpjgpiieminaoaaDoorProg
import Derived.Test.YtpjgpiieminaoaaDoorTie
import Derived.Test.YtpjgpiieminaoaaDoorCards
import Derived.Test.YtpjgpiieminaoaaDoorGen
import Derived.Stop.LaidErr
import Derived.Lib.LaidTab
import Derived.Lay
import Derived.ChangeMaps5
import Derived.SevenTiedAt
/- General: words that get new masks. No program is named. -/
namespace Go.Proofs.YtpjgpiieminaoaaDoor

/-- A block of ops. -/
def blkS (S : Ms) (kd : Int) (op : Nat → (Nat → Int) → Op6) (m : Nat) : Ms := (sqS (S.beginS kd) op m).endS
theorem endS_e {S : Ms} (h : S.endS.e = 0) : S.e = 0 ∧ S.kind ≠ 0 := by
  unfold Ms.endS at h
  by_cases e : S.e = 0
  · refine ⟨e, fun k => ?_⟩
    rw [if_neg (by omega), if_pos k] at h
    simp at h
  · rw [if_pos e] at h; exact absurd h e
theorem endS_v (S : Ms) : S.endS.v = S.v ∧ S.endS.L = S.L ∧ S.endS.used = S.used ∧ S.endS.free = S.free ∧ S.endS.TN = S.TN ∧ S.endS.most = S.most ∧ S.endS.words = S.words := by
  unfold Ms.endS
  repeat' split
  all_goals exact ⟨rfl, rfl, rfl, rfl, rfl, rfl, rfl⟩
theorem beginS_v (S : Ms) (k : Int) : (S.beginS k).v = S.v ∧ (S.beginS k).L = S.L ∧ (S.beginS k).used = S.used ∧ (S.beginS k).free = S.free ∧ (S.beginS k).TN = S.TN ∧ (S.beginS k).most = S.most ∧ (S.beginS k).words = S.words := by
  unfold Ms.beginS
  repeat' split
  all_goals exact ⟨rfl, rfl, rfl, rfl, rfl, rfl, rfl⟩
theorem beginS_e {S : Ms} {k : Int} (h : (S.beginS k).e = 0) : S.e = 0 ∧ S.kind = 0 := by
  unfold Ms.beginS at h
  by_cases e : S.e = 0
  · rw [if_neg (by omega)] at h
    refine ⟨e, ?_⟩
    by_cases q : S.kind ≠ 0 ∨ k < 1 ∨ 3 < k
    · rw [if_pos q] at h; simp at h
    · omega
  · rw [if_pos e] at h; exact absurd h e
theorem blk_ext (S : Ms) (kd : Int) (op : Nat → (Nat → Int) → Op6) (m : Nat) : Ext S (blkS S kd op m) := ((beginS_ext S kd).trans (sq_ext _ _ _)).trans (endS_ext _)
theorem blk_bq {k : Nat} {S : Ms} (h : Bq k S) {kd : Int} {op : Nat → (Nat → Int) → Op6} {m : Nat} (ho : ∀ j, j < m → ∀ r, Wb r → opwf (op j r)) (hk : k + m ≤ 1000000) : Bq (k + m + 1) (blkS S kd op m) := ((sq_bq (h.begins kd) ho hk).1.ends hk)
/-- Where a block is done: its ops' words, and registers. -/
structure Blk (S : Ms) (kd : Int) (op : Nat → (Nat → Int) → Op6) (m : Nat) : Prop where
  L : (blkS S kd op m).L = S.L + m
  reg : ∀ j, j < m → sqr (S.beginS kd) op j = ((S.L + j : Nat) : Int)
  word : ∀ j, j < m → (blkS S kd op m).v (S.L + j) = evN (op j (exR S.L j)).K (op j (exR S.L j)).C (wordAt (blkS S kd op m).v (blkS S kd op m).L (op j (exR S.L j)).A) (wordAt (blkS S kd op m).v (blkS S kd op m).L (op j (exR S.L j)).B) (wordAt (blkS S kd op m).v (blkS S kd op m).L (op j (exR S.L j)).E) (if (op j (exR S.L j)).K = 1 then S.tw (S.used + rands op S.L j) else 0)
  e : S.e = 0
theorem blk_of {S : Ms} {kd : Int} {op : Nat → (Nat → Int) → Op6} {m : Nat} (hs : S.skip = 0) (hd : S.dry = false) (h : (blkS S kd op m).e = 0) : Blk S kd op m := by
  have h1 : (sqS (S.beginS kd) op m).e = 0 := (endS_e h).1
  have hB := beginS_ext S kd
  obtain ⟨b1, b2, b3, _⟩ := beginS_v S kd
  obtain ⟨_, b5, _⟩ := beginS_n S kd
  obtain ⟨e1, e2, _⟩ := endS_v (sqS (S.beginS kd) op m)
  have hs' : (S.beginS kd).skip = 0 := hB.skip.trans hs
  have hd' : (S.beginS kd).dry = false := hB.dry.trans hd
  refine ⟨?_, fun j hj => ?_, fun j hj => ?_, ?_⟩
  · show (sqS (S.beginS kd) op m).endS.L = _
    rw [e2, (sq_regs hs' h1).2, b2]
  · have hj0 := sq_e h1 (j + 1) (by omega)
    have := (do_word hj0 ((sq_ext _ op j).skip.trans hs')).1
    show (sqS (S.beginS kd) op j).doR _ = _
    refine Eq.trans this ?_
    rw [show (sq (S.beginS kd) op j).1 = sqS (S.beginS kd) op j from rfl, (sq_regs hs' (sq_e h1 j (by omega))).2, b2]
  · have := sq_word hs' hd' h1 hj
    rw [b2, b5, b3] at this
    show (sqS (S.beginS kd) op m).endS.v _ = evN _ _ (wordAt (sqS (S.beginS kd) op m).endS.v (sqS (S.beginS kd) op m).endS.L _) (wordAt (sqS (S.beginS kd) op m).endS.v (sqS (S.beginS kd) op m).endS.L _) (wordAt (sqS (S.beginS kd) op m).endS.v (sqS (S.beginS kd) op m).endS.L _) _
    rw [e1, e2]
    exact this
  · exact (beginS_e (sq_e h1 0 (by omega))).1
/-- A block that may be done is. -/
theorem blk_fine {S : Ms} {kd : Int} {op : Nat → (Nat → Int) → Op6} {m : Nat} (hs : S.skip = 0) (hd : S.dry = false) (he : S.e = 0) (hk0 : S.kind = 0) (hkd : 1 ≤ kd ∧ kd ≤ 3) (ho : ∀ j, j < m → okOp (op j (exR S.L j)) ((S.L + j : Nat) : Int) S.n = true ∧ (op j (exR S.L j)).K ≠ 2) (hm : ((S.L + m : Nat) : Int) ≤ S.most) (hu : S.used + rands op S.L m ≤ S.TN) (hf : rands op S.L m ≤ S.free) :
    (blkS S kd op m).e = 0 ∧ (blkS S kd op m).kind = 0 ∧ (blkS S kd op m).used = S.used + rands op S.L m ∧ (blkS S kd op m).free = S.free - rands op S.L m ∧ (blkS S kd op m).most = S.most ∧ (blkS S kd op m).TN = S.TN := by
  obtain ⟨b1, b2, b3, b4, b5, b6, _⟩ := beginS_v S kd
  have hB := beginS_ext S kd
  have hs' : (S.beginS kd).skip = 0 := hB.skip.trans hs
  have hd' : (S.beginS kd).dry = false := hB.dry.trans hd
  have hbe : S.beginS kd = { S with kind := kd, fr := S.len } := by
    unfold Ms.beginS
    rw [if_neg (by omega), if_neg (by omega)]
  have he' : (S.beginS kd).e = 0 := by rw [hbe]; exact he
  obtain ⟨h1, h2, h3, h4⟩ := sq_fine (op := op) (m := m) hs' hd' he' (by rw [b2, hB.n]; exact ho) (by rw [b2, b6]; exact hm) (by rw [b2, b3, b5]; exact hu) (by rw [b2, b4]; exact hf)
  have hus := sq_used (op := op) hs' hd' h1
  rw [b2] at hus h2
  have hkk : ∀ m, (sqS (S.beginS kd) op m).kind = kd := fun m => by
    induction m with
    | zero => show (S.beginS kd).kind = kd; rw [hbe]
    | succ m ih =>
      rw [sqS_next]
      unfold Ms.doS
      repeat' split
      all_goals exact ih
  have hk := hkk m
  obtain ⟨_, _, e3, e4, e5, e6, _⟩ := endS_v (sqS (S.beginS kd) op m)
  unfold blkS
  refine ⟨?_, ?_, by rw [e3, hus, b3], by rw [e4, h2, b4], by rw [e6, h3, b6], by rw [e5, h4, b5]⟩
  · unfold Ms.endS
    rw [if_neg (by omega), if_neg (by omega)]
    split <;> exact h1
  · unfold Ms.endS
    rw [if_neg (by omega), if_neg (by omega)]
    split <;> rfl
theorem wordAt_nat {v : Nat → Nat} {L i : Nat} (h : i < L) : wordAt v L ((i : Nat) : Int) = v i := by
  unfold wordAt
  rw [if_pos ⟨by omega, by omega⟩, Int.toNat_natCast]

theorem Blk.xor {S : Ms} {kd : Int} {op : Nat → (Nat → Int) → Op6} {m j : Nat} (B : Blk S kd op m) (hj : j < m) {d a b : Int} (h : op j (exR S.L j) = ⟨5, d, a, b, -1, 0⟩) :
    (blkS S kd op m).v (S.L + j) = wordAt (blkS S kd op m).v (blkS S kd op m).L a ^^^ wordAt (blkS S kd op m).v (blkS S kd op m).L b := by
  have := B.word j hj
  rw [h] at this
  exact this.trans (ev5 _ _ _ _ _)
theorem Blk.rand {S : Ms} {kd : Int} {op : Nat → (Nat → Int) → Op6} {m j : Nat} (B : Blk S kd op m) (hj : j < m) {d : Int} {r : Nat} (h : op j (exR S.L j) = ⟨1, d, -1, -1, -1, 0⟩) (hr : rands op S.L j = r) : (blkS S kd op m).v (S.L + j) = S.tw (S.used + r) := by
  have := B.word j hj
  rw [h] at this
  rw [this, hr, if_pos rfl]
  exact ev1 _ _ _ _ _
theorem Blk.at_ {S : Ms} {kd : Int} {op : Nat → (Nat → Int) → Op6} {m j : Nat} (B : Blk S kd op m) (hj : j < m) : wordAt (blkS S kd op m).v (blkS S kd op m).L ((S.L + j : Nat) : Int) = (blkS S kd op m).v (S.L + j) := by
  unfold wordAt
  rw [if_pos ⟨by omega, by rw [B.L]; omega⟩, Int.toNat_natCast]

/-! ### fresh -/
def opF2 (A : Nat → Int) (j : Nat) (r : Nat → Int) : Op6 :=
  match j with
  | 0 => ⟨1, -1, -1, -1, -1, 0⟩
  | 1 => ⟨5, 0, A 0, r 0, -1, 0⟩
  | _ => ⟨5, 1, A 1, r 0, -1, 0⟩
def opF3 (A : Nat → Int) (j : Nat) (r : Nat → Int) : Op6 :=
  match j with
  | 0 => ⟨1, -1, -1, -1, -1, 0⟩
  | 1 => ⟨1, -1, -1, -1, -1, 0⟩
  | 2 => ⟨1, -1, -1, -1, -1, 0⟩
  | 3 => ⟨5, 0, A 0, r 0, -1, 0⟩
  | 4 => ⟨5, 0, r 3, r 1, -1, 0⟩
  | 5 => ⟨5, 1, A 1, r 0, -1, 0⟩
  | 6 => ⟨5, 1, r 5, r 2, -1, 0⟩
  | 7 => ⟨5, 2, A 2, r 1, -1, 0⟩
  | _ => ⟨5, 2, r 7, r 2, -1, 0⟩
def opG3 (A : Nat → Int) (j : Nat) (r : Nat → Int) : Op6 :=
  match j with
  | 0 => ⟨1, -1, -1, -1, -1, 0⟩
  | 1 => ⟨1, -1, -1, -1, -1, 0⟩
  | 2 => ⟨5, 0, A 0, r 0, -1, 0⟩
  | 3 => ⟨5, 0, r 2, r 1, -1, 0⟩
  | 4 => ⟨5, 1, A 1, r 0, -1, 0⟩
  | _ => ⟨5, 2, A 2, r 1, -1, 0⟩
/-- Three registers. -/
def reg3 (a b c : Int) : Nat → Int := fun i => if i = 0 then a else if i = 1 then b else if i = 2 then c else -1
theorem reg3_0 (a b c : Int) : reg3 a b c 0 = a := if_pos rfl
theorem reg3_1 (a b c : Int) : reg3 a b c 1 = b := (if_neg (by decide)).trans (if_pos rfl)
theorem reg3_2 (a b c : Int) : reg3 a b c 2 = c := (if_neg (by decide)).trans ((if_neg (by decide)).trans (if_pos rfl))
def nat3 (a b c : Nat) : Nat → Nat := fun i => if i = 0 then a else if i = 1 then b else c
theorem nat3_0 (a b c : Nat) : nat3 a b c 0 = a := if_pos rfl
theorem nat3_1 (a b c : Nat) : nat3 a b c 1 = b := (if_neg (by decide)).trans (if_pos rfl)
theorem nat3_2 (a b c : Nat) : nat3 a b c 2 = c := (if_neg (by decide)).trans (if_neg (by decide))
theorem reg3_wb {a b c : Int} (ha : I64 a) (hb : I64 b) (hc : I64 c) : Wb (reg3 a b c) := fun i => by
  unfold reg3
  repeat' split
  · exact ha
  · exact hb
  · exact hc
  · exact I64.m1
/-- Which ops: of two shares, of three simply, of three fully. -/
def frO (n : Int) (simple : Bool) (A : Nat → Int) : Nat → (Nat → Int) → Op6 := if n = 3 then (if simple = true then opG3 A else opF3 A) else opF2 A
def frM (n : Int) (simple : Bool) : Nat := if n = 3 then (if simple = true then 6 else 9) else 3
def frS (S : Ms) (simple : Bool) (A : Nat → Int) : Ms := blkS S 2 (frO S.n simple A) (frM S.n simple)
def frR (S : Ms) (simple : Bool) (A : Nat → Int) : Nat → Int :=
  if S.n = 3 then (if simple = true then reg3 (sqr (S.beginS 2) (opG3 A) 3) (sqr (S.beginS 2) (opG3 A) 4) (sqr (S.beginS 2) (opG3 A) 5) else reg3 (sqr (S.beginS 2) (opF3 A) 4) (sqr (S.beginS 2) (opF3 A) 6) (sqr (S.beginS 2) (opF3 A) 8))
  else reg3 (sqr (S.beginS 2) (opF2 A) 1) (sqr (S.beginS 2) (opF2 A) 2) (-1)
theorem rw1 : opwf ⟨1, -1, -1, -1, -1, 0⟩ := ⟨i64c 1 (by decide) (by decide), I64.m1, I64.m1, I64.m1, I64.m1, by show 0 < _; omega⟩
theorem xw5 {d a b : Int} (hd : 0 ≤ d ∧ d ≤ 1000) (ha : I64 a) (hb : I64 b) : opwf ⟨5, d, a, b, -1, 0⟩ := ⟨i64c 5 (by decide) (by decide), i64c d hd.1 hd.2, ha, hb, I64.m1, by show 0 < _; omega⟩
theorem opF2_wf {A r : Nat → Int} (hA : Wb A) (hr : Wb r) (j : Nat) : opwf (opF2 A j r) := by
  unfold opF2
  split
  · exact rw1
  · exact xw5 (by decide) (hA _) (hr _)
  · exact xw5 (by decide) (hA _) (hr _)
theorem opF3_wf {A r : Nat → Int} (hA : Wb A) (hr : Wb r) (j : Nat) : opwf (opF3 A j r) := by
  unfold opF3
  split
  · exact rw1
  · exact rw1
  · exact rw1
  all_goals first | exact xw5 (by decide) (hA _) (hr _) | exact xw5 (by decide) (hr _) (hr _)
theorem opG3_wf {A r : Nat → Int} (hA : Wb A) (hr : Wb r) (j : Nat) : opwf (opG3 A j r) := by
  unfold opG3
  split
  · exact rw1
  · exact rw1
  all_goals first | exact xw5 (by decide) (hA _) (hr _) | exact xw5 (by decide) (hr _) (hr _)
theorem frO_wf {n : Int} {sm : Bool} {A r : Nat → Int} (hA : Wb A) (hr : Wb r) (j : Nat) : opwf (frO n sm A j r) := by
  unfold frO
  repeat' split
  · exact opG3_wf hA hr j
  · exact opF3_wf hA hr j
  · exact opF2_wf hA hr j
theorem frM_le (n : Int) (sm : Bool) : frM n sm ≤ 9 := by unfold frM; repeat' split
                                                          all_goals omega
theorem frS_bq {k : Nat} {S : Ms} (h : Bq k S) (hk : k + 9 ≤ 1000000) {sm : Bool} {A : Nat → Int} (hA : Wb A) : Bq (k + 10) (frS S sm A) := by
  have := frM_le S.n sm
  exact (blk_bq h (kd := 2) (op := frO S.n sm A) (m := frM S.n sm) (fun j _ r hr => frO_wf hA hr j) (by omega)).mono (by omega)
theorem frS_ext (S : Ms) (sm : Bool) (A : Nat → Int) : Ext S (frS S sm A) := blk_ext _ _ _ _
theorem sqr_bd {k : Nat} {S : Ms} (h : Bq k S) {op : Nat → (Nat → Int) → Op6} {m : Nat} (ho : ∀ j, j < m → ∀ r, Wb r → opwf (op j r)) (hk : k + m ≤ 1000000) : I64 (sqr S op m) := doR_bd (sq_bq h ho hk).1 hk _
theorem frR_wb {k : Nat} {S : Ms} (h : Bq k S) (hk : k + 9 ≤ 1000000) {sm : Bool} {A : Nat → Int} (hA : Wb A) : Wb (frR S sm A) := by
  have hB := h.begins 2
  unfold frR
  repeat' split
  · exact reg3_wb (sqr_bd hB (fun j _ r hr => opG3_wf hA hr j) (by omega)) (sqr_bd hB (fun j _ r hr => opG3_wf hA hr j) (by omega)) (sqr_bd hB (fun j _ r hr => opG3_wf hA hr j) (by omega))
  · exact reg3_wb (sqr_bd hB (fun j _ r hr => opF3_wf hA hr j) (by omega)) (sqr_bd hB (fun j _ r hr => opF3_wf hA hr j) (by omega)) (sqr_bd hB (fun j _ r hr => opF3_wf hA hr j) (by omega))
  · exact reg3_wb (sqr_bd hB (fun j _ r hr => opF2_wf hA hr j) (by omega)) (sqr_bd hB (fun j _ r hr => opF2_wf hA hr j) (by omega)) I64.m1
set_option maxHeartbeats 3200000 in
/-- What each share is, made fresh: the shares that there were, and masks. -/
theorem fr_words {S : Ms} {sm : Bool} {A : Nat → Int} (hs : S.skip = 0) (hd : S.dry = false) (hn : S.n = 2 ∨ S.n = 3) (hA : Gw S A) (h : (frS S sm A).e = 0) :
    ∃ q : Nat → Nat, (∀ i, i < 3 → (i < S.sh → frR S sm A i = ((q i : Nat) : Int) ∧ q i < (frS S sm A).L) ∧ (S.sh ≤ i → frR S sm A i = -1)) ∧
      (S.n = 2 → (frS S sm A).v (q 0) = wordAt S.v S.L (A 0) ^^^ S.tw S.used ∧ (frS S sm A).v (q 1) = wordAt S.v S.L (A 1) ^^^ S.tw S.used) ∧
      (S.n = 3 → sm = false → (frS S sm A).v (q 0) = wordAt S.v S.L (A 0) ^^^ S.tw S.used ^^^ S.tw (S.used + 1) ∧ (frS S sm A).v (q 1) = wordAt S.v S.L (A 1) ^^^ S.tw S.used ^^^ S.tw (S.used + 2) ∧ (frS S sm A).v (q 2) = wordAt S.v S.L (A 2) ^^^ S.tw (S.used + 1) ^^^ S.tw (S.used + 2)) ∧
      (S.n = 3 → sm = true → (frS S sm A).v (q 0) = wordAt S.v S.L (A 0) ^^^ S.tw S.used ^^^ S.tw (S.used + 1) ∧ (frS S sm A).v (q 1) = wordAt S.v S.L (A 1) ^^^ S.tw S.used ∧ (frS S sm A).v (q 2) = wordAt S.v S.L (A 2) ^^^ S.tw (S.used + 1)) := by
  have hX := frS_ext S sm A
  have old : ∀ i, i < 3 → wordAt (frS S sm A).v (frS S sm A).L (A i) = wordAt S.v S.L (A i) := fun i hi => wordAt_ext hX (hA.lt i hi)
  have o0 := old 0 (by omega)
  have o1 := old 1 (by omega)
  have o2 := old 2 (by omega)
  unfold frS frR at *
  rcases hn with e | e
  · have hsh : S.sh = 2 := by unfold Ms.sh; omega
    have hO : frO S.n sm A = opF2 A := if_neg (by omega)
    have hM : frM S.n sm = 3 := if_neg (by omega)
    clear hX old
    rw [hO, hM] at h o0 o1 o2 ⊢
    have B := blk_of hs hd h
    have hL := B.L
    refine ⟨nat3 (S.L + 1) (S.L + 2) 0, fun i hi => ⟨fun hi2 => ?_, fun hi2 => ?_⟩, fun _ => ?_, fun q => by omega, fun q => by omega⟩
    · rw [if_neg (by omega), hL]
      rcases (by omega : i = 0 ∨ i = 1) with rfl | rfl
      · rw [reg3_0, B.reg 1 (by omega), nat3_0]; exact ⟨rfl, by omega⟩
      · rw [reg3_1, B.reg 2 (by omega), nat3_1]; exact ⟨rfl, by omega⟩
    · obtain rfl : i = 2 := by omega
      rw [if_neg (by omega), reg3_2]
    · have w0 : (blkS S 2 (opF2 A) 3).v (S.L + 0) = S.tw S.used := B.rand (j := 0) (d := -1) (r := 0) (by omega) rfl (by simp [rands])
      have w1 := B.xor (j := 1) (d := 0) (a := (A 0)) (b := ((S.L + 0 : Nat) : Int)) (by omega) (by simp [opF2, exR])
      rw [o0, B.at_ (j := 0) (by omega), w0] at w1
      have w2 := B.xor (j := 2) (d := 1) (a := (A 1)) (b := ((S.L + 0 : Nat) : Int)) (by omega) (by simp [opF2, exR])
      rw [o1, B.at_ (j := 0) (by omega), w0] at w2
      rw [nat3_0, nat3_1]; exact ⟨w1, w2⟩
  · have hsh : S.sh = 3 := by unfold Ms.sh; omega
    cases sm with
    | true =>
      have hO : frO S.n true A = opG3 A := (if_pos e).trans (if_pos rfl)
      have hM : frM S.n true = 6 := (if_pos e).trans (if_pos rfl)
      clear hX old
      rw [hO, hM] at h o0 o1 o2 ⊢
      have B := blk_of hs hd h
      have hL := B.L
      refine ⟨nat3 (S.L + 3) (S.L + 4) (S.L + 5), fun i hi => ⟨fun _ => ?_, fun hi2 => by omega⟩, fun q => by omega, fun _ q => (Bool.noConfusion q), fun _ _ => ?_⟩
      · rw [if_pos e, if_pos rfl, hL]
        rcases (by omega : i = 0 ∨ i = 1 ∨ i = 2) with rfl | rfl | rfl
        · rw [reg3_0, B.reg 3 (by omega), nat3_0]; exact ⟨rfl, by omega⟩
        · rw [reg3_1, B.reg 4 (by omega), nat3_1]; exact ⟨rfl, by omega⟩
        · rw [reg3_2, B.reg 5 (by omega), nat3_2]; exact ⟨rfl, by omega⟩
      · have w0 : (blkS S 2 (opG3 A) 6).v (S.L + 0) = S.tw S.used := B.rand (j := 0) (d := -1) (r := 0) (by omega) rfl (by simp [rands])
        have w1 := B.rand (j := 1) (d := -1) (r := 1) (by omega) rfl (by simp [rands, opG3])
        have w2 := B.xor (j := 2) (d := 0) (a := (A 0)) (b := ((S.L + 0 : Nat) : Int)) (by omega) (by simp [opG3, exR])
        rw [o0, B.at_ (j := 0) (by omega), w0] at w2
        have w3 := B.xor (j := 3) (d := 0) (a := ((S.L + 2 : Nat) : Int)) (b := ((S.L + 1 : Nat) : Int)) (by omega) (by simp [opG3, exR])
        rw [B.at_ (j := 2) (by omega), w2, B.at_ (j := 1) (by omega), w1] at w3
        have w4 := B.xor (j := 4) (d := 1) (a := (A 1)) (b := ((S.L + 0 : Nat) : Int)) (by omega) (by simp [opG3, exR])
        rw [o1, B.at_ (j := 0) (by omega), w0] at w4
        have w5 := B.xor (j := 5) (d := 2) (a := (A 2)) (b := ((S.L + 1 : Nat) : Int)) (by omega) (by simp [opG3, exR])
        rw [o2, B.at_ (j := 1) (by omega), w1] at w5
        rw [nat3_0, nat3_1, nat3_2]; exact ⟨w3, w4, w5⟩
    | false =>
      have hO : frO S.n false A = opF3 A := (if_pos e).trans (if_neg (by decide))
      have hM : frM S.n false = 9 := (if_pos e).trans (if_neg (by decide))
      clear hX old
      rw [hO, hM] at h o0 o1 o2 ⊢
      have B := blk_of hs hd h
      have hL := B.L
      refine ⟨nat3 (S.L + 4) (S.L + 6) (S.L + 8), fun i hi => ⟨fun _ => ?_, fun hi2 => by omega⟩, fun q => by omega, fun _ _ => ?_, fun _ q => (Bool.noConfusion q)⟩
      · rw [if_pos e, if_neg (by decide), hL]
        rcases (by omega : i = 0 ∨ i = 1 ∨ i = 2) with rfl | rfl | rfl
        · rw [reg3_0, B.reg 4 (by omega), nat3_0]; exact ⟨rfl, by omega⟩
        · rw [reg3_1, B.reg 6 (by omega), nat3_1]; exact ⟨rfl, by omega⟩
        · rw [reg3_2, B.reg 8 (by omega), nat3_2]; exact ⟨rfl, by omega⟩
      · have w0 : (blkS S 2 (opF3 A) 9).v (S.L + 0) = S.tw S.used := B.rand (j := 0) (d := -1) (r := 0) (by omega) rfl (by simp [rands])
        have w1 := B.rand (j := 1) (d := -1) (r := 1) (by omega) rfl (by simp [rands, opF3])
        have w2 := B.rand (j := 2) (d := -1) (r := 2) (by omega) rfl (by simp [rands, opF3])
        have w3 := B.xor (j := 3) (d := 0) (a := (A 0)) (b := ((S.L + 0 : Nat) : Int)) (by omega) (by simp [opF3, exR])
        rw [o0, B.at_ (j := 0) (by omega), w0] at w3
        have w4 := B.xor (j := 4) (d := 0) (a := ((S.L + 3 : Nat) : Int)) (b := ((S.L + 1 : Nat) : Int)) (by omega) (by simp [opF3, exR])
        rw [B.at_ (j := 3) (by omega), w3, B.at_ (j := 1) (by omega), w1] at w4
        have w5 := B.xor (j := 5) (d := 1) (a := (A 1)) (b := ((S.L + 0 : Nat) : Int)) (by omega) (by simp [opF3, exR])
        rw [o1, B.at_ (j := 0) (by omega), w0] at w5
        have w6 := B.xor (j := 6) (d := 1) (a := ((S.L + 5 : Nat) : Int)) (b := ((S.L + 2 : Nat) : Int)) (by omega) (by simp [opF3, exR])
        rw [B.at_ (j := 5) (by omega), w5, B.at_ (j := 2) (by omega), w2] at w6
        have w7 := B.xor (j := 7) (d := 2) (a := (A 2)) (b := ((S.L + 1 : Nat) : Int)) (by omega) (by simp [opF3, exR])
        rw [o2, B.at_ (j := 1) (by omega), w1] at w7
        have w8 := B.xor (j := 8) (d := 2) (a := ((S.L + 7 : Nat) : Int)) (b := ((S.L + 2 : Nat) : Int)) (by omega) (by simp [opF3, exR])
        rw [B.at_ (j := 7) (by omega), w7, B.at_ (j := 2) (by omega), w2] at w8
        rw [nat3_0, nat3_1, nat3_2]; exact ⟨w4, w6, w8⟩
/-- A word that was made fresh stands for what it did. -/
theorem fr_vl {S : Ms} {sm : Bool} {A : Nat → Int} (hs : S.skip = 0) (hd : S.dry = false) (hn : S.n = 2 ∨ S.n = 3) (hA : Gw S A) (h : (frS S sm A).e = 0) :
    vlN (frS S sm A).v (frS S sm A).L (frR S sm A) = vlN S.v S.L A ∧ Gw (frS S sm A) (frR S sm A) := by
  obtain ⟨q, hq, h2, h3, h4⟩ := fr_words hs hd hn hA h
  have at_ : ∀ i, i < 3 → i < S.sh → wordAt (frS S sm A).v (frS S sm A).L (frR S sm A i) = (frS S sm A).v (q i) := fun i hi hj => by
    obtain ⟨e, l⟩ := (hq i hi).1 hj
    rw [e]; exact wordAt_nat l
  have gw : Gw (frS S sm A) (frR S sm A) := ⟨fun i hi => by
      by_cases e : i < S.sh
      · obtain ⟨e1, l⟩ := (hq i hi).1 e
        rw [e1]; omega
      · rw [(hq i hi).2 (by omega)]; omega, fun i hi hj => by
      have e2 : (frS S sm A).sh = S.sh := by unfold Ms.sh; rw [(frS_ext S sm A).n]
      rw [e2] at hi
      rw [(hq i hj).2 hi]; omega⟩
  refine ⟨?_, gw⟩
  rw [vl_three, vl_three]
  rcases hn with e | e
  · have hsh : S.sh = 2 := by unfold Ms.sh; omega
    obtain ⟨a, b⟩ := h2 e
    rw [at_ 0 (by omega) (by omega), at_ 1 (by omega) (by omega), (hq 2 (by omega)).2 (by omega), a, b, wordAt_neg (by omega : (-1 : Int) < 0), wordAt_neg (hA.no 2 (by omega) (by omega))]
    generalize wordAt S.v S.L (A 0) = x
    generalize wordAt S.v S.L (A 1) = y
    generalize S.tw S.used = r
    refine Nat.eq_of_testBit_eq fun j => ?_
    simp only [Nat.testBit_xor]
    cases x.testBit j <;> cases y.testBit j <;> cases r.testBit j <;> rfl
  · have hsh : S.sh = 3 := by unfold Ms.sh; omega
    rw [at_ 0 (by omega) (by omega), at_ 1 (by omega) (by omega), at_ 2 (by omega) (by omega)]
    cases sm with
    | true =>
      obtain ⟨a, b, c⟩ := h4 e rfl
      rw [a, b, c]
      generalize wordAt S.v S.L (A 0) = x
      generalize wordAt S.v S.L (A 1) = y
      generalize wordAt S.v S.L (A 2) = z
      generalize S.tw S.used = r
      generalize S.tw (S.used + 1) = s
      refine Nat.eq_of_testBit_eq fun j => ?_
      simp only [Nat.testBit_xor]
      cases x.testBit j <;> cases y.testBit j <;> cases z.testBit j <;> cases r.testBit j <;> cases s.testBit j <;> rfl
    | false =>
      obtain ⟨a, b, c⟩ := h3 e rfl
      rw [a, b, c]
      generalize wordAt S.v S.L (A 0) = x
      generalize wordAt S.v S.L (A 1) = y
      generalize wordAt S.v S.L (A 2) = z
      generalize S.tw S.used = r
      generalize S.tw (S.used + 1) = s
      generalize S.tw (S.used + 2) = t
      refine Nat.eq_of_testBit_eq fun j => ?_
      simp only [Nat.testBit_xor]
      cases x.testBit j <;> cases y.testBit j <;> cases z.testBit j <;> cases r.testBit j <;> cases s.testBit j <;> cases t.testBit j <;> rfl
end Go.Proofs.YtpjgpiieminaoaaDoor

/- General: masks drawn into an array, shares covered by masks, two shares a mask: the ops of fresh. No program is named. -/
namespace Go.Proofs.YtpjgpiieminaoaaDoor

/-- Is mask k put to share i, of c masks? Each mask is put to all but one of three shares. -/
def tch (c i k : Nat) : Bool := decide (k < c) && decide (i + k ≠ 2)
abbrev rnd6 : Op6 := ⟨1, -1, -1, -1, -1, 0⟩
abbrev xr6 (i : Nat) (r z : Int) : Op6 := ⟨5, (i : Int), r, z, -1, 0⟩
section
variable (dS : Ms → Op6 → Ms) (dR : Ms → Op6 → Int)
/-- Masks, into an array of zeros. -/
def drG (S : Ms) : Nat → Ms × (Nat → Int)
  | 0 => (S, fun _ => 0)
  | j + 1 => (dS (drG S j).1 rnd6, updI (drG S j).2 j (dR (drG S j).1 rnd6))
/-- A share with the first k pairs gone through. -/
def cvG (c i : Nat) (mk : Nat → Int) (S : Ms) (r : Int) : Nat → Ms × Int
  | 0 => (S, r)
  | k + 1 => if tch c i k = true then (dS (cvG c i mk S r k).1 (xr6 i (cvG c i mk S r k).2 (mk k)), dR (cvG c i mk S r k).1 (xr6 i (cvG c i mk S r k).2 (mk k))) else cvG c i mk S r k
/-- The first i shares. -/
def nwG (c : Nat) (mk A : Nat → Int) (S : Ms) : Nat → Ms × (Nat → Int)
  | 0 => (S, none3)
  | i + 1 => ((cvG dS dR c i mk (nwG c mk A S i).1 (A i) 3).1, updI (nwG c mk A S i).2 i (cvG dS dR c i mk (nwG c mk A S i).1 (A i) 3).2)
def sqG (S : Ms) (op : Nat → (Nat → Int) → Op6) : Nat → Ms × (Nat → Int)
  | 0 => (S, none3)
  | m + 1 => (dS (sqG S op m).1 (op m (sqG S op m).2), updI (sqG S op m).2 m (dR (sqG S op m).1 (op m (sqG S op m).2)))
def sqgR (S : Ms) (op : Nat → (Nat → Int) → Op6) (m : Nat) : Int := dR (sqG dS dR S op m).1 (op m (sqG dS dR S op m).2)
def anG (n c : Nat) (A : Nat → Int) (S : Ms) : Ms × (Nat → Int) := nwG dS dR c (drG dS dR S c).2 A (drG dS dR S c).1 n
theorem an2 (A : Nat → Int) (S : Ms) : (anG dS dR 2 1 A S).1 = (sqG dS dR S (opF2 A) 3).1 ∧ (anG dS dR 2 1 A S).2 0 = sqgR dS dR S (opF2 A) 1 ∧ (anG dS dR 2 1 A S).2 1 = sqgR dS dR S (opF2 A) 2 ∧ (anG dS dR 2 1 A S).2 2 = -1 := ⟨rfl, rfl, rfl, rfl⟩
theorem an3s (A : Nat → Int) (S : Ms) : (anG dS dR 3 2 A S).1 = (sqG dS dR S (opG3 A) 6).1 ∧ (anG dS dR 3 2 A S).2 0 = sqgR dS dR S (opG3 A) 3 ∧ (anG dS dR 3 2 A S).2 1 = sqgR dS dR S (opG3 A) 4 ∧ (anG dS dR 3 2 A S).2 2 = sqgR dS dR S (opG3 A) 5 := ⟨rfl, rfl, rfl, rfl⟩
theorem an3f (A : Nat → Int) (S : Ms) : (anG dS dR 3 3 A S).1 = (sqG dS dR S (opF3 A) 9).1 ∧ (anG dS dR 3 3 A S).2 0 = sqgR dS dR S (opF3 A) 4 ∧ (anG dS dR 3 3 A S).2 1 = sqgR dS dR S (opF3 A) 6 ∧ (anG dS dR 3 3 A S).2 2 = sqgR dS dR S (opF3 A) 8 := ⟨rfl, rfl, rfl, rfl⟩
end
/-- At the machine. -/
def dS0 (S : Ms) (o : Op6) : Ms := S.doS o 0
def dR0 (S : Ms) (o : Op6) : Int := S.doR o
theorem sq_G (S : Ms) (op : Nat → (Nat → Int) → Op6) : ∀ m, sqG dS0 dR0 S op m = sq S op m
  | 0 => rfl
  | m + 1 => by
    have ih := sq_G S op m
    unfold sqG sq
    rw [ih]
    rfl
theorem sqr_G (S : Ms) (op : Nat → (Nat → Int) → Op6) (m : Nat) : sqgR dS0 dR0 S op m = sqr S op m := by
  unfold sqgR sqr sqO sqS sqR
  rw [sq_G]
  rfl
/-- What fresh's function leaves and tells, of n shares and c masks. -/
def anS (n c : Nat) (A : Nat → Int) (S : Ms) : Ms := (anG dS0 dR0 n c A (S.beginS 2)).1.endS
def anR (n c : Nat) (A : Nat → Int) (S : Ms) : Nat → Int := (anG dS0 dR0 n c A (S.beginS 2)).2
/-- How many masks. -/
def frC (n : Int) (simple : Bool) : Nat := if n = 3 then (if simple = true then 2 else 3) else 1
theorem an_fr {S : Ms} {sm : Bool} {A : Nat → Int} (hn : S.n = 2 ∨ S.n = 3) : anS S.sh (frC S.n sm) A S = frS S sm A ∧ ∀ i, i < 3 → anR S.sh (frC S.n sm) A S i = frR S sm A i := by
  unfold frS frR frO frM frC anS anR blkS sqS
  rcases hn with e | e
  · have hsh : S.sh = 2 := by unfold Ms.sh; omega
    have h3 : ¬ S.n = 3 := by omega
    rw [hsh, if_neg h3, if_neg h3, if_neg h3, if_neg h3]
    obtain ⟨a, b, c, d⟩ := an2 dS0 dR0 A (S.beginS 2)
    rw [a, sq_G]
    refine ⟨rfl, fun i hi => ?_⟩
    rcases (by omega : i = 0 ∨ i = 1 ∨ i = 2) with rfl | rfl | rfl
    · rw [b, sqr_G, reg3_0]
    · rw [c, sqr_G, reg3_1]
    · rw [d, reg3_2]
  · have hsh : S.sh = 3 := by unfold Ms.sh; omega
    rw [hsh, if_pos e, if_pos e, if_pos e, if_pos e]
    cases sm with
    | true =>
      rw [if_pos rfl, if_pos rfl, if_pos rfl, if_pos rfl]
      obtain ⟨a, b, c, d⟩ := an3s dS0 dR0 A (S.beginS 2)
      rw [a, sq_G]
      refine ⟨rfl, fun i hi => ?_⟩
      rcases (by omega : i = 0 ∨ i = 1 ∨ i = 2) with rfl | rfl | rfl
      · rw [b, sqr_G, reg3_0]
      · rw [c, sqr_G, reg3_1]
      · rw [d, sqr_G, reg3_2]
    | false =>
      rw [if_neg (by decide), if_neg (by decide), if_neg (by decide), if_neg (by decide)]
      obtain ⟨a, b, c, d⟩ := an3f dS0 dR0 A (S.beginS 2)
      rw [a, sq_G]
      refine ⟨rfl, fun i hi => ?_⟩
      rcases (by omega : i = 0 ∨ i = 1 ∨ i = 2) with rfl | rfl | rfl
      · rw [b, sqr_G, reg3_0]
      · rw [c, sqr_G, reg3_1]
      · rw [d, sqr_G, reg3_2]
/-- Bounds. -/
theorem xr6_wf {i : Nat} {r z : Int} (hi : i ≤ 1000) (hr : I64 r) (hz : I64 z) : opwf (xr6 i r z) := xw5 (by omega) hr hz
theorem zero_wb : Wb (fun _ => 0) := fun _ => i64c 0 (by decide) (by decide)
theorem dr_bq {k : Nat} {S : Ms} (h : Bq k S) : ∀ {j}, k + j ≤ 1000000 → Bq (k + j) (drG dS0 dR0 S j).1 ∧ Wb (drG dS0 dR0 S j).2
  | 0, _ => ⟨h, zero_wb⟩
  | j + 1, hk => by
    obtain ⟨h1, h2⟩ := dr_bq h (j := j) (by omega)
    exact ⟨h1.does rw1 (by decide), h2.upd (doR_bd h1 (by omega) _)⟩
theorem cv_bq {k c i : Nat} {S : Ms} {mk : Nat → Int} {r : Int} (h : Bq k S) (hi : i ≤ 1000) (hm : Wb mk) (hr : I64 r) : ∀ {j}, k + j ≤ 1000000 → Bq (k + j) (cvG dS0 dR0 c i mk S r j).1 ∧ I64 (cvG dS0 dR0 c i mk S r j).2
  | 0, _ => ⟨h, hr⟩
  | j + 1, hk => by
    obtain ⟨h1, h2⟩ := cv_bq (c := c) h hi hm hr (j := j) (by omega)
    unfold cvG
    split
    · exact ⟨h1.does (xr6_wf hi h2 (hm j)) (by decide), doR_bd h1 (by omega) _⟩
    · exact ⟨h1.mono (by omega), h2⟩
theorem nw_bq {k c : Nat} {S : Ms} {mk A : Nat → Int} (h : Bq k S) (hm : Wb mk) (hA : Wb A) : ∀ {i}, i ≤ 1000 → k + 3 * i ≤ 1000000 → Bq (k + 3 * i) (nwG dS0 dR0 c mk A S i).1 ∧ Wb (nwG dS0 dR0 c mk A S i).2
  | 0, _, _ => ⟨h, none3_wb⟩
  | i + 1, hi, hk => by
    obtain ⟨h1, h2⟩ := nw_bq (c := c) h hm hA (i := i) (by omega) (by omega)
    obtain ⟨g1, g2⟩ := cv_bq (c := c) (i := i) h1 (by omega) hm (hA i) (j := 3) (by omega)
    exact ⟨g1.mono (by omega), h2.upd g2⟩
theorem cv_yes {c i k : Nat} (mk : Nat → Int) (S : Ms) (r : Int) (h : tch c i k = true) : (cvG dS0 dR0 c i mk S r (k + 1)).1 = (cvG dS0 dR0 c i mk S r k).1.doS (xr6 i (cvG dS0 dR0 c i mk S r k).2 (mk k)) 0 ∧ (cvG dS0 dR0 c i mk S r (k + 1)).2 = (cvG dS0 dR0 c i mk S r k).1.doR (xr6 i (cvG dS0 dR0 c i mk S r k).2 (mk k)) := by
  have e : cvG dS0 dR0 c i mk S r (k + 1) = _ := if_pos h
  rw [e]
  exact ⟨rfl, rfl⟩
theorem cv_no {c i k : Nat} (mk : Nat → Int) (S : Ms) (r : Int) (h : tch c i k = false) : cvG dS0 dR0 c i mk S r (k + 1) = cvG dS0 dR0 c i mk S r k := if_neg (by rw [h]; decide)
end Go.Proofs.YtpjgpiieminaoaaDoor

/- Fresh: the program's functions, over any machine. -/
namespace Go.Proofs.YtpjgpiieminaoaaDoor
open Go.RowKit
set_option maxRecDepth 100000
/-- The pairs of shares, as the program's table has them; the table lies in block 0. -/
def pairC : Array Value := #[.int .i64 0, .int .i64 1, .int .i64 0, .int .i64 2, .int .i64 1, .int .i64 2]
abbrev gpair : Nat := 0
/-- The table reads as its initialiser lays it. -/
def Pv (w : World) : Prop := gpair < w.heap.size ∧ ∀ i, i < 6 → w.cell? ⟨gpair, i, none⟩ = pairC[i]?
theorem Pv.stays {w w' : World} (h : Pv w) (hs : w.heap.size ≤ w'.heap.size) (hb : w'.heap[gpair]? = w.heap[gpair]?) : Pv w' :=
  ⟨Nat.lt_of_lt_of_le h.1 hs, fun i hi => by rw [← h.2 i hi]; unfold World.cell?; rw [hb]⟩
theorem Pv.self {w w' : World} (h : Pv w) (hb : Below w.heap.size w w') : Pv w' := h.stays hb.size (hb.block _ h.1)
theorem Pv.ow {Pm : World → Nat → Ms → (Nat → Prop) → Prop} {F0 : Nat → Prop} {w0 w : World} {b : Nat} {S : Ms} {bs : List (Nat × Obj)} (h : Pv w0) (hF : ¬ F0 gpair) (ho : Ow Pm F0 w0 w b S bs) : Pv w := h.stays ho.tch.size (ho.tch.block _ h.1 hF)
theorem run_index_pr (w : World) : ∀ (m : Nat) (x y : Int), (m = 0 ∧ x = 0 ∧ y = 1 ∨ m = 1 ∧ x = 0 ∧ y = 2 ∨ m = 2 ∧ x = 1 ∧ y = 2) → (Instr.index 123 (.agg pairC) (.int .i64 (m : Int))).run Tryd.prog w = .ok (.agg #[.int .i64 x, .int .i64 y]) w := by
  have hs : Tryd.t122.size = 2 := rfl
  rintro m x y (⟨rfl, rfl, rfl⟩ | ⟨rfl, rfl, rfl⟩ | ⟨rfl, rfl, rfl⟩) <;>
    simp [Instr.index, asIntOf, run_underlying Tryd.underlying123, part, run_underlying Tryd.underlying122, isAgg, go_sem, sizeOf, hs, pairC]
theorem step_index_pr {w : World} {ops : Array Oper} {rest : List Oper} {o : Oper} {a : Act} {Q : Exit → Act → World → Prop} (hgd : o.guard = none) (u v : Operand) (ho : o.op = .index 123 u v)
    (m : Nat) (x y : Int) (hm : m = 0 ∧ x = 0 ∧ y = 1 ∨ m = 1 ∧ x = 0 ∧ y = 2 ∨ m = 2 ∧ x = 1 ∧ y = 2) (hx : a.eval u = .agg pairC) (hy : a.eval v = .int .i64 (m : Int)) (k : wpList Tryd.prog ops Q rest (a.put o.dst (.agg #[.int .i64 x, .int .i64 y])) w) : wpList Tryd.prog ops Q (o :: rest) a w :=
  wpList_plain hgd fun _ hK => by
    unfold Oper.wp execOp
    simp only [ho, hx, hy, Sem.run_bind, Sem.run_pure, Result.andThen_ok, run_index_pr w m x y hm]
    exact hK _ _ k
/-- How many masks a full one takes. -/
def frD (n : Int) : Int := if n = 2 then 1 else if n = 3 then 3 else 0
theorem fdraws_any (n : Int) (w : World) : Calls Tryd.prog 67 #[.int .i64 n] w fun e w' => e = .returned (.int .i64 (frD n)) ∧ w' = w := by
  unfold frD
  by_cases h2 : n = 2
  · subst h2
    go_enter Tryd.func67, Tryd.ntmps67
    go_wp2
    go_ret
    exact ⟨rfl, rfl⟩
  · by_cases h3 : n = 3
    · subst h3
      go_enter Tryd.func67, Tryd.ntmps67
      go_wp2
      go_ret
      exact ⟨rfl, rfl⟩
    · rw [if_neg h2, if_neg h3]
      have q2 : ((n : Int) == 2) = false := by simpa using h2
      have q3 : ((n : Int) == 3) = false := by simpa using h3
      clear h2 h3
      go_enter Tryd.func67, Tryd.ntmps67
      go_wp2
      go_ret
      exact ⟨rfl, rfl⟩
set_option maxHeartbeats 3200000 in
theorem drawn_any {Pm : World → Nat → Ms → (Nat → Prop) → Prop} (hM : Mach Pm) {F0 : Nat → Prop} {w0 w : World} {b : Nat} {bs : List (Nat × Obj)} (k c : Nat) (S : Ms) (h : Ow Pm F0 w0 w b S bs) (hq : Bq k S) (hk : k + 3 ≤ 100000) (hc : c ≤ 3) :
    Calls Tryd.prog 75 #[.pointer (some ⟨b, 0, none⟩), .int .i64 (c : Int)] w fun e w' => e = .returned (.agg (wdV (drG dS0 dR0 S c).2)) ∧ Ow Pm F0 w0 w' b (drG dS0 dR0 S c).1 bs := by
  have HC : Hid (∀ (j : Nat) (bs' : List (Nat × Obj)) (w' : World), j < c → Ow Pm F0 w0 w' b (drG dS0 dR0 S j).1 bs' → Calls Tryd.prog 22 #[.pointer (some ⟨b, 0, none⟩), .int .i64 (-1)] w' fun e w2 => e = .returned (.int .i64 (dR0 (drG dS0 dR0 S j).1 rnd6)) ∧ Ow Pm F0 w0 w2 b (drG dS0 dR0 S (j + 1)).1 bs') :=
    hid (fun j bs' w' hj h' => h'.lift hM (fun F hF => hM.rand b (k + j) _ F (-1) w' hF (dr_bq hq (by omega)).1 (by omega) rw1))
  have HU : Hid (∀ j, (drG dS0 dR0 S (j + 1)).2 = updI (drG dS0 dR0 S j).2 j (dR0 (drG dS0 dR0 S j).1 rnd6)) := hid (fun j => rfl)
  have H0 : Hid (Ow Pm F0 w0 w b (drG dS0 dR0 S 0).1 bs) := hid h
  have HZ : Hid (wdV (drG dS0 dR0 S 0).2 = #[.int .i64 0, .int .i64 0, .int .i64 0]) := hid rfl
  have HC3 : Hid (c ≤ 3) := hid hc
  clear h hq hk hc
  obtain ⟨St, hSt⟩ : ∃ St : Nat → Ms, ∀ j, (drG dS0 dR0 S j).1 = St j := ⟨_, fun _ => rfl⟩
  obtain ⟨U, hU⟩ : ∃ U : Nat → Nat → Int, ∀ j, (drG dS0 dR0 S j).2 = U j := ⟨_, fun _ => rfl⟩
  simp only [hSt, hU] at *
  obtain ⟨rg, hrg⟩ : ∃ rg : Nat → Int, ∀ j, dR0 (St j) rnd6 = rg j := ⟨_, fun _ => rfl⟩
  simp only [hrg] at *
  clear hSt hU hrg
  have H1 := hid ((H0.out.new hM #[.int .i64 0, .int .i64 0, .int .i64 0] 33).new hM #[.int .i64 0, .int .i64 0, .int .i64 0] 33)
  obtain ⟨w1, hw1⟩ : ∃ w1, (w.alloc (.cells #[.int .i64 0, .int .i64 0, .int .i64 0] 33)).alloc (.cells #[.int .i64 0, .int .i64 0, .int .i64 0] 33) = w1 := ⟨_, rfl⟩
  rw [hw1] at H1
  simp only [sz_al] at H1
  have HW := hid hw1
  rw [← HZ.out] at H1
  clear hw1 H0
  go_enter Tryd.func75, Tryd.ntmps75
  go_upto_region 2 with fail
  rw [HW.out]
  go_wp2
  go_loopw [8] (fun iv wr => ∃ j : Nat, j ≤ c ∧ iv = .int .i64 j ∧ Ow Pm F0 w0 wr b (St j) ((w.heap.size + 1, .cells (wdV (U j)) 33 (0, 0)) :: (w.heap.size, .cells (wdV (U 0)) 33 (0, 0)) :: bs)) (fun iv _ => c - (intOf iv).toNat)
  case atStart => exact ⟨0, by omega, rfl, H1.out⟩
  case round =>
    clear H1
    obtain ⟨j, hj, rfl, hI⟩ := hrel
    have HI := hid hI
    clear hI
    have hc3 := HC3.out
    by_cases hlt : j < c
    · have j1 : (j : Int) < (c : Int) := by omega
      have j0 : (0 : Int) ≤ (j : Int) := by omega
      have j3 : (j : Int) < 3 := by omega
      have HJ3 : Hid (j < 3) := hid (by omega)
      have HCJ := hid (fun bs' w' h' => HC.out j bs' w' hlt h')
      have HER : Hid ((wdV (U j)).setIfInBounds j (.int .i64 (rg j)) = wdV (U (j + 1))) := hid (by rw [wdV_upd _ j _ (by omega), HU.out j])
      go_wp2_with (go_at_call 22; (with_reducible refine (HCJ.out _ _ HI.out).mono ?_); rintro e w6 ⟨rfl, h6⟩; have H6 := hid h6; have cj := row_c (i := j) (H6.out.bl 0 rfl) (wdV_at (U j) j HJ3.out); have fj := frozen_of_row w6 (w.heap.size + 1) j _ _ (H6.out.bl 0 rfl); clear h6)
      have H7 := hid (H6.out.cell hM j (.int .i64 (rg j)))
      rw [HER.out] at H7
      go_roundw
      case rel => exact ⟨j + 1, by omega, by go_num, H7.out⟩
      case measure => simp [intOf]; omega
    · obtain rfl : j = c := by omega
      clear hlt
      go_wp2_with (first
        | (refine step_load_row rfl 33 _ rfl (w.heap.size + 1) 33 (wdV (U j)) _ rfl (HI.out.bl 0 rfl) Tryd.underlying33 rfl (by kernel_rfl) ?_)
        | (refine step_store_row rfl 33 _ _ rfl w.heap.size 33 _ (wdV (U j)) rfl rfl (HI.out.bl 1 rfl) (by kernel_rfl) rfl (by kernel_rfl) ?_))
      have H8 := hid (HI.out.swap.row hM (wdV (U j)))
      exact bodyPost_ret (results_cell_row (by rfl) _ _ w.heap.size 33 (wdV (U j)) (0, 0) _ rfl (H8.out.bl 0 rfl) Tryd.underlying33 rfl (by kernel_rfl)) rfl ⟨rfl, H8.out.drop.drop⟩
set_option maxHeartbeats 6400000 in
theorem covered0_any {Pm : World → Nat → Ms → (Nat → Prop) → Prop} (hM : Mach Pm) {F0 : Nat → Prop} {w0 w : World} {b : Nat} {bs : List (Nat × Obj)} (k c : Nat) (S : Ms) (r : Int) (mk : Nat → Int) (h : Ow Pm F0 w0 w b S bs) (hp : Pv w0) (hF : ¬ F0 gpair) (hq : Bq k S) (hk : k + 3 ≤ 100000) (hr : I64 r) (hm : Wb mk) :
    Calls Tryd.prog 76 #[.pointer (some ⟨b, 0, none⟩), .int .i64 0, .int .i64 r, .agg (wdV mk), .int .i64 (c : Int)] w fun e w' => e = .returned (.int .i64 (cvG dS0 dR0 c 0 mk S r 3).2) ∧ Ow Pm F0 w0 w' b (cvG dS0 dR0 c 0 mk S r 3).1 bs := by
  have HPV : Hid (∀ (bs' : List (Nat × Obj)) (S' : Ms) (w' : World), Ow Pm F0 w0 w' b S' bs' → Pv w') := hid (fun bs' S' w' h' => hp.ow hF h')
  have HC : Hid (∀ (j : Nat) (bs' : List (Nat × Obj)) (w' : World), j < 3 → tch c 0 j = true → Ow Pm F0 w0 w' b (cvG dS0 dR0 c 0 mk S r j).1 bs' → Calls Tryd.prog 81 #[.pointer (some ⟨b, 0, none⟩), .int .i64 5, .int .i64 0, .int .i64 (cvG dS0 dR0 c 0 mk S r j).2, .int .i64 (mk j)] w' fun e w2 => e = .returned (.int .i64 (cvG dS0 dR0 c 0 mk S r (j + 1)).2) ∧ Ow Pm F0 w0 w2 b (cvG dS0 dR0 c 0 mk S r (j + 1)).1 bs') :=
    hid (fun j bs' w' hj ht h' => by
      obtain ⟨b1, b2⟩ := cv_bq (c := c) (i := 0) (j := j) hq (by omega) hm hr (by omega)
      obtain ⟨e1, e2⟩ := cv_yes mk S r ht
      rw [e1, e2]
      exact h'.lift hM (fun F hF => hM.two b (k + j) _ F 5 0 _ (mk j) w' hF b1 (by omega) (xr6_wf (i := 0) (by omega) b2 (hm j))))
  have HN : Hid (∀ j, tch c 0 j = false → (cvG dS0 dR0 c 0 mk S r (j + 1)).1 = (cvG dS0 dR0 c 0 mk S r j).1 ∧ (cvG dS0 dR0 c 0 mk S r (j + 1)).2 = (cvG dS0 dR0 c 0 mk S r j).2) := hid (fun j ht => by rw [cv_no mk S r ht]; exact ⟨rfl, rfl⟩)
  have H0 : Hid (Ow Pm F0 w0 w b (cvG dS0 dR0 c 0 mk S r 0).1 bs) := hid h
  have HR0 : Hid ((cvG dS0 dR0 c 0 mk S r 0).2 = r) := hid rfl
  clear h hp hF hq hk hr hm
  obtain ⟨St, hSt⟩ : ∃ St : Nat → Ms, ∀ j, (cvG dS0 dR0 c 0 mk S r j).1 = St j := ⟨_, fun _ => rfl⟩
  obtain ⟨U, hU⟩ : ∃ U : Nat → Int, ∀ j, (cvG dS0 dR0 c 0 mk S r j).2 = U j := ⟨_, fun _ => rfl⟩
  simp only [hSt, hU] at *
  clear hSt hU
  have H1 := hid (H0.out.new hM (wdV mk) 33)
  obtain ⟨w1, hw1⟩ : ∃ w1, w.alloc (.cells (wdV mk) 33) = w1 := ⟨_, rfl⟩
  rw [hw1] at H1
  have HW := hid hw1
  rw [← HR0.out]
  clear hw1 H0 HR0
  go_enter Tryd.func76, Tryd.ntmps76
  go_upto_region 1 with fail
  rw [HW.out]
  have PV := (HPV.out _ _ _ H1.out).2
  have g0 : w1.cell? ⟨0, 0, none⟩ = some (.int .i64 0) := PV 0 (by decide)
  have g1 : w1.cell? ⟨0, 1, none⟩ = some (.int .i64 1) := PV 1 (by decide)
  have g2 : w1.cell? ⟨0, 2, none⟩ = some (.int .i64 0) := PV 2 (by decide)
  have g3 : w1.cell? ⟨0, 3, none⟩ = some (.int .i64 2) := PV 3 (by decide)
  have g4 : w1.cell? ⟨0, 4, none⟩ = some (.int .i64 1) := PV 4 (by decide)
  have g6 : w1.cell? ⟨0, 5, none⟩ = some (.int .i64 2) := PV 5 (by decide)
  clear PV
  go_wp2
  go_loopw [2, 14] (fun rv iv wr => ∃ j : Nat, j ≤ 3 ∧ iv = .int .i64 j ∧ rv = .int .i64 (U j) ∧ Ow Pm F0 w0 wr b (St j) ((w.heap.size, .cells (wdV mk) 33 (0, 0)) :: bs)) (fun _ iv _ => 3 - (intOf iv).toNat)
  case atStart => exact ⟨0, by omega, rfl, rfl, H1.out⟩
  case round =>
    clear H1
    obtain ⟨j, hj, rfl, rfl, hI⟩ := hrel
    have HI := hid hI
    clear hI
    rcases (by omega : j = 0 ∨ j = 1 ∨ j = 2 ∨ j = 3) with rfl | rfl | rfl | rfl
    · rw [show ((0 : Nat) : Int) = 0 from rfl]
      have H3 := hid (HI.out.new hM #[.int .i64 0, .int .i64 1] 122)
      go_upto_region 4 with (refine step_index_pr rfl _ _ rfl 0 0 1 (by decide) rfl rfl ?_)
      obtain ⟨g5, hg5⟩ : ∃ g5, wr.heap.size = g5 := ⟨_, rfl⟩
      rw [hg5] at H3 ⊢
      generalize wr.alloc (.cells #[.int .i64 0, .int .i64 1] 122) = w3 at *
      clear hg5 HI
      try clear g0 g1 g2 g3 g4 g6
      have c0 := row_c (i := 0) (u := .int .i64 0) (H3.out.bl 0 rfl) rfl
      have c1 := row_c (i := 1) (u := .int .i64 1) (H3.out.bl 0 rfl) rfl
      have cm := row_c (i := 0) (u := .int .i64 (mk 0)) (H3.out.bl 1 rfl) rfl
      by_cases hkc : 0 < c
      · have q0 : decide ((0 : Int) < (c : Int)) = true := decide_eq_true (by omega)
        have q1 : decide (0 < c) = true := decide_eq_true (by omega)
        have HT : Hid (tch c 0 0 = true) := hid (by unfold tch; rw [decide_eq_true hkc]; rfl)
        clear hkc
        go_wp2_with (go_at_call 81; (with_reducible refine (HC.out 0 _ _ (by decide) HT.out H3.out).mono ?_); rintro e w4 ⟨rfl, h4⟩; have H4 := hid h4; clear h4)
        go_roundw
        case rel => exact ⟨1, by omega, rfl, rfl, H4.out.drop⟩
        case measure => simp [intOf]
      · have q0 : decide ((0 : Int) < (c : Int)) = false := decide_eq_false (by omega)
        have q1 : decide (0 < c) = false := decide_eq_false (by omega)
        have HT := hid (HN.out 0 (by unfold tch; rw [decide_eq_false hkc]; rfl))
        clear hkc
        go_wp2
        go_roundw
        case rel => exact ⟨1, by omega, rfl, by rw [HT.out.2], by rw [HT.out.1]; exact H3.out.drop⟩
        case measure => simp [intOf]
    · rw [show ((1 : Nat) : Int) = 1 from rfl]
      have H3 := hid (HI.out.new hM #[.int .i64 0, .int .i64 2] 122)
      go_upto_region 4 with (refine step_index_pr rfl _ _ rfl 1 0 2 (by decide) rfl rfl ?_)
      obtain ⟨g5, hg5⟩ : ∃ g5, wr.heap.size = g5 := ⟨_, rfl⟩
      rw [hg5] at H3 ⊢
      generalize wr.alloc (.cells #[.int .i64 0, .int .i64 2] 122) = w3 at *
      clear hg5 HI
      try clear g0 g1 g2 g3 g4 g6
      have c0 := row_c (i := 0) (u := .int .i64 0) (H3.out.bl 0 rfl) rfl
      have c1 := row_c (i := 1) (u := .int .i64 2) (H3.out.bl 0 rfl) rfl
      have cm := row_c (i := 1) (u := .int .i64 (mk 1)) (H3.out.bl 1 rfl) rfl
      by_cases hkc : 1 < c
      · have q0 : decide ((1 : Int) < (c : Int)) = true := decide_eq_true (by omega)
        have HT : Hid (tch c 0 1 = true) := hid (by unfold tch; rw [decide_eq_true hkc]; rfl)
        clear hkc
        go_wp2_with (go_at_call 81; (with_reducible refine (HC.out 1 _ _ (by decide) HT.out H3.out).mono ?_); rintro e w4 ⟨rfl, h4⟩; have H4 := hid h4; clear h4)
        go_roundw
        case rel => exact ⟨2, by omega, rfl, rfl, H4.out.drop⟩
        case measure => simp [intOf]
      · have q0 : decide ((1 : Int) < (c : Int)) = false := decide_eq_false (by omega)
        have HT := hid (HN.out 1 (by unfold tch; rw [decide_eq_false hkc]; rfl))
        clear hkc
        go_wp2
        go_roundw
        case rel => exact ⟨2, by omega, rfl, by rw [HT.out.2], by rw [HT.out.1]; exact H3.out.drop⟩
        case measure => simp [intOf]
    · rw [show ((2 : Nat) : Int) = 2 from rfl]
      have H3 := hid (HI.out.new hM #[.int .i64 1, .int .i64 2] 122)
      go_upto_region 4 with (refine step_index_pr rfl _ _ rfl 2 1 2 (by decide) rfl rfl ?_)
      obtain ⟨g5, hg5⟩ : ∃ g5, wr.heap.size = g5 := ⟨_, rfl⟩
      rw [hg5] at H3 ⊢
      generalize wr.alloc (.cells #[.int .i64 1, .int .i64 2] 122) = w3 at *
      clear hg5 HI
      try clear g0 g1 g2 g3 g4 g6
      have c0 := row_c (i := 0) (u := .int .i64 1) (H3.out.bl 0 rfl) rfl
      have c1 := row_c (i := 1) (u := .int .i64 2) (H3.out.bl 0 rfl) rfl
      have cm := row_c (i := 2) (u := .int .i64 (mk 2)) (H3.out.bl 1 rfl) rfl
      by_cases hkc : 2 < c
      · have q0 : decide ((2 : Int) < (c : Int)) = true := decide_eq_true (by omega)
        have HT := hid (HN.out 2 (by unfold tch; rw [decide_eq_true hkc]; rfl))
        clear hkc
        go_wp2
        go_roundw
        case rel => exact ⟨3, by omega, rfl, by rw [HT.out.2], by rw [HT.out.1]; exact H3.out.drop⟩
        case measure => simp [intOf]
      · have q0 : decide ((2 : Int) < (c : Int)) = false := decide_eq_false (by omega)
        have HT := hid (HN.out 2 (by unfold tch; rw [decide_eq_false hkc]; rfl))
        clear hkc
        go_wp2
        go_roundw
        case rel => exact ⟨3, by omega, rfl, by rw [HT.out.2], by rw [HT.out.1]; exact H3.out.drop⟩
        case measure => simp [intOf]
    · rw [show ((3 : Nat) : Int) = 3 from rfl]
      go_wp2
      go_ret
      exact ⟨rfl, HI.out.drop⟩
set_option maxHeartbeats 6400000 in
theorem covered1_any {Pm : World → Nat → Ms → (Nat → Prop) → Prop} (hM : Mach Pm) {F0 : Nat → Prop} {w0 w : World} {b : Nat} {bs : List (Nat × Obj)} (k c : Nat) (S : Ms) (r : Int) (mk : Nat → Int) (h : Ow Pm F0 w0 w b S bs) (hp : Pv w0) (hF : ¬ F0 gpair) (hq : Bq k S) (hk : k + 3 ≤ 100000) (hr : I64 r) (hm : Wb mk) :
    Calls Tryd.prog 76 #[.pointer (some ⟨b, 0, none⟩), .int .i64 1, .int .i64 r, .agg (wdV mk), .int .i64 (c : Int)] w fun e w' => e = .returned (.int .i64 (cvG dS0 dR0 c 1 mk S r 3).2) ∧ Ow Pm F0 w0 w' b (cvG dS0 dR0 c 1 mk S r 3).1 bs := by
  have HPV : Hid (∀ (bs' : List (Nat × Obj)) (S' : Ms) (w' : World), Ow Pm F0 w0 w' b S' bs' → Pv w') := hid (fun bs' S' w' h' => hp.ow hF h')
  have HC : Hid (∀ (j : Nat) (bs' : List (Nat × Obj)) (w' : World), j < 3 → tch c 1 j = true → Ow Pm F0 w0 w' b (cvG dS0 dR0 c 1 mk S r j).1 bs' → Calls Tryd.prog 81 #[.pointer (some ⟨b, 0, none⟩), .int .i64 5, .int .i64 1, .int .i64 (cvG dS0 dR0 c 1 mk S r j).2, .int .i64 (mk j)] w' fun e w2 => e = .returned (.int .i64 (cvG dS0 dR0 c 1 mk S r (j + 1)).2) ∧ Ow Pm F0 w0 w2 b (cvG dS0 dR0 c 1 mk S r (j + 1)).1 bs') :=
    hid (fun j bs' w' hj ht h' => by
      obtain ⟨b1, b2⟩ := cv_bq (c := c) (i := 1) (j := j) hq (by omega) hm hr (by omega)
      obtain ⟨e1, e2⟩ := cv_yes mk S r ht
      rw [e1, e2]
      exact h'.lift hM (fun F hF => hM.two b (k + j) _ F 5 1 _ (mk j) w' hF b1 (by omega) (xr6_wf (i := 1) (by omega) b2 (hm j))))
  have HN : Hid (∀ j, tch c 1 j = false → (cvG dS0 dR0 c 1 mk S r (j + 1)).1 = (cvG dS0 dR0 c 1 mk S r j).1 ∧ (cvG dS0 dR0 c 1 mk S r (j + 1)).2 = (cvG dS0 dR0 c 1 mk S r j).2) := hid (fun j ht => by rw [cv_no mk S r ht]; exact ⟨rfl, rfl⟩)
  have H0 : Hid (Ow Pm F0 w0 w b (cvG dS0 dR0 c 1 mk S r 0).1 bs) := hid h
  have HR0 : Hid ((cvG dS0 dR0 c 1 mk S r 0).2 = r) := hid rfl
  clear h hp hF hq hk hr hm
  obtain ⟨St, hSt⟩ : ∃ St : Nat → Ms, ∀ j, (cvG dS0 dR0 c 1 mk S r j).1 = St j := ⟨_, fun _ => rfl⟩
  obtain ⟨U, hU⟩ : ∃ U : Nat → Int, ∀ j, (cvG dS0 dR0 c 1 mk S r j).2 = U j := ⟨_, fun _ => rfl⟩
  simp only [hSt, hU] at *
  clear hSt hU
  have H1 := hid (H0.out.new hM (wdV mk) 33)
  obtain ⟨w1, hw1⟩ : ∃ w1, w.alloc (.cells (wdV mk) 33) = w1 := ⟨_, rfl⟩
  rw [hw1] at H1
  have HW := hid hw1
  rw [← HR0.out]
  clear hw1 H0 HR0
  go_enter Tryd.func76, Tryd.ntmps76
  go_upto_region 1 with fail
  rw [HW.out]
  have PV := (HPV.out _ _ _ H1.out).2
  have g0 : w1.cell? ⟨0, 0, none⟩ = some (.int .i64 0) := PV 0 (by decide)
  have g1 : w1.cell? ⟨0, 1, none⟩ = some (.int .i64 1) := PV 1 (by decide)
  have g2 : w1.cell? ⟨0, 2, none⟩ = some (.int .i64 0) := PV 2 (by decide)
  have g3 : w1.cell? ⟨0, 3, none⟩ = some (.int .i64 2) := PV 3 (by decide)
  have g4 : w1.cell? ⟨0, 4, none⟩ = some (.int .i64 1) := PV 4 (by decide)
  have g6 : w1.cell? ⟨0, 5, none⟩ = some (.int .i64 2) := PV 5 (by decide)
  clear PV
  go_wp2
  go_loopw [2, 14] (fun rv iv wr => ∃ j : Nat, j ≤ 3 ∧ iv = .int .i64 j ∧ rv = .int .i64 (U j) ∧ Ow Pm F0 w0 wr b (St j) ((w.heap.size, .cells (wdV mk) 33 (0, 0)) :: bs)) (fun _ iv _ => 3 - (intOf iv).toNat)
  case atStart => exact ⟨0, by omega, rfl, rfl, H1.out⟩
  case round =>
    clear H1
    obtain ⟨j, hj, rfl, rfl, hI⟩ := hrel
    have HI := hid hI
    clear hI
    rcases (by omega : j = 0 ∨ j = 1 ∨ j = 2 ∨ j = 3) with rfl | rfl | rfl | rfl
    · rw [show ((0 : Nat) : Int) = 0 from rfl]
      have H3 := hid (HI.out.new hM #[.int .i64 0, .int .i64 1] 122)
      go_upto_region 4 with (refine step_index_pr rfl _ _ rfl 0 0 1 (by decide) rfl rfl ?_)
      obtain ⟨g5, hg5⟩ : ∃ g5, wr.heap.size = g5 := ⟨_, rfl⟩
      rw [hg5] at H3 ⊢
      generalize wr.alloc (.cells #[.int .i64 0, .int .i64 1] 122) = w3 at *
      clear hg5 HI
      try clear g0 g1 g2 g3 g4 g6
      have c0 := row_c (i := 0) (u := .int .i64 0) (H3.out.bl 0 rfl) rfl
      have c1 := row_c (i := 1) (u := .int .i64 1) (H3.out.bl 0 rfl) rfl
      have cm := row_c (i := 0) (u := .int .i64 (mk 0)) (H3.out.bl 1 rfl) rfl
      by_cases hkc : 0 < c
      · have q0 : decide ((0 : Int) < (c : Int)) = true := decide_eq_true (by omega)
        have q1 : decide (0 < c) = true := decide_eq_true (by omega)
        have HT : Hid (tch c 1 0 = true) := hid (by unfold tch; rw [decide_eq_true hkc]; rfl)
        clear hkc
        go_wp2_with (go_at_call 81; (with_reducible refine (HC.out 0 _ _ (by decide) HT.out H3.out).mono ?_); rintro e w4 ⟨rfl, h4⟩; have H4 := hid h4; clear h4)
        go_roundw
        case rel => exact ⟨1, by omega, rfl, rfl, H4.out.drop⟩
        case measure => simp [intOf]
      · have q0 : decide ((0 : Int) < (c : Int)) = false := decide_eq_false (by omega)
        have q1 : decide (0 < c) = false := decide_eq_false (by omega)
        have HT := hid (HN.out 0 (by unfold tch; rw [decide_eq_false hkc]; rfl))
        clear hkc
        go_wp2
        go_roundw
        case rel => exact ⟨1, by omega, rfl, by rw [HT.out.2], by rw [HT.out.1]; exact H3.out.drop⟩
        case measure => simp [intOf]
    · rw [show ((1 : Nat) : Int) = 1 from rfl]
      have H3 := hid (HI.out.new hM #[.int .i64 0, .int .i64 2] 122)
      go_upto_region 4 with (refine step_index_pr rfl _ _ rfl 1 0 2 (by decide) rfl rfl ?_)
      obtain ⟨g5, hg5⟩ : ∃ g5, wr.heap.size = g5 := ⟨_, rfl⟩
      rw [hg5] at H3 ⊢
      generalize wr.alloc (.cells #[.int .i64 0, .int .i64 2] 122) = w3 at *
      clear hg5 HI
      try clear g0 g1 g2 g3 g4 g6
      have c0 := row_c (i := 0) (u := .int .i64 0) (H3.out.bl 0 rfl) rfl
      have c1 := row_c (i := 1) (u := .int .i64 2) (H3.out.bl 0 rfl) rfl
      have cm := row_c (i := 1) (u := .int .i64 (mk 1)) (H3.out.bl 1 rfl) rfl
      by_cases hkc : 1 < c
      · have q0 : decide ((1 : Int) < (c : Int)) = true := decide_eq_true (by omega)
        have HT := hid (HN.out 1 (by unfold tch; rw [decide_eq_true hkc]; rfl))
        clear hkc
        go_wp2
        go_roundw
        case rel => exact ⟨2, by omega, rfl, by rw [HT.out.2], by rw [HT.out.1]; exact H3.out.drop⟩
        case measure => simp [intOf]
      · have q0 : decide ((1 : Int) < (c : Int)) = false := decide_eq_false (by omega)
        have HT := hid (HN.out 1 (by unfold tch; rw [decide_eq_false hkc]; rfl))
        clear hkc
        go_wp2
        go_roundw
        case rel => exact ⟨2, by omega, rfl, by rw [HT.out.2], by rw [HT.out.1]; exact H3.out.drop⟩
        case measure => simp [intOf]
    · rw [show ((2 : Nat) : Int) = 2 from rfl]
      have H3 := hid (HI.out.new hM #[.int .i64 1, .int .i64 2] 122)
      go_upto_region 4 with (refine step_index_pr rfl _ _ rfl 2 1 2 (by decide) rfl rfl ?_)
      obtain ⟨g5, hg5⟩ : ∃ g5, wr.heap.size = g5 := ⟨_, rfl⟩
      rw [hg5] at H3 ⊢
      generalize wr.alloc (.cells #[.int .i64 1, .int .i64 2] 122) = w3 at *
      clear hg5 HI
      try clear g0 g1 g2 g3 g4 g6
      have c0 := row_c (i := 0) (u := .int .i64 1) (H3.out.bl 0 rfl) rfl
      have c1 := row_c (i := 1) (u := .int .i64 2) (H3.out.bl 0 rfl) rfl
      have cm := row_c (i := 2) (u := .int .i64 (mk 2)) (H3.out.bl 1 rfl) rfl
      by_cases hkc : 2 < c
      · have q0 : decide ((2 : Int) < (c : Int)) = true := decide_eq_true (by omega)
        have HT : Hid (tch c 1 2 = true) := hid (by unfold tch; rw [decide_eq_true hkc]; rfl)
        clear hkc
        go_wp2_with (go_at_call 81; (with_reducible refine (HC.out 2 _ _ (by decide) HT.out H3.out).mono ?_); rintro e w4 ⟨rfl, h4⟩; have H4 := hid h4; clear h4)
        go_roundw
        case rel => exact ⟨3, by omega, rfl, rfl, H4.out.drop⟩
        case measure => simp [intOf]
      · have q0 : decide ((2 : Int) < (c : Int)) = false := decide_eq_false (by omega)
        have HT := hid (HN.out 2 (by unfold tch; rw [decide_eq_false hkc]; rfl))
        clear hkc
        go_wp2
        go_roundw
        case rel => exact ⟨3, by omega, rfl, by rw [HT.out.2], by rw [HT.out.1]; exact H3.out.drop⟩
        case measure => simp [intOf]
    · rw [show ((3 : Nat) : Int) = 3 from rfl]
      go_wp2
      go_ret
      exact ⟨rfl, HI.out.drop⟩
set_option maxHeartbeats 6400000 in
theorem covered2_any {Pm : World → Nat → Ms → (Nat → Prop) → Prop} (hM : Mach Pm) {F0 : Nat → Prop} {w0 w : World} {b : Nat} {bs : List (Nat × Obj)} (k c : Nat) (S : Ms) (r : Int) (mk : Nat → Int) (h : Ow Pm F0 w0 w b S bs) (hp : Pv w0) (hF : ¬ F0 gpair) (hq : Bq k S) (hk : k + 3 ≤ 100000) (hr : I64 r) (hm : Wb mk) :
    Calls Tryd.prog 76 #[.pointer (some ⟨b, 0, none⟩), .int .i64 2, .int .i64 r, .agg (wdV mk), .int .i64 (c : Int)] w fun e w' => e = .returned (.int .i64 (cvG dS0 dR0 c 2 mk S r 3).2) ∧ Ow Pm F0 w0 w' b (cvG dS0 dR0 c 2 mk S r 3).1 bs := by
  have HPV : Hid (∀ (bs' : List (Nat × Obj)) (S' : Ms) (w' : World), Ow Pm F0 w0 w' b S' bs' → Pv w') := hid (fun bs' S' w' h' => hp.ow hF h')
  have HC : Hid (∀ (j : Nat) (bs' : List (Nat × Obj)) (w' : World), j < 3 → tch c 2 j = true → Ow Pm F0 w0 w' b (cvG dS0 dR0 c 2 mk S r j).1 bs' → Calls Tryd.prog 81 #[.pointer (some ⟨b, 0, none⟩), .int .i64 5, .int .i64 2, .int .i64 (cvG dS0 dR0 c 2 mk S r j).2, .int .i64 (mk j)] w' fun e w2 => e = .returned (.int .i64 (cvG dS0 dR0 c 2 mk S r (j + 1)).2) ∧ Ow Pm F0 w0 w2 b (cvG dS0 dR0 c 2 mk S r (j + 1)).1 bs') :=
    hid (fun j bs' w' hj ht h' => by
      obtain ⟨b1, b2⟩ := cv_bq (c := c) (i := 2) (j := j) hq (by omega) hm hr (by omega)
      obtain ⟨e1, e2⟩ := cv_yes mk S r ht
      rw [e1, e2]
      exact h'.lift hM (fun F hF => hM.two b (k + j) _ F 5 2 _ (mk j) w' hF b1 (by omega) (xr6_wf (i := 2) (by omega) b2 (hm j))))
  have HN : Hid (∀ j, tch c 2 j = false → (cvG dS0 dR0 c 2 mk S r (j + 1)).1 = (cvG dS0 dR0 c 2 mk S r j).1 ∧ (cvG dS0 dR0 c 2 mk S r (j + 1)).2 = (cvG dS0 dR0 c 2 mk S r j).2) := hid (fun j ht => by rw [cv_no mk S r ht]; exact ⟨rfl, rfl⟩)
  have H0 : Hid (Ow Pm F0 w0 w b (cvG dS0 dR0 c 2 mk S r 0).1 bs) := hid h
  have HR0 : Hid ((cvG dS0 dR0 c 2 mk S r 0).2 = r) := hid rfl
  clear h hp hF hq hk hr hm
  obtain ⟨St, hSt⟩ : ∃ St : Nat → Ms, ∀ j, (cvG dS0 dR0 c 2 mk S r j).1 = St j := ⟨_, fun _ => rfl⟩
  obtain ⟨U, hU⟩ : ∃ U : Nat → Int, ∀ j, (cvG dS0 dR0 c 2 mk S r j).2 = U j := ⟨_, fun _ => rfl⟩
  simp only [hSt, hU] at *
  clear hSt hU
  have H1 := hid (H0.out.new hM (wdV mk) 33)
  obtain ⟨w1, hw1⟩ : ∃ w1, w.alloc (.cells (wdV mk) 33) = w1 := ⟨_, rfl⟩
  rw [hw1] at H1
  have HW := hid hw1
  rw [← HR0.out]
  clear hw1 H0 HR0
  go_enter Tryd.func76, Tryd.ntmps76
  go_upto_region 1 with fail
  rw [HW.out]
  have PV := (HPV.out _ _ _ H1.out).2
  have g0 : w1.cell? ⟨0, 0, none⟩ = some (.int .i64 0) := PV 0 (by decide)
  have g1 : w1.cell? ⟨0, 1, none⟩ = some (.int .i64 1) := PV 1 (by decide)
  have g2 : w1.cell? ⟨0, 2, none⟩ = some (.int .i64 0) := PV 2 (by decide)
  have g3 : w1.cell? ⟨0, 3, none⟩ = some (.int .i64 2) := PV 3 (by decide)
  have g4 : w1.cell? ⟨0, 4, none⟩ = some (.int .i64 1) := PV 4 (by decide)
  have g6 : w1.cell? ⟨0, 5, none⟩ = some (.int .i64 2) := PV 5 (by decide)
  clear PV
  go_wp2
  go_loopw [2, 14] (fun rv iv wr => ∃ j : Nat, j ≤ 3 ∧ iv = .int .i64 j ∧ rv = .int .i64 (U j) ∧ Ow Pm F0 w0 wr b (St j) ((w.heap.size, .cells (wdV mk) 33 (0, 0)) :: bs)) (fun _ iv _ => 3 - (intOf iv).toNat)
  case atStart => exact ⟨0, by omega, rfl, rfl, H1.out⟩
  case round =>
    clear H1
    obtain ⟨j, hj, rfl, rfl, hI⟩ := hrel
    have HI := hid hI
    clear hI
    rcases (by omega : j = 0 ∨ j = 1 ∨ j = 2 ∨ j = 3) with rfl | rfl | rfl | rfl
    · rw [show ((0 : Nat) : Int) = 0 from rfl]
      have H3 := hid (HI.out.new hM #[.int .i64 0, .int .i64 1] 122)
      go_upto_region 4 with (refine step_index_pr rfl _ _ rfl 0 0 1 (by decide) rfl rfl ?_)
      obtain ⟨g5, hg5⟩ : ∃ g5, wr.heap.size = g5 := ⟨_, rfl⟩
      rw [hg5] at H3 ⊢
      generalize wr.alloc (.cells #[.int .i64 0, .int .i64 1] 122) = w3 at *
      clear hg5 HI
      try clear g0 g1 g2 g3 g4 g6
      have c0 := row_c (i := 0) (u := .int .i64 0) (H3.out.bl 0 rfl) rfl
      have c1 := row_c (i := 1) (u := .int .i64 1) (H3.out.bl 0 rfl) rfl
      have cm := row_c (i := 0) (u := .int .i64 (mk 0)) (H3.out.bl 1 rfl) rfl
      by_cases hkc : 0 < c
      · have q0 : decide ((0 : Int) < (c : Int)) = true := decide_eq_true (by omega)
        have q1 : decide (0 < c) = true := decide_eq_true (by omega)
        have HT := hid (HN.out 0 (by unfold tch; rw [decide_eq_true hkc]; rfl))
        clear hkc
        go_wp2
        go_roundw
        case rel => exact ⟨1, by omega, rfl, by rw [HT.out.2], by rw [HT.out.1]; exact H3.out.drop⟩
        case measure => simp [intOf]
      · have q0 : decide ((0 : Int) < (c : Int)) = false := decide_eq_false (by omega)
        have q1 : decide (0 < c) = false := decide_eq_false (by omega)
        have HT := hid (HN.out 0 (by unfold tch; rw [decide_eq_false hkc]; rfl))
        clear hkc
        go_wp2
        go_roundw
        case rel => exact ⟨1, by omega, rfl, by rw [HT.out.2], by rw [HT.out.1]; exact H3.out.drop⟩
        case measure => simp [intOf]
    · rw [show ((1 : Nat) : Int) = 1 from rfl]
      have H3 := hid (HI.out.new hM #[.int .i64 0, .int .i64 2] 122)
      go_upto_region 4 with (refine step_index_pr rfl _ _ rfl 1 0 2 (by decide) rfl rfl ?_)
      obtain ⟨g5, hg5⟩ : ∃ g5, wr.heap.size = g5 := ⟨_, rfl⟩
      rw [hg5] at H3 ⊢
      generalize wr.alloc (.cells #[.int .i64 0, .int .i64 2] 122) = w3 at *
      clear hg5 HI
      try clear g0 g1 g2 g3 g4 g6
      have c0 := row_c (i := 0) (u := .int .i64 0) (H3.out.bl 0 rfl) rfl
      have c1 := row_c (i := 1) (u := .int .i64 2) (H3.out.bl 0 rfl) rfl
      have cm := row_c (i := 1) (u := .int .i64 (mk 1)) (H3.out.bl 1 rfl) rfl
      by_cases hkc : 1 < c
      · have q0 : decide ((1 : Int) < (c : Int)) = true := decide_eq_true (by omega)
        have HT : Hid (tch c 2 1 = true) := hid (by unfold tch; rw [decide_eq_true hkc]; rfl)
        clear hkc
        go_wp2_with (go_at_call 81; (with_reducible refine (HC.out 1 _ _ (by decide) HT.out H3.out).mono ?_); rintro e w4 ⟨rfl, h4⟩; have H4 := hid h4; clear h4)
        go_roundw
        case rel => exact ⟨2, by omega, rfl, rfl, H4.out.drop⟩
        case measure => simp [intOf]
      · have q0 : decide ((1 : Int) < (c : Int)) = false := decide_eq_false (by omega)
        have HT := hid (HN.out 1 (by unfold tch; rw [decide_eq_false hkc]; rfl))
        clear hkc
        go_wp2
        go_roundw
        case rel => exact ⟨2, by omega, rfl, by rw [HT.out.2], by rw [HT.out.1]; exact H3.out.drop⟩
        case measure => simp [intOf]
    · rw [show ((2 : Nat) : Int) = 2 from rfl]
      have H3 := hid (HI.out.new hM #[.int .i64 1, .int .i64 2] 122)
      go_upto_region 4 with (refine step_index_pr rfl _ _ rfl 2 1 2 (by decide) rfl rfl ?_)
      obtain ⟨g5, hg5⟩ : ∃ g5, wr.heap.size = g5 := ⟨_, rfl⟩
      rw [hg5] at H3 ⊢
      generalize wr.alloc (.cells #[.int .i64 1, .int .i64 2] 122) = w3 at *
      clear hg5 HI
      try clear g0 g1 g2 g3 g4 g6
      have c0 := row_c (i := 0) (u := .int .i64 1) (H3.out.bl 0 rfl) rfl
      have c1 := row_c (i := 1) (u := .int .i64 2) (H3.out.bl 0 rfl) rfl
      have cm := row_c (i := 2) (u := .int .i64 (mk 2)) (H3.out.bl 1 rfl) rfl
      by_cases hkc : 2 < c
      · have q0 : decide ((2 : Int) < (c : Int)) = true := decide_eq_true (by omega)
        have HT : Hid (tch c 2 2 = true) := hid (by unfold tch; rw [decide_eq_true hkc]; rfl)
        clear hkc
        go_wp2_with (go_at_call 81; (with_reducible refine (HC.out 2 _ _ (by decide) HT.out H3.out).mono ?_); rintro e w4 ⟨rfl, h4⟩; have H4 := hid h4; clear h4)
        go_roundw
        case rel => exact ⟨3, by omega, rfl, rfl, H4.out.drop⟩
        case measure => simp [intOf]
      · have q0 : decide ((2 : Int) < (c : Int)) = false := decide_eq_false (by omega)
        have HT := hid (HN.out 2 (by unfold tch; rw [decide_eq_false hkc]; rfl))
        clear hkc
        go_wp2
        go_roundw
        case rel => exact ⟨3, by omega, rfl, by rw [HT.out.2], by rw [HT.out.1]; exact H3.out.drop⟩
        case measure => simp [intOf]
    · rw [show ((3 : Nat) : Int) = 3 from rfl]
      go_wp2
      go_ret
      exact ⟨rfl, HI.out.drop⟩
end Go.Proofs.YtpjgpiieminaoaaDoor

/- The table of pairs, as the row lists it. -/
namespace Go.Proofs.YtpjgpiieminaoaaDoor
open Go.ChangeShapes Go.WideShapes Go.ChangeAt Go.RowKit Go.ChangeMaps
set_option maxRecDepth 100000
theorem drop_take {cs : List Value} {i : Nat} {a b : Value} (h : (cs.drop i).take 2 = [a, b]) : cs[i]? = some a ∧ cs[i + 1]? = some b := by
  have h0 := congrArg (·[0]?) h
  have h1 := congrArg (·[1]?) h
  simp at h0 h1
  exact ⟨h0, h1⟩
theorem pairs_cells {H : Type} {enc : TypeId × Value → H} {w : World} {base : Nat} {sp : Nat → Bool} {held : Bool} {fuel : Nat} {cs : List Value} {p : List MemPlace}
    (h : DataW.trod enc Tryd.prog w base sp held fuel 123 cs = some (Rows.laid_visor_fresh_pairs, p)) : ∀ i, i < 6 → cs[i]? = pairC[i]? := by
  obtain ⟨xs, m, _, hx, _, hxl, hget⟩ := DataW.trod_array Tryd.underlying123 h
  have hc : Tryd.prog.cellsOf 122 = 2 := by kernel_rfl
  rw [hc] at hget
  have hf : xs.map (·.1) = [Lib.tabData .i64 [0, 1], Lib.tabData .i64 [0, 2], Lib.tabData .i64 [1, 2]] := by
    have := congrArg Prod.fst hx
    unfold Rows.laid_visor_fresh_pairs at this
    simp only [DataW.agg.injEq] at this
    exact this.symm
  match xs, hxl, hf, hget with
  | [(d0, q0), (d1, q1), (d2, q2)], _, hf, hget =>
    simp only [List.map_cons, List.map_nil, List.cons.injEq, and_true] at hf
    obtain ⟨rfl, rfl, rfl⟩ := hf
    have k0 := hget 0 (by omega)
    have k1 := hget 1 (by omega)
    have k2 := hget 2 (by omega)
    simp only [List.getElem?_cons_zero, List.getElem?_cons_succ] at k0 k1 k2
    have t0 := drop_take (Lib.cells_of_tab Tryd.underlying122 Tryd.underlying3 (by kernel_rfl) (by kernel_rfl) k0)
    have t1 := drop_take (Lib.cells_of_tab Tryd.underlying122 Tryd.underlying3 (by kernel_rfl) (by kernel_rfl) k1)
    have t2 := drop_take (Lib.cells_of_tab Tryd.underlying122 Tryd.underlying3 (by kernel_rfl) (by kernel_rfl) k2)
    intro i hi
    rcases (by omega : i = 0 ∨ i = 1 ∨ i = 2 ∨ i = 3 ∨ i = 4 ∨ i = 5) with rfl | rfl | rfl | rfl | rfl | rfl
    · exact t0.1
    · exact t0.2
    · exact t1.1
    · exact t1.2
    · exact t2.1
    · exact t2.2
theorem pv_of {W : World} (h : laidMet Tryd.prog [("visor/fresh.pairs", Rows.laid_visor_fresh_pairs)] W) : Pv W := by
  obtain ⟨ps, ⟨g0, t0, cs0, f0, p0, q0, hg0, ht0, hv0, hd0, _, _⟩, _⟩ := h
  have hg : Tryd.prog.globalNamed "visor/fresh.pairs" = some 0 := by kernel_rfl
  have ht : (Tryd.prog.globals[0]?).map (·.type) = some 123 := by kernel_rfl
  obtain rfl := Option.some.inj (hg.symm.trans hg0)
  obtain rfl := Option.some.inj (ht.symm.trans ht0)
  have hc := pairs_cells hd0
  have hcell : ∀ i, i < 6 → W.cell? ⟨0, i, none⟩ = pairC[i]? := fun i hi => by
    rw [World.var?_cell hg0 hv0 i, ← hc i hi]
    simp
  refine ⟨?_, hcell⟩
  have h0 := hcell 0 (by decide)
  by_cases e : 0 < W.heap.size
  · exact e
  · unfold World.cell? at h0
    rw [Array.getElem?_eq_none (by show W.heap.size ≤ 0; omega)] at h0
    exact absurd h0 (by simp [pairC])
theorem own : ownKnob Tryd.prog.godebug = none := by kernel_rfl
theorem laidOut : laidOutB Tryd.prog = true := by kernel_rfl
end Go.Proofs.YtpjgpiieminaoaaDoor
