/- Ranks of matrices of bits: rows put together till each has a column of its own; how many bytes are told. No program is named. -/
import Derived.Test.YtnklljlgghenpaaBmm
namespace Go.Proofs.Ytnklljlgghenpaa

/-! ### counting -/
theorem sub_len : ∀ {l m : List Nat}, l.Nodup → (∀ x, x ∈ l → x ∈ m) → l.length ≤ m.length
  | [], _, _, _ => by simp
  | a :: l, m, hn, h => by
    have hn' := List.nodup_cons.1 hn
    have hm : a ∈ m := h a (by simp)
    have ih := sub_len (m := m.erase a) hn'.2 (fun x hx => (List.mem_erase_of_ne (by rintro rfl; exact hn'.1 hx)).2 (h x (by simp [hx])))
    rw [List.length_erase_of_mem hm] at ih
    have : 0 < m.length := List.length_pos_of_mem hm
    simp; omega
theorem same_len {l m : List Nat} (hl : l.Nodup) (hm : m.Nodup) (h : ∀ x, x ∈ l ↔ x ∈ m) : l.length = m.length :=
  Nat.le_antisymm (sub_len hl (fun x hx => (h x).1 hx)) (sub_len hm (fun x hx => (h x).2 hx))
theorem nodup_map {g : Nat → Nat} {n : Nat} (h : ∀ i, i < n → ∀ j, j < n → g i = g j → i = j) : ((List.range n).map g).Nodup := by
  unfold List.Nodup
  rw [List.pairwise_map]
  refine List.Pairwise.imp_of_mem ?_ (List.nodup_range (n := n))
  intro a b ha hb hne e
  exact hne (h a (List.mem_range.1 ha) b (List.mem_range.1 hb) e)

/-- The values of the first n numbers, each once. -/
def vals (h : Nat → Nat) : Nat → List Nat
  | 0 => []
  | n + 1 => if h n ∈ vals h n then vals h n else h n :: vals h n
theorem vals_nodup (h : Nat → Nat) : ∀ n, (vals h n).Nodup
  | 0 => by simp [vals]
  | n + 1 => by
    rw [vals]; split
    · exact vals_nodup h n
    · rename_i hn; exact List.nodup_cons.2 ⟨hn, vals_nodup h n⟩
theorem mem_vals (h : Nat → Nat) (y : Nat) : ∀ n, y ∈ vals h n ↔ ∃ x, x < n ∧ h x = y
  | 0 => by simp [vals]
  | n + 1 => by
    have ih := mem_vals h y n
    rw [vals]
    constructor
    · intro hy
      by_cases hm : h n ∈ vals h n
      · rw [if_pos hm] at hy
        obtain ⟨x, hx, e⟩ := ih.1 hy
        exact ⟨x, by omega, e⟩
      · rw [if_neg hm] at hy
        rcases List.mem_cons.1 hy with rfl | hy
        · exact ⟨n, by omega, rfl⟩
        · obtain ⟨x, hx, e⟩ := ih.1 hy
          exact ⟨x, by omega, e⟩
    · rintro ⟨x, hx, e⟩
      by_cases hxn : x = n
      · subst hxn; subst e
        split
        · assumption
        · simp
      · have := ih.2 ⟨x, by omega, e⟩
        split
        · exact this
        · exact List.mem_cons_of_mem _ this
/-- How many values the first n numbers have. -/
def nd (h : Nat → Nat) (n : Nat) : Nat := (vals h n).length
theorem nd_le (h : Nat → Nat) : ∀ n, nd h n ≤ n
  | 0 => by simp [nd, vals]
  | n + 1 => by
    have := nd_le h n
    unfold nd at *
    rw [vals]; split
    · omega
    · simp; omega

/-! ### rows put to rows -/
def sel (c : Nat → Bool) (a : Nat → Nat) (d : Nat) : Nat → Nat := fun k => if c k then a k ^^^ a d else a k
def swp (a : Nat → Nat) (d i : Nat) : Nat → Nat := fun k => if k = i then a d else if k = d then a i else a k
/-- What putting row d to the rows c does to what comes out. -/
def selV (c : Nat → Bool) (d y : Nat) : Nat := if y.testBit d then y ^^^ pk c 8 else y
theorem selV_lt {c : Nat → Bool} {d y : Nat} (hy : y < 256) : selV c d y < 256 := by
  unfold selV; split
  · exact xor_lt hy (pk8_lt c)
  · exact hy
theorem selV_selV {c : Nat → Bool} {d : Nat} (hd : d < 8) (hc : c d = false) (y : Nat) : selV c d (selV c d y) = y := by
  unfold selV
  by_cases h : y.testBit d = true
  · have h2 : (y ^^^ pk c 8).testBit d = true := by rw [Nat.testBit_xor, pk8_bit c hd, hc, h]; rfl
    rw [if_pos h, if_pos h2, Nat.xor_assoc, Nat.xor_self, Nat.xor_zero]
  · rw [if_neg h, if_neg h]
theorem ap_sel (c : Nat → Bool) (a : Nat → Nat) {d : Nat} (hd : d < 8) (x : Nat) : ap (sel c a d) x = selV c d (ap a x) := by
  refine byte_ext (ap_lt _ _) (selV_lt (ap_lt _ _)) (fun i hi => ?_)
  rw [ap_bit _ _ hi]
  unfold sel selV
  cases hc : c i
  · rw [if_neg (by simp)]
    by_cases h : (ap a x).testBit d = true
    · rw [if_pos h, Nat.testBit_xor, pk8_bit c hi, hc, ap_bit _ _ hi]; simp
    · rw [if_neg h, ap_bit _ _ hi]
  · rw [if_pos rfl, xor_dot]
    by_cases h : (ap a x).testBit d = true
    · rw [if_pos h, Nat.testBit_xor, pk8_bit c hi, hc, ap_bit _ _ hi]
      rw [ap_bit _ _ hd] at h; rw [h]
    · rw [if_neg h, ap_bit _ _ hi]
      rw [ap_bit _ _ hd] at h; rw [Bool.eq_false_iff.2 h]; simp
def swpV (d i y : Nat) : Nat := pk (fun k => if k = i then y.testBit d else if k = d then y.testBit i else y.testBit k) 8
theorem swpV_lt (d i y : Nat) : swpV d i y < 256 := pk8_lt _
theorem swpV_swpV {d i y : Nat} (hd : d < 8) (hi : i < 8) (hy : y < 256) : swpV d i (swpV d i y) = y := by
  refine byte_ext (pk8_lt _) hy (fun k hk => ?_)
  unfold swpV
  rw [pk8_bit _ hk]
  rw [pk8_bit _ hd, pk8_bit _ hi, pk8_bit _ hk]
  by_cases h1 : k = i
  · subst h1
    rw [if_pos rfl]
    by_cases h2 : d = k
    · subst h2; simp
    · simp [h2]
  · rw [if_neg h1]
    by_cases h2 : k = d
    · subst h2; simp
    · simp [h1, h2]
theorem ap_swp (a : Nat → Nat) {d i : Nat} (hd : d < 8) (hi : i < 8) (x : Nat) : ap (swp a d i) x = swpV d i (ap a x) := by
  refine byte_ext (ap_lt _ _) (pk8_lt _) (fun k hk => ?_)
  unfold swpV
  rw [pk8_bit _ hk, ap_bit _ _ hk, ap_bit _ _ hd, ap_bit _ _ hi, ap_bit _ _ hk]
  unfold swp
  by_cases h1 : k = i
  · rw [if_pos h1, if_pos h1]
  · rw [if_neg h1, if_neg h1]
    by_cases h2 : k = d
    · rw [if_pos h2, if_pos h2]
    · rw [if_neg h2, if_neg h2]

/-- The first row from d on with a bit in column j; 8 if there is none: looked for over n rows. -/
def rowF (m : Nat → Nat) (j : Nat) : Nat → Nat → Nat
  | 0, i => i
  | n + 1, i => if (m i).testBit j then i else rowF m j n (i + 1)
def rowW (m : Nat → Nat) (d j : Nat) : Nat := if d ≤ 8 then rowF m j (8 - d) d else 8
theorem rowF_spec (m : Nat → Nat) (j : Nat) : ∀ n i, i ≤ rowF m j n i ∧ rowF m j n i ≤ i + n ∧ (∀ k, i ≤ k → k < rowF m j n i → (m k).testBit j = false) ∧ (rowF m j n i < i + n → (m (rowF m j n i)).testBit j = true)
  | 0, i => ⟨Nat.le_refl _, Nat.le_refl _, fun k h1 h2 => by simp only [rowF] at h2; omega, fun h => by simp only [rowF] at h; omega⟩
  | n + 1, i => by
    have ih := rowF_spec m j n (i + 1)
    rw [rowF]
    split
    · rename_i h
      exact ⟨Nat.le_refl _, by omega, fun k h1 h2 => by omega, fun _ => h⟩
    · rename_i h
      obtain ⟨h1, h2, h3, h4⟩ := ih
      refine ⟨by omega, by omega, fun k k1 k2 => ?_, fun hh => h4 (by omega)⟩
      by_cases e : k = i
      · subst e; exact Bool.eq_false_iff.2 h
      · exact h3 k (by omega) k2
theorem rowW_spec (m : Nat → Nat) {d : Nat} (j : Nat) (hd : d ≤ 8) : d ≤ rowW m d j ∧ rowW m d j ≤ 8 ∧ (∀ k, d ≤ k → k < rowW m d j → (m k).testBit j = false) ∧ (rowW m d j < 8 → (m (rowW m d j)).testBit j = true) := by
  obtain ⟨h1, h2, h3, h4⟩ := rowF_spec m j (8 - d) d
  unfold rowW
  rw [if_pos hd]
  exact ⟨h1, by omega, h3, fun h => h4 (by omega)⟩

/-- Which rows row d is put to. -/
def cond (m : Nat → Nat) (d j : Nat) : Nat → Bool := fun k => decide (k ≠ d) && (m k).testBit j
/-- How far the work has come: columns up to j are done, d rows have a column of their own. -/
structure RInv (f m s : Nat → Nat) (d j : Nat) : Prop where
  dj : d ≤ j
  j8 : j ≤ 8
  bm : By m
  bs : By s
  steps : ∀ x, x < 256 → ap m x = ap s (ap f x)
  back : ∃ t : Nat → Nat, (∀ x, x < 256 → t x < 256) ∧ (∀ x, x < 256 → t (ap s x) = x) ∧ (∀ x, x < 256 → ap s (t x) = x)
  own : ∃ p : Nat → Nat, (∀ i, i < d → p i < j ∧ ∀ k, k < 8 → (m k).testBit (p i) = decide (k = i)) ∧ (d = j → ∀ i, i < d → p i = i)
  low : ∀ k, d ≤ k → k < 8 → ∀ c, c < j → (m k).testBit c = false

theorem RInv.start {f : Nat → Nat} (hf : By f) : RInv f f one 0 0 :=
  ⟨Nat.le_refl _, by omega, hf, one_by, fun x _ => (ap_one (ap_lt f x)).symm, ⟨id, fun _ h => h, fun x hx => ap_one hx, fun x hx => ap_one hx⟩, ⟨id, fun i h => by omega, fun _ i h => by omega⟩, fun _ _ _ c h => by omega⟩
theorem RInv.none {f m s : Nat → Nat} {d j : Nat} (h : RInv f m s d j) (hj : j < 8) (hr : rowW m d j = 8) : RInv f m s d (j + 1) := by
  obtain ⟨_, _, h3, _⟩ := rowW_spec m j (show d ≤ 8 from Nat.le_trans h.dj h.j8)
  obtain ⟨p, hp, _⟩ := h.own
  refine ⟨by have := h.dj; omega, by omega, h.bm, h.bs, h.steps, h.back, ⟨p, fun i hi => ⟨by have := (hp i hi).1; omega, (hp i hi).2⟩, fun e => by have := h.dj; omega⟩, fun k hk hk8 c hc => ?_⟩
  by_cases e : c = j
  · subst e; exact h3 k hk (by omega)
  · exact h.low k hk hk8 c (by omega)
theorem RInv.swap {f m s : Nat → Nat} {d j i : Nat} (h : RInv f m s d j) (hi : i < 8) (hd : d ≤ i) : RInv f (swp m d i) (swp s d i) d j := by
  have hd8 : d < 8 := by omega
  obtain ⟨t, t1, t2, t3⟩ := h.back
  obtain ⟨p, hp, hp2⟩ := h.own
  have by_swp : ∀ {a : Nat → Nat}, By a → By (swp a d i) := fun {a} ha k hk => by
    unfold swp; split
    · exact ha d hd8
    · split
      · exact ha i hi
      · exact ha k hk
  refine ⟨h.dj, h.j8, by_swp h.bm, by_swp h.bs, fun x hx => ?_, ⟨fun y => t (swpV d i y), fun x _ => t1 _ (swpV_lt _ _ _), fun x hx => ?_, fun x hx => ?_⟩, ⟨p, fun a ha => ⟨(hp a ha).1, fun k hk => ?_⟩, hp2⟩, fun k hk hk8 c hc => ?_⟩
  · rw [ap_swp m hd8 hi, ap_swp s hd8 hi, h.steps x hx]
  · dsimp only; rw [ap_swp s hd8 hi, swpV_swpV hd8 hi (ap_lt _ _), t2 x hx]
  · rw [ap_swp s hd8 hi, t3 _ (swpV_lt _ _ _), swpV_swpV hd8 hi hx]
  · have h1 := (hp a ha).2
    unfold swp
    by_cases e1 : k = i
    · subst e1; rw [if_pos rfl, h1 d hd8]; simp; omega
    · rw [if_neg e1]
      by_cases e2 : k = d
      · subst e2; rw [if_pos rfl, h1 i hi]; simp; omega
      · rw [if_neg e2, h1 k hk]
  · unfold swp
    split
    · exact h.low d (Nat.le_refl _) hd8 c hc
    · split
      · exact h.low i hd hi c hc
      · exact h.low k hk hk8 c hc
theorem RInv.clear {f m s : Nat → Nat} {d j : Nat} (h : RInv f m s d j) (hj : j < 8) (hb : (m d).testBit j = true) : RInv f (sel (cond m d j) m d) (sel (cond m d j) s d) (d + 1) (j + 1) := by
  have hdj := h.dj
  have hd8 : d < 8 := by omega
  obtain ⟨t, t1, t2, t3⟩ := h.back
  obtain ⟨p, hp, hp2⟩ := h.own
  have hcd : cond m d j d = false := by simp [cond]
  have by_sel : ∀ {a : Nat → Nat}, By a → By (sel (cond m d j) a d) := fun {a} ha k hk => by
    unfold sel; split
    · exact xor_lt (ha k hk) (ha d hd8)
    · exact ha k hk
  -- row d has no bit in another row's own column, nor in a column that is done
  have hdp : ∀ a, a < d → (m d).testBit (p a) = false := fun a ha => by rw [(hp a ha).2 d hd8]; simp; omega
  have hlow := h.low d (Nat.le_refl _) hd8
  have keep : ∀ k c, (m d).testBit c = false → (sel (cond m d j) m d k).testBit c = (m k).testBit c := fun k c hc => by
    unfold sel; split
    · rw [Nat.testBit_xor, hc]; simp
    · rfl
  have col : ∀ k, k < 8 → (sel (cond m d j) m d k).testBit j = decide (k = d) := fun k hk => by
    unfold sel
    by_cases e : k = d
    · subst e; rw [hcd]; simp [hb]
    · cases hm : (m k).testBit j
      · have : cond m d j k = false := by simp [cond, hm]
        rw [this, if_neg (by simp), hm]; simp [e]
      · have : cond m d j k = true := by simp [cond, hm, e]
        rw [this, if_pos rfl, Nat.testBit_xor, hm, hb]; simp [e]
  refine ⟨by omega, by omega, by_sel h.bm, by_sel h.bs, fun x hx => ?_, ⟨fun y => t (selV (cond m d j) d y), fun x hx => t1 _ (selV_lt hx), fun x hx => ?_, fun x hx => ?_⟩, ⟨fun a => if a = d then j else p a, fun a ha => ⟨?_, fun k hk => ?_⟩, fun e a ha => ?_⟩, fun k hk hk8 c hc => ?_⟩
  · rw [ap_sel _ m hd8, ap_sel _ s hd8, h.steps x hx]
  · dsimp only; rw [ap_sel _ s hd8, selV_selV hd8 hcd, t2 x hx]
  · rw [ap_sel _ s hd8, t3 _ (selV_lt hx), selV_selV hd8 hcd]
  · dsimp only; by_cases e : a = d
    · rw [if_pos e]; omega
    · rw [if_neg e]; have := (hp a (by omega)).1; omega
  · dsimp only; by_cases e : a = d
    · rw [if_pos e, col k hk, e]
    · rw [if_neg e, keep k _ (hdp a (by omega)), (hp a (by omega)).2 k hk]
  · dsimp only; by_cases e2 : a = d
    · rw [if_pos e2]; omega
    · rw [if_neg e2]; exact hp2 (by omega) a (by omega)
  · by_cases e : c = j
    · subst e; rw [col k hk8]; simp; omega
    · rw [keep k c (hlow c (by omega))]; exact h.low k (by omega) hk8 c (by omega)
/-- One column. -/
theorem RInv.some {f m s : Nat → Nat} {d j : Nat} (h : RInv f m s d j) (hj : j < 8) (hr : rowW m d j < 8) :
    RInv f (sel (cond (swp m d (rowW m d j)) d j) (swp m d (rowW m d j)) d) (sel (cond (swp m d (rowW m d j)) d j) (swp s d (rowW m d j)) d) (d + 1) (j + 1) := by
  obtain ⟨h1, _, _, h4⟩ := rowW_spec m j (show d ≤ 8 from Nat.le_trans h.dj h.j8)
  have := h.swap hr h1
  refine this.clear hj ?_
  unfold swp
  by_cases e : d = rowW m d j
  · rw [if_pos e]
    have := h4 hr
    rwa [← e] at this
  · rw [if_neg e, if_pos rfl]; exact h4 hr
theorem red_all {f : Nat → Nat} (hf : By f) : ∀ j, j ≤ 8 → ∃ m s d, RInv f m s d j
  | 0, _ => ⟨_, _, _, RInv.start hf⟩
  | j + 1, hj => by
    obtain ⟨m, s, d, h⟩ := red_all hf j (by omega)
    obtain ⟨_, h2, _, _⟩ := rowW_spec m j (show d ≤ 8 from Nat.le_trans h.dj h.j8)
    by_cases hr : rowW m d j = 8
    · exact ⟨_, _, _, h.none (by omega) hr⟩
    · exact ⟨_, _, _, h.some (by omega) (by omega)⟩
end Go.Proofs.Ytnklljlgghenpaa
