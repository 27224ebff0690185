/- Ranks of matrices of bits, inverses, what is turned into 0, powers. No program is named. -/
import Derived.Test.YtnklljlgghenpaaBmr
namespace Go.Proofs.Ytnklljlgghenpaa

/-! ### what is left when all columns are done -/
theorem RInv.zero {f m s : Nat → Nat} {d : Nat} (h : RInv f m s d 8) : ∀ k, d ≤ k → k < 8 → m k = 0 := fun k hk hk8 =>
  byte_ext (h.bm k hk8) (by decide) (fun c hc => by rw [h.low k hk hk8 c hc]; simp)
theorem RInv.nonzero {f m s : Nat → Nat} {d : Nat} (h : RInv f m s d 8) : ∀ k, k < d → m k ≠ 0 := fun k hk e => by
  obtain ⟨p, hp, _⟩ := h.own
  have h8 := h.dj
  have := (hp k hk).2 k (by omega)
  rw [e] at this
  simp at this
theorem RInv.image_lt {f m s : Nat → Nat} {d : Nat} (h : RInv f m s d 8) (x : Nat) : ap m x < 2 ^ d := by
  refine Nat.lt_of_not_le fun hge => ?_
  obtain ⟨i, hi, hb⟩ := Nat.exists_ge_and_testBit_of_ge_two_pow hge
  by_cases h8 : i < 8
  · rw [ap_bit _ _ h8, h.zero i hi h8, dot_comm, dot_zero] at hb
    cases hb
  · rw [bit_ge (ap_lt _ _) (by omega)] at hb
    cases hb
theorem RInv.image_all {f m s : Nat → Nat} {d : Nat} (h : RInv f m s d 8) {z : Nat} (hz : z < 2 ^ d) : ∃ x, x < 256 ∧ ap m x = z := by
  obtain ⟨p, hp, _⟩ := h.own
  have h8 : d ≤ 8 := h.dj
  have hz8 : z < 256 := Nat.lt_of_lt_of_le hz (Nat.pow_le_pow_right (by decide) h8)
  refine ⟨xsum (fun i => if z.testBit i then 2 ^ p i else 0) d, xsum_lt (fun i hi => ?_), byte_ext (ap_lt _ _) hz8 (fun k hk => ?_)⟩
  · split
    · exact two_lt _ (hp i hi).1
    · decide
  · rw [ap_bit _ _ hk, dot_comm, xsum_dot, bsum_one (j := k) (fun i hi hne => ?_)]
    · by_cases hkd : k < d
      · have := (hp k hkd).2 k hk
        cases hzk : z.testBit k
        · simp [hkd, dot_comm, dot_zero]
        · simp only [hkd, decide_true, Bool.true_and, if_true]
          rw [two_dot _ (hp k hkd).1, this]; simp
      · have : z.testBit k = false := Nat.testBit_lt_two_pow (Nat.lt_of_lt_of_le hz (Nat.pow_le_pow_right (by decide) (by omega)))
        simp [hkd, this]
    · cases hzi : z.testBit i
      · simp [dot_comm, dot_zero]
      · simp only [if_true]
        rw [two_dot _ (hp i hi).1, (hp i hi).2 k hk]; simp; omega
/-- As many bytes are told as 2 to the number of rows that are left. -/
theorem RInv.told {f m s : Nat → Nat} {d : Nat} (h : RInv f m s d 8) : nd (ap f) 256 = 2 ^ d := by
  obtain ⟨t, t1, t2, t3⟩ := h.back
  have hd : 2 ^ d ≤ 256 := Nat.pow_le_pow_right (by decide) (show d ≤ 8 from h.dj)
  have e := same_len (vals_nodup (ap f) 256) (m := (List.range (2 ^ d)).map t) (nodup_map (fun i hi j hj e => by
    rw [← t3 i (by omega), ← t3 j (by omega), e])) (fun y => ?_)
  · simpa [nd] using e
  · rw [mem_vals, List.mem_map]
    constructor
    · rintro ⟨x, hx, rfl⟩
      refine ⟨ap m x, List.mem_range.2 (h.image_lt x), ?_⟩
      rw [h.steps x hx, t2 _ (ap_lt _ _)]
    · rintro ⟨z, hz, rfl⟩
      obtain ⟨x, hx, e⟩ := h.image_all (List.mem_range.1 hz)
      refine ⟨x, hx, ?_⟩
      rw [h.steps x hx] at e
      rw [← e, t2 _ (ap_lt _ _)]

/-- The rank. -/
def rk (f : Nat → Nat) : Nat := (nd (ap f) 256).log2
theorem RInv.rank {f m s : Nat → Nat} {d : Nat} (h : RInv f m s d 8) : rk f = d := by
  unfold rk; rw [h.told, Nat.log2_two_pow]
theorem red_end {f : Nat → Nat} (hf : By f) : ∃ m s, RInv f m s (rk f) 8 := by
  obtain ⟨m, s, d, h⟩ := red_all hf 8 (Nat.le_refl _)
  have := h.rank
  exact ⟨m, s, by rw [this]; exact h⟩
theorem rk_le {f : Nat → Nat} (hf : By f) : rk f ≤ 8 := by
  obtain ⟨m, s, h⟩ := red_end hf
  exact h.dj
theorem nd_rk {f : Nat → Nat} (hf : By f) : nd (ap f) 256 = 2 ^ rk f := by
  obtain ⟨m, s, h⟩ := red_end hf
  exact h.told
theorem vals_ext {h g : Nat → Nat} : ∀ {n : Nat}, (∀ k, k < n → h k = g k) → vals h n = vals g n
  | 0, _ => rfl
  | n + 1, e => by rw [vals, vals, vals_ext (fun k hk => e k (by omega)), e n (by omega)]
theorem rk_ext {f g : Nat → Nat} (h : ∀ i, i < 8 → f i = g i) : rk f = rk g := by
  unfold rk nd; rw [vals_ext (fun x _ => ap_ext h x)]
theorem pow_le_inj {a b : Nat} (h : 2 ^ a ≤ 2 ^ b) : a ≤ b := by
  refine Nat.le_of_not_lt fun hlt => ?_
  have := Nat.pow_lt_pow_right (a := 2) (by decide) hlt
  omega
theorem rk_mu_le {f g : Nat → Nat} (hf : By f) (hg : By g) : rk (mu f g) ≤ rk f := by
  have h1 := nd_rk (mu_by f hg)
  have h2 := nd_rk hf
  refine pow_le_inj ?_
  rw [← h1, ← h2]
  refine sub_len (vals_nodup _ _) (fun y hy => ?_)
  rw [mem_vals] at hy ⊢
  obtain ⟨x, hx, rfl⟩ := hy
  exact ⟨ap g x, ap_lt _ _, (ap_mu f g x).symm⟩
/-- Rows as columns do not raise the rank. -/
theorem rk_flip_le {f : Nat → Nat} (hf : By f) : rk (flip f) ≤ rk f := by
  obtain ⟨m, s, h⟩ := red_end hf
  obtain ⟨t, t1, t2, t3⟩ := h.back
  have tlin : Lin t := fun x y hx hy => by
    have e : ap s (t x ^^^ t y) = x ^^^ y := by rw [ap_xor, t3 x hx, t3 y hy]
    rw [← e, t2 _ (xor_lt (t1 x hx) (t1 y hy))]
  have hT : ∀ x, x < 256 → ap (flip fun j => t (2 ^ j)) x = t x := fun x hx => ap_cols tlin t1 hx
  have key : ∀ y, y < 256 → ap (flip f) y = ap (flip m) (ap (flip (flip fun j => t (2 ^ j))) y % 2 ^ rk f) := fun y hy => by
    refine dot_ext (ap_lt _ _) (ap_lt _ _) (fun x hx => ?_)
    rw [← dot_flip, ← dot_flip]
    have e1 : ap f x = ap (flip fun j => t (2 ^ j)) (ap m x) := by rw [hT _ (ap_lt _ _), h.steps x hx, t2 _ (ap_lt _ _)]
    rw [e1, dot_flip]
    refine bsum_ext (fun k hk => ?_)
    by_cases hkd : k < rk f
    · rw [Nat.testBit_mod_two_pow]; simp [hkd]
    · rw [ap_bit m x hk, h.zero k (by omega) hk, dot_comm, dot_zero]; rfl
  have h1 := nd_rk (flip_by f)
  refine pow_le_inj ?_
  rw [← h1]
  have := sub_len (vals_nodup (ap (flip f)) 256) (m := (List.range (2 ^ rk f)).map (ap (flip m))) (fun y hy => by
    rw [mem_vals] at hy
    obtain ⟨x, hx, rfl⟩ := hy
    exact List.mem_map.2 ⟨_, List.mem_range.2 (Nat.mod_lt _ (Nat.two_pow_pos _)), (key x hx).symm⟩)
  simpa [nd] using this
theorem rk_flip {f : Nat → Nat} (hf : By f) : rk (flip f) = rk f := by
  refine Nat.le_antisymm (rk_flip_le hf) ?_
  have := rk_flip_le (flip_by f)
  rwa [rk_ext (flip_flip hf)] at this

/-! ### inverses -/
/-- The last of the first n bytes that is turned into y; is there one? -/
def lastx (f : Nat → Nat) (y : Nat) : Nat → Nat
  | 0 => 0
  | n + 1 => if ap f n = y then n else lastx f y n
def hits (f : Nat → Nat) (y : Nat) : Nat → Bool
  | 0 => false
  | n + 1 => if ap f n = y then true else hits f y n
theorem hits_iff (f : Nat → Nat) (y : Nat) : ∀ n, hits f y n = true ↔ ∃ x, x < n ∧ ap f x = y
  | 0 => by simp [hits]
  | n + 1 => by
    rw [hits]; split
    · rename_i h; exact ⟨fun _ => ⟨n, by omega, h⟩, fun _ => rfl⟩
    · rename_i h
      rw [hits_iff f y n]
      constructor
      · rintro ⟨x, hx, e⟩; exact ⟨x, by omega, e⟩
      · rintro ⟨x, hx, e⟩
        refine ⟨x, ?_, e⟩
        by_cases hxn : x = n
        · subst hxn; exact absurd e h
        · omega
theorem lastx_hit {f : Nat → Nat} {y : Nat} : ∀ {n}, hits f y n = true → ap f (lastx f y n) = y
  | 0, h => by simp [hits] at h
  | n + 1, h => by
    rw [lastx]; rw [hits] at h
    split
    · assumption
    · rename_i hn; rw [if_neg hn] at h; exact lastx_hit h
theorem lastx_lt (f : Nat → Nat) (y : Nat) : ∀ n, n ≤ 256 → lastx f y n < 256
  | 0, _ => by simp [lastx]
  | n + 1, h => by
    rw [lastx]; split
    · omega
    · exact lastx_lt f y n (by omega)
/-- What turns back. -/
def inv (f : Nat → Nat) : Nat → Nat := if rk f = 8 then flip (fun j => lastx f (2 ^ j) 256) else fun _ => 0
theorem lasts_by (f : Nat → Nat) : By (fun j => lastx f (2 ^ j) 256) := fun _ _ => lastx_lt f _ 256 (Nat.le_refl _)
theorem RInv.full {f m s : Nat → Nat} {d : Nat} (h : RInv f m s d 8) : d = 8 ↔ ∀ i, i < 8 → m i = one i := by
  constructor
  · intro e k hk
    subst e
    obtain ⟨p, hp, hp2⟩ := h.own
    refine byte_ext (h.bm k hk) (one_by k hk) (fun i hi => ?_)
    have h1 := (hp i hi).2 k hk
    rw [hp2 rfl i hi] at h1
    rw [h1]
    unfold one
    by_cases e : k = i
    · subst e; simp
    · rw [Nat.testBit_two_pow_of_ne e]; simp [e]
  · intro e
    have hd := h.dj
    refine Nat.le_antisymm hd (Nat.le_of_not_lt fun hlt => ?_)
    have h1 := h.zero d (Nat.le_refl _) hlt
    have h2 := e d hlt
    have h3 : 0 < 2 ^ d := Nat.two_pow_pos d
    unfold one at h2
    omega
/-- There is a turning back just if each power of 2 is hit. -/
theorem hits_all {f : Nat → Nat} (hf : By f) : (∀ j, j < 8 → hits f (2 ^ j) 256 = true) ↔ rk f = 8 := by
  obtain ⟨m, s, h⟩ := red_end hf
  constructor
  · intro hh
    have hsec : ∀ x, x < 256 → ap f (ap (flip (fun j => lastx f (2 ^ j) 256)) x) = x := fun x hx =>
      lin_ext (f := fun x => ap f (ap (flip (fun j => lastx f (2 ^ j) 256)) x)) (g := fun x => x) (fun x y _ _ => by simp only [ap_xor]) (fun _ _ _ _ => rfl)
        (fun j hj => by rw [ap_flip_two (lasts_by f) hj, lastx_hit (hh j hj)]) hx
    have h1 := nd_rk hf
    have h2 : (List.range 256).length ≤ nd (ap f) 256 := sub_len List.nodup_range (fun x hx => (mem_vals _ _ _).2 ⟨_, ap_lt _ _, hsec x (List.mem_range.1 hx)⟩)
    rw [h1, List.length_range] at h2
    exact Nat.le_antisymm (rk_le hf) (pow_le_inj (a := 8) h2)
  · intro e j hj
    have hone := h.full.1 e
    obtain ⟨t, t1, t2, t3⟩ := h.back
    have hfs : ∀ x, x < 256 → ap s (ap f x) = x := fun x hx => by rw [← h.steps x hx, ap_ext hone, ap_one hx]
    have hsf : ∀ y, y < 256 → ap f (ap s y) = y := fun y hy => by
      have := t2 _ (ap_lt f (ap s y))
      rw [hfs _ (ap_lt _ _), t2 y hy] at this
      exact this.symm
    exact (hits_iff _ _ _).2 ⟨ap s (2 ^ j), ap_lt _ _, hsf _ (two_lt j hj)⟩
theorem inv_right {f : Nat → Nat} (hf : By f) (hr : rk f = 8) : ∀ x, x < 256 → ap f (ap (inv f) x) = x := fun x hx => by
  have hh := (hits_all hf).2 hr
  unfold inv
  rw [if_pos hr]
  exact lin_ext (f := fun x => ap f (ap (flip (fun j => lastx f (2 ^ j) 256)) x)) (g := fun x => x) (fun x y _ _ => by simp only [ap_xor]) (fun _ _ _ _ => rfl)
        (fun j hj => by rw [ap_flip_two (lasts_by f) hj, lastx_hit (hh j hj)]) hx
theorem RInv.inv {f m s : Nat → Nat} (hf : By f) (h : RInv f m s 8 8) : ∀ i, i < 8 → s i = inv f i := by
  have hr : rk f = 8 := h.rank
  have hb : By (Proofs.Ytnklljlgghenpaa.inv f) := by unfold Proofs.Ytnklljlgghenpaa.inv; rw [if_pos hr]; exact flip_by _
  refine mat_ext h.bs hb (fun x hx => ?_)
  have h1 := h.steps _ (ap_lt (Proofs.Ytnklljlgghenpaa.inv f) x)
  rw [inv_right hf hr x hx, ap_ext (h.full.1 rfl), ap_one (ap_lt _ _)] at h1
  exact h1.symm
theorem inv_by (f : Nat → Nat) : By (inv f) := by
  unfold inv; split
  · exact flip_by _
  · intro i _; show 0 < 256; decide
theorem inv_left {f : Nat → Nat} (hf : By f) (hr : rk f = 8) : ∀ x, x < 256 → ap (inv f) (ap f x) = x := fun x hx => by
  obtain ⟨m, s, h⟩ := red_end hf
  rw [hr] at h
  rw [← ap_ext (h.inv hf), ← h.steps x hx, ap_ext (h.full.1 rfl), ap_one hx]
theorem mu_inv {f : Nat → Nat} (hf : By f) (hr : rk f = 8) : ∀ i, i < 8 → mu f (inv f) i = one i :=
  mat_ext (mu_by f (inv_by f)) one_by (fun x hx => by rw [ap_mu, inv_right hf hr x hx, ap_one hx])

/-! ### what is turned into 0 -/
def ker (f : Nat → Nat) (n : Nat) : List Nat := (List.range n).filter (fun x => ap f x = 0)
theorem mem_ker {f : Nat → Nat} {n x : Nat} : x ∈ ker f n ↔ x < n ∧ ap f x = 0 := by simp [ker]
theorem ker_succ (f : Nat → Nat) (n : Nat) : ker f (n + 1) = if ap f n = 0 then ker f n ++ [n] else ker f n := by
  unfold ker
  rw [List.range_succ, List.filter_append]
  split
  · rename_i h; simp [h]
  · rename_i h; simp [h]
theorem ker_sorted (f : Nat → Nat) (n : Nat) : (ker f n).Pairwise (· < ·) := List.Pairwise.filter _ List.pairwise_lt_range
theorem getD_in {l : List Nat} {i : Nat} (h : i < l.length) : l.getD i 0 = l[i] := by simp [List.getD, h]
theorem xor_cancel {a b c : Nat} (h : a ^^^ b = c) : a = c ^^^ b := by rw [← h, Nat.xor_assoc, Nat.xor_self, Nat.xor_zero]
theorem ker_len {f : Nat → Nat} (hf : By f) : (ker f 256).length = 2 ^ (8 - rk f) := by
  obtain ⟨m, s, h⟩ := red_end hf
  have hr := rk_le hf
  obtain ⟨t, t1, t2, t3⟩ := h.back
  have pre : ∀ z, ∃ x, z < 2 ^ rk f → x < 256 ∧ ap m x = z := fun z => by
    by_cases hz : z < 2 ^ rk f
    · obtain ⟨x, hx⟩ := h.image_all hz; exact ⟨x, fun _ => hx⟩
    · exact ⟨0, fun hz' => absurd hz' hz⟩
  obtain ⟨X, hX⟩ := Classical.axiomOfChoice pre
  have hker : ∀ x, x < 256 → (ap f x = 0 ↔ ap m x = 0) := fun x hx => by
    rw [h.steps x hx]
    constructor
    · intro e; rw [e, ap_zero]
    · intro e
      have h1 := t2 _ (ap_lt f x)
      rw [e] at h1
      have h2 := t2 0 (by decide)
      rw [ap_zero] at h2
      rw [← h1, h2]
  have hkl : ∀ i, i < (ker f 256).length → (ker f 256).getD i 0 < 256 ∧ ap m ((ker f 256).getD i 0) = 0 := fun i hi => by
    have : (ker f 256).getD i 0 ∈ ker f 256 := by rw [getD_in hi]; exact List.getElem_mem hi
    obtain ⟨h1, h2⟩ := mem_ker.1 this
    exact ⟨h1, (hker _ h1).1 h2⟩
  have kinj : ∀ i, i < (ker f 256).length → ∀ j, j < (ker f 256).length → (ker f 256).getD i 0 = (ker f 256).getD j 0 → i = j := fun i hi j hj e => by
    have hn := List.pairwise_iff_getElem.1 (ker_sorted f 256)
    rw [getD_in hi, getD_in hj] at e
    rcases Nat.lt_trichotomy i j with h1 | h1 | h1
    · have := hn i j hi hj h1; omega
    · exact h1
    · have := hn j i hj hi h1; omega
  generalize hL : (ker f 256).length = L at hkl kinj
  have hLp : 0 < L := by
    rw [← hL]; exact List.length_pos_of_mem (mem_ker.2 ⟨by decide, ap_zero f⟩)
  have hGm : ∀ i, i < 2 ^ rk f * L → i / L < 2 ^ rk f := fun i hi => Nat.div_lt_of_lt_mul (by rwa [Nat.mul_comm] at hi)
  have hGa : ∀ i, i < 2 ^ rk f * L → ap m ((ker f 256).getD (i % L) 0 ^^^ X (i / L)) = i / L := fun i hi => by
    rw [ap_xor, (hkl _ (Nat.mod_lt _ hLp)).2, (hX _ (hGm i hi)).2, Nat.zero_xor]
  have e := same_len (l := (List.range (2 ^ rk f * L)).map (fun i => (ker f 256).getD (i % L) 0 ^^^ X (i / L))) (m := List.range 256) (nodup_map (fun i hi j hj e => ?_)) List.nodup_range (fun y => ?_)
  · simp only [List.length_map, List.length_range] at e
    have h8 : 2 ^ rk f * 2 ^ (8 - rk f) = 256 := by rw [← Nat.pow_add, show rk f + (8 - rk f) = 8 by omega]
    exact Nat.eq_of_mul_eq_mul_left (Nat.two_pow_pos (rk f)) (e.trans h8.symm)
  · have hd : i / L = j / L := by rw [← hGa i hi, ← hGa j hj, e]
    rw [hd] at e
    have h2 : (ker f 256).getD (i % L) 0 = (ker f 256).getD (j % L) 0 := by
      have := xor_cancel e
      rwa [Nat.xor_assoc, Nat.xor_self, Nat.xor_zero] at this
    have h3 := kinj _ (Nat.mod_lt _ hLp) _ (Nat.mod_lt _ hLp) h2
    rw [← Nat.div_add_mod i L, ← Nat.div_add_mod j L, hd, h3]
  · rw [List.mem_map, List.mem_range]
    constructor
    · rintro ⟨i, hi, rfl⟩
      have hi := List.mem_range.1 hi
      exact xor_lt (hkl _ (Nat.mod_lt _ hLp)).1 (hX _ (hGm i hi)).1
    · intro hy
      have hz : ap m y < 2 ^ rk f := h.image_lt y
      obtain ⟨hx1, hx2⟩ := hX _ hz
      have hk : y ^^^ X (ap m y) ∈ ker f 256 := by
        refine mem_ker.2 ⟨xor_lt hy hx1, (hker _ (xor_lt hy hx1)).2 ?_⟩
        rw [ap_xor, hx2, Nat.xor_self]
      obtain ⟨a, ha, e⟩ := List.getElem_of_mem hk
      rw [hL] at ha
      refine ⟨L * ap m y + a, List.mem_range.2 ?_, ?_⟩
      · have : L * (ap m y + 1) ≤ L * 2 ^ rk f := Nat.mul_le_mul_left _ hz
        rw [Nat.mul_add] at this
        rw [Nat.mul_comm (2 ^ rk f)]; omega
      · have hdiv : (L * ap m y + a) / L = ap m y := by rw [Nat.mul_add_div hLp, Nat.div_eq_of_lt ha]; omega
        have hmod : (L * ap m y + a) % L = a := by rw [Nat.mul_add_mod, Nat.mod_eq_of_lt ha]
        rw [hdiv, hmod, getD_in (by omega), e, Nat.xor_assoc, Nat.xor_self, Nat.xor_zero]

/-! ### again and again -/
def it (f : Nat → Nat) : Nat → Nat → Nat
  | 0, x => x
  | n + 1, x => ap f (it f n x)
theorem it_lt (f : Nat → Nat) {x : Nat} (hx : x < 256) : ∀ n, it f n x < 256
  | 0 => hx
  | _ + 1 => ap_lt _ _
theorem it_mu (f : Nat → Nat) (x : Nat) : ∀ n, it (mu f f) n x = it f (2 * n) x
  | 0 => rfl
  | n + 1 => by
    rw [it, it_mu f x n, ap_mu]
    rfl
/-- Where a power stands: what is done, what is left. -/
def PInv (f g h : Nat → Nat) (N n : Nat) : Prop := By g ∧ By h ∧ ∀ x, x < 256 → ap g (it h n x) = it f N x
theorem PInv.start {f : Nat → Nat} (hf : By f) (N : Nat) : PInv f one f N N := ⟨one_by, hf, fun _ hx => ap_one (it_lt f hx N)⟩
theorem PInv.odd {f g h : Nat → Nat} {N n : Nat} (p : PInv f g h N n) (ho : n % 2 = 1) : PInv f (mu g h) (mu h h) N (n / 2) := by
  obtain ⟨h1, h2, h3⟩ := p
  refine ⟨mu_by g h2, mu_by h h2, fun x hx => ?_⟩
  rw [it_mu, ap_mu, ← h3 x hx]
  have e : n = 2 * (n / 2) + 1 := by omega
  conv => rhs; rw [e]
  rfl
theorem PInv.even {f g h : Nat → Nat} {N n : Nat} (p : PInv f g h N n) (ho : n % 2 ≠ 1) : PInv f g (mu h h) N (n / 2) := by
  obtain ⟨h1, h2, h3⟩ := p
  refine ⟨h1, mu_by h h2, fun x hx => ?_⟩
  rw [it_mu, ← h3 x hx]
  have e : n = 2 * (n / 2) := by omega
  conv => rhs; rw [e]
theorem PInv.done {f g h : Nat → Nat} {N : Nat} (p : PInv f g h N 0) : ∀ x, x < 256 → ap g x = it f N x := p.2.2
end Go.Proofs.Ytnklljlgghenpaa
