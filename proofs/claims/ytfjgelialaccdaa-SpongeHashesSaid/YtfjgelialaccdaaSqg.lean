import Derived.Test.YtfjgelialaccdaaProg
import Derived.Test.YtfjgelialaccdaaSqf
import Derived.Test.YtfjgelialaccdaaRfw
import Derived.Shelf.Abstract
import Derived.Shelf.RegionOpen
import Derived.WalkKit
import Derived.OwnWalkIn
import Derived.TacticsInMore
import Derived.Sort.LoopGhostIn
import Derived.LoopIn
/- Sponge: bytes are told in pieces, for whatever loop ranges over them. -/
namespace Go.Proofs.Ytfjgelialaccdaa
open Go.RowKit Go.Shelf
set_option maxRecDepth 100000
attribute [local go_sem] Oper.semAt_some

theorem one_box {w : World} {b : Nat} {v : Value} {t : TypeId} (h : w.heap[b]? = some (.cells #[v] t (0, 0))) : w.cell? ⟨b, 0, none⟩ = some v := by simp [World.cell?, h]
theorem pieces_any (g : Option Addr) (n c f R : Nat) (w : World) :
    Calls Try.prog 43 #[.slice g n c, .int .i64 (f : Int), .int .i64 (R : Int)] w fun e w' => e = .returned (.func (.func 53) #[] #[.pointer (some ⟨w.heap.size, 0, none⟩), .pointer (some ⟨w.heap.size + 2, 0, none⟩), .pointer (some ⟨w.heap.size + 1, 0, none⟩)]) ∧
      w' = ((w.alloc (.cells #[.slice g n c] 22)).alloc (.cells #[.int .i64 (f : Int)] 3)).alloc (.cells #[.int .i64 (R : Int)] 3) := by
  go_enter Try.func43, Try.ntmps43
  go_wp2
  go_ret
  exact ⟨rfl, rfl⟩
/-- What is left alone: whatever S does not name. -/
structure Kp (S : Nat → Prop) (A B : World) : Prop where
  size : A.heap.size ≤ B.heap.size
  block : ∀ j, j < A.heap.size → ¬ S j → B.heap[j]? = A.heap[j]?
theorem Kp.box {S : Nat → Prop} {A B : World} (h : Kp S A B) {g : Nat} {o : Obj} (hw : A.heap[g]? = some o) (hS : ¬ S g) : B.heap[g]? = some o := (h.block g (Array.getElem?_eq_some_iff.1 hw).1 hS).trans hw
/-- How much room a block has when t bytes have been told of a row, f of its first block being filled. -/
def rmN (R f t : Nat) : Nat := if t = 0 then R - f else R
/-- Between two rounds, t bytes being told. -/
structure Pt (S : Nat → Prop) (J : Nat → World → Prop) (Bb Bf Bq R f : Nat) (v : Value) (t : Nat) (wr : World) : Prop where
  row : wr.heap[Bb]? = some (.cells #[v] 22 (0, 0))
  fil : wr.heap[Bf]? = some (.cells #[.int .i64 (f : Int)] 3 (0, 0))
  rat : wr.heap[Bq]? = some (.cells #[.int .i64 (R : Int)] 3 (0, 0))
  out : ¬ S Bb ∧ ¬ S Bf ∧ ¬ S Bq
  inv : J t wr
section
variable {S : Nat → Prop} {J : Nat → World → Prop} {Bb Bf Bq R f t t' : Nat} {v : Value} {wr w' : World}
theorem Pt.drew (hJ : ∀ t A, J t A → J t A.drew) (h : Pt S J Bb Bf Bq R f v t wr) : Pt S J Bb Bf Bq R f v t wr.drew := ⟨h.row, h.fil, h.rat, h.out, hJ _ _ h.inv⟩
theorem Pt.told (h : Pt S J Bb Bf Bq R f v t wr) (hj : J t' w') (hk : Kp S wr w') : Pt S J Bb Bf Bq R f v t' w' := ⟨hk.box h.row h.out.1, hk.box h.fil h.out.2.1, hk.box h.rat h.out.2.2, h.out, hj⟩
end
theorem rmN_pos {R f : Nat} (t : Nat) (h : f < R) : 0 < rmN R f t := by unfold rmN; split <;> omega
theorem pc_next {R f t n s rm : Nat} (hf : f < R) (hrm : rm = rmN R f t) (ht : t = 0 ∨ (f + t) % R = 0) (hs : min rm n = s) (h : 0 < n - s) : R = rmN R f (t + s) ∧ (f + (t + s)) % R = 0 := by
  have h1 := rmN_pos t hf
  have h2 : s = rm := by omega
  rw [h2]
  refine ⟨by unfold rmN; rw [if_neg (by omega)], ?_⟩
  rw [hrm]
  unfold rmN
  by_cases h0 : t = 0
  · subst h0
    rw [if_pos rfl, show f + (0 + (R - f)) = R by omega, Nat.mod_self]
  · rw [if_neg h0, ← Nat.add_assoc, Nat.add_mod_right]
    rcases ht with h | h
    · exact absurd h h0
    · exact h
set_option maxHeartbeats 3200000 in
theorem told_pieces (S : Nat → Prop) (J : Nat → World → Prop) (l Bb Bf Bq R f L cap : Nat) (p : Option Addr) (W : World)
    (hR : f < R ∧ R ≤ 192 ∧ L ≤ 1000000 ∧ L ≤ cap ∧ cap ≤ maxLen) (hp : 0 < L → ∃ g off, p = some ⟨g, off, none⟩) (hJ : ∀ t A, J t A → J t A.drew)
    (hY : ∀ t A s q c, J t A → t < L → (t = 0 ∨ (f + t) % R = 0) → s = min (rmN R f t) (L - t) → (∀ g off, p = some ⟨g, off, none⟩ → q = some ⟨g, off + t, none⟩) → YieldAt Fence.wide 4 Try.prog l #[.slice q s c] A (fun e B => e = .returned (.bool true) ∧ J (t + s) B ∧ Kp S A B))
    (h0 : Pt S J Bb Bf Bq R f (.slice p L cap) 0 W) :
    Calls Try.prog 53 #[.func (.yield l) #[] #[], .pointer (some ⟨Bb, 0, none⟩), .pointer (some ⟨Bq, 0, none⟩), .pointer (some ⟨Bf, 0, none⟩)] W fun e w' => (∃ v, e = .returned v) ∧ J L w' := by
  have H0 := hid (h0.drew hJ)
  have HR := hid hR
  have HP := hid hp
  have HJ := hid hJ
  have HY := hid hY
  have c0 := one_box H0.out.row
  have c1 := one_box H0.out.fil
  have c2 := one_box H0.out.rat
  obtain ⟨r0, hr0⟩ : ∃ r0, R - f = r0 := ⟨_, rfl⟩
  have e1 : IntKind.i64.wrap ((R : Int) - (f : Int)) = (r0 : Int) := by rw [IntKind.wrap_i64]; omega
  have HR0 : Hid (r0 = rmN R f 0) := hid (by unfold rmN; rw [if_pos rfl]; exact hr0.symm)
  clear h0 hR hp hJ hY hr0
  refine (callsIn_wide (n := 5)).1 ?_
  refine callsIn_of_wp Try.func53 rfl trivial ?_ rfl
  simp only [Try.ntmps53, List.size_toArray, List.length_cons, List.length_nil, Nat.reduceAdd, Nat.reduceSub, Array.replicate_succ, Array.replicate_zero, List.push_toArray, List.append_toArray, List.nil_append, List.cons_append]
  gi_wp2
  gi_region
  gi_wp2
  clear c0 c1 c2 e1
  gi_loopg [5, 6] L (fun m v u wr => ∃ (t n rm c : Nat) (q : Option Addr), m = n ∧ t + n = L ∧ v = .slice q n c ∧ u = .int .i64 (rm : Int) ∧ (0 < n → rm = rmN R f t ∧ (t = 0 ∨ (f + t) % R = 0) ∧ ∀ g off, p = some ⟨g, off, none⟩ → q = some ⟨g, off + t, none⟩) ∧ n ≤ c ∧ c ≤ maxLen ∧ Pt S J Bb Bf Bq R f (.slice p L cap) t wr)
  case atStart => exact ⟨0, L, r0, cap, p, rfl, by omega, rfl, rfl, fun _ => ⟨HR0.out, .inl rfl, fun g off h => h⟩, HR.out.2.2.2.1, HR.out.2.2.2.2, H0.out⟩
  case round =>
    obtain ⟨t, n, rm, c, q, hgk, htn, rfl, rfl, hn, hnc, hcm, hpt⟩ := hrel
    have HGk := hid hgk
    clear hgk
    have HI := hid hpt
    clear hpt
    by_cases h0 : 0 < n
    · obtain ⟨hrm, ht, hq⟩ := hn h0
      obtain ⟨g, off, hpo⟩ := HP.out (by omega)
      have hq2 := hq g off hpo
      subst hq2
      obtain ⟨s, hs⟩ : ∃ s, min rm n = s := ⟨_, rfl⟩
      have hmin : min (rm : Int) (n : Int) = (s : Int) := by omega
      have HYI := HY.out t wr s (some ⟨g, off + t, none⟩) c HI.out.inv (by omega) ht (by rw [← hs, hrm, show n = L - t by omega]) (fun g' off' e => hq g' off' e)
      obtain ⟨fn, tmps, assign, body, hy, hRD⟩ := HYI
      have s0 : (0 : Int) ≤ (s : Int) := by omega
      have s1 : (s : Int) ≤ (n : Int) := by omega
      have s2 : (s : Int) ≤ (c : Int) := by omega
      have h1 : (0 : Int) < (n : Int) := by omega
      have HN : Hid (t + n = L ∧ min rm n = s ∧ rm = rmN R f t ∧ (t = 0 ∨ (f + t) % R = 0) ∧ n ≤ c ∧ c ≤ maxLen ∧ p = some ⟨g, off, none⟩ ∧ 0 < n) := hid ⟨htn, hs, hrm, ht, hnc, hcm, hpo, h0⟩
      clear hn hrm ht hq hs htn hnc hcm hpo h0
      gi_wp2
      refine hRD.mono ?_
      clear hRD hy
      rintro e w4 ⟨rfl, hj, hk⟩
      have HT := hid ((HI.out.told hj hk).drew HJ.out)
      clear hj hk
      gi_wp2
      have c2 := one_box HT.out.rat
      have l3 : (n : Int) ≤ (c : Int) := by have := HN.out; omega
      have HM : Hid (0 < s) := hid (by
        have h3 := HN.out
        have h4 := HR.out
        have h5 := rmN_pos (f := f) (R := R) t h4.1
        omega)
      have HX := hid (fun h => pc_next HR.out.1 HN.out.2.2.1 HN.out.2.2.2.1 HN.out.2.1 h)
      by_cases hsc : s < c
      · have l4 : (s : Int) < (c : Int) := by omega
        clear hsc
        gi_region
        gi_wp2
        gi_roundg (n - s)
        case rel => exact ⟨t + s, n - s, R, c - s, _, rfl, by have := HN.out; omega, rfl, rfl, fun h => ⟨(HX.out h).1, .inr (HX.out h).2, fun g' off' e => by
          have h3 := HN.out.2.2.2.2.2.2.1
          rw [h3] at e
          injection e with e
          injection e with e1 e2
          subst e1 e2
          rw [Nat.add_assoc]⟩, by have := HN.out; omega, by have := HN.out; omega, HT.out⟩
        case measure => have := HGk.out; have := HN.out; have := HM.out; omega
      · have l4 : ¬ (s : Int) < (c : Int) := by omega
        clear hsc
        gi_region
        gi_wp2
        gi_roundg (n - s)
        case rel => exact ⟨t + s, n - s, R, c - s, _, rfl, by have := HN.out; omega, rfl, rfl, fun h => absurd h (by have := HN.out; omega), by have := HN.out; omega, by have := HN.out; omega, HT.out⟩
        case measure => have := HGk.out; have := HN.out; have := HM.out; omega
    · have h1 : ¬ (0 : Int) < (n : Int) := by omega
      have HE : Hid (J L wr) := hid (by rw [show L = t by omega]; exact HI.out.inv)
      clear hn htn hnc hcm h0
      gi_wp2
      go_end0
      exact ⟨⟨_, rfl⟩, HE.out⟩
end Go.Proofs.Ytfjgelialaccdaa
