import Derived.Test.YthopdlcmmafcaaaProg
import Derived.Test.YthopdlcmmafcaaaTrd
/- Trace: are two rows of numbers alike, by the document. -/
namespace Go.Proofs.Ythopdlcmmafcaaa
open Go.RowKit
set_option maxRecDepth 100000
theorem lists_eq {xs ys : List Int} (hl : xs.length = ys.length) (h : ∀ j, j < xs.length → nth xs j = nth ys j) : xs = ys := by
  refine List.ext_getElem hl fun j h1 h2 => ?_
  have := h j h1
  unfold nth at this
  simpa [List.getD, h1, h2] using this
set_option maxHeartbeats 1600000 in
theorem refints_any (v v' : Value) (xs ys : List Int) (w : World) (h : Rd .i64 w v xs) (h' : Rd .i64 w v' ys) :
    Calls Try.prog 11 #[v, v'] w fun e w' => e = .returned (.bool (decide (xs = ys))) ∧ Below w.heap.size w w' := by
  have HR := hid h
  have HR' := hid h'
  obtain ⟨a, cap, rfl, hl1, _, hc⟩ := h
  obtain ⟨a', cap', rfl, hl2, _, hc'⟩ := h'
  by_cases hl : xs.length = ys.length
  · have HC := hid hc
    have HC' := hid hc'
    have HLe := hid hl
    have HQ : Hid (∀ j, j < xs.length → nth xs j ≠ nth ys j → decide (xs = ys) = false) := hid (fun j _ hne => decide_eq_false (fun e => hne (by rw [e])))
    have HEq : Hid ((∀ j, j < xs.length → nth xs j = nth ys j) → decide (xs = ys) = true) := hid (fun hh => decide_eq_true (lists_eq hl hh))
    rw [← hl]
    have hlim : xs.length ≤ 100000000000000 := by have : xs.length * 8 ≤ 140737488351232 := hl1; omega
    obtain ⟨n, hn⟩ : ∃ n, xs.length = n := ⟨_, rfl⟩
    rw [← hl] at HC'
    rw [hn] at HC HC' HQ HEq hlim ⊢
    clear hc hc' hl hl1 hl2
    go_enter Try.func11, Try.ntmps11
    go_wp2
    go_loopw [5] (fun i wr => ∃ j : Nat, j ≤ n ∧ i = .int .i64 j ∧ (∀ k, k < j → nth xs k = nth ys k) ∧ Below w.heap.size w wr) (fun i _ => n - (intOf i).toNat)
    case atStart => exact ⟨0, by omega, rfl, fun k hk => by omega, Below.refl _ _⟩
    case round =>
      obtain ⟨j, hj, rfl, hP, hI⟩ := hrel
      have HP := hid hP
      have HI := hid hI
      clear hP hI
      by_cases hlt : j < n
      · obtain ⟨b, off, rfl, hb, hx⟩ := HC.out (by omega)
        obtain ⟨b', off', rfl, hb', hy⟩ := HC'.out (by omega)
        have c1 := tcell_self (hx j hlt) HI.out
        have c2 := tcell_self (hy j (by rw [HLe.out] at hn; omega)) HI.out
        have d1 := tcell_self (hx j hlt) HI.out.drew
        have d2 := tcell_self (hy j (by rw [HLe.out] at hn; omega)) HI.out.drew
        have j1 : (0 : Int) ≤ (j : Int) := by omega
        have j2 : (j : Int) < (n : Int) := by omega
        have HQj := hid (HQ.out j hlt)
        have HPj : Hid (nth xs j = nth ys j → ∀ k, k < j + 1 → nth xs k = nth ys k) := hid (fun e k hk => by
          by_cases ek : k = j
          · subst ek; exact e
          · exact HP.out k (by omega))
        clear hx hy
        generalize nth xs j = x at *
        generalize nth ys j = y at *
        by_cases hxy : x = y
        · have HE := hid (HPj.out hxy)
          subst hxy
          go_wp2
          go_region
          go_wp2
          go_roundw
          case rel => exact ⟨j + 1, by omega, by go_num, HE.out, HI.out.drew⟩
          case measure => simp [intOf]; omega
        · have g : (x != y) = true := by simpa using hxy
          have HE := hid (HQj.out hxy)
          clear hxy
          go_wp2
          go_region
          go_wp2
          go_ret
          exact ⟨by rw [HE.out]; rfl, HI.out.drew⟩
      · obtain rfl : j = n := by omega
        go_wp2
        go_ret
        exact ⟨by rw [HEq.out HP.out]; rfl, HI.out⟩
  · have e : decide (xs = ys) = false := decide_eq_false (fun e => hl (by rw [e]))
    rw [e]
    have g : (((xs.length : Nat) : Int) != ((ys.length : Nat) : Int)) = true := by simp; omega
    clear hc hc' HR HR'
    generalize xs.length = n at *
    generalize ys.length = m at *
    go_enter Try.func11, Try.ntmps11
    go_wp2
    go_ret
    exact ⟨rfl, Below.refl _ _⟩
end Go.Proofs.Ythopdlcmmafcaaa
