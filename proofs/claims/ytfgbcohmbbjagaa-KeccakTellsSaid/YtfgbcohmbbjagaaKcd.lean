import Derived.Test.YtfgbcohmbbjagaaKcc
namespace Go.Proofs.Ytfgbcohmbbjagaa
open Go.RowKit

set_option maxRecDepth 100000 in
theorem mark_any (i : Int) (w : World) :
    Calls Try.prog 6 #[.int .i64 i] w fun e w' => e = .returned (.int .u64 (mkq i : Nat)) ∧ Below w.heap.size w w' := by
  have HM := hid (marks_any w)
  by_cases h : 0 ≤ i ∧ i < 24
  · obtain ⟨n, rfl⟩ := Int.eq_ofNat_of_zero_le h.1
    have hn : n < 24 := by omega
    have hn2 : (n : Int) < 24 := by omega
    have HQ := hid (mkq_in hn)
    have hi := fun w => idx32 mkf hn w
    clear h
    go_enter Try.func6, Try.ntmps6
    go_wp2_with (first | (go_at_call 23; refine (HM.out).mono ?_; rintro e w1 ⟨rfl, hlow⟩; have HL := hid hlow; clear hlow))
    go_ret
    exact ⟨ret_int (by rw [HQ.out]), HL.out⟩
  · have HQ := hid (mkq_out h)
    by_cases h0 : i < 0
    · go_enter Try.func6, Try.ntmps6
      go_wp2
      go_ret
      exact ⟨ret_int (by rw [HQ.out]; rfl), Below.refl _ _⟩
    · have h1 : 24 ≤ i := by omega
      go_enter Try.func6, Try.ntmps6
      go_wp2
      go_ret
      exact ⟨ret_int (by rw [HQ.out]; rfl), Below.refl _ _⟩

set_option maxRecDepth 100000 in
theorem turn_any (x y : Int) (w : World) :
    Calls Try.prog 8 #[.int .i64 x, .int .i64 y] w fun e w' => e = .returned (.int .i64 (tq x y : Nat)) ∧ Below w.heap.size w w' := by
  have HT := hid (turns_any w)
  by_cases h : 0 ≤ x ∧ x < 5
  · have HX : Hid (∀ w, Calls Try.prog 25 #[.int .i64 x] w fun e w' => e = .returned (.bool true) ∧ w' = w) := hid (fun w => by have := inside_any x w; rwa [decide_eq_true h] at this)
    by_cases h' : 0 ≤ y ∧ y < 5
    · have HY : Hid (∀ w, Calls Try.prog 25 #[.int .i64 y] w fun e w' => e = .returned (.bool true) ∧ w' = w) := hid (fun w => by have := inside_any y w; rwa [decide_eq_true h'] at this)
      obtain ⟨n, rfl⟩ := Int.eq_ofNat_of_zero_le h.1
      obtain ⟨m, rfl⟩ := Int.eq_ofNat_of_zero_le h'.1
      have hn : n < 5 := by omega
      have hm : m < 5 := by omega
      have HQ := hid (tq_in hn hm)
      obtain ⟨k, hk⟩ : ∃ k, n + 5 * m = k := ⟨_, rfl⟩
      have hk2 : k < 25 := by omega
      have hi := fun w => idx36 tun hk2 w
      have HP : Hid (∀ w, Calls Try.prog 27 #[.int .i64 (n : Int), .int .i64 (m : Int)] w fun e w' => e = .returned (.int .i64 (k : Nat)) ∧ w' = w) := hid (fun w => by
        have := place_any n m w (by omega) (by omega)
        rwa [show n % 5 + 5 * (m % 5) = k by omega] at this)
      rw [hk] at HQ
      clear h h' hk
      go_enter Try.func8, Try.ntmps8
      go_wp2_with (first
        | (go_at_call 25; (with_reducible refine (HX.out _).mono ?_); rintro e w1 ⟨rfl, rfl⟩)
        | (go_at_call 25; (with_reducible refine (HY.out _).mono ?_); rintro e w1 ⟨rfl, rfl⟩)
        | (go_at_call 26; refine (HT.out).mono ?_; rintro e w1 ⟨rfl, hlow⟩; have HL := hid hlow; clear hlow)
        | (go_at_call 27; (with_reducible refine (HP.out _).mono ?_); rintro e w2 ⟨rfl, rfl⟩))
      go_ret
      exact ⟨ret_int (by rw [HQ.out]), HL.out⟩
    · have HY : Hid (∀ w, Calls Try.prog 25 #[.int .i64 y] w fun e w' => e = .returned (.bool false) ∧ w' = w) := hid (fun w => by have := inside_any y w; rwa [decide_eq_false h'] at this)
      have HQ := hid (tq_out (x := x) (y := y) (by omega))
      clear h h'
      go_enter Try.func8, Try.ntmps8
      go_wp2_with (first
        | (go_at_call 25; (with_reducible refine (HX.out _).mono ?_); rintro e w1 ⟨rfl, rfl⟩)
        | (go_at_call 25; (with_reducible refine (HY.out _).mono ?_); rintro e w1 ⟨rfl, rfl⟩))
      go_ret
      exact ⟨ret_int (by rw [HQ.out]; rfl), Below.refl _ _⟩
  · have HX : Hid (∀ w, Calls Try.prog 25 #[.int .i64 x] w fun e w' => e = .returned (.bool false) ∧ w' = w) := hid (fun w => by have := inside_any x w; rwa [decide_eq_false h] at this)
    have HQ := hid (tq_out (x := x) (y := y) (by omega))
    clear h
    go_enter Try.func8, Try.ntmps8
    go_wp2_with (first
      | (go_at_call 25; (with_reducible refine (HX.out _).mono ?_); rintro e w1 ⟨rfl, rfl⟩))
    go_ret
    exact ⟨ret_int (by rw [HQ.out]; rfl), Below.refl _ _⟩

/-! ### the document's turn -/
theorem dst_mod (a : Nat) (ha : a < 25) : dst a % 5 = a / 5 ∧ dst a / 5 = (2 * (a % 5) + 3 * (a / 5)) % 5 := by unfold dst; omega

set_option maxRecDepth 100000 in
set_option maxHeartbeats 800000 in
theorem refturn_any (x y : Int) (w : World) :
    Calls Try.prog 9 #[.int .i64 x, .int .i64 y] w fun e w' => e = .returned (.int .i64 (tq x y : Nat)) ∧ w' = w := by
  have HP := hid pth_lt
  have HN : Hid (∀ t, pth (t + 1) = dst (pth t)) := hid (fun _ => rfl)
  have HE := hid (fun (t : Nat) (h : t < 24) => tq_pth h)
  have HO := hid (fun h => tq_none (x := x) (y := y) h)
  have HM := hid dst_mod
  go_enter Try.func9, Try.ntmps9
  go_wp2
  go_loop [5, 6, 7] (fun a b i => ∃ t : Nat, t ≤ 24 ∧ i = .int .i64 t ∧ a = .int .i64 (pth t % 5 : Nat) ∧ b = .int .i64 (pth t / 5 : Nat) ∧ Hid (∀ s, s < t → ¬ (((pth s % 5 : Nat) : Int) = x ∧ ((pth s / 5 : Nat) : Int) = y))) (fun _ _ i => 24 - (intOf i).toNat)
  case atStart => exact ⟨0, by omega, rfl, rfl, rfl, hid (fun s hs => absurd hs (Nat.not_lt_zero s))⟩
  case round =>
    obtain ⟨t, ht, rfl, rfl, rfl, HI⟩ := hrel
    by_cases hlt : t < 24
    · obtain ⟨u, hu⟩ : ∃ u, (t + 1) * (t + 2) = u := ⟨_, rfl⟩
      have hu2 : u ≤ 600 := by rw [← hu]; exact Nat.mul_le_mul (show t + 1 ≤ 24 by omega) (show t + 2 ≤ 25 by omega)
      have e1 : ((t : Int) + 1) * ((t : Int) + 2) = (u : Int) := by rw [← hu]; simp
      have w1 : IntKind.i64.wrap (u : Int) = u := by rw [IntKind.wrap_i64]; omega
      have HE1 := hid (HE.out t hlt)
      rw [hu] at HE1
      have HM1 := hid (HM.out (pth t) (HP.out t))
      rw [← HN.out t] at HM1
      have hp := HP.out t
      have HI1 : Hid (¬ (((pth t % 5 : Nat) : Int) = x ∧ ((pth t / 5 : Nat) : Int) = y) → ∀ s, s < t + 1 → ¬ (((pth s % 5 : Nat) : Int) = x ∧ ((pth s / 5 : Nat) : Int) = y)) := hid (fun h s hs => by
        by_cases e : s = t
        · subst e; exact h
        · exact HI.out s (by omega))
      clear hu
      obtain ⟨c, hc⟩ : ∃ c, pth t % 5 = c := ⟨_, rfl⟩
      obtain ⟨d, hd⟩ : ∃ c, pth t / 5 = c := ⟨_, rfl⟩
      have hc2 : c < 5 := by omega
      have hd2 : d < 5 := by omega
      rw [hc, hd] at HE1 HM1 HI1
      rw [hc, hd]
      clear hc hd hp
      by_cases hx : (c : Int) = x
      · by_cases hy : (d : Int) = y
        · subst hx; subst hy
          clear HO HI HI1
          go_wp2
          go_ret
          exact ⟨ret_int (by rw [HE1.out]; simp), rfl⟩
        · have hxt : ((c : Int) == x) = true := by simpa using hx
          have hyf : ((d : Int) == y) = false := by simpa using hy
          have HZ := hid (HI1.out (fun h => hy h.2))
          clear hx hy HI HI1 HO
          go_wp2
          go_round
          case rel => exact ⟨t + 1, by omega, by go_num, by rw [HM1.out.1], by rw [HM1.out.2]; simp, HZ⟩
          case measure => simp [intOf]; omega
      · have hxf : ((c : Int) == x) = false := by simpa using hx
        have HZ := hid (HI1.out (fun h => hx h.1))
        clear hx HI HI1 HO
        go_wp2
        go_round
        case rel => exact ⟨t + 1, by omega, by go_num, by rw [HM1.out.1], by rw [HM1.out.2]; simp, HZ⟩
        case measure => simp [intOf]; omega
    · obtain rfl : t = 24 := by omega
      have HZ := hid (HO.out (fun t ht => HI.out t ht))
      clear HO HI
      go_wp2
      go_ret
      exact ⟨ret_int (by rw [HZ.out]; rfl), rfl⟩
end Go.Proofs.Ytfgbcohmbbjagaa
