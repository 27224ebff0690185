import Derived.Test.YtffoinnllihdeaaProg
import Derived.Test.YtffoinnllihdeaaOcb
import Derived.Test.YtffoinnllihdeaaWrd
/- Op: what an op makes, by the document. -/
namespace Go.Proofs.Ytffoinnllihdeaa
open Go.RowKit

theorem rotl_rtw {x m : Nat} (hx : x < 2 ^ 64) : rotl (x : Int) m = (rt x m : Nat) := by
  unfold rotl rt
  have d : ((x : Int) / 2 ^ (64 - m)) = ((x / 2 ^ (64 - m) : Nat) : Int) := by simp
  have e : IntKind.u64.wrap ((x : Int) * 2 ^ m) = ((x * 2 ^ m % 2 ^ 64 : Nat) : Int) := by rw [IntKind.wrap_u64]; simp
  rw [e, d, bits_or_u64_nat _ _ (Nat.mod_lt _ (by decide)) (by have := Nat.div_le_self x (2 ^ (64 - m)); omega)]
theorem orot_n {x m : Nat} {k : Int} (hx : x < 2 ^ 64) (hk : k % 64 = m) (w : World) :
    Calls Try.prog 77 #[.int .u64 (x : Int), .int .i64 k] w fun e w' => e = .returned (.int .u64 (rt x m : Nat)) ∧ w' = w := by
  have h := orot_any (x : Int) k w (by omega)
  rw [show (k % 64).toNat = m by omega, rotl_rtw hx] at h
  exact h
theorem refrot_n {x m : Nat} {k : Int} (hx : x < 2 ^ 64) (hk : k % 64 = m) (w : World) :
    Calls Try.prog 62 #[.int .u64 (x : Int), .int .i64 k] w fun e w' => e = .returned (.int .u64 (rt x m : Nat)) ∧ w' = w := by
  have h := refrot_any (x : Int) k w (by omega)
  rw [show (k % 64).toNat = m by omega, ← rot_math _ (by omega) m (by omega), rotl_rtw hx] at h
  exact h
theorem rlow_n : ∀ n : Nat, n ≤ 64 → rlow n = ((2 ^ n - 1 : Nat) : Int) := by decide +kernel
theorem reflow_n (n : Nat) (w : World) (hn : n ≤ 64) :
    Calls Try.prog 63 #[.int .i64 (n : Int)] w fun e w' => e = .returned (.int .u64 ((2 ^ n - 1 : Nat) : Int)) ∧ w' = w := by
  have h := reflow_any (n : Int) w
  rw [show (min (max (n : Int) 0) 64).toNat = n by omega, rlow_n n hn] at h
  exact h
/-- An op, as it comes in. -/
abbrev opV (K D A B E : Int) (C : Nat) : Value := .agg #[.int .i64 K, .int .i64 D, .int .i64 A, .int .i64 B, .int .i64 E, .int .u64 (C : Int)]
set_option maxRecDepth 100000 in
set_option maxHeartbeats 1600000 in
theorem refev_any (K D A B E : Int) (C a b d x : Nat) (w : World) (hC : C < 2 ^ 64) (ha : a < 2 ^ 64) (hb : b < 2 ^ 64) (hd : d < 2 ^ 64) (hx : x < 2 ^ 64) :
    Calls Try.prog 50 #[opV K D A B E C, .int .u64 (a : Int), .int .u64 (b : Int), .int .u64 (d : Int), .int .u64 (x : Int)] w fun e w' => e = .returned (.int .u64 (evN K C a b d x : Nat)) ∧ Below w.heap.size w w' := by
  have HB : Hid (Below w.heap.size w (w.alloc (.cells #[.int .i64 K, .int .i64 D, .int .i64 A, .int .i64 B, .int .i64 E, .int .u64 (C : Int)] 43))) := hid ((Below.refl _ _).alloc (Nat.le_refl _) _)
  obtain ⟨k, hk⟩ : ∃ k, C % 64 = k := ⟨_, rfl⟩
  have hk64 : k < 64 := by omega
  have m1 : (C : Int).tmod 64 = (k : Int) := by rw [← hk]; rfl
  have m2 : IntKind.i64.wrap (k : Int) = (k : Int) := by rw [IntKind.wrap_i64]; omega
  obtain ⟨r, hr⟩ : ∃ r, 64 - k = r := ⟨_, rfl⟩
  have m3 : (64 : Int) - (k : Int) = (r : Int) := by omega
  have m4 : IntKind.i64.wrap (r : Int) = (r : Int) := by rw [IntKind.wrap_i64]; omega
  have HLo := hid (fun w => reflow_n r w (by omega))
  have HR9 := hid (fun w => refrot_n (x := a &&& (2 ^ r - 1)) (m := k) (k := (k : Int)) (an_lt ha) (by omega) w)
  have HR10 := hid (fun w => refrot_n (x := a) (m := r % 64) (k := (r : Int)) ha (by omega) w)
  have HR11 := hid (fun w => refrot_n (x := a) (m := k) (k := (k : Int)) ha (by omega) w)
  have e9 : rt (a &&& (2 ^ r - 1)) k = wsl a k := by subst hr; exact wsl_doc ha hk64
  have e10 : rt a (r % 64) &&& (2 ^ r - 1) = wsr a k := by subst hr; exact wsr_doc ha hk64 rfl
  have lr : 2 ^ r - 1 < 2 ^ 64 := low_lt (by omega)
  have x1 := wx64 hx ha
  have x2 := wx64 (xr_lt hx ha) hb
  have x3 := wx64 ha hb
  have x4 := wx64 (xr_lt ha hb) hd
  have a1 := wn64 ha hb
  have a2 := wn64 ha hC
  have a3 := wn64 ha lr
  have a4 := wn64 (rt_lt (m := r % 64) ha) lr
  rw [e9] at HR9
  rw [e10] at a4
  have n1 : (18446744073709551615 : Int) - (a : Int) = (wnt a : Nat) := by unfold wnt; omega
  have n2 : IntKind.u64.wrap (wnt a : Nat) = (wnt a : Nat) := by rw [IntKind.wrap_u64]; have := wnt_lt a; omega
  unfold evN
  rw [hk]
  clear hC ha hb hd hx hk hr e9 e10 lr
  generalize 2 ^ r - 1 = L at *
  generalize a &&& L = aL at *
  generalize wnt a = na at *
  generalize x ^^^ a = xa at *
  generalize xa ^^^ b = xab at *
  generalize a ^^^ b = ab at *
  generalize ab ^^^ d = abd at *
  generalize a &&& b = anb at *
  generalize a &&& C = anc at *
  generalize rt a (r % 64) = ra at *
  generalize rt a k = ral at *
  generalize wsl a k = asl at *
  generalize wsr a k = asr at *
  rcases kinds12 K with rfl | rfl | rfl | rfl | rfl | rfl | rfl | rfl | rfl | rfl | rfl | rfl | h
  rotate_right
  · rw [if_neg (by omega), if_neg (by omega), if_neg (by omega), if_neg (by omega), if_neg (by omega), if_neg (by omega), if_neg (by omega), if_neg (by omega), if_neg (by omega), if_neg (by omega), if_neg (by omega), if_neg (by omega)]
    have q1 : ¬ K = 1 := by omega
    have q2 : ¬ K = 2 := by omega
    have q3 : ¬ K = 3 := by omega
    have q4 : ¬ K = 4 := by omega
    have q5 : ¬ K = 5 := by omega
    have q6 : ¬ K = 6 := by omega
    have q7 : ¬ K = 7 := by omega
    have q8 : ¬ K = 8 := by omega
    have q9 : ¬ K = 9 := by omega
    have q10 : ¬ K = 10 := by omega
    have q11 : ¬ K = 11 := by omega
    have q12 : ¬ K = 12 := by omega
    clear h
    go_enter Try.func50, Try.ntmps50
    go_wp2
    go_ret
    exact ⟨rfl, HB.out⟩
  all_goals
    simp only [reduceIte, Int.reduceEq]
    go_enter Try.func50, Try.ntmps50
    go_wp2_with (first
      | (go_at_call 63; (with_reducible refine (HLo.out _).mono ?_); rintro e w1 ⟨rfl, rfl⟩)
      | (go_at_call 62; (with_reducible refine (HR9.out _).mono ?_); rintro e w1 ⟨rfl, rfl⟩)
      | (go_at_call 62; (with_reducible refine (HR10.out _).mono ?_); rintro e w1 ⟨rfl, rfl⟩)
      | (go_at_call 62; (with_reducible refine (HR11.out _).mono ?_); rintro e w1 ⟨rfl, rfl⟩))
    go_ret
    exact ⟨rfl, HB.out⟩
end Go.Proofs.Ytffoinnllihdeaa
