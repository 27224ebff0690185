import Derived.Test.YtfjgelialaccdaaProg
import Derived.Test.YtfjgelialaccdaaSqa
/- Sponge: the program's small functions; a new hash at work; its state is permuted. -/
namespace Go.Proofs.Ytfjgelialaccdaa
open Go.RowKit
set_option maxRecDepth 100000

theorem srate_any (n : Int) (w : World) : Calls Try.prog 9 #[.int .i64 n] w fun e w' => e = .returned (.int .i64 (raN n)) ∧ w' = w := by
  by_cases h1 : n = 128
  · subst h1
    go_enter Try.func9, Try.ntmps9
    go_wp2
    go_ret
    exact ⟨rfl, rfl⟩
  by_cases h2 : n = 224
  · subst h2
    go_enter Try.func9, Try.ntmps9
    go_wp2
    go_ret
    exact ⟨rfl, rfl⟩
  by_cases h3 : n = 256
  · subst h3
    go_enter Try.func9, Try.ntmps9
    go_wp2
    go_ret
    exact ⟨rfl, rfl⟩
  by_cases h4 : n = 384
  · subst h4
    go_enter Try.func9, Try.ntmps9
    go_wp2
    go_ret
    exact ⟨rfl, rfl⟩
  by_cases h5 : n = 512
  · subst h5
    go_enter Try.func9, Try.ntmps9
    go_wp2
    go_ret
    exact ⟨rfl, rfl⟩
  · have e : raN n = 0 := by unfold raN; rw [if_neg h1, if_neg h2, if_neg h3, if_neg h4, if_neg h5]
    rw [e]
    go_enter Try.func9, Try.ntmps9
    go_wp2
    go_ret
    exact ⟨rfl, rfl⟩
theorem srate_i (n : Int) (w : World) : Calls Try.prog 9 #[.int .i64 n] w fun e w' => e = .returned (.int .i64 (raN n)) ∧ Below w.heap.size w w' :=
  (srate_any n w).mono (by rintro e w' ⟨rfl, rfl⟩; exact ⟨rfl, Below.refl _ _⟩)
theorem israte_any (n : Int) (w : World) : Calls Try.prog 20 #[.int .i64 n] w fun e w' => e = .returned (.bool (rad n)) ∧ w' = w := by
  by_cases h1 : 8 ≤ n
  · by_cases h2 : n ≤ 192
    · have e1 : n.tmod 8 = n % 8 := by rw [Int.tmod_eq_emod_of_nonneg (by omega)]
      by_cases h3 : n % 8 = 0
      · have e : rad n = true := decide_eq_true ⟨h1, h2, h3⟩
        rw [e]
        go_enter Try.func20, Try.ntmps20
        go_wp2
        go_ret
        exact ⟨rfl, rfl⟩
      · have e : rad n = false := decide_eq_false (fun h => h3 h.2.2)
        rw [e]
        go_enter Try.func20, Try.ntmps20
        go_wp2
        go_ret
        exact ⟨ret_bool (by simpa using h3), rfl⟩
    · have e : rad n = false := decide_eq_false (fun h => h2 h.2.1)
      rw [e]
      go_enter Try.func20, Try.ntmps20
      go_wp2
      go_ret
      exact ⟨rfl, rfl⟩
  · have e : rad n = false := decide_eq_false (fun h => h1 h.1)
    rw [e]
    go_enter Try.func20, Try.ntmps20
    go_wp2
    go_ret
    exact ⟨rfl, rfl⟩
/-- May so many bytes be asked for? -/
def canT (n : Int) : Bool := decide (0 ≤ n ∧ n ≤ 65536)
theorem cantell_any (n : Int) (w : World) : Calls Try.prog 30 #[.int .i64 n] w fun e w' => e = .returned (.bool (canT n)) ∧ w' = w := by
  by_cases h1 : 0 ≤ n
  · by_cases h2 : n ≤ 65536
    · have e : canT n = true := decide_eq_true ⟨h1, h2⟩
      rw [e]
      go_enter Try.func30, Try.ntmps30
      go_wp2
      go_ret
      exact ⟨rfl, rfl⟩
    · have e : canT n = false := decide_eq_false (fun h => h2 h.2)
      rw [e]
      go_enter Try.func30, Try.ntmps30
      go_wp2
      go_ret
      exact ⟨rfl, rfl⟩
  · have e : canT n = false := decide_eq_false (fun h => h1 h.1)
    rw [e]
    go_enter Try.func30, Try.ntmps30
    go_wp2
    go_ret
    exact ⟨rfl, rfl⟩
/-- Does a hash of that number tell as many bytes as are asked for? -/
def anyL (b : Int) : Bool := decide (b = 128 ∨ b = 256)
theorem anylen_any (n : Int) (w : World) : Calls Try.prog 25 #[.int .i64 n] w fun e w' => e = .returned (.bool (anyL n)) ∧ w' = w := by
  by_cases h1 : n = 128
  · subst h1
    go_enter Try.func25, Try.ntmps25
    go_wp2
    go_ret
    exact ⟨rfl, rfl⟩
  by_cases h2 : n = 256
  · subst h2
    go_enter Try.func25, Try.ntmps25
    go_wp2
    go_ret
    exact ⟨rfl, rfl⟩
  · have e : anyL n = false := decide_eq_false (by omega)
    rw [e]
    go_enter Try.func25, Try.ntmps25
    go_wp2
    go_ret
    exact ⟨ret_bool (by simp [h1, h2]), rfl⟩
section
variable {q b a : Nat} {mk : Int} {F : Nat → Nat} {r : Bool} {w : World}
theorem nobodys_any (h : Wo w b (8 * q) mk F a r) (hq : 1 ≤ q ∧ q ≤ 24) : Calls Try.prog 42 #[.pointer (some ⟨b, 0, none⟩)] w fun e w' => e = .returned (.bool false) ∧ w' = w := by
  have hr : rad ((8 * q : Nat) : Int) = true := decide_eq_true (by omega)
  have HI := hid (israte_any ((8 * q : Nat) : Int) w)
  rw [hr] at HI
  have c0 := h.rate
  clear h hr
  generalize 8 * q = R at *
  go_enter Try.func42, Try.ntmps42
  go_wp2_with (first | (go_at_call 20; (with_reducible refine (HI.out).mono ?_); rintro e w1 ⟨rfl, rfl⟩))
  go_ret
  exact ⟨rfl, rfl⟩
theorem built62 (q : Nat) (mk : Int) : Try.prog.built 62 [(0, .int .i64 (q : Int)), (1, .int .u8 mk)] = some (wcs q mk (fun _ => 0) 0 false) := by
  rw [wcs_new]
  kernel_rfl
theorem step_build_work (q : Nat) (mk : Int) {w : World} {ops : Array Oper} {rest : List Oper} {o : Oper} {a : Act} {Q : Exit → Act → World → Prop} (hgd : o.guard = none) (x y : Operand) (ho : o.op = .build 62 #[(0, x), (1, y)])
    (hx : a.eval x = .int .i64 (q : Int)) (hy : a.eval y = .int .u8 mk) (k : wpList Try.prog ops Q rest (a.put o.dst (.agg (wcs q mk (fun _ => 0) 0 false))) w) : wpList Try.prog ops Q (o :: rest) a w := by
  have e : ((#[(0, x), (1, y)] : Array (Nat × Operand)).map fun (i, x) => (i, a.eval x)).toList = [(0, .int .i64 (q : Int)), (1, .int .u8 mk)] := by simp [hx, hy]
  refine wpList_build hgd 62 #[(0, x), (1, y)] ho (by rw [e, built62]; rfl) ?_
  rw [e, built62]; exact k
theorem new_ok (q : Nat) (mk : Int) (w : World) (hq : 1 ≤ q ∧ q ≤ 24) : Calls Try.prog 31 #[.int .i64 ((8 * q : Nat) : Int), .int .u8 mk] w fun e w' =>
    e = .returned (.tuple #[.pointer (some ⟨w.heap.size, 0, none⟩), .int .i64 0]) ∧ Wo w' w.heap.size (8 * q) mk (fun _ => 0) 0 false ∧ Below w.heap.size w w' ∧ w'.heap.size = w.heap.size + 1 := by
  have hr : rad ((8 * q : Nat) : Int) = true := decide_eq_true (by omega)
  have HI := hid (israte_any ((8 * q : Nat) : Int) w)
  rw [hr] at HI
  clear hr
  generalize 8 * q = R at *
  go_enter Try.func31, Try.ntmps31
  go_wp2_with (first
    | (go_at_call 20; (with_reducible refine (HI.out).mono ?_); rintro e w1 ⟨rfl, rfl⟩)
    | (refine step_build_work R mk rfl _ _ rfl rfl rfl ?_; generalize hcs : wcs R mk (fun _ => 0) 0 false = cs; have HC := hid hcs; clear hcs))
  go_ret2
  have := heap_alloc_new w1 (.cells cs 62)
  exact ⟨rfl, by unfold Wo; rw [HC.out]; exact this, (Below.refl _ _).alloc (Nat.le_refl _) _, by simp⟩
theorem new_bad (n : Int) (mk : Int) (w : World) (hn : rad n = false) : Calls Try.prog 31 #[.int .i64 n, .int .u8 mk] w fun e w' => e = .returned (.tuple #[.pointer none, .int .i64 1]) ∧ w' = w := by
  have HI := hid (israte_any n w)
  rw [hn] at HI
  go_enter Try.func31, Try.ntmps31
  go_wp2_with (first
    | (go_at_call 20; (with_reducible refine (HI.out).mono ?_); rintro e w1 ⟨rfl, rfl⟩))
  go_ret2
  exact ⟨rfl, rfl⟩
theorem perm_any {R : Nat} (h : Wo w b R mk F a r) (hF : W25 F) : Calls Try.prog 55 #[.pointer (some ⟨b, 0, none⟩)] w fun e w' => (∃ v, e = .returned v) ∧ Wo w' b R mk (pm tun mkf 24 F) 0 r ∧ Only b w w' := by
  have HW := hid h
  have HP := hid (kpermute_any F w hF)
  have HR := hid h.range
  have HG := hid (h.there)
  clear h hF
  generalize pm tun mkf 24 F = G at *
  go_enter Try.func55, Try.ntmps55
  go_wp2_with (first
    | (refine wpList_load_mid rfl 45 _ rfl b 2 rfl (wa 25 F).toList _ HR.out Try.underlying45 rfl (by rw [Array.length_toList, wa_size]; exact kinf25) ?_; rw [Array.toArray_toList])
    | (go_at_call 61; (with_reducible refine (HP.out).mono ?_); rintro e w1 ⟨rfl, hl⟩; have HO := hid (Only.of_below (g := b) hl); have HW1 := hid (HW.out.self hl); clear hl)
    | (refine wpList_store_mid rfl 45 _ _ rfl b 2 (wa 25 G) rfl rfl (by rw [wa_size]; exact HW1.out.there) (by rw [wa_size]; exact kinf25) (wa_one 25 G) ?_; have HO2 := hid (HO.out.trans (only_setCells b (wa 25 G).toList 2 w1)); have HW2 := hid (HW1.out.row G); have c27 := HW2.out.at; have f27 := HW2.out.free 27; generalize w1.setCells b 2 (wa 25 G).toList = w2 at *))
  refine bodyPost_end (results_none rfl _ _ _) rfl ⟨⟨_, rfl⟩, HW2.out.setA 0, HO2.out.trans (Only.set (p := ⟨b, 27, none⟩) _ rfl _)⟩
end
end Go.Proofs.Ytfjgelialaccdaa
