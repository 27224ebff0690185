import Derived.Test.YtpjgpiieminaoaaDoorProg
import Derived.Test.YtpjgpiieminaoaaDoorPgm
import Derived.Deep.MidRow
import Derived.Test.YtpjgpiieminaoaaDoorWdg
import Derived.Test.YtpjgpiieminaoaaDoorRcl
import Derived.Lib.SliceRun
import Derived.Test.YtpjgpiieminaoaaDoorWma
/- Wire: the program's machine: ops of one register, of two, and of none; what is opened. -/
namespace Go.Proofs.YtpjgpiieminaoaaDoor
open Go.RowKit
set_option maxRecDepth 100000
/-- What a method leaves. -/
def PmL (b : Nat) (S' : Ms) (F : Nat → Prop) (w w' : World) : Prop := ∃ F', Pm w' b S' F' ∧ Tch F w w' ∧ ∀ k, F' k → F k ∨ w.heap.size ≤ k
theorem pdo_0 (b k : Nat) (S : Ms) (F : Nat → Prop) (o : Op6) (w : World) (hm : Pm w b S F) (hq : Bq k S) (hk : k ≤ 1000000) (ho : opwf o) :
    Calls Tryd.prog 42 #[.pointer (some ⟨b, 0, none⟩), .agg (opCs o), .int .u64 0] w fun e w' => e = .returned (.int .i64 (S.doR o)) ∧ PmL b (S.doS o 0) F w w' := pdo_any b k S F o 0 w hm hq hk ho (by decide)
theorem pdo_two (b k : Nat) (S : Ms) (F : Nat → Prop) (kd dom p q : Int) (w : World) (hm : Pm w b S F) (hq : Bq k S) (hk : k ≤ 1000000) (ho : opwf ⟨kd, dom, p, q, -1, 0⟩) :
    Calls Tryd.prog 42 #[.pointer (some ⟨b, 0, none⟩), .agg #[.int .i64 kd, .int .i64 dom, .int .i64 p, .int .i64 q, .int .i64 (-1), .int .u64 0], .int .u64 0] w fun e w' => e = .returned (.int .i64 (S.doR ⟨kd, dom, p, q, -1, 0⟩)) ∧ PmL b (S.doS ⟨kd, dom, p, q, -1, 0⟩ 0) F w w' := pdo_0 b k S F ⟨kd, dom, p, q, -1, 0⟩ w hm hq hk ho
theorem pdo_opn (b k : Nat) (S : Ms) (F : Nat → Prop) (p q r : Int) (w : World) (hm : Pm w b S F) (hq : Bq k S) (hk : k ≤ 1000000) (ho : opwf ⟨12, -1, p, q, r, 0⟩) :
    Calls Tryd.prog 42 #[.pointer (some ⟨b, 0, none⟩), .agg #[.int .i64 12, .int .i64 (-1), .int .i64 p, .int .i64 q, .int .i64 r, .int .u64 0], .int .u64 0] w fun e w' => e = .returned (.int .i64 (S.doR ⟨12, -1, p, q, r, 0⟩)) ∧ PmL b (S.doS ⟨12, -1, p, q, r, 0⟩ 0) F w w' := pdo_0 b k S F ⟨12, -1, p, q, r, 0⟩ w hm hq hk ho
theorem pone_any (b k : Nat) (S : Ms) (F : Nat → Prop) (kd dom p : Int) (c : Nat) (w : World) (hm : Pm w b S F) (hq : Bq k S) (hk : k ≤ 1000000) (ho : opwf ⟨kd, dom, p, -1, -1, c⟩) :
    Calls Tryd.prog 49 #[.pointer (some ⟨b, 0, none⟩), .int .i64 kd, .int .i64 dom, .int .i64 p, .int .u64 (c : Int)] w fun e w' => e = .returned (.int .i64 (S.doR ⟨kd, dom, p, -1, -1, c⟩)) ∧ PmL b (S.doS ⟨kd, dom, p, -1, -1, c⟩ 0) F w w' := by
  have HD := hid (pdo_0 b k S F ⟨kd, dom, p, -1, -1, c⟩ w hm hq hk ho)
  clear hm hq hk ho
  generalize S.doR ⟨kd, dom, p, -1, -1, c⟩ = r at *
  generalize S.doS ⟨kd, dom, p, -1, -1, c⟩ 0 = S1 at *
  go_enter Tryd.func49, Tryd.ntmps49
  go_wp2_with (go_at_call 42; (with_reducible refine HD.out.mono ?_); rintro e w2 ⟨rfl, hp⟩; have HP := hid hp; clear hp)
  go_ret
  exact ⟨rfl, HP.out⟩
theorem ptwo_any (b k : Nat) (S : Ms) (F : Nat → Prop) (kd dom p q : Int) (w : World) (hm : Pm w b S F) (hq : Bq k S) (hk : k ≤ 1000000) (ho : opwf ⟨kd, dom, p, q, -1, 0⟩) :
    Calls Tryd.prog 81 #[.pointer (some ⟨b, 0, none⟩), .int .i64 kd, .int .i64 dom, .int .i64 p, .int .i64 q] w fun e w' => e = .returned (.int .i64 (S.doR ⟨kd, dom, p, q, -1, 0⟩)) ∧ PmL b (S.doS ⟨kd, dom, p, q, -1, 0⟩ 0) F w w' := by
  have HD := hid (pdo_two b k S F kd dom p q w hm hq hk ho)
  clear hm hq hk ho
  generalize S.doR ⟨kd, dom, p, q, -1, 0⟩ = r at *
  generalize S.doS ⟨kd, dom, p, q, -1, 0⟩ 0 = S1 at *
  go_enter Tryd.func81, Tryd.ntmps81
  go_wp2_with (go_at_call 42; (with_reducible refine HD.out.mono ?_); rintro e w2 ⟨rfl, hp⟩; have HP := hid hp; clear hp)
  go_ret
  exact ⟨rfl, HP.out⟩
theorem pfree_any (b k : Nat) (S : Ms) (F : Nat → Prop) (kd dom : Int) (c : Nat) (w : World) (hm : Pm w b S F) (hq : Bq k S) (hk : k ≤ 1000000) (ho : opwf ⟨kd, dom, -1, -1, -1, c⟩) :
    Calls Tryd.prog 41 #[.pointer (some ⟨b, 0, none⟩), .int .i64 kd, .int .i64 dom, .int .u64 (c : Int)] w fun e w' => e = .returned (.int .i64 (S.doR ⟨kd, dom, -1, -1, -1, c⟩)) ∧ PmL b (S.doS ⟨kd, dom, -1, -1, -1, c⟩ 0) F w w' := by
  have HD := hid (pone_any b k S F kd dom (-1) c w hm hq hk ho)
  clear hm hq hk ho
  generalize S.doR ⟨kd, dom, -1, -1, -1, c⟩ = r at *
  generalize S.doS ⟨kd, dom, -1, -1, -1, c⟩ 0 = S1 at *
  go_enter Tryd.func41, Tryd.ntmps41
  go_wp2_with (go_at_call 49; (with_reducible refine HD.out.mono ?_); rintro e w2 ⟨rfl, hp⟩; have HP := hid hp; clear hp)
  go_ret
  exact ⟨rfl, HP.out⟩
theorem pfree_0 (b k : Nat) (S : Ms) (F : Nat → Prop) (kd dom : Int) (w : World) (hm : Pm w b S F) (hq : Bq k S) (hk : k ≤ 1000000) (ho : opwf ⟨kd, dom, -1, -1, -1, 0⟩) :
    Calls Tryd.prog 41 #[.pointer (some ⟨b, 0, none⟩), .int .i64 kd, .int .i64 dom, .int .u64 0] w fun e w' => e = .returned (.int .i64 (S.doR ⟨kd, dom, -1, -1, -1, 0⟩)) ∧ PmL b (S.doS ⟨kd, dom, -1, -1, -1, 0⟩ 0) F w w' := pfree_any b k S F kd dom 0 w hm hq hk ho
theorem prand_any (b k : Nat) (S : Ms) (F : Nat → Prop) (dom : Int) (w : World) (hm : Pm w b S F) (hq : Bq k S) (hk : k ≤ 1000000) (ho : opwf ⟨1, dom, -1, -1, -1, 0⟩) :
    Calls Tryd.prog 22 #[.pointer (some ⟨b, 0, none⟩), .int .i64 dom] w fun e w' => e = .returned (.int .i64 (S.doR ⟨1, dom, -1, -1, -1, 0⟩)) ∧ PmL b (S.doS ⟨1, dom, -1, -1, -1, 0⟩ 0) F w w' := by
  have HD := hid (pfree_0 b k S F 1 dom w hm hq hk ho)
  clear hm hq hk ho
  generalize S.doR ⟨1, dom, -1, -1, -1, 0⟩ = r at *
  generalize S.doS ⟨1, dom, -1, -1, -1, 0⟩ 0 = S1 at *
  go_enter Tryd.func22, Tryd.ntmps22
  go_wp2_with (go_at_call 41; (with_reducible refine HD.out.mono ?_); rintro e w2 ⟨rfl, hp⟩; have HP := hid hp; clear hp)
  go_ret
  exact ⟨rfl, HP.out⟩
theorem pconst_any (b k : Nat) (S : Ms) (F : Nat → Prop) (dom : Int) (c : Nat) (w : World) (hm : Pm w b S F) (hq : Bq k S) (hk : k ≤ 1000000) (ho : opwf ⟨3, dom, -1, -1, -1, c⟩) :
    Calls Tryd.prog 26 #[.pointer (some ⟨b, 0, none⟩), .int .i64 dom, .int .u64 (c : Int)] w fun e w' => e = .returned (.int .i64 (S.doR ⟨3, dom, -1, -1, -1, c⟩)) ∧ PmL b (S.doS ⟨3, dom, -1, -1, -1, c⟩ 0) F w w' := by
  have HD := hid (pfree_any b k S F 3 dom c w hm hq hk ho)
  clear hm hq hk ho
  generalize S.doR ⟨3, dom, -1, -1, -1, c⟩ = r at *
  generalize S.doS ⟨3, dom, -1, -1, -1, c⟩ 0 = S1 at *
  go_enter Tryd.func26, Tryd.ntmps26
  go_wp2_with (go_at_call 41; (with_reducible refine HD.out.mono ?_); rintro e w2 ⟨rfl, hp⟩; have HP := hid hp; clear hp)
  go_ret
  exact ⟨rfl, HP.out⟩
set_option maxHeartbeats 800000 in
theorem pkey_any (b k : Nat) (S : Ms) (F : Nat → Prop) (x : Nat) (p q : Int) (w : World) (hm : Pm w b S F) (hq : Bq k S) (hk : k ≤ 1000000) (ho : opwf ⟨2, 0, p, q, -1, S.words⟩) (hx : x < 2 ^ 64) :
    Calls Tryd.prog 23 #[.pointer (some ⟨b, 0, none⟩), .int .u64 (x : Int), .int .i64 p, .int .i64 q] w fun e w' => e = .returned (.int .i64 (S.doR ⟨2, 0, p, q, -1, S.words⟩)) ∧ PmL b (S.doS ⟨2, 0, p, q, -1, S.words⟩ x) F w w' := by
  have HD := hid (fun q' => pdo_any b k S F ⟨2, 0, p, q, -1, S.words⟩ x (w.drewN q') (pm_stays hm (Nat.le_refl _) (fun _ _ => rfl)) hq hk ho hx)
  have HD0 := hid (pdo_any b k S F ⟨2, 0, p, q, -1, S.words⟩ x w hm hq hk ho hx)
  obtain ⟨tv, ov, vv, bv, lo, hi, h, rfl⟩ := hm
  have HN := hid (pnobodys_no h.c_n h.hn)
  have c6 := h.c_words
  clear h hq hk ho hx
  generalize S.doR ⟨2, 0, p, q, -1, S.words⟩ = r at *
  generalize S.doS ⟨2, 0, p, q, -1, S.words⟩ x = S1 at *
  go_enter Tryd.func23, Tryd.ntmps23
  go_wp2_with (first
    | (go_at_call 27; (with_reducible refine HN.out.mono ?_); rintro e w2 ⟨rfl, rfl⟩)
    | (go_at_call 42; (with_reducible refine HD0.out.mono ?_); rintro e w2 ⟨rfl, hp⟩; have HP := hid hp; clear hp c6))
  go_ret
  exact ⟨rfl, HP.out⟩
theorem prand_nil (dom : Int) (w : World) : Calls Tryd.prog 22 #[.pointer none, .int .i64 dom] w fun e w' => e = .returned (.int .i64 (-1)) ∧ Below w.heap.size w w' := by
  have H1 : Hid (∀ (kd dom p : Int) (w : World), Calls Tryd.prog 49 #[.pointer none, .int .i64 kd, .int .i64 dom, .int .i64 p, .int .u64 0] w fun e w' => e = .returned (.int .i64 (-1)) ∧ Below w.heap.size w w') := hid (fun kd dom p w => by
    have HD : Hid (Calls Tryd.prog 42 #[.pointer none, .agg #[.int .i64 kd, .int .i64 dom, .int .i64 p, .int .i64 (-1), .int .i64 (-1), .int .u64 0], .int .u64 0] w fun e w' => e = .returned (.int .i64 (-1)) ∧ Below w.heap.size w w') := hid (pdo_nil ⟨kd, dom, p, -1, -1, 0⟩ 0 w)
    go_enter Tryd.func49, Tryd.ntmps49
    go_wp2_with (go_at_call 42; (with_reducible refine HD.out.mono ?_); rintro e w2 ⟨rfl, hp⟩; have HP := hid hp; clear hp)
    go_ret
    exact ⟨rfl, HP.out⟩)
  have H2 : Hid (∀ (kd dom : Int) (w : World), Calls Tryd.prog 41 #[.pointer none, .int .i64 kd, .int .i64 dom, .int .u64 0] w fun e w' => e = .returned (.int .i64 (-1)) ∧ Below w.heap.size w w') := hid (fun kd dom w => by
    have HD := hid (H1.out kd dom (-1) w)
    go_enter Tryd.func41, Tryd.ntmps41
    go_wp2_with (go_at_call 49; (with_reducible refine HD.out.mono ?_); rintro e w2 ⟨rfl, hp⟩; have HP := hid hp; clear hp)
    go_ret
    exact ⟨rfl, HP.out⟩)
  go_enter Tryd.func22, Tryd.ntmps22
  go_wp2_with (go_at_call 41; (with_reducible refine (H2.out _ _ _).mono ?_); rintro e w2 ⟨rfl, hp⟩; have HP := hid hp; clear hp)
  go_ret
  exact ⟨rfl, HP.out⟩
theorem pkey_nil (x : Nat) (p q : Int) (w : World) : Calls Tryd.prog 23 #[.pointer none, .int .u64 (x : Int), .int .i64 p, .int .i64 q] w fun e w' => e = .returned (.int .i64 (-1)) ∧ w' = w := by
  have HN := hid (fun w => pnobodys_nil w)
  go_enter Tryd.func23, Tryd.ntmps23
  go_wp2_with (go_at_call 27; (with_reducible refine (HN.out _).mono ?_); rintro e w2 ⟨rfl, rfl⟩)
  go_ret
  exact ⟨rfl, rfl⟩
theorem popen_nil (p q r : Int) (w : World) : Calls Tryd.prog 60 #[.pointer none, .int .i64 p, .int .i64 q, .int .i64 r] w fun e w' => e = .returned (.int .u64 0) ∧ Below w.heap.size w w' := by
  have HD : Hid (Calls Tryd.prog 42 #[.pointer none, .agg #[.int .i64 12, .int .i64 (-1), .int .i64 p, .int .i64 q, .int .i64 r, .int .u64 0], .int .u64 0] w fun e w' => e = .returned (.int .i64 (-1)) ∧ Below w.heap.size w w') := hid (pdo_nil ⟨12, -1, p, q, r, 0⟩ 0 w)
  go_enter Tryd.func60, Tryd.ntmps60
  go_wp2_with (go_at_call 42; (with_reducible refine HD.out.mono ?_); rintro e w2 ⟨rfl, hp⟩; have HP := hid hp; clear hp)
  go_ret
  exact ⟨rfl, HP.out⟩
/-! ### what is opened -/
theorem doR_cases (S : Ms) (o : Op6) : S.doR o = -1 ∨ (S.doR o = (S.len : Int) ∧ ∀ x, S.doS o x = S.put o x) := by
  unfold Ms.doR Ms.doS
  by_cases h0 : S.e ≠ 0
  · exact .inl (if_pos (.inl h0))
  · by_cases h1 : S.bad o = true
    · exact .inl (if_pos (.inr (.inl h1)))
    · by_cases h2 : S.full = true
      · exact .inl (if_pos (.inr (.inr (.inl h2))))
      · by_cases h3 : S.out o = true
        · exact .inl (if_pos (.inr (.inr (.inr h3))))
        · exact .inr ⟨if_neg (by rintro (q | q | q | q) <;> contradiction), fun x => by rw [if_neg h0, if_neg h1, if_neg h2, if_neg h3]⟩
set_option maxHeartbeats 1600000 in
theorem popen_any (b k : Nat) (S : Ms) (F : Nat → Prop) (p q r : Int) (w : World) (hm : Pm w b S F) (hq : Bq k S) (hk : k ≤ 1000000) (ho : opwf ⟨12, -1, p, q, r, 0⟩) :
    Calls Tryd.prog 60 #[.pointer (some ⟨b, 0, none⟩), .int .i64 p, .int .i64 q, .int .i64 r] w fun e w' => e = .returned (.int .u64 (S.opR ⟨12, -1, p, q, r, 0⟩ : Nat)) ∧ PmL b (S.doS ⟨12, -1, p, q, r, 0⟩ 0) F w w' := by
  have HD := hid (pdo_opn b k S F p q r w hm hq hk ho)
  unfold Ms.opR
  rcases doR_cases S ⟨12, -1, p, q, r, 0⟩ with e | ⟨e, e2⟩
  · rw [e] at HD ⊢
    rw [if_pos (by decide)]
    clear hm hq hk ho e
    generalize S.doS ⟨12, -1, p, q, r, 0⟩ 0 = S1 at *
    go_enter Tryd.func60, Tryd.ntmps60
    go_wp2_with (go_at_call 42; (with_reducible refine HD.out.mono ?_); rintro e w2 ⟨rfl, hp⟩; have HP := hid hp; clear hp)
    go_ret
    exact ⟨rfl, HP.out⟩
  · rw [e, e2] at HD ⊢
    rw [if_neg (by omega)]
    have q1 : ((S.len : Int) == -1) = false := by simp
    cases hd : S.dry
    · rw [if_neg (by decide)]
      have hl : S.len = S.L := by unfold Ms.len; rw [hq.wet hd]; omega
      rw [hl] at HD q1 ⊢
      have HDR := hid (show (S.put ⟨12, -1, p, q, r, 0⟩ 0).dry = false from hd)
      have HLL := hid (show (S.put ⟨12, -1, p, q, r, 0⟩ 0).L = S.L + 1 from rfl)
      have j0 : (0 : Int) ≤ (S.L : Int) := by omega
      have j1 : (S.L : Int) < ((S.L + 1 : Nat) : Int) := by omega
      clear hm hq hk ho e e2 hl hd
      generalize S.put ⟨12, -1, p, q, r, 0⟩ 0 = S1 at *
      generalize S.L = n at *
      go_enter Tryd.func60, Tryd.ntmps60
      go_wp2_with (go_at_call 42; (with_reducible refine HD.out.mono ?_); rintro e w2 ⟨rfl, hp⟩; have HP := hid hp; obtain ⟨F', ⟨tv, ov, vv, bv, lo, hi, hz, hF⟩, hp2⟩ := hp; have hk1 : kpL S1 S1.L = n + 1 := (show kpL S1 S1.L = S1.L by unfold kpL; rw [HDR.out]; rfl).trans HLL.out; unfold Pq at hz; rw [hk1] at hz; obtain ⟨a, cap, e2, hcc⟩ := hz.vals; obtain ⟨g, ea, hcc⟩ := hcc (by omega); have cz := hcc n (by omega); have c8 := hz.c_vv; have c3 := hz.c_dry; rw [HDR.out] at c3; rw [e2, ea] at c8; clear hcc ea e2 hz hF hp2 hk1)
      go_ret
      exact ⟨rfl, HP.out⟩
    · rw [if_pos rfl]
      have HDR := hid (show (S.put ⟨12, -1, p, q, r, 0⟩ 0).dry = true from hd)
      clear hm hq hk ho e e2 hd
      generalize S.put ⟨12, -1, p, q, r, 0⟩ 0 = S1 at *
      generalize (S.len : Int) = n at *
      go_enter Tryd.func60, Tryd.ntmps60
      go_wp2_with (go_at_call 42; (with_reducible refine HD.out.mono ?_); rintro e w2 ⟨rfl, hp⟩; have HP := hid hp; obtain ⟨F', ⟨tv, ov, vv, bv, lo, hi, hz, hF⟩, hp2⟩ := hp; have c3 := hz.c_dry; rw [HDR.out] at c3; clear hz hF hp2)
      go_ret
      exact ⟨rfl, HP.out⟩
end Go.Proofs.YtpjgpiieminaoaaDoor

/- Wire: the program's machine: Begin, End. -/
namespace Go.Proofs.YtpjgpiieminaoaaDoor
open Go.RowKit
set_option maxRecDepth 100000
theorem pinfoSp : (Tryd.prog.info? 69).map (fun i => (i.zero, i.size, i.bytes)) = some (some (.agg #[.int .i64 0, .int .i64 0, .int .i64 0]), 3, 24) := by kernel_rfl
theorem tch_cell {F : Nat → Prop} {w w' : World} {p i : Nat} {u : Value} (t : Tch F w w') (hc : w.cell? ⟨p, i, none⟩ = some u) (no : ¬ F p) : w'.cell? ⟨p, i, none⟩ = some u := by
  rw [World.cell?_of_block (a := ⟨p, i, none⟩) (t.block p (World.block_lt_of_cell? w _ hc) no)]; exact hc
/-- What Begin comes to. -/
def bgC (S : Ms) (k : Int) : Nat := if S.kind ≠ 0 ∨ k < 1 ∨ 3 < k then 1 else 0
def bgS (S : Ms) (k : Int) : Ms := if bgC S k = 0 then { S with kind := k, fr := S.len } else S
theorem beginS_bg (S : Ms) (k : Int) (he : S.e = 0) : S.beginS k = { bgS S k with e := bgC S k } := by
  unfold Ms.beginS bgS bgC
  rw [if_neg (by omega)]
  by_cases h : S.kind ≠ 0 ∨ k < 1 ∨ 3 < k
  · rw [if_pos h, if_pos h, if_neg (by decide)]
  · rw [if_neg h, if_neg h, if_pos rfl, ← he]
def enC (S : Ms) : Nat := if S.kind = 0 then 1 else 0
def enS (S : Ms) : Ms :=
  if S.kind = 0 then S else if S.fr < S.len then { S with M := S.M + 1, g := updS S.g S.M ⟨S.kind, (S.fr : Int), (S.len : Int)⟩, kind := 0 } else { S with kind := 0 }
theorem endS_en (S : Ms) (he : S.e = 0) : S.endS = { enS S with e := enC S } := by
  unfold Ms.endS enS enC
  rw [if_neg (by omega)]
  by_cases h : S.kind = 0
  · rw [if_pos h, if_pos h, if_pos h]
  · rw [if_neg h, if_neg h, if_neg h, ← he]
    split <;> rfl
section
variable {b LO LV lo hi : Nat} {w : World} {A S A' S' : Ms} {tv oc vc bv ov vv : Value}
/-- The three cells of the open block are stored. -/
theorem Pr.openSet (h : Pr w b A S LO LV tv oc vc bv ov vv lo hi) {vs : List Value} {w' : World} (hw : w' = w.setCells b 10 vs) (hl : vs.length = 3) (e : (((pmC A tv oc vc bv).setIfInBounds 10 vs[0]).setIfInBounds 11 vs[1]).setIfInBounds 12 vs[2] = pmC A' tv oc vc bv) (hn' : A'.n = A.n)
    (hf : S'.f = S.f) (hv : S'.v = S.v) (hM : S'.M = S.M) (hg : S'.g = S.g) (hd : S'.dry = S.dry) (htw : S'.tw = S.tw) (hTN : S'.TN = S.TN) (hu : S'.used = S.used) (hfr : S'.free = S.free) :
    Pr w' b A' S' LO LV tv oc vc bv ov vv lo hi ∧ Tch (Fz b ov bv vv lo hi) w w' := by
  match vs, hl with
  | [x, y, z], _ =>
    have e1 : w' = ((w.setCell ⟨b, 10, none⟩ x).setCell ⟨b, 11, none⟩ y).setCell ⟨b, 12, none⟩ z := hw
    have k1 := heap_setCell_same w b 10 _ 71 x h.blk
    have k2 := heap_setCell_same _ b 11 _ 71 y k1
    have k3 := heap_setCell_same _ b 12 _ 71 z k2
    rw [← e1] at k3
    have ho : ∀ k, k ≠ b → w'.heap[k]? = w.heap[k]? := fun k hk => by
      rw [e1, heap_setCell_other _ ⟨b, 12, none⟩ k z hk, heap_setCell_other _ ⟨b, 11, none⟩ k y hk, heap_setCell_other _ ⟨b, 10, none⟩ k x hk]
    have hs : w.heap.size ≤ w'.heap.size := by rw [e1]; simp [World.setCell]
    refine ⟨h.turn (by rw [k3]; exact congrArg (fun c => some (Obj.cells c 71 (0, 0))) e) hn' hs (fun k hk _ => ho k hk) hf hv hM hg hd htw hTN hu hfr, ?_⟩
    rw [e1]
    exact ((fz_set b 10 x w).trans (fz_set b 11 y _) (fun _ _ f => f)).trans (fz_set b 12 z _) (fun _ _ f => f)
theorem Pr.c_z (h : Pr w b A S LO LV tv oc vc bv ov vv lo hi) : w.cell? ⟨b, 12, none⟩ = some (Value.int .i64 0) := h.c 12 rfl
theorem Pr.there (h : Pr w b A S LO LV tv oc vc bv ov vv lo hi) : w.there b 10 3 := fun j hj => by
  have : j = 0 ∨ j = 1 ∨ j = 2 := by omega
  rcases this with rfl | rfl | rfl
  · exact ⟨by rw [h.c_kind]; rfl, h.fz 10⟩
  · exact ⟨by rw [h.c_fr]; rfl, h.fz 11⟩
  · exact ⟨by rw [h.c_z]; rfl, h.fz 12⟩
end
theorem pbegin1_open (b lo hi p2 p3 : Nat) (S : Ms) (tv bv ov vv : Value) (kd : Int) (w : World) (h : Pq w b S tv ov vv bv lo hi)
    (c2 : w.cell? ⟨p2, 0, none⟩ = some (.pointer (some ⟨b, 0, none⟩))) (c3 : w.cell? ⟨p3, 0, none⟩ = some (.int .i64 kd)) (q1 : (S.kind != 0) = true) :
    Calls Tryd.prog 38 #[.pointer (some ⟨p2, 0, none⟩), .pointer (some ⟨p3, 0, none⟩)] w fun e w' => e = .returned (.int .i64 1) ∧ w' = w := by
  have HO := hid (pisopen_c h.c_kind)
  rw [q1] at HO
  clear h
  go_enter Tryd.func38, Tryd.ntmps38
  go_wp2_with (go_at_call 39; (with_reducible refine HO.out.mono ?_); rintro e w2 ⟨rfl, rfl⟩)
  go_ret
  exact ⟨rfl, rfl⟩
theorem pbegin1_low (b lo hi p2 p3 : Nat) (S : Ms) (tv bv ov vv : Value) (kd : Int) (w : World) (h : Pq w b S tv ov vv bv lo hi)
    (c2 : w.cell? ⟨p2, 0, none⟩ = some (.pointer (some ⟨b, 0, none⟩))) (c3 : w.cell? ⟨p3, 0, none⟩ = some (.int .i64 kd)) (q1 : (S.kind != 0) = false) (h1 : kd < 1) :
    Calls Tryd.prog 38 #[.pointer (some ⟨p2, 0, none⟩), .pointer (some ⟨p3, 0, none⟩)] w fun e w' => e = .returned (.int .i64 1) ∧ w' = w := by
  have HO := hid (pisopen_c h.c_kind)
  rw [q1] at HO
  have q2 : decide (kd < 1) = true := decide_eq_true h1
  clear h
  go_enter Tryd.func38, Tryd.ntmps38
  go_wp2_with (go_at_call 39; (with_reducible refine HO.out.mono ?_); rintro e w2 ⟨rfl, rfl⟩)
  go_ret
  exact ⟨rfl, rfl⟩
theorem pbegin1_high (b lo hi p2 p3 : Nat) (S : Ms) (tv bv ov vv : Value) (kd : Int) (w : World) (h : Pq w b S tv ov vv bv lo hi)
    (c2 : w.cell? ⟨p2, 0, none⟩ = some (.pointer (some ⟨b, 0, none⟩))) (c3 : w.cell? ⟨p3, 0, none⟩ = some (.int .i64 kd)) (q1 : (S.kind != 0) = false) (h1 : 3 < kd) :
    Calls Tryd.prog 38 #[.pointer (some ⟨p2, 0, none⟩), .pointer (some ⟨p3, 0, none⟩)] w fun e w' => e = .returned (.int .i64 1) ∧ w' = w := by
  have HO := hid (pisopen_c h.c_kind)
  rw [q1] at HO
  have q2 : decide (kd < 1) = false := decide_eq_false (by omega)
  have q3 : decide (3 < kd) = true := decide_eq_true h1
  clear h
  go_enter Tryd.func38, Tryd.ntmps38
  go_wp2_with (go_at_call 39; (with_reducible refine HO.out.mono ?_); rintro e w2 ⟨rfl, rfl⟩)
  go_ret
  exact ⟨rfl, rfl⟩
set_option maxHeartbeats 1600000 in
theorem pbegin1_ok (b lo hi p2 p3 : Nat) (S : Ms) (tv bv ov vv : Value) (kd : Int) (w : World) (h : Pq w b S tv ov vv bv lo hi)
    (c2 : w.cell? ⟨p2, 0, none⟩ = some (.pointer (some ⟨b, 0, none⟩))) (c3 : w.cell? ⟨p3, 0, none⟩ = some (.int .i64 kd)) (f2 : ¬ Fz b ov bv vv lo hi p2) (f3 : ¬ Fz b ov bv vv lo hi p3) (q1 : (S.kind != 0) = false) (h1 : 1 ≤ kd) (h2 : kd ≤ 3) :
    Calls Tryd.prog 38 #[.pointer (some ⟨p2, 0, none⟩), .pointer (some ⟨p3, 0, none⟩)] w fun e w' => e = .returned (.int .i64 0) ∧ Pq w' b { S with kind := kd, fr := S.len } tv ov vv bv lo hi ∧ Tch (Fz b ov bv vv lo hi) w w' := by
  have HO := hid (pisopen_c h.c_kind)
  rw [q1] at HO
  have q2 : decide (kd < 1) = false := decide_eq_false (by omega)
  have q3 : decide (3 < kd) = false := decide_eq_false (by omega)
  have HK0 := hid (show ¬ kd = 0 by omega)
  have D0 : Hid (Pr w.drew b S S (kpL S S.L) (kpL S S.L) tv ov vv bv ov vv lo hi) := hid h.drew
  have N2 := hid f2
  have N3 := hid f3
  have HB : Hid (Below w.heap.size w w.drew) := hid ((Below.refl _ _).drew)
  clear h h1 h2 f2 f3
  go_enter Tryd.func38, Tryd.ntmps38
  go_wp2_with (go_at_call 39; (with_reducible refine HO.out.mono ?_); rintro e w2 ⟨rfl, rfl⟩)
  replace c2 : w2.drew.cell? ⟨p2, 0, none⟩ = some (.pointer (some ⟨b, 0, none⟩)) := c2
  replace c3 : w2.drew.cell? ⟨p3, 0, none⟩ = some (.int .i64 kd) := c3
  refine wp_region_noPanic ?_
  refine wp_region_held_drew (S := fun w' => w'.cell? ⟨p2, 0, none⟩ = some (.pointer (some ⟨b, 0, none⟩)) ∧ w'.cell? ⟨p3, 0, none⟩ = some (.int .i64 kd) ∧ w'.cell? ⟨b, 4, none⟩ = some (.int .i64 (S.len : Int))) (by kernel_rfl) (⟨c2, c3, D0.out.c_len⟩) (fun h0 => ?_)
  generalize w2.drew = w1 at *
  refine wpAnyH_take (i := 0) (v := .pointer (some ⟨b, 0, none⟩)) rfl (by kernel_rfl) (by kernel_rfl) (by kernel_rfl) (fun _ _ _ h => h) (.inl ⟨by rfl, fun w hw => by have hc := hw.1; clear hw; go_simp⟩) h0 ?_
  try simp only [Act.put, lay_out]
  refine wpAnyH_take (i := 1) (v := .int .i64 kd) rfl (by kernel_rfl) (by kernel_rfl) (by kernel_rfl) (fun _ _ _ h => h) (.inl ⟨by rfl, fun w hw => by have hc := hw.2.1; clear hw; go_simp⟩) h0 ?_
  try simp only [Act.put, lay_out]
  refine wpAnyH_take (i := 2) (v := .pointer (some ⟨b, 0, none⟩)) rfl (by kernel_rfl) (by kernel_rfl) (by kernel_rfl) (fun _ _ _ h => h) (.inl ⟨by rfl, fun w hw => by have hc := hw.1; clear hw; go_simp⟩) h0 ?_
  try simp only [Act.put, lay_out]
  refine wpAnyH_take (i := 3) (v := .pointer (some ⟨b, 0, none⟩)) rfl (by kernel_rfl) (by kernel_rfl) (by kernel_rfl) (fun _ _ _ h => h) (.inl ⟨by rfl, fun w hw => by clear hw; go_simp⟩) h0 ?_
  try simp only [Act.put, lay_out]
  refine wpAnyH_take (i := 4) (v := .pointer (some ⟨b, 4, none⟩)) rfl (by kernel_rfl) (by kernel_rfl) (by kernel_rfl) (fun _ _ _ h => h) (.inl ⟨by rfl, fun w hw => by clear hw; go_simp⟩) h0 ?_
  try simp only [Act.put, lay_out]
  refine wpAnyH_take (i := 5) (v := .int .i64 (S.len : Int)) rfl (by kernel_rfl) (by kernel_rfl) (by kernel_rfl) (fun _ _ _ h => h) (.inl ⟨by rfl, fun w hw => by have hc := hw.2.2; clear hw; go_simp⟩) h0 ?_
  try simp only [Act.put, lay_out]
  refine wpAnyH_take (i := 6) (v := .agg #[.int .i64 kd, .int .i64 (S.len : Int), .int .i64 0]) rfl (by kernel_rfl) (by kernel_rfl) (by kernel_rfl) (fun _ _ _ h => h) (.inl ⟨by rfl, fun w hw => by clear hw; go_simp⟩) h0 ?_
  try simp only [Act.put, lay_out]
  refine wpAnyH_take (i := 7) (v := .pointer (some ⟨b, 0, none⟩)) rfl (by kernel_rfl) (by kernel_rfl) (by kernel_rfl) (fun _ _ _ h => h) (.inl ⟨by rfl, fun w hw => by clear hw; go_simp⟩) h0 ?_
  try simp only [Act.put, lay_out]
  refine wpAnyH_take (i := 8) (v := .pointer (some ⟨b, 10, none⟩)) rfl (by kernel_rfl) (by kernel_rfl) (by kernel_rfl) (fun _ _ _ h => h) (.inl ⟨by rfl, fun w hw => by clear hw; go_simp⟩) h0 ?_
  try simp only [Act.put, lay_out]
  refine wpAnyH_ready (rs := [9]) (by kernel_rfl) (by simp) (AllReadyH.cons rfl (fun K hK => ?_) AllReadyH.nil)
  rw [if_pos (by rfl)]
  refine wp_store_mid 69 (.tmp 21) (.tmp 19) rfl b 10 #[.int .i64 kd, .int .i64 (S.len : Int), .int .i64 0] rfl rfl D0.out.there (by kernel_rfl) (by kernel_rfl) ?_
  have hx := D0.out.openSet (A' := { S with kind := kd, fr := S.len }) (S' := { S with kind := kd, fr := S.len }) (w' := w1.setCells b 10 (#[.int .i64 kd, .int .i64 (S.len : Int), .int .i64 0] : Array Value).toList) rfl rfl (by unfold pmC Ms.frc; rw [if_neg HK0.out]; rfl) rfl rfl rfl rfl rfl rfl rfl rfl rfl rfl
  have D1 := hid hx.1
  have T1 := hid hx.2
  clear hx
  refine hK.out _ _ (⟨tch_cell T1.out c2 N2.out, tch_cell T1.out c3 N3.out, D1.out.c_len⟩) (fun h1x => ?_)
  clear hK K
  try simp only [Act.put, lay_out]
  refine wpAnyH_done (by kernel_rfl) ?_ _
  refine NoPanic.normal ?_
  clear h0 h1x
  try simp only [Act.put, lay_out]
  go_wp2
  go_ret
  exact ⟨rfl, D1.out, (Tch.of_below HB.out).trans T1.out (fun _ _ f => f)⟩
theorem pend1_no (b lo hi p0 : Nat) (S : Ms) (tv bv ov vv : Value) (w : World) (h : Pq w b S tv ov vv bv lo hi) (c0 : w.cell? ⟨p0, 0, none⟩ = some (.pointer (some ⟨b, 0, none⟩))) (hk : S.kind = 0) :
    Calls Tryd.prog 43 #[.pointer (some ⟨p0, 0, none⟩)] w fun e w' => e = .returned (.int .i64 1) ∧ w' = w := by
  have q1 : (S.kind != 0) = false := by simp [hk]
  have HO := hid (pisopen_c h.c_kind)
  rw [q1] at HO
  clear h hk q1
  go_enter Tryd.func43, Tryd.ntmps43
  go_wp2_with (go_at_call 39; (with_reducible refine HO.out.mono ?_); rintro e w2 ⟨rfl, rfl⟩)
  go_ret
  exact ⟨rfl, rfl⟩
set_option maxHeartbeats 3200000 in
theorem pend1_dry (b lo hi p0 : Nat) (S : Ms) (tv bv ov vv : Value) (w : World) (h : Pq w b S tv ov vv bv lo hi) (c0 : w.cell? ⟨p0, 0, none⟩ = some (.pointer (some ⟨b, 0, none⟩))) (f0 : ¬ Fz b ov bv vv lo hi p0) (hk : S.kind ≠ 0) (hd : S.dry = true) (S1 : Ms) (hd1 : S1.dry = true) (hA : pmC S1 tv ov vv bv = pmC { S with kind := 0 } tv ov vv bv) (hn1 : S1.n = S.n) :
    Calls Tryd.prog 43 #[.pointer (some ⟨p0, 0, none⟩)] w fun e w' => e = .returned (.int .i64 0) ∧ ∃ bv', Pq w' b S1 tv ov vv bv' lo hi ∧ Gn (Fz b ov bv vv lo hi) w (Fz b ov bv' vv lo hi) w' := by
  have e0 : kpL S S.L = 0 := by unfold kpL; rw [if_pos hd]
  have e1 : kpL S1 S1.L = 0 := by unfold kpL; rw [if_pos hd1]
  unfold Pq at h
  rw [e0] at h
  have HE := hid e1
  have H1 := hid hd1
  have HA := hid hA
  have HN1 := hid hn1
  clear e0 e1 hd1 hA hn1
  have q1 : (S.kind != 0) = true := by simp [hk]
  have HO := hid (pisopen_c h.c_kind)
  rw [q1] at HO
  have hfr : S.frc = S.fr := by unfold Ms.frc; rw [if_neg hk]
  have c10 := h.c_kind
  have c11 := h.c_fr
  rw [hfr] at c11
  have c12 := h.c_z
  have HH := hid h
  have NP := hid f0
  have HC0 := hid c0
  have HD := hid hd
  clear h hk q1 hfr f0 hd
  go_enter Tryd.func43, Tryd.ntmps43
  go_wp2_with (go_at_call 39; (with_reducible refine HO.out.mono ?_); rintro e w2 ⟨rfl, rfl⟩)
  have HP0 : Hid (p0 ≠ w2.heap.size) := hid (fun q => by have := World.block_lt_of_cell? w2 _ HC0.out; simp only [q] at this; exact Nat.lt_irrefl _ this)
  have hb1 := (Below.refl w2.heap.size w2).alloc (Nat.le_refl _) (.cells #[.int .i64 S.kind, .int .i64 (S.fr : Int), .int .i64 0] 69)
  have K0 := hid ((Kz.new (F := Fz b ov bv vv lo hi) (w := w2) #[.int .i64 S.kind, .int .i64 (S.fr : Int), .int .i64 0] 69 (fun k hk => HH.out.ftlt hk)).self ((Below.refl _ _).drew))
  have D0 := hid ((HH.out.self hb1).drew)
  have O0 : Hid ((w2.alloc (.cells #[.int .i64 S.kind, .int .i64 (S.fr : Int), .int .i64 0] 69)).drew.cell? ⟨p0, 0, none⟩ = some (.pointer (some ⟨b, 0, none⟩))) := hid (tch_cell (Tch.of_below (F := fun _ => False) hb1.drew) HC0.out (fun q => q))
  have T0 := hid ((Tch.of_below (F := Fz b ov bv vv lo hi) hb1.drew))
  have HSZ : Hid (w2.heap.size < (w2.alloc (.cells #[.int .i64 S.kind, .int .i64 (S.fr : Int), .int .i64 0] 69)).drew.heap.size) := hid (Nat.lt_of_lt_of_eq (Nat.lt_succ_self _) (alloc_sz _ _).symm)
  clear c0 c10 c11 c12 hb1
  generalize w2.alloc (.cells #[.int .i64 S.kind, .int .i64 (S.fr : Int), .int .i64 0] 69) = wx at *
  refine wp_region_noPanic ?_
  refine wp_region_held_drew (S := fun w' => w'.cell? ⟨p0, 0, none⟩ = some (.pointer (some ⟨b, 0, none⟩)) ∧ w'.cell? ⟨b, 4, none⟩ = some (.int .i64 (S.len : Int))) (by kernel_rfl) (⟨O0.out, D0.out.c_len⟩) (fun h0 => ?_)
  generalize wx.drew = w1 at *
  refine wpAnyH_take (i := 0) (v := .pointer (some ⟨b, 0, none⟩)) rfl (by kernel_rfl) (by kernel_rfl) (by kernel_rfl) (fun _ _ _ h => h) (.inl ⟨by rfl, fun w hw => by have hc := hw.1; clear hw; go_simp⟩) h0 ?_
  try simp only [Act.put, lay_out]
  refine wpAnyH_take (i := 1) (v := .pointer (some ⟨b, 0, none⟩)) rfl (by kernel_rfl) (by kernel_rfl) (by kernel_rfl) (fun _ _ _ h => h) (.inl ⟨by rfl, fun w hw => by have hc := hw.1; clear hw; go_simp⟩) h0 ?_
  try simp only [Act.put, lay_out]
  refine wpAnyH_take (i := 2) (v := .pointer (some ⟨b, 0, none⟩)) rfl (by kernel_rfl) (by kernel_rfl) (by kernel_rfl) (fun _ _ _ h => h) (.inl ⟨by rfl, fun w hw => by clear hw; go_simp⟩) h0 ?_
  try simp only [Act.put, lay_out]
  refine wpAnyH_take (i := 3) (v := .pointer (some ⟨b, 4, none⟩)) rfl (by kernel_rfl) (by kernel_rfl) (by kernel_rfl) (fun _ _ _ h => h) (.inl ⟨by rfl, fun w hw => by clear hw; go_simp⟩) h0 ?_
  try simp only [Act.put, lay_out]
  refine wpAnyH_take (i := 4) (v := .int .i64 (S.len : Int)) rfl (by kernel_rfl) (by kernel_rfl) (by kernel_rfl) (fun _ _ _ h => h) (.inl ⟨by rfl, fun w hw => by have hc := hw.2; clear hw; go_simp⟩) h0 ?_
  try simp only [Act.put, lay_out]
  refine wpAnyH_take (i := 5) (v := .agg #[.int .i64 0, .int .i64 0, .int .i64 0]) rfl (by kernel_rfl) (by kernel_rfl) (by kernel_rfl) (fun _ _ _ h => h) (.inl ⟨by rfl, fun w hw => by clear hw; go_simp⟩) h0 ?_
  try simp only [Act.put, lay_out]
  refine wpAnyH_take (i := 6) (v := .pointer (some ⟨w2.heap.size, 2, none⟩)) rfl (by kernel_rfl) (by kernel_rfl) (by kernel_rfl) (fun _ _ _ h => h) (.inl ⟨by rfl, fun w hw => by clear hw; go_simp⟩) h0 ?_
  try simp only [Act.put, lay_out]
  refine wpAnyH_ready (rs := [7]) (by kernel_rfl) (by simp) (AllReadyH.cons rfl (fun K hK => ?_) AllReadyH.nil)
  rw [if_pos (by rfl)]
  have cg : w1.cell? ⟨w2.heap.size, 2, none⟩ = some (.int .i64 0) := by rw [cell_of_row w1 w2.heap.size 2 _ _ _ K0.out.blk]; rfl
  have fg : w1.frozen? ⟨w2.heap.size, 2, none⟩ = false := frozen_of_row w1 w2.heap.size 2 _ _ K0.out.blk
  go_simp
  clear cg fg
  have hne : b ≠ w2.heap.size := fun q => K0.out.no (q ▸ .inl (.inl rfl))
  have hp0 : p0 ≠ w2.heap.size := HP0.out
  have t0 : Tch (fun k => k = w2.heap.size) w1 (w1.setCell ⟨w2.heap.size, 2, none⟩ (.int .i64 (S.len : Int))) := Tch.set w1 _ rfl
  have D1 := hid (D0.out.stays t0.size (fun k hk => t0.block k (D0.out.ftlt hk) (fun q => K0.out.no (q ▸ hk))))
  have O1 := hid (tch_cell t0 O0.out hp0)
  have K1 : Hid (Kz (Fz b ov bv vv lo hi) w2.heap.size (.cells #[.int .i64 S.kind, .int .i64 (S.fr : Int), .int .i64 (S.len : Int)] 69 (0, 0)) (w1.setCell ⟨w2.heap.size, 2, none⟩ (.int .i64 (S.len : Int)))) := hid ⟨by rw [heap_setCell_same w1 w2.heap.size 2 _ 69 _ K0.out.blk]; rfl, K0.out.no⟩
  have T1 : Hid (Tch (Fz b ov bv vv lo hi) w2 (w1.setCell ⟨w2.heap.size, 2, none⟩ (.int .i64 (S.len : Int)))) := hid (T0.out.trans t0 (fun j hj q => by have q' : j = w2.heap.size := q; omega))
  clear t0 hne hp0
  refine hK.out _ _ (⟨O1.out, D1.out.c_len⟩) (fun h1x => ?_)
  clear hK K
  try simp only [Act.put, lay_out]
  refine wpAnyH_take (i := 8) (v := .pointer (some ⟨b, 0, none⟩)) rfl (by kernel_rfl) (by kernel_rfl) (by kernel_rfl) (fun _ _ _ h => h) (.inl ⟨by rfl, fun w hw => by clear hw; go_simp⟩) h1x ?_
  try simp only [Act.put, lay_out]
  refine wpAnyH_take (i := 9) (v := .pointer (some ⟨b, 10, none⟩)) rfl (by kernel_rfl) (by kernel_rfl) (by kernel_rfl) (fun _ _ _ h => h) (.inl ⟨by rfl, fun w hw => by clear hw; go_simp⟩) h1x ?_
  try simp only [Act.put, lay_out]
  refine wpAnyH_ready (rs := [10]) (by kernel_rfl) (by simp) (AllReadyH.cons rfl (fun K hK => ?_) AllReadyH.nil)
  rw [if_pos (by rfl)]
  refine wp_store_mid 69 (.tmp 18) (.tmp 15) rfl b 10 #[.int .i64 0, .int .i64 0, .int .i64 0] rfl rfl D1.out.there (by kernel_rfl) (by kernel_rfl) ?_
  have hx := D1.out.openSet (A' := { S with kind := 0 }) (S' := S) (w' := (w1.setCell ⟨w2.heap.size, 2, none⟩ (.int .i64 (S.len : Int))).setCells b 10 (#[.int .i64 0, .int .i64 0, .int .i64 0] : Array Value).toList) rfl rfl (by unfold pmC Ms.frc; rw [if_pos rfl]; rfl) rfl rfl rfl rfl rfl rfl rfl rfl rfl rfl
  have D2 := hid hx.1
  have O2 := hid (tch_cell hx.2 O1.out NP.out)
  have K2 := hid (K1.out.on hx.2)
  have T2 := hid (T1.out.trans hx.2 (fun _ _ f => f))
  clear hx
  refine hK.out _ _ (⟨O2.out, D2.out.c_len⟩) (fun h2x => ?_)
  clear hK K
  try simp only [Act.put, lay_out]
  refine wpAnyH_done (by kernel_rfl) ?_ _
  refine NoPanic.normal ?_
  clear h0 h1x h2x
  try simp only [Act.put, lay_out]
  generalize (w1.setCell ⟨w2.heap.size, 2, none⟩ (.int .i64 (S.len : Int))).setCells b 10 (#[.int .i64 0, .int .i64 0, .int .i64 0] : Array Value).toList = w3 at *
  have c0 := O2.out
  have c3 := D2.out.c_dry
  rw [HD.out] at c3

  go_wp2
  go_ret
  refine ⟨rfl, bv, ?_, Gn.on (Gn.refl _ _) T2.out⟩
  show Pr w3 b S1 S1 _ _ tv ov vv bv ov vv lo hi
  rw [HE.out]
  have hz := D2.out.dryRows (S' := S1) HD.out H1.out
  exact hz.turn (by rw [hz.blk, HA.out]) HN1.out (Nat.le_refl _) (fun _ _ _ => rfl) rfl rfl rfl rfl rfl rfl rfl rfl rfl
set_option maxHeartbeats 3200000 in
theorem pend1_few (b lo hi p0 : Nat) (S : Ms) (tv bv ov vv : Value) (w : World) (h : Pq w b S tv ov vv bv lo hi) (c0 : w.cell? ⟨p0, 0, none⟩ = some (.pointer (some ⟨b, 0, none⟩))) (f0 : ¬ Fz b ov bv vv lo hi p0) (hk : S.kind ≠ 0) (hd : S.dry = false) (hlt : ¬ S.fr < S.len) :
    Calls Tryd.prog 43 #[.pointer (some ⟨p0, 0, none⟩)] w fun e w' => e = .returned (.int .i64 0) ∧ ∃ bv', Pq w' b { S with kind := 0 } tv ov vv bv' lo hi ∧ Gn (Fz b ov bv vv lo hi) w (Fz b ov bv' vv lo hi) w' := by
  have q45 : decide ((S.fr : Int) < (S.len : Int)) = false := decide_eq_false (by omega)
  have q1 : (S.kind != 0) = true := by simp [hk]
  have HO := hid (pisopen_c h.c_kind)
  rw [q1] at HO
  have hfr : S.frc = S.fr := by unfold Ms.frc; rw [if_neg hk]
  have c10 := h.c_kind
  have c11 := h.c_fr
  rw [hfr] at c11
  have c12 := h.c_z
  have HH := hid h
  have NP := hid f0
  have HC0 := hid c0
  have HD := hid hd
  clear h hk q1 hfr f0 hd
  go_enter Tryd.func43, Tryd.ntmps43
  go_wp2_with (go_at_call 39; (with_reducible refine HO.out.mono ?_); rintro e w2 ⟨rfl, rfl⟩)
  have HP0 : Hid (p0 ≠ w2.heap.size) := hid (fun q => by have := World.block_lt_of_cell? w2 _ HC0.out; simp only [q] at this; exact Nat.lt_irrefl _ this)
  have hb1 := (Below.refl w2.heap.size w2).alloc (Nat.le_refl _) (.cells #[.int .i64 S.kind, .int .i64 (S.fr : Int), .int .i64 0] 69)
  have K0 := hid ((Kz.new (F := Fz b ov bv vv lo hi) (w := w2) #[.int .i64 S.kind, .int .i64 (S.fr : Int), .int .i64 0] 69 (fun k hk => HH.out.ftlt hk)).self ((Below.refl _ _).drew))
  have D0 := hid ((HH.out.self hb1).drew)
  have O0 : Hid ((w2.alloc (.cells #[.int .i64 S.kind, .int .i64 (S.fr : Int), .int .i64 0] 69)).drew.cell? ⟨p0, 0, none⟩ = some (.pointer (some ⟨b, 0, none⟩))) := hid (tch_cell (Tch.of_below (F := fun _ => False) hb1.drew) HC0.out (fun q => q))
  have T0 := hid ((Tch.of_below (F := Fz b ov bv vv lo hi) hb1.drew))
  have HSZ : Hid (w2.heap.size < (w2.alloc (.cells #[.int .i64 S.kind, .int .i64 (S.fr : Int), .int .i64 0] 69)).drew.heap.size) := hid (Nat.lt_of_lt_of_eq (Nat.lt_succ_self _) (alloc_sz _ _).symm)
  clear c0 c10 c11 c12 hb1
  generalize w2.alloc (.cells #[.int .i64 S.kind, .int .i64 (S.fr : Int), .int .i64 0] 69) = wx at *
  refine wp_region_noPanic ?_
  refine wp_region_held_drew (S := fun w' => w'.cell? ⟨p0, 0, none⟩ = some (.pointer (some ⟨b, 0, none⟩)) ∧ w'.cell? ⟨b, 4, none⟩ = some (.int .i64 (S.len : Int))) (by kernel_rfl) (⟨O0.out, D0.out.c_len⟩) (fun h0 => ?_)
  generalize wx.drew = w1 at *
  refine wpAnyH_take (i := 0) (v := .pointer (some ⟨b, 0, none⟩)) rfl (by kernel_rfl) (by kernel_rfl) (by kernel_rfl) (fun _ _ _ h => h) (.inl ⟨by rfl, fun w hw => by have hc := hw.1; clear hw; go_simp⟩) h0 ?_
  try simp only [Act.put, lay_out]
  refine wpAnyH_take (i := 1) (v := .pointer (some ⟨b, 0, none⟩)) rfl (by kernel_rfl) (by kernel_rfl) (by kernel_rfl) (fun _ _ _ h => h) (.inl ⟨by rfl, fun w hw => by have hc := hw.1; clear hw; go_simp⟩) h0 ?_
  try simp only [Act.put, lay_out]
  refine wpAnyH_take (i := 2) (v := .pointer (some ⟨b, 0, none⟩)) rfl (by kernel_rfl) (by kernel_rfl) (by kernel_rfl) (fun _ _ _ h => h) (.inl ⟨by rfl, fun w hw => by clear hw; go_simp⟩) h0 ?_
  try simp only [Act.put, lay_out]
  refine wpAnyH_take (i := 3) (v := .pointer (some ⟨b, 4, none⟩)) rfl (by kernel_rfl) (by kernel_rfl) (by kernel_rfl) (fun _ _ _ h => h) (.inl ⟨by rfl, fun w hw => by clear hw; go_simp⟩) h0 ?_
  try simp only [Act.put, lay_out]
  refine wpAnyH_take (i := 4) (v := .int .i64 (S.len : Int)) rfl (by kernel_rfl) (by kernel_rfl) (by kernel_rfl) (fun _ _ _ h => h) (.inl ⟨by rfl, fun w hw => by have hc := hw.2; clear hw; go_simp⟩) h0 ?_
  try simp only [Act.put, lay_out]
  refine wpAnyH_take (i := 5) (v := .agg #[.int .i64 0, .int .i64 0, .int .i64 0]) rfl (by kernel_rfl) (by kernel_rfl) (by kernel_rfl) (fun _ _ _ h => h) (.inl ⟨by rfl, fun w hw => by clear hw; go_simp⟩) h0 ?_
  try simp only [Act.put, lay_out]
  refine wpAnyH_take (i := 6) (v := .pointer (some ⟨w2.heap.size, 2, none⟩)) rfl (by kernel_rfl) (by kernel_rfl) (by kernel_rfl) (fun _ _ _ h => h) (.inl ⟨by rfl, fun w hw => by clear hw; go_simp⟩) h0 ?_
  try simp only [Act.put, lay_out]
  refine wpAnyH_ready (rs := [7]) (by kernel_rfl) (by simp) (AllReadyH.cons rfl (fun K hK => ?_) AllReadyH.nil)
  rw [if_pos (by rfl)]
  have cg : w1.cell? ⟨w2.heap.size, 2, none⟩ = some (.int .i64 0) := by rw [cell_of_row w1 w2.heap.size 2 _ _ _ K0.out.blk]; rfl
  have fg : w1.frozen? ⟨w2.heap.size, 2, none⟩ = false := frozen_of_row w1 w2.heap.size 2 _ _ K0.out.blk
  go_simp
  clear cg fg
  have hne : b ≠ w2.heap.size := fun q => K0.out.no (q ▸ .inl (.inl rfl))
  have hp0 : p0 ≠ w2.heap.size := HP0.out
  have t0 : Tch (fun k => k = w2.heap.size) w1 (w1.setCell ⟨w2.heap.size, 2, none⟩ (.int .i64 (S.len : Int))) := Tch.set w1 _ rfl
  have D1 := hid (D0.out.stays t0.size (fun k hk => t0.block k (D0.out.ftlt hk) (fun q => K0.out.no (q ▸ hk))))
  have O1 := hid (tch_cell t0 O0.out hp0)
  have K1 : Hid (Kz (Fz b ov bv vv lo hi) w2.heap.size (.cells #[.int .i64 S.kind, .int .i64 (S.fr : Int), .int .i64 (S.len : Int)] 69 (0, 0)) (w1.setCell ⟨w2.heap.size, 2, none⟩ (.int .i64 (S.len : Int)))) := hid ⟨by rw [heap_setCell_same w1 w2.heap.size 2 _ 69 _ K0.out.blk]; rfl, K0.out.no⟩
  have T1 : Hid (Tch (Fz b ov bv vv lo hi) w2 (w1.setCell ⟨w2.heap.size, 2, none⟩ (.int .i64 (S.len : Int)))) := hid (T0.out.trans t0 (fun j hj q => by have q' : j = w2.heap.size := q; omega))
  clear t0 hne hp0
  refine hK.out _ _ (⟨O1.out, D1.out.c_len⟩) (fun h1x => ?_)
  clear hK K
  try simp only [Act.put, lay_out]
  refine wpAnyH_take (i := 8) (v := .pointer (some ⟨b, 0, none⟩)) rfl (by kernel_rfl) (by kernel_rfl) (by kernel_rfl) (fun _ _ _ h => h) (.inl ⟨by rfl, fun w hw => by clear hw; go_simp⟩) h1x ?_
  try simp only [Act.put, lay_out]
  refine wpAnyH_take (i := 9) (v := .pointer (some ⟨b, 10, none⟩)) rfl (by kernel_rfl) (by kernel_rfl) (by kernel_rfl) (fun _ _ _ h => h) (.inl ⟨by rfl, fun w hw => by clear hw; go_simp⟩) h1x ?_
  try simp only [Act.put, lay_out]
  refine wpAnyH_ready (rs := [10]) (by kernel_rfl) (by simp) (AllReadyH.cons rfl (fun K hK => ?_) AllReadyH.nil)
  rw [if_pos (by rfl)]
  refine wp_store_mid 69 (.tmp 18) (.tmp 15) rfl b 10 #[.int .i64 0, .int .i64 0, .int .i64 0] rfl rfl D1.out.there (by kernel_rfl) (by kernel_rfl) ?_
  have hx := D1.out.openSet (A' := { S with kind := 0 }) (S' := S) (w' := (w1.setCell ⟨w2.heap.size, 2, none⟩ (.int .i64 (S.len : Int))).setCells b 10 (#[.int .i64 0, .int .i64 0, .int .i64 0] : Array Value).toList) rfl rfl (by unfold pmC Ms.frc; rw [if_pos rfl]; rfl) rfl rfl rfl rfl rfl rfl rfl rfl rfl rfl
  have D2 := hid hx.1
  have O2 := hid (tch_cell hx.2 O1.out NP.out)
  have K2 := hid (K1.out.on hx.2)
  have T2 := hid (T1.out.trans hx.2 (fun _ _ f => f))
  clear hx
  refine hK.out _ _ (⟨O2.out, D2.out.c_len⟩) (fun h2x => ?_)
  clear hK K
  try simp only [Act.put, lay_out]
  refine wpAnyH_done (by kernel_rfl) ?_ _
  refine NoPanic.normal ?_
  clear h0 h1x h2x
  try simp only [Act.put, lay_out]
  generalize (w1.setCell ⟨w2.heap.size, 2, none⟩ (.int .i64 (S.len : Int))).setCells b 10 (#[.int .i64 0, .int .i64 0, .int .i64 0] : Array Value).toList = w3 at *
  have c0 := O2.out
  have c3 := D2.out.c_dry
  rw [HD.out] at c3
  have cg1 : w3.cell? ⟨w2.heap.size, 1, none⟩ = some (.int .i64 (S.fr : Int)) := by rw [cell_of_row w3 w2.heap.size 1 _ _ _ K2.out.blk]; rfl
  have cg2 : w3.cell? ⟨w2.heap.size, 2, none⟩ = some (.int .i64 (S.len : Int)) := by rw [cell_of_row w3 w2.heap.size 2 _ _ _ K2.out.blk]; rfl
  go_wp2
  go_ret
  exact ⟨rfl, bv, D2.out.rows rfl rfl rfl rfl rfl rfl rfl rfl rfl, Gn.on (Gn.refl _ _) T2.out⟩
set_option maxHeartbeats 6400000 in
theorem pend1_more (b lo hi p0 : Nat) (S : Ms) (tv bv ov vv : Value) (w : World) (h : Pq w b S tv ov vv bv lo hi) (c0 : w.cell? ⟨p0, 0, none⟩ = some (.pointer (some ⟨b, 0, none⟩))) (f0 : ¬ Fz b ov bv vv lo hi p0) (hk : S.kind ≠ 0) (hd : S.dry = false) (hlt : S.fr < S.len) (hm : S.M ≤ 1000000) :
    Calls Tryd.prog 43 #[.pointer (some ⟨p0, 0, none⟩)] w fun e w' => e = .returned (.int .i64 0) ∧ ∃ bv', Pq w' b { S with M := S.M + 1, g := updS S.g S.M ⟨S.kind, (S.fr : Int), (S.len : Int)⟩, kind := 0 } tv ov vv bv' lo hi ∧ Gn (Fz b ov bv vv lo hi) w (Fz b ov bv' vv lo hi) w' := by
  have HM : Hid (kpL S S.M = S.M) := hid (by unfold kpL; rw [hd]; rfl)
  have HM1 : Hid (kpL { S with M := S.M + 1, g := updS S.g S.M ⟨S.kind, (S.fr : Int), (S.len : Int)⟩, kind := 0 } (S.M + 1) = S.M + 1) := hid (by unfold kpL; show (if S.dry = true then 0 else S.M + 1) = S.M + 1; rw [hd]; rfl)
  have HBM := hid hm
  clear hm
  have q1 : (S.kind != 0) = true := by simp [hk]
  have HO := hid (pisopen_c h.c_kind)
  rw [q1] at HO
  have hfr : S.frc = S.fr := by unfold Ms.frc; rw [if_neg hk]
  have c10 := h.c_kind
  have c11 := h.c_fr
  rw [hfr] at c11
  have c12 := h.c_z
  have HH := hid h
  have NP := hid f0
  have HC0 := hid c0
  have HD := hid hd
  clear h hk q1 hfr f0 hd
  go_enter Tryd.func43, Tryd.ntmps43
  go_wp2_with (go_at_call 39; (with_reducible refine HO.out.mono ?_); rintro e w2 ⟨rfl, rfl⟩)
  have HP0 : Hid (p0 ≠ w2.heap.size) := hid (fun q => by have := World.block_lt_of_cell? w2 _ HC0.out; simp only [q] at this; exact Nat.lt_irrefl _ this)
  have hb1 := (Below.refl w2.heap.size w2).alloc (Nat.le_refl _) (.cells #[.int .i64 S.kind, .int .i64 (S.fr : Int), .int .i64 0] 69)
  have K0 := hid ((Kz.new (F := Fz b ov bv vv lo hi) (w := w2) #[.int .i64 S.kind, .int .i64 (S.fr : Int), .int .i64 0] 69 (fun k hk => HH.out.ftlt hk)).self ((Below.refl _ _).drew))
  have D0 := hid ((HH.out.self hb1).drew)
  have O0 : Hid ((w2.alloc (.cells #[.int .i64 S.kind, .int .i64 (S.fr : Int), .int .i64 0] 69)).drew.cell? ⟨p0, 0, none⟩ = some (.pointer (some ⟨b, 0, none⟩))) := hid (tch_cell (Tch.of_below (F := fun _ => False) hb1.drew) HC0.out (fun q => q))
  have T0 := hid ((Tch.of_below (F := Fz b ov bv vv lo hi) hb1.drew))
  have HSZ : Hid (w2.heap.size < (w2.alloc (.cells #[.int .i64 S.kind, .int .i64 (S.fr : Int), .int .i64 0] 69)).drew.heap.size) := hid (Nat.lt_of_lt_of_eq (Nat.lt_succ_self _) (alloc_sz _ _).symm)
  clear c0 c10 c11 c12 hb1
  generalize w2.alloc (.cells #[.int .i64 S.kind, .int .i64 (S.fr : Int), .int .i64 0] 69) = wx at *
  refine wp_region_noPanic ?_
  refine wp_region_held_drew (S := fun w' => w'.cell? ⟨p0, 0, none⟩ = some (.pointer (some ⟨b, 0, none⟩)) ∧ w'.cell? ⟨b, 4, none⟩ = some (.int .i64 (S.len : Int))) (by kernel_rfl) (⟨O0.out, D0.out.c_len⟩) (fun h0 => ?_)
  generalize wx.drew = w1 at *
  refine wpAnyH_take (i := 0) (v := .pointer (some ⟨b, 0, none⟩)) rfl (by kernel_rfl) (by kernel_rfl) (by kernel_rfl) (fun _ _ _ h => h) (.inl ⟨by rfl, fun w hw => by have hc := hw.1; clear hw; go_simp⟩) h0 ?_
  try simp only [Act.put, lay_out]
  refine wpAnyH_take (i := 1) (v := .pointer (some ⟨b, 0, none⟩)) rfl (by kernel_rfl) (by kernel_rfl) (by kernel_rfl) (fun _ _ _ h => h) (.inl ⟨by rfl, fun w hw => by have hc := hw.1; clear hw; go_simp⟩) h0 ?_
  try simp only [Act.put, lay_out]
  refine wpAnyH_take (i := 2) (v := .pointer (some ⟨b, 0, none⟩)) rfl (by kernel_rfl) (by kernel_rfl) (by kernel_rfl) (fun _ _ _ h => h) (.inl ⟨by rfl, fun w hw => by clear hw; go_simp⟩) h0 ?_
  try simp only [Act.put, lay_out]
  refine wpAnyH_take (i := 3) (v := .pointer (some ⟨b, 4, none⟩)) rfl (by kernel_rfl) (by kernel_rfl) (by kernel_rfl) (fun _ _ _ h => h) (.inl ⟨by rfl, fun w hw => by clear hw; go_simp⟩) h0 ?_
  try simp only [Act.put, lay_out]
  refine wpAnyH_take (i := 4) (v := .int .i64 (S.len : Int)) rfl (by kernel_rfl) (by kernel_rfl) (by kernel_rfl) (fun _ _ _ h => h) (.inl ⟨by rfl, fun w hw => by have hc := hw.2; clear hw; go_simp⟩) h0 ?_
  try simp only [Act.put, lay_out]
  refine wpAnyH_take (i := 5) (v := .agg #[.int .i64 0, .int .i64 0, .int .i64 0]) rfl (by kernel_rfl) (by kernel_rfl) (by kernel_rfl) (fun _ _ _ h => h) (.inl ⟨by rfl, fun w hw => by clear hw; go_simp⟩) h0 ?_
  try simp only [Act.put, lay_out]
  refine wpAnyH_take (i := 6) (v := .pointer (some ⟨w2.heap.size, 2, none⟩)) rfl (by kernel_rfl) (by kernel_rfl) (by kernel_rfl) (fun _ _ _ h => h) (.inl ⟨by rfl, fun w hw => by clear hw; go_simp⟩) h0 ?_
  try simp only [Act.put, lay_out]
  refine wpAnyH_ready (rs := [7]) (by kernel_rfl) (by simp) (AllReadyH.cons rfl (fun K hK => ?_) AllReadyH.nil)
  rw [if_pos (by rfl)]
  have cg : w1.cell? ⟨w2.heap.size, 2, none⟩ = some (.int .i64 0) := by rw [cell_of_row w1 w2.heap.size 2 _ _ _ K0.out.blk]; rfl
  have fg : w1.frozen? ⟨w2.heap.size, 2, none⟩ = false := frozen_of_row w1 w2.heap.size 2 _ _ K0.out.blk
  go_simp
  clear cg fg
  have hne : b ≠ w2.heap.size := fun q => K0.out.no (q ▸ .inl (.inl rfl))
  have hp0 : p0 ≠ w2.heap.size := HP0.out
  have t0 : Tch (fun k => k = w2.heap.size) w1 (w1.setCell ⟨w2.heap.size, 2, none⟩ (.int .i64 (S.len : Int))) := Tch.set w1 _ rfl
  have D1 := hid (D0.out.stays t0.size (fun k hk => t0.block k (D0.out.ftlt hk) (fun q => K0.out.no (q ▸ hk))))
  have O1 := hid (tch_cell t0 O0.out hp0)
  have K1 : Hid (Kz (Fz b ov bv vv lo hi) w2.heap.size (.cells #[.int .i64 S.kind, .int .i64 (S.fr : Int), .int .i64 (S.len : Int)] 69 (0, 0)) (w1.setCell ⟨w2.heap.size, 2, none⟩ (.int .i64 (S.len : Int)))) := hid ⟨by rw [heap_setCell_same w1 w2.heap.size 2 _ 69 _ K0.out.blk]; rfl, K0.out.no⟩
  have T1 : Hid (Tch (Fz b ov bv vv lo hi) w2 (w1.setCell ⟨w2.heap.size, 2, none⟩ (.int .i64 (S.len : Int)))) := hid (T0.out.trans t0 (fun j hj q => by have q' : j = w2.heap.size := q; omega))
  clear t0 hne hp0
  refine hK.out _ _ (⟨O1.out, D1.out.c_len⟩) (fun h1x => ?_)
  clear hK K
  try simp only [Act.put, lay_out]
  refine wpAnyH_take (i := 8) (v := .pointer (some ⟨b, 0, none⟩)) rfl (by kernel_rfl) (by kernel_rfl) (by kernel_rfl) (fun _ _ _ h => h) (.inl ⟨by rfl, fun w hw => by clear hw; go_simp⟩) h1x ?_
  try simp only [Act.put, lay_out]
  refine wpAnyH_take (i := 9) (v := .pointer (some ⟨b, 10, none⟩)) rfl (by kernel_rfl) (by kernel_rfl) (by kernel_rfl) (fun _ _ _ h => h) (.inl ⟨by rfl, fun w hw => by clear hw; go_simp⟩) h1x ?_
  try simp only [Act.put, lay_out]
  refine wpAnyH_ready (rs := [10]) (by kernel_rfl) (by simp) (AllReadyH.cons rfl (fun K hK => ?_) AllReadyH.nil)
  rw [if_pos (by rfl)]
  refine wp_store_mid 69 (.tmp 18) (.tmp 15) rfl b 10 #[.int .i64 0, .int .i64 0, .int .i64 0] rfl rfl D1.out.there (by kernel_rfl) (by kernel_rfl) ?_
  have hx := D1.out.openSet (A' := { S with kind := 0 }) (S' := S) (w' := (w1.setCell ⟨w2.heap.size, 2, none⟩ (.int .i64 (S.len : Int))).setCells b 10 (#[.int .i64 0, .int .i64 0, .int .i64 0] : Array Value).toList) rfl rfl (by unfold pmC Ms.frc; rw [if_pos rfl]; rfl) rfl rfl rfl rfl rfl rfl rfl rfl rfl rfl
  have D2 := hid hx.1
  have O2 := hid (tch_cell hx.2 O1.out NP.out)
  have K2 := hid (K1.out.on hx.2)
  have T2 := hid (T1.out.trans hx.2 (fun _ _ f => f))
  clear hx
  refine hK.out _ _ (⟨O2.out, D2.out.c_len⟩) (fun h2x => ?_)
  clear hK K
  try simp only [Act.put, lay_out]
  refine wpAnyH_done (by kernel_rfl) ?_ _
  refine NoPanic.normal ?_
  clear h0 h1x h2x
  try simp only [Act.put, lay_out]
  generalize (w1.setCell ⟨w2.heap.size, 2, none⟩ (.int .i64 (S.len : Int))).setCells b 10 (#[.int .i64 0, .int .i64 0, .int .i64 0] : Array Value).toList = w3 at *
  have c0 := O2.out
  have c3 := D2.out.c_dry
  rw [HD.out] at c3
  have cg1 : w3.cell? ⟨w2.heap.size, 1, none⟩ = some (.int .i64 (S.fr : Int)) := by rw [cell_of_row w3 w2.heap.size 1 _ _ _ K2.out.blk]; rfl
  have cg2 : w3.cell? ⟨w2.heap.size, 2, none⟩ = some (.int .i64 (S.len : Int)) := by rw [cell_of_row w3 w2.heap.size 2 _ _ _ K2.out.blk]; rfl
  go_wp2_with fail
  clear c0 c3 cg1 cg2
  have D3 := hid D2.out.drew
  have O3 : Hid (w3.drew.cell? ⟨p0, 0, none⟩ = some (.pointer (some ⟨b, 0, none⟩))) := hid O2.out
  have K3 := hid (K2.out.self ((Below.refl _ w3).drew))
  have T3 := hid (T2.out.trans (Tch.of_below (F := Fz b ov bv vv lo hi) ((Below.refl _ w3).drew)) (fun _ _ f => f))
  refine wp_region_rt (fun w' => True) (fun w' => w'.heap[w2.heap.size]? = some (.cells #[.int .i64 S.kind, .int .i64 (S.fr : Int), .int .i64 (S.len : Int)] 69 (0, 0)) ∧ w'.cell? ⟨p0, 0, none⟩ = some (.pointer (some ⟨b, 0, none⟩)) ∧ w'.cell? ⟨b, 9, none⟩ = some bv) 10 (by kernel_rfl) (⟨trivial, K3.out.blk, O3.out, D3.out.c_bv⟩) (fun h0 => ?_)
  generalize w3.drew = u0 at *
  refine rt_takeT (i := 0) (v := .pointer (some ⟨b, 0, none⟩)) rfl (by kernel_rfl) (by kernel_rfl) (by kernel_rfl) rfl (by kernel_rfl) (by kernel_rfl) (fun _ _ _ h => h) (.inl ⟨by rfl, fun w hw => by have hc := hw.2.1; clear hw; go_simp⟩) h0 ?_
  try simp only [Act.put, lay_out]
  refine rt_takeT (i := 1) (v := .pointer (some ⟨b, 0, none⟩)) rfl (by kernel_rfl) (by kernel_rfl) (by kernel_rfl) rfl (by kernel_rfl) (by kernel_rfl) (fun _ _ _ h => h) (.inl ⟨by rfl, fun w hw => by have hc := hw.2.1; clear hw; go_simp⟩) h0 ?_
  try simp only [Act.put, lay_out]
  refine rt_takeA (i := 2) (v := .pointer (some ⟨b, 0, none⟩)) rfl (by kernel_rfl) (by kernel_rfl) (by kernel_rfl) rfl (fun _ _ _ h => h) (.inl ⟨by rfl, fun w hw => by clear hw; go_simp⟩) h0 ?_
  try simp only [Act.put, lay_out]
  refine rt_takeA (i := 3) (v := .pointer (some ⟨b, 9, none⟩)) rfl (by kernel_rfl) (by kernel_rfl) (by kernel_rfl) rfl (fun _ _ _ h => h) (.inl ⟨by rfl, fun w hw => by clear hw; go_simp⟩) h0 ?_
  try simp only [Act.put, lay_out]
  refine rt_takeT (i := 4) (v := bv) rfl (by kernel_rfl) (by kernel_rfl) (by kernel_rfl) rfl (by kernel_rfl) (by kernel_rfl) (fun _ _ _ h => h) (.inl ⟨by rfl, fun w hw => by have hc := hw.2.2; clear hw; go_simp⟩) h0 ?_
  try simp only [Act.put, lay_out]
  refine rt_takeT (i := 5) (v := .agg #[.int .i64 S.kind, .int .i64 (S.fr : Int), .int .i64 (S.len : Int)]) rfl (by kernel_rfl) (by kernel_rfl) (by kernel_rfl) rfl (by kernel_rfl) (by kernel_rfl) (fun _ _ _ h => h) (yields_load_row (by rfl) 69 (.tmp 2) rfl w2.heap.size 69 #[.int .i64 S.kind, .int .i64 (S.fr : Int), .int .i64 (S.len : Int)] _ rfl (fun w h => h.1) Tryd.underlying69 rfl (by kernel_rfl)) h0 ?_
  try simp only [Act.put, lay_out]
  refine rt_ready (rs := [6]) (by kernel_rfl) (by simp) (RtReady.consT rfl (fun K hK => ?_) RtReady.nil)
  rw [if_pos (by rfl)]
  go_simp
  have hl := (Below.refl u0.heap.size u0).alloc (Nat.le_refl _) (.cells #[.int .i64 S.kind, .int .i64 (S.fr : Int), .int .i64 (S.len : Int)] 69)
  have D4 := hid (D3.out.self hl)
  have O4 : Hid _ := hid (tch_cell (Tch.of_below (F := fun _ => False) hl) O3.out (fun q => q))
  have K4 := hid (K3.out.self hl)
  have T4 := hid (T3.out.trans (Tch.of_below (F := Fz b ov bv vv lo hi) hl) (fun _ _ f => f))
  clear hl
  refine hK.out _ _ (⟨trivial, K4.out.blk, O4.out, D4.out.c_bv⟩) (fun h1x => ?_)
  clear hK K
  try simp only [Act.put, lay_out]
  refine rt_ready (rs := [7]) (by kernel_rfl) (by simp) (RtReady.consT rfl (fun K hK => ?_) RtReady.nil)
  rw [if_pos (by rfl)]
  refine wp_append_rec (.tmp 35) (.tmp 37) 45 rfl 0 69 3 24 (.agg #[.int .i64 0, .int .i64 0, .int .i64 0]) Tryd.underlying45 pinfoSp (by rfl) (by decide) bv S.M (fun i => (spCs (updS S.g S.M ⟨S.kind, (S.fr : Int), (S.len : Int)⟩ i)).toList) rfl (by have hb := D4.out.bls; rw [HM.out] at hb; exact hb.ext fun i hi => by rw [updS_no _ _ (by omega)]) ⟨u0.heap.size, 0, none⟩ 1 rfl rfl (by intro u hu; simp at hu; rcases hu with rfl | rfl | rfl <;> rfl) ?_ (by have := HBM.out; unfold maxLen; omega) (by have := HBM.out; omega) (Nat.zero_le _) (fun g cap u5 g1 g2 g3 => ?_)
  · rw [updS_at]; exact World.news_of_block (heap_alloc_new _ _)
  have hx := D4.out.addBl (S' := { S with M := S.M + 1, g := updS S.g S.M ⟨S.kind, (S.fr : Int), (S.len : Int)⟩, kind := 0 }) HM.out g1 g2 g3 rfl rfl HM1.out rfl rfl rfl rfl rfl rfl
  have D5 := hid hx.1
  have T5 := hid (T4.out.trans hx.2.1 (fun _ _ f => f))
  have SU := hid hx.2.2
  have hbl : u5.heap[b]? = _ := g2.block b D4.out.lt (fun e => D4.out.hbb e.symm)
  have f9 := frozen_of_row u5 b 9 _ _ (hbl.trans D4.out.blk)
  have c9 : u5.cell? ⟨b, 9, none⟩ = some bv := by rw [World.cell?_of_block hbl]; exact D4.out.c_bv
  have hT : Tch (Fz b ov bv vv lo hi) (u0.alloc (.cells #[.int .i64 S.kind, .int .i64 (S.fr : Int), .int .i64 (S.len : Int)] 69)) u5 := Tch.of_grown g2 (fun k e => .inl (.inr (.inr (.inl e))))
  have O5 := hid (tch_cell hT O4.out NP.out)
  have K5 := hid (K4.out.on hT)
  have C9 := hid c9
  clear hx g1 g2 g3 hbl hT
  refine hK.out _ _ (⟨trivial, K5.out.blk, O5.out, C9.out⟩) (fun h2x => ?_)
  clear hK K
  try simp only [Act.put, lay_out]
  refine rt_takeA (i := 8) (v := .pointer (some ⟨b, 0, none⟩)) rfl (by kernel_rfl) (by kernel_rfl) (by kernel_rfl) rfl (fun _ _ _ h => h) (.inl ⟨by rfl, fun w hw => by clear hw; go_simp⟩) h2x ?_
  try simp only [Act.put, lay_out]
  refine rt_takeA (i := 9) (v := .pointer (some ⟨b, 9, none⟩)) rfl (by kernel_rfl) (by kernel_rfl) (by kernel_rfl) rfl (fun _ _ _ h => h) (.inl ⟨by rfl, fun w hw => by clear hw; go_simp⟩) h2x ?_
  try simp only [Act.put, lay_out]
  refine rt_ready (rs := [10]) (by kernel_rfl) (by simp) (RtReady.consS rfl (by kernel_rfl) (fun K hK => ?_) RtReady.nil)
  rw [if_pos (by rfl)]
  go_simp
  refine hK.out _ _ (trivial) (fun h3x => ?_)
  clear hK K
  try simp only [Act.put, lay_out]
  refine rt_done (by kernel_rfl) ?_ _
  try refine NoPanic.normal ?_
  clear h0 h1x h2x h3x
  try simp only [Act.put, lay_out]
  go_wp2
  go_ret
  exact ⟨rfl, _, D5.out.turn (A' := { S with M := S.M + 1, g := updS S.g S.M ⟨S.kind, (S.fr : Int), (S.len : Int)⟩, kind := 0 }) (S' := { S with M := S.M + 1, g := updS S.g S.M ⟨S.kind, (S.fr : Int), (S.len : Int)⟩, kind := 0 }) (oc' := ov) (vc' := vv) D5.out.blk rfl (Nat.le_refl _) (fun _ _ _ => rfl) rfl rfl rfl rfl rfl rfl rfl rfl rfl, ⟨T5.out, fun k hk => (SU.out k hk).imp id (fun q => Nat.le_trans T4.out.size q)⟩⟩
end Go.Proofs.YtpjgpiieminaoaaDoor

/- Wire: the program's machine: Begin, End; what it hands out. -/
namespace Go.Proofs.YtpjgpiieminaoaaDoor
open Go.RowKit
set_option maxRecDepth 100000
theorem pkeep_begin (b lo hi c : Nat) (p2 p3 : Nat) (S S1 : Ms) (tv bv ov vv : Value) (w : World) (h : Pq w b S tv ov vv bv lo hi) (he : S.e = 0)
    (HA : Calls Tryd.prog 38 #[.pointer (some ⟨p2, 0, none⟩), .pointer (some ⟨p3, 0, none⟩)] w fun e w' => e = .returned (.int .i64 (c : Int)) ∧ ∃ bv', Pq w' b S1 tv ov vv bv' lo hi ∧ Gn (Fz b ov bv vv lo hi) w (Fz b ov bv' vv lo hi) w') :
    Calls Tryd.prog 37 #[.pointer (some ⟨b, 0, none⟩), .func (.func 38) #[] #[.pointer (some ⟨p2, 0, none⟩), .pointer (some ⟨p3, 0, none⟩)]] w fun e w' => e = .returned (.bool ((c : Int) == 0)) ∧ ∃ bv', Pq w' b { S1 with e := c } tv ov vv bv' lo hi ∧ Gn (Fz b ov bv vv lo hi) w (Fz b ov bv' vv lo hi) w' := by
  have HE := hid h.err
  rw [he] at HE
  replace HA := hid HA
  clear h he
  go_enter Tryd.func37, Tryd.ntmps37
  go_wp2_with (first
    | (go_at_call 8; (with_reducible refine HE.out.mono ?_); rintro e w2 ⟨rfl, rfl⟩)
    | (go_at_call 38; (with_reducible refine HA.out.mono ?_); rintro e w2 ⟨rfl, bv', hp, hg⟩; have HP := hid (Pq.keeps hp c); have HG := hid (hg.on (fz_set (ov := ov) (bv := bv') (vv := vv) (lo := lo) (hi := hi) b 13 (.int .i64 (c : Int)) w2)); have c13 := hp.c_e; have f13 := hp.fz 13; have d13 := HP.out.c_e; clear hp hg))
  go_ret
  exact ⟨rfl, bv', HP.out, HG.out⟩
theorem pkeep_end (b lo hi c : Nat) (p0 : Nat) (S S1 : Ms) (tv bv ov vv : Value) (w : World) (h : Pq w b S tv ov vv bv lo hi) (he : S.e = 0)
    (HA : Calls Tryd.prog 43 #[.pointer (some ⟨p0, 0, none⟩)] w fun e w' => e = .returned (.int .i64 (c : Int)) ∧ ∃ bv', Pq w' b S1 tv ov vv bv' lo hi ∧ Gn (Fz b ov bv vv lo hi) w (Fz b ov bv' vv lo hi) w') :
    Calls Tryd.prog 37 #[.pointer (some ⟨b, 0, none⟩), .func (.func 43) #[] #[.pointer (some ⟨p0, 0, none⟩)]] w fun e w' => e = .returned (.bool ((c : Int) == 0)) ∧ ∃ bv', Pq w' b { S1 with e := c } tv ov vv bv' lo hi ∧ Gn (Fz b ov bv vv lo hi) w (Fz b ov bv' vv lo hi) w' := by
  have HE := hid h.err
  rw [he] at HE
  replace HA := hid HA
  clear h he
  go_enter Tryd.func37, Tryd.ntmps37
  go_wp2_with (first
    | (go_at_call 8; (with_reducible refine HE.out.mono ?_); rintro e w2 ⟨rfl, rfl⟩)
    | (go_at_call 43; (with_reducible refine HA.out.mono ?_); rintro e w2 ⟨rfl, bv', hp, hg⟩; have HP := hid (Pq.keeps hp c); have HG := hid (hg.on (fz_set (ov := ov) (bv := bv') (vv := vv) (lo := lo) (hi := hi) b 13 (.int .i64 (c : Int)) w2)); have c13 := hp.c_e; have f13 := hp.fz 13; have d13 := HP.out.c_e; clear hp hg))
  go_ret
  exact ⟨rfl, bv', HP.out, HG.out⟩
theorem pbegin1_any (b lo hi p2 p3 : Nat) (S : Ms) (tv bv ov vv : Value) (kd : Int) (w : World) (h : Pq w b S tv ov vv bv lo hi)
    (c2 : w.cell? ⟨p2, 0, none⟩ = some (.pointer (some ⟨b, 0, none⟩))) (c3 : w.cell? ⟨p3, 0, none⟩ = some (.int .i64 kd)) (f2 : ¬ Fz b ov bv vv lo hi p2) (f3 : ¬ Fz b ov bv vv lo hi p3) :
    Calls Tryd.prog 38 #[.pointer (some ⟨p2, 0, none⟩), .pointer (some ⟨p3, 0, none⟩)] w fun e w' => e = .returned (.int .i64 (bgC S kd : Nat)) ∧ ∃ bv', Pq w' b (bgS S kd) tv ov vv bv' lo hi ∧ Gn (Fz b ov bv vv lo hi) w (Fz b ov bv' vv lo hi) w' := by
  by_cases hb : S.kind ≠ 0 ∨ kd < 1 ∨ 3 < kd
  · have ec : bgC S kd = 1 := if_pos hb
    have es : bgS S kd = S := by unfold bgS; rw [ec]; rfl
    rw [ec, es]
    have key : Calls Tryd.prog 38 #[.pointer (some ⟨p2, 0, none⟩), .pointer (some ⟨p3, 0, none⟩)] w fun e w' => e = .returned (.int .i64 1) ∧ w' = w := by
      by_cases hk : S.kind = 0
      · have q1 : (S.kind != 0) = false := by simp [hk]
        by_cases h1 : kd < 1
        · exact pbegin1_low b lo hi p2 p3 S tv bv ov vv kd w h c2 c3 q1 h1
        · exact pbegin1_high b lo hi p2 p3 S tv bv ov vv kd w h c2 c3 q1 (by omega)
      · exact pbegin1_open b lo hi p2 p3 S tv bv ov vv kd w h c2 c3 (by simp [hk])
    exact key.mono fun e w' q => ⟨q.1, bv, by rw [q.2]; exact h, by rw [q.2]; exact Gn.refl _ _⟩
  · have ec : bgC S kd = 0 := if_neg hb
    have es : bgS S kd = { S with kind := kd, fr := S.len } := by unfold bgS; rw [ec]; rfl
    rw [ec, es]
    exact (pbegin1_ok b lo hi p2 p3 S tv bv ov vv kd w h c2 c3 f2 f3 (by simp; omega) (by omega) (by omega)).mono fun e w' q => ⟨q.1, bv, q.2.1, (Gn.refl _ _).on q.2.2⟩
theorem pend1_any (b lo hi p0 : Nat) (S : Ms) (tv bv ov vv : Value) (w : World) (h : Pq w b S tv ov vv bv lo hi) (c0 : w.cell? ⟨p0, 0, none⟩ = some (.pointer (some ⟨b, 0, none⟩))) (f0 : ¬ Fz b ov bv vv lo hi p0) (hm : S.M ≤ 1000000) :
    Calls Tryd.prog 43 #[.pointer (some ⟨p0, 0, none⟩)] w fun e w' => e = .returned (.int .i64 (enC S : Nat)) ∧ ∃ bv', Pq w' b (enS S) tv ov vv bv' lo hi ∧ Gn (Fz b ov bv vv lo hi) w (Fz b ov bv' vv lo hi) w' := by
  by_cases hk : S.kind = 0
  · have ec : enC S = 1 := if_pos hk
    have es : enS S = S := if_pos hk
    rw [ec, es]
    exact (pend1_no b lo hi p0 S tv bv ov vv w h c0 hk).mono fun e w' q => ⟨q.1, bv, by rw [q.2]; exact h, by rw [q.2]; exact Gn.refl _ _⟩
  · have ec : enC S = 0 := if_neg hk
    rw [ec]
    by_cases hlt : S.fr < S.len
    · have es : enS S = { S with M := S.M + 1, g := updS S.g S.M ⟨S.kind, (S.fr : Int), (S.len : Int)⟩, kind := 0 } := by unfold enS; rw [if_neg hk, if_pos hlt]
      rw [es]
      by_cases hd : S.dry = true
      rotate_left
      · exact pend1_more b lo hi p0 S tv bv ov vv w h c0 f0 hk (by simpa using hd) hlt hm
      · exact pend1_dry b lo hi p0 S tv bv ov vv w h c0 f0 hk hd { S with M := S.M + 1, g := updS S.g S.M ⟨S.kind, (S.fr : Int), (S.len : Int)⟩, kind := 0 } hd rfl rfl
    · have es : enS S = { S with kind := 0 } := by unfold enS; rw [if_neg hk, if_neg hlt]
      rw [es]
      by_cases hd : S.dry = true
      rotate_left
      · exact pend1_few b lo hi p0 S tv bv ov vv w h c0 f0 hk (by simpa using hd) hlt
      · exact pend1_dry b lo hi p0 S tv bv ov vv w h c0 f0 hk hd { S with kind := 0 } hd rfl rfl
set_option maxHeartbeats 1600000 in
theorem pbegin_any (b : Nat) (S : Ms) (F : Nat → Prop) (kd : Int) (w : World) (hm : Pm w b S F) :
    Calls Tryd.prog 19 #[.pointer (some ⟨b, 0, none⟩), .int .i64 kd] w fun e w' => e = .returned (.tuple #[]) ∧ PmL b (S.beginS kd) F w w' := by
  obtain ⟨tv, ov, vv, bv, lo, hi, h, rfl⟩ := hm
  obtain ⟨w1, hw1⟩ : ∃ w1, (w.alloc (.cells #[.pointer (some ⟨b, 0, none⟩)] 25)).alloc (.cells #[.int .i64 kd] 3) = w1 := ⟨_, rfl⟩
  have hb0 : Below w.heap.size w w1 := by
    rw [← hw1]
    exact ((Below.refl w.heap.size w).alloc (Nat.le_refl _) _).alloc (by rw [alloc_sz]; omega) _
  have z3 : w1.heap[w.heap.size]? = some (.cells #[.pointer (some ⟨b, 0, none⟩)] 25 (0, 0)) := by
    rw [← hw1, Below.heap_alloc _ _ _ (by rw [alloc_sz]; omega)]; exact heap_alloc_new _ _
  have z4 : w1.heap[w.heap.size + 1]? = some (.cells #[.int .i64 kd] 3 (0, 0)) := by
    rw [← hw1]
    have := heap_alloc_new (w.alloc (.cells #[.pointer (some ⟨b, 0, none⟩)] 25)) (.cells #[.int .i64 kd] 3)
    rw [alloc_sz] at this; exact this
  have c3 : w1.cell? ⟨w.heap.size, 0, none⟩ = some (.pointer (some ⟨b, 0, none⟩)) := row_c0 z3 rfl
  have h1 := h.self hb0
  have HW := hid hw1
  have HB0 := hid hb0
  by_cases he : S.e = 0
  · have HKP := hid (pkeep_begin b lo hi (bgC S kd) w.heap.size (w.heap.size + 1) S (bgS S kd) tv bv ov vv w1 h1 he (pbegin1_any b lo hi _ _ S tv bv ov vv kd w1 h1 c3 (row_c0 z4 rfl) (fun q => by have := h.ftlt q; omega) (fun q => by have := h.ftlt q; omega)))
    have HS := hid (beginS_bg S kd he)
    clear h h1 hw1 hb0 z3 z4 he
    generalize bgC S kd = c at *
    generalize bgS S kd = S1 at *
    go_enter Tryd.func19, Tryd.ntmps19
    go_wp2_with fail
    rw [HW.out]
    go_wp2_with (go_at_call 37; (with_reducible refine HKP.out.mono ?_); rintro e w2 ⟨rfl, bv', hp, hg⟩; have HP := hid hp; have HG := hid (((Gn.refl (Fz b ov bv vv lo hi) w).self HB0.out).trans hg); clear hp hg c3)
    exact bodyPost_end (results_none rfl _ _ _) rfl ⟨rfl, _, ⟨tv, ov, vv, bv', lo, hi, by rw [HS.out]; exact HP.out, rfl⟩, HG.out.tch, HG.out.sub⟩
  · have hS : S.beginS kd = S := by unfold Ms.beginS; rw [if_pos he]
    rw [hS]
    have HKP := hid (fun f => pkeep_err b lo hi S tv bv ov vv f w1 h1 he)
    have H1 := hid h1
    clear h h1 hw1 hb0 z3 z4 he hS
    go_enter Tryd.func19, Tryd.ntmps19
    go_wp2_with fail
    rw [HW.out]
    go_wp2_with (go_at_call 37; (with_reducible refine (HKP.out _).mono ?_); rintro e w2 ⟨rfl, rfl⟩; clear c3)
    exact bodyPost_end (results_none rfl _ _ _) rfl ⟨rfl, _, ⟨tv, ov, vv, bv, lo, hi, H1.out, rfl⟩, Tch.of_below HB0.out, fun _ q => .inl q⟩
theorem pbegin_nil (kd : Int) (w : World) : Calls Tryd.prog 19 #[.pointer none, .int .i64 kd] w fun e w' => e = .returned (.tuple #[]) ∧ Below w.heap.size w w' := by
  have HKP := hid (fun f w => pkeep_nil f w)
  obtain ⟨w1, hw1⟩ : ∃ w1, (w.alloc (.cells #[.pointer none] 25)).alloc (.cells #[.int .i64 kd] 3) = w1 := ⟨_, rfl⟩
  have hb0 : Below w.heap.size w w1 := by
    rw [← hw1]
    exact ((Below.refl w.heap.size w).alloc (Nat.le_refl _) _).alloc (by rw [alloc_sz]; omega) _
  have z3 : w1.heap[w.heap.size]? = some (.cells #[.pointer none] 25 (0, 0)) := by
    rw [← hw1, Below.heap_alloc _ _ _ (by rw [alloc_sz]; omega)]; exact heap_alloc_new _ _
  have c3 : w1.cell? ⟨w.heap.size, 0, none⟩ = some (.pointer none) := row_c0 z3 rfl
  have HW := hid hw1
  have HB0 := hid hb0
  clear hw1 hb0 z3
  go_enter Tryd.func19, Tryd.ntmps19
  go_wp2_with fail
  rw [HW.out]
  go_wp2_with (go_at_call 37; (with_reducible refine (HKP.out _ _).mono ?_); rintro e w2 ⟨rfl, rfl⟩; clear c3)
  exact bodyPost_end (results_none rfl _ _ _) rfl ⟨rfl, HB0.out⟩
set_option maxHeartbeats 1600000 in
theorem pend_any (b : Nat) (S : Ms) (F : Nat → Prop) (w : World) (hm : Pm w b S F) (hM : S.M ≤ 1000000) :
    Calls Tryd.prog 24 #[.pointer (some ⟨b, 0, none⟩)] w fun e w' => e = .returned (.tuple #[]) ∧ PmL b S.endS F w w' := by
  obtain ⟨tv, ov, vv, bv, lo, hi, h, rfl⟩ := hm
  obtain ⟨w1, hw1⟩ : ∃ w1, w.alloc (.cells #[.pointer (some ⟨b, 0, none⟩)] 25) = w1 := ⟨_, rfl⟩
  have hb0 : Below w.heap.size w w1 := by rw [← hw1]; exact (Below.refl w.heap.size w).alloc (Nat.le_refl _) _
  have z3 : w1.heap[w.heap.size]? = some (.cells #[.pointer (some ⟨b, 0, none⟩)] 25 (0, 0)) := by rw [← hw1]; exact heap_alloc_new _ _
  have c3 : w1.cell? ⟨w.heap.size, 0, none⟩ = some (.pointer (some ⟨b, 0, none⟩)) := row_c0 z3 rfl
  have h1 := h.self hb0
  have HW := hid hw1
  have HB0 := hid hb0
  by_cases he : S.e = 0
  · have HKP := hid (pkeep_end b lo hi (enC S) w.heap.size S (enS S) tv bv ov vv w1 h1 he (pend1_any b lo hi _ S tv bv ov vv w1 h1 c3 (fun q => by have := h.ftlt q; omega) hM))
    have HS := hid (endS_en S he)
    clear h h1 hw1 hb0 z3 he hM
    generalize enC S = c at *
    generalize enS S = S1 at *
    go_enter Tryd.func24, Tryd.ntmps24
    go_wp2_with fail
    rw [HW.out]
    go_wp2_with (go_at_call 37; (with_reducible refine HKP.out.mono ?_); rintro e w2 ⟨rfl, bv', hp, hg⟩; have HP := hid hp; have HG := hid (((Gn.refl (Fz b ov bv vv lo hi) w).self HB0.out).trans hg); clear hp hg c3)
    exact bodyPost_end (results_none rfl _ _ _) rfl ⟨rfl, _, ⟨tv, ov, vv, bv', lo, hi, by rw [HS.out]; exact HP.out, rfl⟩, HG.out.tch, HG.out.sub⟩
  · have hS : S.endS = S := by unfold Ms.endS; rw [if_pos he]
    rw [hS]
    have HKP := hid (fun f => pkeep_err b lo hi S tv bv ov vv f w1 h1 he)
    have H1 := hid h1
    clear h h1 hw1 hb0 z3 he hS hM
    go_enter Tryd.func24, Tryd.ntmps24
    go_wp2_with fail
    rw [HW.out]
    go_wp2_with (go_at_call 37; (with_reducible refine (HKP.out _).mono ?_); rintro e w2 ⟨rfl, rfl⟩; clear c3)
    exact bodyPost_end (results_none rfl _ _ _) rfl ⟨rfl, _, ⟨tv, ov, vv, bv, lo, hi, H1.out, rfl⟩, Tch.of_below HB0.out, fun _ q => .inl q⟩
theorem pend_nil (w : World) : Calls Tryd.prog 24 #[.pointer none] w fun e w' => e = .returned (.tuple #[]) ∧ Below w.heap.size w w' := by
  have HKP := hid (fun f w => pkeep_nil f w)
  obtain ⟨w1, hw1⟩ : ∃ w1, w.alloc (.cells #[.pointer none] 25) = w1 := ⟨_, rfl⟩
  have hb0 : Below w.heap.size w w1 := by rw [← hw1]; exact (Below.refl w.heap.size w).alloc (Nat.le_refl _) _
  have z3 : w1.heap[w.heap.size]? = some (.cells #[.pointer none] 25 (0, 0)) := by rw [← hw1]; exact heap_alloc_new _ _
  have c3 : w1.cell? ⟨w.heap.size, 0, none⟩ = some (.pointer none) := row_c0 z3 rfl
  have HW := hid hw1
  have HB0 := hid hb0
  clear hw1 hb0 z3
  go_enter Tryd.func24, Tryd.ntmps24
  go_wp2_with fail
  rw [HW.out]
  go_wp2_with (go_at_call 37; (with_reducible refine (HKP.out _ _).mono ?_); rintro e w2 ⟨rfl, rfl⟩; clear c3)
  exact bodyPost_end (results_none rfl _ _ _) rfl ⟨rfl, HB0.out⟩
end Go.Proofs.YtpjgpiieminaoaaDoor

/- Wire: the program's machine: what it hands out. -/
namespace Go.Proofs.YtpjgpiieminaoaaDoor
open Go.RowKit
set_option maxRecDepth 100000
theorem orw_made {E : TypeId} {k : Nat} {c : Nat → List Value} (w : World) : Orw (w.alloc (.cells #[] E)) w.heap.size E k (.slice (some ⟨w.heap.size, 0, none⟩) 0 0) 0 c :=
  ⟨by simp [recs], .inr ⟨w.heap.size, 0, #[], rfl, Nat.le_refl _, heap_alloc_new w _, Nat.le_refl _, Nat.zero_le _, by simp, by simp [recs]⟩⟩
theorem pclone_op (v : Value) (n : Nat) (f : Nat → Op6) (w : World) (h : Orw w 0 52 6 v n (fun i => (opCs (f i)).toList)) (hn : n ≤ 1000000) :
    Calls Tryd.prog 32 #[v] w fun e w' => ∃ u, e = .returned u ∧ Orw w' w.heap.size 52 6 u n (fun i => (opCs (f i)).toList) ∧ Below w.heap.size w w' := by
  have hno := fun (a : Option Addr) (n c : Nat) => Lib.run_eql_slice_nil (P := Tryd.prog) w 44 52 a n c 0 0 Tryd.underlying44
  have HR := hid h
  obtain ⟨a, cap, rfl, _, _, _, hp⟩ := h.slice
  cases a with
  | none =>
    have h0 : n = 0 := by
      rcases Nat.eq_zero_or_pos n with h0 | h0
      · exact h0
      · obtain ⟨g, e⟩ := hp h0; cases e
    have H0 := hid h0
    clear h hp h0 hn
    go_enter Tryd.func32, Tryd.ntmps32
    go_wp2
    go_ret
    exact ⟨_, rfl, by rw [H0.out]; exact orw_nil _ _ _ _ _, Below.refl _ _⟩
  | some a =>
    have HN := hid hn
    have HB := hid ((Below.refl w.heap.size w).alloc (Nat.le_refl _) (.cells #[] 52))
    have HZ := hid (HR.out.stays (w' := w.alloc (.cells #[] 52)) (fun j hj => HB.out.block j (HR.out.lt j hj).2))
    clear h hp hn
    go_enter Tryd.func32, Tryd.ntmps32
    go_wp2_with (refine wpList_append_row rfl (.tmp 5) (.tmp 6) 44 rfl w.heap.size 52 6 48 (.agg #[.int .i64 0, .int .i64 0, .int .i64 0, .int .i64 0, .int .i64 0, .int .u64 0]) Tryd.underlying44 pinfoOp (by rfl) (by decide) _ rfl (fun i => (opCs (f i)).toList) (orw_made w) _ 0 n (fun i => (opCs (f i)).toList) rfl HZ.out (fun _ => rfl) (fun i _ u hu => by simp at hu; rcases hu with rfl | rfl | rfl | rfl | rfl | rfl <;> rfl) (by have := HN.out; unfold maxLen; omega) (by have := HN.out; omega) (Nat.le_of_lt (Nat.lt_of_lt_of_eq (Nat.lt_succ_self _) (alloc_sz _ _).symm)) w.heap.size w HB.out (Nat.le_refl _) ?_; intro u w1 hown hlow; have HO := hid hown; have HL := hid hlow; clear hown hlow)
    go_ret
    exact ⟨_, rfl, HO.out, HL.out⟩
theorem pclone_sp (v : Value) (n : Nat) (f : Nat → Sp3) (w : World) (h : Orw w 0 69 3 v n (fun i => (spCs (f i)).toList)) (hn : n ≤ 1000000) :
    Calls Tryd.prog 33 #[v] w fun e w' => ∃ u, e = .returned u ∧ Orw w' w.heap.size 69 3 u n (fun i => (spCs (f i)).toList) ∧ Below w.heap.size w w' := by
  have hno := fun (a : Option Addr) (n c : Nat) => Lib.run_eql_slice_nil (P := Tryd.prog) w 45 69 a n c 0 0 Tryd.underlying45
  have HR := hid h
  obtain ⟨a, cap, rfl, _, _, _, hp⟩ := h.slice
  cases a with
  | none =>
    have h0 : n = 0 := by
      rcases Nat.eq_zero_or_pos n with h0 | h0
      · exact h0
      · obtain ⟨g, e⟩ := hp h0; cases e
    have H0 := hid h0
    clear h hp h0 hn
    go_enter Tryd.func33, Tryd.ntmps33
    go_wp2
    go_ret
    exact ⟨_, rfl, by rw [H0.out]; exact orw_nil _ _ _ _ _, Below.refl _ _⟩
  | some a =>
    have HN := hid hn
    have HB := hid ((Below.refl w.heap.size w).alloc (Nat.le_refl _) (.cells #[] 69))
    have HZ := hid (HR.out.stays (w' := w.alloc (.cells #[] 69)) (fun j hj => HB.out.block j (HR.out.lt j hj).2))
    clear h hp hn
    go_enter Tryd.func33, Tryd.ntmps33
    go_wp2_with (refine wpList_append_row rfl (.tmp 5) (.tmp 6) 45 rfl w.heap.size 69 3 24 (.agg #[.int .i64 0, .int .i64 0, .int .i64 0]) Tryd.underlying45 pinfoSp (by rfl) (by decide) _ rfl (fun i => (spCs (f i)).toList) (orw_made w) _ 0 n (fun i => (spCs (f i)).toList) rfl HZ.out (fun _ => rfl) (fun i _ u hu => by simp at hu; rcases hu with rfl | rfl | rfl <;> rfl) (by have := HN.out; unfold maxLen; omega) (by have := HN.out; omega) (Nat.le_of_lt (Nat.lt_of_lt_of_eq (Nat.lt_succ_self _) (alloc_sz _ _).symm)) w.heap.size w HB.out (Nat.le_refl _) ?_; intro u w1 hown hlow; have HO := hid hown; have HL := hid hlow; clear hown hlow)
    go_ret
    exact ⟨_, rfl, HO.out, HL.out⟩
theorem Orw.low {w : World} {B k n : Nat} {E : TypeId} {v : Value} {c : Nat → List Value} (h : Orw w B E k v n c) : Orw w 0 E k v n c := by
  obtain ⟨h1, h2⟩ := h
  refine ⟨h1, h2.imp id (fun ⟨g, cap, cur, e, _, r⟩ => ⟨g, cap, cur, e, Nat.zero_le _, r⟩)⟩
theorem kpL_le {S : Ms} {n k : Nat} (h : n ≤ k) : kpL S n ≤ k := by unfold kpL; split <;> omega
theorem kpL_lt {S : Ms} {n i : Nat} (h : i < kpL S n) : i < n := by unfold kpL at h; split at h <;> omega
theorem Bq.L {k : Nat} {S : Ms} (h : Bq k S) : S.L ≤ k := by have := h.len; unfold Ms.len at this; omega
/-- Values. -/
theorem pvalues_any (b k : Nat) (S : Ms) (F : Nat → Prop) (w : World) (hm : Pm w b S F) (hq : Bq k S) (hk : k ≤ 1000000) :
    Calls Tryd.prog 12 #[.pointer (some ⟨b, 0, none⟩)] w fun e w' => ∃ v, e = .returned v ∧ Rd .u64 w' v (wdL S.v (kpL S S.L)) ∧ Below w.heap.size w w' := by
  obtain ⟨tv, ov, vv, bv, lo, hi, h, rfl⟩ := hm
  have hrd : Rd .u64 w vv (wdL S.v (kpL S S.L)) := orw_rd h.val (kpL_le (Nat.le_trans hq.L hk)) (fun i hi => hq.v i (kpL_lt hi))
  have c8 := h.c_vv
  have HC := hid (clone_any vv _ w hrd)
  have HW := hid (wfs_of hrd)
  have HL : Hid ((wdL S.v (kpL S S.L)).length * 8 ≤ 140737488351232) := hid (by rw [wdL_len]; have := kpL_le (S := S) (Nat.le_trans hq.L hk); omega)
  clear h hrd hq hk
  generalize wdL S.v (kpL S S.L) = zs at *
  go_enter Tryd.func12, Tryd.ntmps12
  go_wp2_with (go_at_call 34; (with_reducible refine HC.out.mono ?_); rintro e w2 ⟨u, rfl, hown, hlow⟩; have HO := hid hown; have HB := hid hlow; clear hown hlow c8)
  go_ret
  exact ⟨u, rfl, HO.out.rd (by have := HL.out; simpa [IntKind.bits] using this) HW.out, HB.out⟩
theorem pvalues_nil (w : World) : Calls Tryd.prog 12 #[.pointer none] w fun e w' => e = .returned (.slice none 0 0) ∧ w' = w := by
  go_enter Tryd.func12, Tryd.ntmps12
  go_wp2
  go_ret
  exact ⟨rfl, rfl⟩
set_option maxHeartbeats 3200000 in
theorem ptrace_any (b k : Nat) (S : Ms) (F : Nat → Prop) (w : World) (hm : Pm w b S F) (hq : Bq k S) (hk : k ≤ 1000000) :
    Calls Tryd.prog 10 #[.pointer (some ⟨b, 0, none⟩)] w fun e w' => ∃ v0 v1, e = .returned (.agg #[.int .i64 S.n, v0, v1]) ∧ ROp w' v0 (kpL S S.L) S.f ∧ RSp w' v1 (kpL S S.M) S.g ∧ Below w.heap.size w w' := by
  obtain ⟨tv, ov, vv, bv, lo, hi, h, rfl⟩ := hm
  have HCO := hid (fun (w' : World) (h' : Orw w' 0 52 6 ov (kpL S S.L) (fun i => (opCs (S.f i)).toList)) => pclone_op ov _ S.f w' h' (kpL_le (Nat.le_trans hq.L hk)))
  have HCB := hid (fun (w' : World) (h' : Orw w' 0 69 3 bv (kpL S S.M) (fun i => (spCs (S.g i)).toList)) => pclone_sp bv _ S.g w' h' (kpL_le (Nat.le_trans hq.M hk)))
  have hb1 := (Below.refl w.heap.size w).alloc (Nat.le_refl _) (.cells #[.int .i64 0, .slice none 0 0, .slice none 0 0] 47)
  have D0 := hid ((h.self hb1).drew)
  have K0 := hid ((Kz.new (F := Fz b ov bv vv lo hi) (w := w) #[.int .i64 0, .slice none 0 0, .slice none 0 0] 47 (fun k hk => h.ftlt hk)).self ((Below.refl _ _).drew))
  have B0 := hid hb1.drew
  have HQ := hid hq
  have HK := hid hk
  clear h hb1 hq hk
  go_enter Tryd.func10, Tryd.ntmps10
  go_wp2_with fail
  generalize w.alloc (.cells #[.int .i64 0, .slice none 0 0, .slice none 0 0] 47) = wx at *
  refine wp_region_noPanic ?_
  refine wp_region_held_drew (S := fun w' => w'.cell? ⟨b, 0, none⟩ = some (.int .i64 S.n) ∧ w'.cell? ⟨b, 7, none⟩ = some ov ∧ w'.cell? ⟨b, 9, none⟩ = some bv) (by kernel_rfl) (⟨D0.out.c_n, D0.out.c_ov, D0.out.c_bv⟩) (fun h0 => ?_)
  generalize wx.drew = w1 at *
  refine wpAnyH_take (i := 0) (v := .pointer (some ⟨b, 0, none⟩)) rfl (by kernel_rfl) (by kernel_rfl) (by kernel_rfl) (fun _ _ _ h => h) (.inl ⟨by rfl, fun w hw => by clear hw; go_simp⟩) h0 ?_
  try simp only [Act.put, lay_out]
  refine wpAnyH_take (i := 1) (v := .pointer (some ⟨b, 0, none⟩)) rfl (by kernel_rfl) (by kernel_rfl) (by kernel_rfl) (fun _ _ _ h => h) (.inl ⟨by rfl, fun w hw => by clear hw; go_simp⟩) h0 ?_
  try simp only [Act.put, lay_out]
  refine wpAnyH_take (i := 2) (v := .pointer (some ⟨b, 0, none⟩)) rfl (by kernel_rfl) (by kernel_rfl) (by kernel_rfl) (fun _ _ _ h => h) (.inl ⟨by rfl, fun w hw => by clear hw; go_simp⟩) h0 ?_
  try simp only [Act.put, lay_out]
  refine wpAnyH_take (i := 3) (v := .int .i64 S.n) rfl (by kernel_rfl) (by kernel_rfl) (by kernel_rfl) (fun _ _ _ h => h) (.inl ⟨by rfl, fun w hw => by have hc := hw.1; clear hw; go_simp⟩) h0 ?_
  try simp only [Act.put, lay_out]
  refine wpAnyH_take (i := 4) (v := .pointer (some ⟨b, 0, none⟩)) rfl (by kernel_rfl) (by kernel_rfl) (by kernel_rfl) (fun _ _ _ h => h) (.inl ⟨by rfl, fun w hw => by clear hw; go_simp⟩) h0 ?_
  try simp only [Act.put, lay_out]
  refine wpAnyH_take (i := 5) (v := .pointer (some ⟨b, 0, none⟩)) rfl (by kernel_rfl) (by kernel_rfl) (by kernel_rfl) (fun _ _ _ h => h) (.inl ⟨by rfl, fun w hw => by clear hw; go_simp⟩) h0 ?_
  try simp only [Act.put, lay_out]
  refine wpAnyH_take (i := 6) (v := .pointer (some ⟨b, 7, none⟩)) rfl (by kernel_rfl) (by kernel_rfl) (by kernel_rfl) (fun _ _ _ h => h) (.inl ⟨by rfl, fun w hw => by clear hw; go_simp⟩) h0 ?_
  try simp only [Act.put, lay_out]
  refine wpAnyH_take (i := 7) (v := ov) rfl (by kernel_rfl) (by kernel_rfl) (by kernel_rfl) (fun _ _ _ h => h) (.inl ⟨by rfl, fun w hw => by have hc := hw.2.1; clear hw; go_simp⟩) h0 ?_
  try simp only [Act.put, lay_out]
  refine wpAnyH_take (i := 9) (v := .pointer (some ⟨b, 0, none⟩)) rfl (by kernel_rfl) (by kernel_rfl) (by kernel_rfl) (fun _ _ _ h => h) (.inl ⟨by rfl, fun w hw => by clear hw; go_simp⟩) h0 ?_
  try simp only [Act.put, lay_out]
  refine wpAnyH_take (i := 10) (v := .pointer (some ⟨b, 0, none⟩)) rfl (by kernel_rfl) (by kernel_rfl) (by kernel_rfl) (fun _ _ _ h => h) (.inl ⟨by rfl, fun w hw => by clear hw; go_simp⟩) h0 ?_
  try simp only [Act.put, lay_out]
  refine wpAnyH_take (i := 11) (v := .pointer (some ⟨b, 9, none⟩)) rfl (by kernel_rfl) (by kernel_rfl) (by kernel_rfl) (fun _ _ _ h => h) (.inl ⟨by rfl, fun w hw => by clear hw; go_simp⟩) h0 ?_
  try simp only [Act.put, lay_out]
  refine wpAnyH_take (i := 12) (v := bv) rfl (by kernel_rfl) (by kernel_rfl) (by kernel_rfl) (fun _ _ _ h => h) (.inl ⟨by rfl, fun w hw => by have hc := hw.2.2; clear hw; go_simp⟩) h0 ?_
  try simp only [Act.put, lay_out]
  refine wpAnyH_ready (rs := [8]) (by kernel_rfl) (by simp) (AllReadyH.cons rfl (fun K hK => ?_) AllReadyH.nil)
  rw [if_pos (by rfl)]
  go_simp
  go_at_call 32
  (with_reducible refine (HCO.out _ D0.out.ops).mono ?_); rintro e w2 ⟨u, rfl, hown, hlow⟩
  obtain ⟨au, cu, rfl, hq1, _⟩ := hown.slice
  clear hq1
  have D1 := hid (D0.out.self hlow)
  have O1 := hid hown
  have K1 := hid (K0.out.self hlow)
  have B1 := hid (B0.out.trans (hlow.mono B0.out.size))
  clear hown hlow
  refine hK.out _ _ (⟨D1.out.c_n, D1.out.c_ov, D1.out.c_bv⟩) (fun h1x => ?_)
  clear hK K
  try simp only [Act.put, lay_out]
  refine wpAnyH_ready (rs := [13]) (by kernel_rfl) (by simp) (AllReadyH.cons rfl (fun K hK => ?_) AllReadyH.nil)
  rw [if_pos (by rfl)]
  go_simp
  go_at_call 33
  (with_reducible refine (HCB.out _ D1.out.bls).mono ?_); rintro e w3 ⟨u', rfl, hown, hlow⟩
  obtain ⟨av, cv, rfl, hq1, _⟩ := hown.slice
  clear hq1
  have D2 := hid (D1.out.self hlow)
  have O2 := hid (O1.out.stays (fun j hj => hlow.block j (O1.out.lt j hj).2))
  have P2 := hid hown
  have K2 := hid (K1.out.self hlow)
  have B2 := hid (B1.out.trans (hlow.mono B1.out.size))
  clear hown hlow
  refine hK.out _ _ (⟨D2.out.c_n, D2.out.c_ov, D2.out.c_bv⟩) (fun h2x => ?_)
  clear hK K
  try simp only [Act.put, lay_out]
  refine wpAnyH_take (i := 14) (v := .agg #[.int .i64 S.n, .slice au (kpL S S.L) cu, .slice av (kpL S S.M) cv]) rfl (by kernel_rfl) (by kernel_rfl) (by kernel_rfl) (fun _ _ _ h => h) (.inl ⟨by rfl, fun w hw => by clear hw; go_simp⟩) h2x ?_
  try simp only [Act.put, lay_out]
  refine wpAnyH_ready (rs := [15]) (by kernel_rfl) (by simp) (AllReadyH.cons rfl (fun K hK => ?_) AllReadyH.nil)
  rw [if_pos (by rfl)]
  refine wp_store_row 47 _ _ rfl w.heap.size #[.int .i64 S.n, .slice au (kpL S S.L) cu, .slice av (kpL S S.M) cv] rfl rfl 47 _ K2.out.blk (by kernel_rfl) rfl (by kernel_rfl) ?_
  have hot : ∀ k, k ≠ w.heap.size → (w3.setRow w.heap.size #[.int .i64 S.n, .slice au (kpL S S.L) cu, .slice av (kpL S S.M) cv]).heap[k]? = w3.heap[k]? := fun k hk => setRow_other w3 w.heap.size k _ hk
  have hsz : w3.heap.size ≤ (w3.setRow w.heap.size #[.int .i64 S.n, .slice au (kpL S S.L) cu, .slice av (kpL S S.M) cv]).heap.size := by simp [World.setRow]
  have D3 := hid (D2.out.stays hsz (fun k hk => hot k (fun q => K2.out.no (q ▸ hk))))
  have hw0 : w.heap.size < w1.heap.size := K0.out.lt
  have O3 := hid (O2.out.stays (fun j hj => hot j (by have := (O2.out.lt j hj).1; omega)))
  have P3 := hid (P2.out.stays (fun j hj => hot j (by have := (P2.out.lt j hj).1; have := K1.out.lt; omega)))
  have K3 : Hid ((w3.setRow w.heap.size #[.int .i64 S.n, .slice au (kpL S S.L) cu, .slice av (kpL S S.M) cv]).heap[w.heap.size]? = some (.cells #[.int .i64 S.n, .slice au (kpL S S.L) cu, .slice av (kpL S S.M) cv] 47 (0, 0))) := hid (setRow_heap _ _ _ _ _ _ K2.out.blk)
  have B3 := hid (below_setRow B2.out (Nat.le_refl _) #[.int .i64 S.n, .slice au (kpL S S.L) cu, .slice av (kpL S S.M) cv])
  clear hot hsz hw0
  refine hK.out _ _ (⟨D3.out.c_n, D3.out.c_ov, D3.out.c_bv⟩) (fun h3x => ?_)
  clear hK K
  try simp only [Act.put, lay_out]
  refine wpAnyH_done (by kernel_rfl) ?_ _
  refine NoPanic.normal ?_
  clear h0 h1x h2x h3x
  try simp only [Act.put, lay_out]
  go_wp2
  exact bodyPost_ret (results_cell_row (by rfl) _ _ w.heap.size 47 #[.int .i64 S.n, .slice au (kpL S S.L) cu, .slice av (kpL S S.M) cv] (0, 0) _ rfl K3.out Tryd.underlying47 rfl (by kernel_rfl)) rfl ⟨_, _, rfl, orw_rop O3.out.low (kpL_le (Nat.le_trans HQ.out.L HK.out)) (fun i hi => HQ.out.ops i (kpL_lt hi)), orw_rsp P3.out.low (kpL_le (Nat.le_trans HQ.out.M HK.out)) (fun i hi => HQ.out.sps i (kpL_lt hi)), B3.out⟩
theorem ptrace_nil (w : World) : Calls Tryd.prog 10 #[.pointer none] w fun e w' => e = .returned (.agg #[.int .i64 0, .slice none 0 0, .slice none 0 0]) ∧ Below w.heap.size w w' := by
  have hn : (w.alloc (.cells #[.int .i64 0, .slice none 0 0, .slice none 0 0] 47)).heap[w.heap.size]? = some (.cells #[.int .i64 0, .slice none 0 0, .slice none 0 0] 47 (0, 0)) := heap_alloc_new _ _
  have HB := hid ((Below.refl w.heap.size w).alloc (Nat.le_refl _) (.cells #[.int .i64 0, .slice none 0 0, .slice none 0 0] 47))
  generalize hw1 : w.alloc (.cells #[.int .i64 0, .slice none 0 0, .slice none 0 0] 47) = w1 at *
  have HN := hid hn
  have HW := hid hw1
  clear hw1 hn
  go_enter Tryd.func10, Tryd.ntmps10
  go_wp2_with fail
  rw [HW.out]
  go_wp2
  exact bodyPost_ret (results_cell_row (by rfl) _ _ w.heap.size 47 #[.int .i64 0, .slice none 0 0, .slice none 0 0] (0, 0) _ rfl HN.out Tryd.underlying47 rfl (by kernel_rfl)) rfl ⟨rfl, HB.out⟩
end Go.Proofs.YtpjgpiieminaoaaDoor

/- Wire: the program's machine: dry ones, new ones; the interface is met. -/
namespace Go.Proofs.YtpjgpiieminaoaaDoor
open Go.RowKit
set_option maxRecDepth 100000
/-- A machine without rows, just laid. -/
theorem Pq.fresh (w : World) (S : Ms) (tv : Value) (lo hi : Nat) (hn : S.n = 2 ∨ S.n = 3) (hL : S.L = 0) (hM : S.M = 0) (his : hi ≤ w.heap.size)
    (hw : S.dry = false → ∃ q, tv = .pointer (some ⟨q, 0, none⟩) ∧ TapeAt w lo hi q (wdL S.tw S.TN) S.used (S.used + S.free)) (hd : S.dry = true → tv = .pointer none) :
    Pq (w.alloc (.cells (pmC S tv (.slice none 0 0) (.slice none 0 0) (.slice none 0 0)) 71)) w.heap.size S tv (.slice none 0 0) (.slice none 0 0) (.slice none 0 0) lo hi := by
  have e1 : kpL S S.L = 0 := by rw [hL]; unfold kpL; split <;> rfl
  have e2 : kpL S S.M = 0 := by rw [hM]; unfold kpL; split <;> rfl
  have hs : w.heap.size ≤ (w.alloc (.cells (pmC S tv (.slice none 0 0) (.slice none 0 0) (.slice none 0 0)) 71)).heap.size := by rw [alloc_sz]; omega
  unfold Pq
  rw [e1]
  refine ⟨heap_alloc_new _ _, hn, orw_nil _ _ _ _ _, orw_nil _ _ _ _ _, by rw [e2]; exact orw_nil _ _ _ _ _, by simp [Value.ownBlock], by simp [Value.ownBlock], by simp [Value.ownBlock], by simp [Value.ownBlock], by simp [Value.ownBlock], by simp [Value.ownBlock], fun e => ?_, hd, ?_, Nat.le_trans his hs⟩
  · obtain ⟨q, e1, e2⟩ := hw e
    exact ⟨q, e1, e2.stays hs (fun k _ hk => Below.heap_alloc w _ k (by omega))⟩
  · rintro k (rfl | e | e | e)
    · omega
    · simp [Value.ownBlock] at e
    · simp [Value.ownBlock] at e
    · simp [Value.ownBlock] at e
theorem pnew_bad0 (n most : Int) (q : Nat) (w : World) (h1 : n ≠ 2) (h2 : n ≠ 3) : Calls Tryd.prog 17 #[.int .i64 n, .pointer (some ⟨q, 0, none⟩), .int .i64 most] w fun e w' => e = .returned (.tuple #[.pointer none, .int .i64 1]) ∧ w' = w := by
  have q1 : (n != 2) = true := by simp [h1]
  have q2 : (n != 3) = true := by simp [h2]
  clear h1 h2
  go_enter Tryd.func17, Tryd.ntmps17
  go_wp2
  go_ret2
  exact ⟨rfl, rfl⟩
theorem pnew_low2 (n most : Int) (q : Nat) (w : World) (h1 : n = 2) (h2 : most < 0) : Calls Tryd.prog 17 #[.int .i64 n, .pointer (some ⟨q, 0, none⟩), .int .i64 most] w fun e w' => e = .returned (.tuple #[.pointer none, .int .i64 1]) ∧ w' = w := by
  have q1 : (n != 2) = false := by simp [h1]
  have q3 : decide (most < 0) = true := decide_eq_true h2
  clear h1 h2
  go_enter Tryd.func17, Tryd.ntmps17
  go_wp2
  go_ret2
  exact ⟨rfl, rfl⟩
theorem pnew_high2 (n most : Int) (q : Nat) (w : World) (h1 : n = 2) (h2 : 1048576 < most) : Calls Tryd.prog 17 #[.int .i64 n, .pointer (some ⟨q, 0, none⟩), .int .i64 most] w fun e w' => e = .returned (.tuple #[.pointer none, .int .i64 1]) ∧ w' = w := by
  have q1 : (n != 2) = false := by simp [h1]
  have q3 : decide (most < 0) = false := decide_eq_false (by omega)
  have q4 : decide (1048576 < most) = true := decide_eq_true h2
  clear h1 h2
  go_enter Tryd.func17, Tryd.ntmps17
  go_wp2
  go_ret2
  exact ⟨rfl, rfl⟩
theorem pnew_ok2 (n most : Int) (q : Nat) (w : World) (h1 : n = 2) (h2 : 0 ≤ most) (h3 : most ≤ 1048576) : Calls Tryd.prog 17 #[.int .i64 n, .pointer (some ⟨q, 0, none⟩), .int .i64 most] w fun e w' => ∃ w1, w1 = w.alloc (.cells #[.int .i64 n, .pointer (some ⟨q, 0, none⟩), .int .i64 most, .bool false, .int .i64 0, .int .i64 0, .int .u64 0, .slice none 0 0, .slice none 0 0, .slice none 0 0, .int .i64 0, .int .i64 0, .int .i64 0, .int .i64 0] 71) ∧ e = .returned (.tuple #[.pointer (some ⟨w.heap.size, 0, none⟩), .int .i64 0]) ∧ w' = w1 := by
  have q1 : (n != 2) = false := by simp [h1]
  have q3 : decide (most < 0) = false := decide_eq_false (by omega)
  have q4 : decide (1048576 < most) = false := decide_eq_false (by omega)
  clear h1 h2 h3
  go_enter Tryd.func17, Tryd.ntmps17
  go_wp2
  go_ret2
  exact ⟨_, rfl, rfl, rfl⟩
theorem pnew_low3 (n most : Int) (q : Nat) (w : World) (h1 : n = 3) (h2 : most < 0) : Calls Tryd.prog 17 #[.int .i64 n, .pointer (some ⟨q, 0, none⟩), .int .i64 most] w fun e w' => e = .returned (.tuple #[.pointer none, .int .i64 1]) ∧ w' = w := by
  have q1 : (n != 2) = true := by simp [h1]
  have q2 : (n != 3) = false := by simp [h1]
  have q3 : decide (most < 0) = true := decide_eq_true h2
  clear h1 h2
  go_enter Tryd.func17, Tryd.ntmps17
  go_wp2
  go_ret2
  exact ⟨rfl, rfl⟩
theorem pnew_high3 (n most : Int) (q : Nat) (w : World) (h1 : n = 3) (h2 : 1048576 < most) : Calls Tryd.prog 17 #[.int .i64 n, .pointer (some ⟨q, 0, none⟩), .int .i64 most] w fun e w' => e = .returned (.tuple #[.pointer none, .int .i64 1]) ∧ w' = w := by
  have q1 : (n != 2) = true := by simp [h1]
  have q2 : (n != 3) = false := by simp [h1]
  have q3 : decide (most < 0) = false := decide_eq_false (by omega)
  have q4 : decide (1048576 < most) = true := decide_eq_true h2
  clear h1 h2
  go_enter Tryd.func17, Tryd.ntmps17
  go_wp2
  go_ret2
  exact ⟨rfl, rfl⟩
theorem pnew_ok3 (n most : Int) (q : Nat) (w : World) (h1 : n = 3) (h2 : 0 ≤ most) (h3 : most ≤ 1048576) : Calls Tryd.prog 17 #[.int .i64 n, .pointer (some ⟨q, 0, none⟩), .int .i64 most] w fun e w' => ∃ w1, w1 = w.alloc (.cells #[.int .i64 n, .pointer (some ⟨q, 0, none⟩), .int .i64 most, .bool false, .int .i64 0, .int .i64 0, .int .u64 0, .slice none 0 0, .slice none 0 0, .slice none 0 0, .int .i64 0, .int .i64 0, .int .i64 0, .int .i64 0] 71) ∧ e = .returned (.tuple #[.pointer (some ⟨w.heap.size, 0, none⟩), .int .i64 0]) ∧ w' = w1 := by
  have q1 : (n != 2) = true := by simp [h1]
  have q2 : (n != 3) = false := by simp [h1]
  have q3 : decide (most < 0) = false := decide_eq_false (by omega)
  have q4 : decide (1048576 < most) = false := decide_eq_false (by omega)
  clear h1 h2 h3
  go_enter Tryd.func17, Tryd.ntmps17
  go_wp2
  go_ret2
  exact ⟨_, rfl, rfl, rfl⟩
theorem pnew_bad (n most : Int) (q : Nat) (w : World) (h : ¬ ((n = 2 ∨ n = 3) ∧ 0 ≤ most ∧ most ≤ 1048576)) : Calls Tryd.prog 17 #[.int .i64 n, .pointer (some ⟨q, 0, none⟩), .int .i64 most] w fun e w' => e = .returned (.tuple #[.pointer none, .int .i64 1]) ∧ w' = w := by
  by_cases h2 : n = 2
  · by_cases hl : most < 0
    · exact pnew_low2 n most q w h2 hl
    · exact pnew_high2 n most q w h2 (by omega)
  · by_cases h3 : n = 3
    · by_cases hl : most < 0
      · exact pnew_low3 n most q w h3 hl
      · exact pnew_high3 n most q w h3 (by omega)
    · exact pnew_bad0 n most q w h2 h3
theorem pnew_ok (lo hi q d e : Nat) (n most : Int) (tw : Nat → Nat) (TN : Nat) (w : World) (ht : TapeAt w lo hi q (wdL tw TN) d e) (hn : n = 2 ∨ n = 3) (h2 : 0 ≤ most) (h3 : most ≤ 1048576) :
    Calls Tryd.prog 17 #[.int .i64 n, .pointer (some ⟨q, 0, none⟩), .int .i64 most] w fun r w' => ∃ b, r = .returned (.tuple #[.pointer (some ⟨b, 0, none⟩), .int .i64 0]) ∧ Below w.heap.size w w' ∧ ∃ F, Pm w' b (startD n most tw TN d e) F ∧ ∀ k, F k → (lo ≤ k ∧ k < hi) ∨ w.heap.size ≤ k := by
  have key : Calls Tryd.prog 17 #[.int .i64 n, .pointer (some ⟨q, 0, none⟩), .int .i64 most] w fun e w' => ∃ w1, w1 = w.alloc (.cells #[.int .i64 n, .pointer (some ⟨q, 0, none⟩), .int .i64 most, .bool false, .int .i64 0, .int .i64 0, .int .u64 0, .slice none 0 0, .slice none 0 0, .slice none 0 0, .int .i64 0, .int .i64 0, .int .i64 0, .int .i64 0] 71) ∧ e = .returned (.tuple #[.pointer (some ⟨w.heap.size, 0, none⟩), .int .i64 0]) ∧ w' = w1 := by
    rcases hn with rfl | rfl
    · exact pnew_ok2 2 most q w rfl h2 h3
    · exact pnew_ok3 3 most q w rfl h2 h3
  refine key.mono fun r w' hr => ?_
  obtain ⟨w1, hw1, rfl, rfl⟩ := hr
  have hlt := ht.lt
  have hde := ht.len
  have hf := Pq.fresh w (startD n most tw TN d e) (.pointer (some ⟨q, 0, none⟩)) lo hi hn rfl rfl hlt.2.2 (fun _ => ⟨q, rfl, by show TapeAt w lo hi q (wdL tw TN) d (d + (e - d)); rw [show d + (e - d) = e by omega]; exact ht⟩) (fun e => Bool.noConfusion (show false = true from e))
  have hw2 : w' = w.alloc (.cells (pmC (startD n most tw TN d e) (.pointer (some ⟨q, 0, none⟩)) (.slice none 0 0) (.slice none 0 0) (.slice none 0 0)) 71) := hw1
  rw [← hw2] at hf
  refine ⟨w.heap.size, rfl, by rw [hw2]; exact (Below.refl _ _).alloc (Nat.le_refl _) _, _, ⟨_, _, _, _, lo, hi, hf, rfl⟩, fun k hk => ?_⟩
  rcases hk with (rfl | e | e | e) | e
  · exact .inr (Nat.le_refl _)
  · simp [Value.ownBlock] at e
  · simp [Value.ownBlock] at e
  · simp [Value.ownBlock] at e
  · exact .inl e
/-! ### the interface is met -/
theorem pmach : Mach Pm where
  stays := pm_stays
  lt := pm_lt
  do_ := fun b k S F o x w hm hq hk ho hx => pdo_any b k S F o x w hm hq hk ho hx
  rand := fun b k S F dom w hm hq hk ho => prand_any b k S F dom w hm hq hk ho
  key := fun b k S F x p q w hm hq hk ho hx => pkey_any b k S F x p q w hm hq hk ho hx
  const_ := fun b k S F dom c w hm hq hk ho => pconst_any b k S F dom c w hm hq hk ho
  two := fun b k S F kd dom p q w hm hq hk ho => ptwo_any b k S F kd dom p q w hm hq hk ho
  one := fun b k S F kd dom p c w hm hq hk ho => pone_any b k S F kd dom p c w hm hq hk ho
  open_ := fun b k S F p q r w hm hq hk ho => popen_any b k S F p q r w hm hq hk ho
  begin_ := fun b _ S F kd w hm _ _ => pbegin_any b S F kd w hm
  end_ := fun b _ S F w hm hq hk => pend_any b S F w hm (Nat.le_trans hq.M hk)
  n := fun _ _ _ _ _ ⟨_, _, _, _, _, _, h, _⟩ _ _ => (pn_c h.c_n).mono fun _ _ q => ⟨q.1, by rw [q.2]; exact Below.refl _ _⟩
  err := fun _ _ _ _ _ ⟨_, _, _, _, _, _, h, _⟩ _ _ => h.err.mono fun _ _ q => ⟨q.1, by rw [q.2]; exact Below.refl _ _⟩
  trace := fun b k S F w hm hq hk => ptrace_any b k S F w hm hq hk
  values := fun b k S F w hm hq hk => pvalues_any b k S F w hm hq hk
theorem pmachn : MachN Pm where
  nbegin := fun w => pbegin_nil 1 w
  nend := fun w => pend_nil w
  nrand := fun w => prand_nil 0 w
  nkey := fun w => (pkey_nil 1 0 0 w).mono fun _ _ q => ⟨q.1, by rw [q.2]; exact Below.refl _ _⟩
  nopen := fun w => popen_nil 0 0 0 w
  nerr := fun w => (perr_nil w).mono fun _ _ q => ⟨q.1, by rw [q.2]; exact Below.refl _ _⟩
  nvalues := fun w => (pvalues_nil w).mono fun _ _ q => ⟨none, 0, q.1, by rw [q.2]; exact Below.refl _ _⟩
  nn := fun w => (pn_nil w).mono fun _ _ q => ⟨q.1, by rw [q.2]; exact Below.refl _ _⟩
  ntrace := fun w => (ptrace_nil w).mono fun _ _ q => ⟨0, none, 0, .slice none 0 0, q.1, q.2⟩
  bad := fun n most q w h => (pnew_bad n most q w h).mono fun _ _ k => ⟨k.1, by rw [k.2]; exact Below.refl _ _⟩
  new := pnew_ok
end Go.Proofs.YtpjgpiieminaoaaDoor
