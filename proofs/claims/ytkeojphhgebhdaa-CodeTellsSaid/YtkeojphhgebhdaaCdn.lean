import Derived.Test.YtkeojphhgebhdaaProg
import Derived.Test.YtkeojphhgebhdaaCdl
import Derived.Test.YtkeojphhgebhdaaCnv
/- Code: what program and document both tell; the chapter's examples. -/
namespace Go.Proofs.Ytkeojphhgebhdaa
open Go.RowKit

/-- A call tells a row that is zs. -/
def RowP (w : World) (zs : List Int) (e : Ending) (w' : World) : Prop := ∃ v, e = .returned v ∧ Rw w' v zs ∧ Below w.heap.size w w'
theorem ConcatP.row {w w' : World} {zs : List Int} {e : Ending} (h : ConcatP w zs e w') : RowP w zs e w' := by
  obtain ⟨v, h1, h2, h3⟩ := h
  exact ⟨v, h1, Rw.of_own h2, h3⟩
theorem nil_row {w w' : World} {e : Ending} (h : e = .returned (.slice none 0 0) ∧ w' = w) : RowP w [] e w' := by
  obtain ⟨rfl, rfl⟩ := h
  exact ⟨_, rfl, rw_nil _, Below.refl _ _⟩
def lefI (n : Int) : List Int := if n < 0 then [] else lef n.toNat
def rigI (n : Int) : List Int := if n < 0 then [] else rig n.toNat
theorem int_ways (n : Int) (h : n ≤ 9223372036854775807) : n < 0 ∨ ∃ m : Nat, n = m ∧ m < 9223372036854775808 := by
  by_cases h0 : n < 0
  · exact .inl h0
  · exact .inr ⟨n.toNat, by omega, by omega⟩
theorem left_i (n : Int) (h : n ≤ 9223372036854775807) (w : World) : Calls Try.prog 10 #[.int .i64 n] w fun e w' => RowP w (lefI n) e w' := by
  rcases int_ways n h with h0 | ⟨m, rfl, h0⟩
  · rw [lefI, if_pos h0]; exact (left_neg n w h0).mono fun _ _ => nil_row
  · rw [lefI, if_neg (by omega), Int.toNat_natCast]; exact (left_any m w h0).mono fun _ _ => ConcatP.row
theorem refleft_i (n : Int) (h : n ≤ 9223372036854775807) (w : World) : Calls Try.prog 11 #[.int .i64 n] w fun e w' => RowP w (lefI n) e w' := by
  rcases int_ways n h with h0 | ⟨m, rfl, h0⟩
  · rw [lefI, if_pos h0]; exact (refleft_neg n w h0).mono fun _ _ => nil_row
  · rw [lefI, if_neg (by omega), Int.toNat_natCast]; exact (refleft_any m w h0).mono fun _ _ => ConcatP.row
theorem right_i (n : Int) (h : n ≤ 9223372036854775807) (w : World) : Calls Try.prog 12 #[.int .i64 n] w fun e w' => RowP w (rigI n) e w' := by
  rcases int_ways n h with h0 | ⟨m, rfl, h0⟩
  · rw [rigI, if_pos h0]; exact (right_neg n w h0).mono fun _ _ => nil_row
  · rw [rigI, if_neg (by omega), Int.toNat_natCast]; exact (right_any m w h0).mono fun _ _ => ConcatP.row
theorem refright_i (n : Int) (h : n ≤ 9223372036854775807) (w : World) : Calls Try.prog 13 #[.int .i64 n] w fun e w' => RowP w (rigI n) e w' := by
  rcases int_ways n h with h0 | ⟨m, rfl, h0⟩
  · rw [rigI, if_pos h0]; exact (refright_neg n w h0).mono fun _ _ => nil_row
  · rw [rigI, if_neg (by omega), Int.toNat_natCast]; exact (refright_any m w h0).mono fun _ _ => ConcatP.row
theorem str_i (u : Value) (z : List Int) (w : World) (h : Rd .u8 w u z) : Calls Try.prog 14 #[u] w fun e w' => RowP w (sto z) e w' := (str_any u z w h).mono fun _ _ => ConcatP.row
theorem refstr_i (u : Value) (z : List Int) (w : World) (h : Rd .u8 w u z) : Calls Try.prog 15 #[u] w fun e w' => RowP w (sto z) e w' := (refstr_any u z w h).mono fun _ _ => ConcatP.row

/-- A call tells a row, and a number. -/
def RowE (w : World) (zs : List Int) (n : Int) (e : Ending) (w' : World) : Prop := ∃ v, e = .returned (.tuple #[v, .int .i64 n]) ∧ Rw w' v zs ∧ Below w.heap.size w w'
def pdI (zs : List Int) (n : Int) : List Int := if n < 1 ∨ 1000 < n then [] else pd zs n.toNat
def pdE (n : Int) : Int := if n < 1 ∨ 1000 < n then 1 else 0
theorem PadP.row {w w' : World} {zs : List Int} {n : Int} {e : Ending} (h : PadP w zs n e w') : RowE w (pdI zs n) (pdE n) e w' := by
  obtain ⟨hl, ⟨m, v, rfl, h1, h2, rfl, ho⟩ | ⟨h1, rfl⟩⟩ := h
  · rw [pdI, pdE, if_neg (by omega), if_neg (by omega), Int.toNat_natCast]; exact ⟨v, rfl, Rw.of_own ho, hl⟩
  · rw [pdI, pdE, if_pos h1, if_pos h1]; exact ⟨_, rfl, rw_nil _, hl⟩
theorem pad_ways (n : Int) : (n < 1 ∨ 1000 < n) ∨ ∃ m : Nat, n = m ∧ 1 ≤ m ∧ m ≤ 1000 := by
  by_cases h0 : n < 1 ∨ 1000 < n
  · exact .inl h0
  · exact .inr ⟨n.toNat, by omega, by omega, by omega⟩
theorem pad_i (v : Value) (zs : List Int) (n : Int) (w : World) (h : Rd .u8 w v zs) : Calls Try.prog 6 #[v, .int .i64 n] w fun e w' => RowE w (pdI zs n) (pdE n) e w' := by
  rcases pad_ways n with h0 | ⟨m, rfl, h1, h2⟩
  · exact (pad_bad v zs n w h h0).mono fun _ _ => PadP.row
  · exact (pad_good v zs m w h h1 h2).mono fun _ _ => PadP.row
theorem refpad_i (v : Value) (zs : List Int) (n : Int) (w : World) (h : Rd .u8 w v zs) : Calls Try.prog 7 #[v, .int .i64 n] w fun e w' => RowE w (pdI zs n) (pdE n) e w' := by
  rcases pad_ways n with h0 | ⟨m, rfl, h1, h2⟩
  · exact (refpad_bad v zs n w h h0).mono fun _ _ => PadP.row
  · exact (refpad_good v zs m w h h1 h2).mono fun _ _ => PadP.row

/-- With what string a row begins. -/
def TkR (zs z : List Int) (k : Int) (ok : Bool) : Prop :=
  (∃ n, Beg zs n ∧ z = (zs.drop (lef (8 * n)).length).take n ∧ k = (((lef (8 * n)).length + n : Nat) : Int) ∧ ok = true) ∨ ((∀ n, ¬ Beg zs n) ∧ z = [] ∧ k = 0 ∧ ok = false)
theorem tkr_any (zs : List Int) : ∃ z k ok, TkR zs z k ok := by
  by_cases h : ∃ n, Beg zs n
  · obtain ⟨n, h⟩ := h
    exact ⟨_, _, _, .inl ⟨n, h, rfl, rfl, rfl⟩⟩
  · exact ⟨_, _, _, .inr ⟨fun n hn => h ⟨n, hn⟩, rfl, rfl, rfl⟩⟩
/-- A call tells it. -/
def RowT (w : World) (z : List Int) (k : Int) (ok : Bool) (e : Ending) (w' : World) : Prop := ∃ v, e = .returned (.tuple #[v, .int .i64 k, .bool ok]) ∧ Rw w' v z ∧ Below w.heap.size w w'
theorem take_i (v : Value) (zs z : List Int) (k : Int) (ok : Bool) (ht : TkR zs z k ok) (w : World) (h : RdC w v zs) : Calls Try.prog 8 #[v] w fun e w' => RowT w z k ok e w' := by
  refine (take_any v zs w h).mono ?_
  rintro e w' ⟨hl, ⟨n, u, h1, rfl, h2⟩ | ⟨h1, rfl⟩⟩ <;> rcases ht with ⟨n', h3, rfl, rfl, rfl⟩ | ⟨h3, rfl, rfl, rfl⟩
  · rw [beg_one h3 h1]; exact ⟨u, rfl, Rw.of_own h2, hl⟩
  · exact absurd h1 (h3 n)
  · exact absurd h3 (h1 n')
  · exact ⟨_, rfl, rw_nil _, hl⟩
theorem reftake_i (v : Value) (zs z : List Int) (k : Int) (ok : Bool) (ht : TkR zs z k ok) (w : World) (h : RdC w v zs) : Calls Try.prog 9 #[v] w fun e w' => RowT w z k ok e w' := by
  refine (reftake_any v zs w h).mono ?_
  rintro e w' ⟨hl, ⟨n, u, h1, rfl, h2⟩ | ⟨h1, rfl⟩⟩ <;> rcases ht with ⟨n', h3, rfl, rfl, rfl⟩ | ⟨h3, rfl, rfl, rfl⟩
  · rw [beg_one h3 h1]; exact ⟨u, rfl, Rw.of_rd h2, hl⟩
  · exact absurd h1 (h3 n)
  · exact absurd h3 (h1 n')
  · exact ⟨_, rfl, rw_nil _, hl⟩

theorem lef256 : lefI 256 = [2, 1, 0] := by
  show lef 256 = _
  unfold lef
  rw [dg_more (by decide), dg_one (by decide)]
  rfl
theorem rig0 : rigI 0 = [0, 1] := by
  show rig 0 = _
  unfold rig
  rw [dg_one (by decide)]
  rfl
set_option maxRecDepth 100000 in
theorem cawake_any (w : World) : Calls Try.prog 16 #[] w fun e w' => e = .returned (.bool true) ∧ Below w.heap.size w w' := by
  have H1 := hid (left_i 256 (by decide) w)
  have H2 := hid (right_i 0 (by decide))
  have s1 : strOfNums [2, 1, 0] = ⟨#[2, 1, 0]⟩ := rfl
  have s2 : strOfNums [0, 1] = ⟨#[0, 1]⟩ := rfl
  have S1 := hid s1
  have S2 := hid s2
  rw [lef256] at H1
  rw [rig0] at H2
  clear s1 s2
  go_enter Try.func16, Try.ntmps16
  go_wp2_with (first
    | (go_at_call 10; (with_reducible refine (H1.out).mono ?_); rintro e w1 ⟨v1, rfl, hr1, hl1⟩; have k1 := run_conv_rw (P := Try.prog) hr1 Try.underlying22 Try.underlying5 9 Try.underlying9; rw [S1.out] at k1; have HL1 := hid hl1; clear hl1 hr1)
    | (go_at_call 12; (with_reducible refine (H2.out _).mono ?_); rintro e w2 ⟨v2, rfl, hr2, hl2⟩; have k2 := run_conv_rw (P := Try.prog) hr2 Try.underlying22 Try.underlying5 9 Try.underlying9; rw [S2.out] at k2; have HL2 := hid (HL1.out.trans (hl2.mono HL1.out.size)); clear hl2 hr2))
  go_ret
  exact ⟨rfl, HL2.out⟩
end Go.Proofs.Ytkeojphhgebhdaa
