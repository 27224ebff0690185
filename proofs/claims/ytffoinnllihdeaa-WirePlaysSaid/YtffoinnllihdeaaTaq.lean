import Derived.Test.YtffoinnllihdeaaTap
namespace Go.Proofs.Ytffoinnllihdeaa
open Go.RowKit

/-! ### a slice whose cells lie in a block of a kind -/
/-! ### a tape -/
/-- At block b lies a tape: of the words zs d were drawn, and it may be drawn up to e. It and its words lie in the blocks from lo to hi. -/
def TapeAt (w : World) (lo hi b : Nat) (zs : List Int) (d e : Nat) : Prop :=
  ∃ wv, w.heap[b]? = some (.cells #[wv, .int .i64 d, .int .i64 e] 68 (0, 0)) ∧ RdS .u64 w (fun g => lo ≤ g ∧ g < hi ∧ g ≠ b) wv zs ∧ d ≤ e ∧ e ≤ zs.length ∧ lo ≤ b ∧ b < hi ∧ hi ≤ w.heap.size

theorem TapeAt.lt {w : World} {lo hi b : Nat} {zs : List Int} {d e : Nat} (h : TapeAt w lo hi b zs d e) : lo ≤ b ∧ b < hi ∧ hi ≤ w.heap.size := by
  obtain ⟨_, _, _, _, _, h⟩ := h; exact h
theorem TapeAt.only {w w' : World} {lo hi b c : Nat} {zs : List Int} {d e : Nat} (h : TapeAt w lo hi b zs d e) (o : Only c w w') (hn : c < lo ∨ hi ≤ c) : TapeAt w' lo hi b zs d e := by
  obtain ⟨wv, hb, hr, h3, h4, h5, h6, h7⟩ := h
  exact ⟨wv, (o.block b (by omega) (by omega)).trans hb, hr.only o (fun g hg => by omega), h3, h4, h5, h6, Nat.le_trans h7 o.size⟩
theorem TapeAt.below {w w' : World} {lo hi b : Nat} {zs : List Int} {d e : Nat} (h : TapeAt w lo hi b zs d e) (o : Below w.heap.size w w') : TapeAt w' lo hi b zs d e := by
  obtain ⟨wv, hb, hr, h3, h4, h5, h6, h7⟩ := h
  exact ⟨wv, (o.block b (by omega)).trans hb, hr.below o, h3, h4, h5, h6, Nat.le_trans h7 o.size⟩
theorem TapeAt.drew {w : World} {lo hi b : Nat} {zs : List Int} {d e : Nat} (h : TapeAt w lo hi b zs d e) : TapeAt w.drew lo hi b zs d e := h.below ((Below.refl _ _).drew)
theorem TapeAt.drewN {w : World} {lo hi b : Nat} {zs : List Int} {d e : Nat} (h : TapeAt w lo hi b zs d e) (n : Nat) : TapeAt (w.drewN n) lo hi b zs d e := h.below ⟨rfl, rfl, rfl, Nat.le_refl _, fun _ _ => rfl⟩
theorem TapeAt.len {w : World} {lo hi b : Nat} {zs : List Int} {d e : Nat} (h : TapeAt w lo hi b zs d e) : d ≤ e ∧ e ≤ zs.length ∧ zs.length ≤ 17592186043904 := by
  obtain ⟨_, _, ⟨_, _, _, _, _, h, _⟩, h1, h2, _⟩ := h
  refine ⟨h1, h2, ?_⟩
  simp [IntKind.bits] at h; omega

theorem TapeAt.setD {w : World} {lo hi b : Nat} {zs : List Int} {d e : Nat} (h : TapeAt w lo hi b zs d e) (d' : Nat) (hd : d' ≤ e) : TapeAt (w.setCell ⟨b, 1, none⟩ (.int .i64 d')) lo hi b zs d' e := by
  obtain ⟨wv, hb, hr, h3, h4, h5, h6, h7⟩ := h
  exact ⟨wv, set3_1 hb, hr.only (Only.set (g := b) w (p := ⟨b, 1, none⟩) rfl _) (fun g hg => hg.2.2), hd, h4, h5, h6, by simpa [World.setCell] using h7⟩
theorem TapeAt.setE {w : World} {lo hi b : Nat} {zs : List Int} {d e : Nat} (h : TapeAt w lo hi b zs d e) (e' : Nat) (hd : d ≤ e') (he : e' ≤ zs.length) : TapeAt (w.setCell ⟨b, 2, none⟩ (.int .i64 e')) lo hi b zs d e' := by
  obtain ⟨wv, hb, hr, h3, h4, h5, h6, h7⟩ := h
  exact ⟨wv, set3_2 hb, hr.only (Only.set (g := b) w (p := ⟨b, 2, none⟩) rfl _) (fun g hg => hg.2.2), hd, he, h5, h6, by simpa [World.setCell] using h7⟩

/-! ### the tape's functions -/
theorem used_any (lo hi b : Nat) (zs : List Int) (d e : Nat) (w : World) (h : TapeAt w lo hi b zs d e) :
    Calls Try.prog 26 #[.pointer (some ⟨b, 0, none⟩)] w fun r w' => r = .returned (.int .i64 d) ∧ w = w' := by
  obtain ⟨wv, hb, hr, h3, h4, h5, h6, h7⟩ := h
  obtain ⟨c0, c1, c2, hz⟩ := cells3 hb
  have C1 := hid c1
  clear hb hr hz
  go_enter Try.func26, Try.ntmps26
  go_wp2_with (go_at_call 54; refine (aload_any b 1 d _ C1.out).mono ?_; rintro r w' ⟨rfl, rfl⟩)
  go_ret
  exact ⟨rfl, rfl⟩

theorem used_nil (w : World) : Calls Try.prog 26 #[.pointer none] w fun r w' => r = .returned (.int .i64 0) ∧ w = w' := by
  go_enter Try.func26, Try.ntmps26
  go_wp2
  go_ret
  exact ⟨rfl, rfl⟩
theorem left_nil (w : World) : Calls Try.prog 25 #[.pointer none] w fun r w' => r = .returned (.int .i64 0) ∧ w = w' := by
  go_enter Try.func25, Try.ntmps25
  go_wp2
  go_ret
  exact ⟨rfl, rfl⟩
theorem allowed_nil (w : World) : Calls Try.prog 79 #[.pointer none] w fun r w' => r = .returned (.int .i64 0) ∧ w = w' := by
  go_enter Try.func79, Try.ntmps79
  go_wp2
  go_ret
  exact ⟨rfl, rfl⟩
theorem draw_nil (w : World) : Calls Try.prog 76 #[.pointer none] w fun r w' => r = .returned (.tuple #[.int .u64 0, .bool false]) ∧ w = w' := by
  go_enter Try.func76, Try.ntmps76
  go_wp2_with (go_at_call 79; refine (allowed_nil _).mono ?_; rintro r w' ⟨rfl, rfl⟩)
  go_ret2
  exact ⟨rfl, rfl⟩
theorem reserve_nil (n : Int) (w : World) : Calls Try.prog 7 #[.pointer none, .int .i64 n] w fun r w' => r = .returned (.int .i64 1) ∧ w = w' := by
  go_enter Try.func7, Try.ntmps7
  go_wp2
  go_ret
  exact ⟨rfl, rfl⟩
end Go.Proofs.Ytffoinnllihdeaa
