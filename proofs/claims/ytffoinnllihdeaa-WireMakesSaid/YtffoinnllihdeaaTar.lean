import Derived.Test.YtffoinnllihdeaaTaq
import Derived.Deep.RegionHeld3
import Derived.Deep.DrawnRows
namespace Go.Proofs.Ytffoinnllihdeaa
open Go.RowKit

set_option maxHeartbeats 400000 in
theorem left_any (lo hi b : Nat) (zs : List Int) (d e : Nat) (w : World) (h : TapeAt w lo hi b zs d e) :
    Calls Try.prog 25 #[.pointer (some ⟨b, 0, none⟩)] w fun r w' => r = .returned (.int .i64 ((zs.length : Int) - d)) ∧ ∃ n, w' = w.drewN n := by
  have hl := h.len
  have H := hid h
  obtain ⟨wv, hb, hr, h3, h4, h5, h6, h7⟩ := h
  obtain ⟨a, cap, rfl, _⟩ := hr
  obtain ⟨c0, c1, c2, hz⟩ := cells3 hb
  have hl1 := hl.2.2
  clear hb hz c1 c2
  have hsub : IntKind.i64.wrap ((zs.length : Int) - d) = (zs.length : Int) - d := IntWalk.i64_in _ (by omega)
  go_enter Try.func25, Try.ntmps25
  go_wp2
  go_quiet ((go_at_call 26; exact Calls.quiet_of_same ((used_any lo hi b zs d e _ (H.out.drewN _)).mono fun _ _ ⟨a, b⟩ => ⟨a, b.symm⟩)))
  go_wp2
  go_ret
  exact ⟨rfl, _, rfl⟩

set_option maxHeartbeats 400000 in
theorem allowed_any (lo hi b : Nat) (zs : List Int) (d e : Nat) (w : World) (h : TapeAt w lo hi b zs d e) :
    Calls Try.prog 79 #[.pointer (some ⟨b, 0, none⟩)] w fun r w' => r = .returned (.int .i64 ((e : Int) - d)) ∧ ∃ n, w' = w.drewN n := by
  have hl := h.len
  have H := hid h
  obtain ⟨wv, hb, hr, h3, h4, h5, h6, h7⟩ := h
  obtain ⟨a, cap, rfl, _⟩ := hr
  obtain ⟨c0, c1, c2, hz⟩ := cells3 hb
  have hl1 := hl.2.2
  clear hb hz c1 c0
  have hsub : IntKind.i64.wrap ((e : Int) - d) = (e : Int) - d := IntWalk.i64_in _ (by omega)
  go_enter Try.func79, Try.ntmps79
  go_wp2
  go_quiet ((go_at_call 26; exact Calls.quiet_of_same ((used_any lo hi b zs d e _ (H.out.drewN _)).mono fun _ _ ⟨a, b⟩ => ⟨a, b.symm⟩)))
  go_wp2
  go_ret
  exact ⟨rfl, _, rfl⟩

theorem reserve_neg (lo hi b : Nat) (zs : List Int) (d e : Nat) (n : Int) (w : World) (_h : TapeAt w lo hi b zs d e) (hn : n < 0) :
    Calls Try.prog 7 #[.pointer (some ⟨b, 0, none⟩), .int .i64 n] w fun r w' => r = .returned (.int .i64 1) ∧ w = w' := by
  clear _h
  go_enter Try.func7, Try.ntmps7
  go_wp2
  go_ret
  exact ⟨rfl, rfl⟩

theorem reserve_over (lo hi b : Nat) (zs : List Int) (d e : Nat) (n : Int) (w : World) (h : TapeAt w lo hi b zs d e) (hn : 0 ≤ n) (ho : (zs.length : Int) - d < n) :
    Calls Try.prog 7 #[.pointer (some ⟨b, 0, none⟩), .int .i64 n] w fun r w' => r = .returned (.int .i64 2) ∧ ∃ n, w' = w.drewN n := by
  have H := hid h
  clear h
  go_enter Try.func7, Try.ntmps7
  go_wp2_with (go_at_call 25; refine (left_any lo hi b zs d e _ H.out).mono ?_; rintro r w' ⟨rfl, nq, rfl⟩)
  go_ret
  exact ⟨rfl, _, rfl⟩

theorem reserve_ok (lo hi b : Nat) (zs : List Int) (d e n : Nat) (w : World) (h : TapeAt w lo hi b zs d e) (ho : d + n ≤ zs.length) :
    Calls Try.prog 7 #[.pointer (some ⟨b, 0, none⟩), .int .i64 n] w fun r w' => r = .returned (.int .i64 0) ∧ TapeAt w' lo hi b zs d (d + n) ∧ Only b w w' := by
  have hl := h.len
  have H := hid h
  obtain ⟨wv, hb, hr, h3, h4, h5, h6, h7⟩ := h
  obtain ⟨c0, c1, c2, hz⟩ := cells3 hb
  have hz2 := hz 2
  clear hb hz c1 c0 hr
  have hn2 : ¬ ((zs.length : Int) - d < n) := by omega
  go_enter Try.func7, Try.ntmps7
  go_wp2_with (first
    | (go_at_call 25; refine (left_any lo hi b zs d e _ H.out).mono ?_; rintro r w' ⟨rfl, nq, rfl⟩)
    | (go_at_call 26; refine (used_any lo hi b zs d e _ (H.out.drewN _)).mono ?_; rintro r w' ⟨rfl, rfl⟩))
  go_ret
  exact ⟨rfl, by have := (H.out.drewN nq).setE (d + n) (by omega) (by omega); simpa using this, (Only.drewN b w nq).trans (Only.set (g := b) (w.drewN nq) (p := ⟨b, 2, none⟩) rfl _)⟩

theorem draw_none (lo hi b : Nat) (zs : List Int) (d e : Nat) (w : World) (h : TapeAt w lo hi b zs d e) (he : e ≤ d) :
    Calls Try.prog 76 #[.pointer (some ⟨b, 0, none⟩)] w fun r w' => r = .returned (.tuple #[.int .u64 0, .bool false]) ∧ ∃ n, w' = w.drewN n := by
  have hl := h.len
  have H := hid h
  clear h
  have e0 : ((e : Int) - d == 0) = true := by simp; omega
  go_enter Try.func76, Try.ntmps76
  go_wp2_with (go_at_call 79; refine (allowed_any lo hi b zs d e _ H.out).mono ?_; rintro r w' ⟨rfl, nq, rfl⟩)
  go_ret2
  exact ⟨rfl, _, rfl⟩

theorem aadd_tape (lo hi b : Nat) (zs : List Int) (d e : Nat) (w : World) (h : TapeAt w lo hi b zs d e) (he : d < e) :
    Calls Try.prog 80 #[.pointer (some ⟨b, 1, none⟩), .int .i64 1] w fun r w' => r = .returned (.int .i64 ((d : Int) + 1)) ∧ TapeAt w' lo hi b zs (d + 1) e ∧ Only b w w' ∧ w'.cell? ⟨b, 0, none⟩ = w.cell? ⟨b, 0, none⟩ := by
  have hl := h.len
  have H := hid h
  obtain ⟨wv, hb, hr, h3, h4, h5, h6, h7⟩ := h
  obtain ⟨c0, c1, c2, hz⟩ := cells3 hb
  refine (aadd_any b 1 d w c1 (hz 1) (by omega) (by omega)).mono ?_
  rintro r w' ⟨rfl, rfl⟩
  exact ⟨rfl, H.out.setD (d + 1) he, Only.set (g := b) w (p := ⟨b, 1, none⟩) rfl _, World.cell?_setCell_other _ _ _ _ (by simp)⟩

set_option maxHeartbeats 800000 in
theorem draw_some (lo hi b : Nat) (zs : List Int) (d e : Nat) (w : World) (h : TapeAt w lo hi b zs d e) (he : d < e) :
    Calls Try.prog 76 #[.pointer (some ⟨b, 0, none⟩)] w fun r w' => r = .returned (.tuple #[.int .u64 (nth zs d), .bool true]) ∧ TapeAt w' lo hi b zs (d + 1) e ∧ Only b w w' := by
  have hl := h.len
  have H := hid h
  obtain ⟨wv, hb, hr, h3, h4, h5, h6, h7⟩ := h
  obtain ⟨a, cap, rfl, hcap1, hcap2, _, _, hr0⟩ := hr
  obtain ⟨g, off, rfl, hg0, hg, hr⟩ := hr0 (by omega)
  obtain ⟨c0, c1, c2, hz⟩ := cells3 hb
  have hz1 := hz 1
  have hrd := hr d (by omega)
  have hbg : ¬ g = b := hg0.2.2
  have hbg2 : ¬ b = g := fun e => hg0.2.2 e.symm
  clear hb hz hr hr0
  have e0 : ((e : Int) - d == 0) = false := by simp; omega
  have hi0 : (0 : Int) ≤ (d : Int) := by omega
  have hi1 : (d : Int) < (zs.length : Int) := by omega
  have hw1 : IntKind.i64.wrap (d : Int) = (d : Int) := IntWalk.i64_in _ (by omega)
  go_enter Try.func76, Try.ntmps76
  go_wp2_with (go_at_call 79; refine (allowed_any lo hi b zs d e _ H.out).mono ?_; rintro r w' ⟨rfl, nq, rfl⟩)
  go_region_with (go_at_call 80; (with_reducible refine (aadd_tape lo hi b zs d e _ (H.out.drewN _) he).mono ?_); rintro r w1 ⟨rfl, ht, ho, hc1⟩; have hc01 := hc1.trans c0; have hrd1 := (ho.cell (p := ⟨g, off + d, none⟩) hg hbg).trans hrd; have HT := hid ht; have HO := hid ho.undrewN; clear ht ho hrd hc1)
  all_goals
    go_wp2
    go_ret2
    exact ⟨rfl, HT.out, HO.out⟩
end Go.Proofs.Ytffoinnllihdeaa
