import Derived.Test.YtfjgelialaccdaaProg
import Derived.Test.YtfjgelialaccdaaSph
/- Sponge: the chapter's examples. -/
namespace Go.Proofs.Ytfjgelialaccdaa
open Go.RowKit

theorem shaL_ex : shaL 256 [] = sumL [] 136 6 32 := by
  unfold shaL
  rw [show shaK 256 = true from rfl, if_pos rfl, show raN 256 = 136 from rfl, show (136 : Int).toNat = 136 from rfl, show ((256 : Int) / 8).toNat = 32 from rfl]
theorem skL_ex : skL 128 4 [] = [127, 156, 43, 164] := by
  unfold skL
  rw [if_pos (show chE 128 4 = 0 from rfl), show raN 128 = 168 from rfl, show (168 : Int).toNat = 168 from rfl, show (4 : Int).toNat = 4 from rfl]
  exact sxk_told
/-- A row of 32 whose first four numbers are known. -/
structure R32 (w : World) (b off cap : Nat) : Prop where
  c0 : w.cell? ⟨b, off, none⟩ = some (.int .u8 167)
  c1 : w.cell? ⟨b, off + 1, none⟩ = some (.int .u8 255)
  c2 : w.cell? ⟨b, off + 2, none⟩ = some (.int .u8 198)
  c3 : w.cell? ⟨b, off + 3, none⟩ = some (.int .u8 248)
theorem r32_of {w : World} {u : Value} (h : Rd .u8 w u (shaL 256 [])) : ∃ b off cap, u = .slice (some ⟨b, off, none⟩) 32 cap ∧ R32 w b off cap ∧ b < w.heap.size := by
  rw [shaL_ex, sxa_told] at h
  obtain ⟨a, cap, rfl, _, _, hc⟩ := h
  obtain ⟨b, off, rfl, hb, hc⟩ := hc (by decide)
  exact ⟨b, off, cap, rfl, ⟨hc 0 (by decide), hc 1 (by decide), hc 2 (by decide), hc 3 (by decide)⟩, hb⟩
theorem R32.self {w w' : World} {b off cap : Nat} (h : R32 w b off cap) (hl : Below w.heap.size w w') : R32 w' b off cap :=
  ⟨ccell_self h.c0 hl, ccell_self h.c1 hl, ccell_self h.c2 hl, ccell_self h.c3 hl⟩
abbrev exC : Array Value := #[.int .u8 127, .int .u8 156, .int .u8 43, .int .u8 164]
set_option maxRecDepth 100000 in
theorem sawake_any (w : World) : Calls Try.prog 6 #[] w fun e w' => e = .returned (.bool true) ∧ Below w.heap.size w w' := by
  have H1 := hid (ssha_i 256 (.slice none 0 0) [] w (rdc_nil w) (by decide))
  have H2 := hid (fun w => sshake_i 128 4 (.slice none 0 0) [] w (rdc_nil w) (by decide))
  rw [skL_ex] at H2
  have e1 : shaE 256 = 0 := rfl
  have e2 : chE 128 4 = 0 := rfl
  rw [e1] at H1
  rw [e2] at H2
  clear e1 e2
  go_enter Try.func6, Try.ntmps6
  go_wp2_with (first
    | (go_at_call 15; (with_reducible refine (H1.out).mono ?_); rintro e w1 ⟨v1, rfl, hr1, hl1⟩; obtain ⟨b, off, cap, rfl, hr, _⟩ := r32_of hr1; have HR := hid hr; have HL1 := hid hl1; clear hl1 hr1 hr)
    | (go_at_call 16; (with_reducible refine (H2.out _).mono ?_); rintro e w2 ⟨v2, rfl, hr2, hl2⟩; obtain ⟨c0, c1, c2, c3⟩ := HR.out.self hl2; have k1 := run_conv_rd (P := Try.prog) hr2 Try.underlying22 Try.underlying5 9 Try.underlying9; have k2 := run_conv_rd (P := Try.prog) (rd_new (k := .u8) w2 5 [127, 156, 43, 164] exC 4 rfl rfl (by decide) (by decide)) Try.underlying22 Try.underlying5 9 Try.underlying9; have HL2 := hid ((HL1.out.trans (hl2.mono HL1.out.size)).alloc (Nat.le_trans HL1.out.size hl2.size) (.cells exC 5)); clear hl2 hr2))
  generalize strOfNums [127, 156, 43, 164] = st at *
  go_wp2
  go_ret
  exact ⟨rfl, HL2.out⟩
end Go.Proofs.Ytfjgelialaccdaa
