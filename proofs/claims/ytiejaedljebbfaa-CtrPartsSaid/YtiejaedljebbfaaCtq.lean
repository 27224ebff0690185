import Derived.Test.YtiejaedljebbfaaProg
import Derived.Test.YtiejaedljebbfaaCtp
/- CtrParts: a begin, or a cut, that may not be. -/
namespace Go.Proofs.Ytiejaedljebbfaa
open Go.RowKit
set_option maxRecDepth 100000

/-- One box at a law's start. -/
structure Bx1 (w w0 : World) (k : Nat → Nat) : Prop where
  key : At w0 w.heap.size 16 39 k
  low : Below w.heap.size w w0
theorem Bx1.start (w : World) (k : Nat → Nat) : Bx1 w (w.alloc (.cells (ba 16 k) 39)) k := ⟨At.new w 16 39 k, (Below.refl _ w).alloc (Nat.le_refl _) _⟩

set_option maxHeartbeats 12800000 in
theorem parts_bad (κ : Nat → Nat) (bc dc Lb M : Nat) (n : Int) (ba_ da : Option Addr) (w : World) (hκ : ∀ i, i < 16 → κ i < 256) (hc : Lb = 16 ∧ n < 0 ∨ Lb ≠ 16) (hM : M ≤ dc) :
    Calls Try.prog 5 #[.agg (ba 16 κ), .slice ba_ Lb bc, .slice da M dc, .int .i64 n] w fun e w' => e = .returned (.bool true) ∧ Below w.heap.size w w' := by
  have HX := hid (Bx1.start w κ)
  obtain ⟨Y, hky⟩ := ky_box HX.out.key hκ
  have HN := hid (hky.new _ (Below.refl _ _))
  unfold NewD at HN
  have hP : ∀ m : Nat, m ≤ 65536 → ckr Lb (outp n m) = if Lb = 16 then 1 else 5 := fun m hm => by
    rcases hc with ⟨h1, h2⟩ | h1
    · subst h1; rw [if_pos rfl]; unfold outp; rw [decide_eq_true h2]; rfl
    · rw [if_neg h1]; exact ckr_len h1 _
  have HP := hid (fun d m mc (hm : m ≤ 65536) w => by
    have := part_bad (.pointer (some ⟨d, 0, none⟩)) ba_ da Lb bc m mc n w (by rw [hP m hm]; split <;> decide)
    rw [hP m hm] at this; exact this)
  unfold none2 at HP
  clear hκ hky hP
  by_cases h300 : M > 300
  · have h1 : (M : Int) > 300 := by omega
    have h2 : (300 : Int) ≤ dc := by omega
    clear h300 hM
    rcases hc with ⟨rfl, hn⟩ | hl
    · have HQ := hid (fun d w => HP.out d 300 dc (by decide) w)
      rw [if_pos rfl] at HQ
      go_enter Try.func5, Try.ntmps5
      go_wp2_with (first
        | (go_at_call 8; (with_reducible refine HN.out.mono ?_); rintro e w1 ⟨d, b, c, cap, rfl, hci, hb, hlow⟩
           have HL1 : Hid (Lw b w w1) := hid ⟨HX.out.low.trans (hlow.mono HX.out.low.size), Nat.le_trans HX.out.low.size hb, hci.box.lt⟩
           clear hci hb hlow)
        | (go_at_call 17; (with_reducible refine (HQ.out d w1).mono ?_); rintro e w1 ⟨rfl, rfl⟩)
        | (go_at_call 7; (with_reducible refine (ctrAwake_any w1).mono ?_); rintro e w9 ⟨rfl, hlow⟩; have HL9 := hid (HL1.out.self hlow); clear hlow))
      go_ret
      exact ⟨rfl, HL9.out.low⟩
    · have HQ := hid (fun d w => HP.out d 300 dc (by decide) w)
      rw [if_neg hl] at HQ
      have hl1 : ¬ ((Lb : Int) = 16) := by omega
      have hl2 : ((Lb : Int) != 16) = true := by rw [bne_iff_ne]; exact hl1
      clear hl
      go_enter Try.func5, Try.ntmps5
      go_wp2_with (first
        | (go_at_call 8; (with_reducible refine HN.out.mono ?_); rintro e w1 ⟨d, b, c, cap, rfl, hci, hb, hlow⟩
           have HL1 : Hid (Lw b w w1) := hid ⟨HX.out.low.trans (hlow.mono HX.out.low.size), Nat.le_trans HX.out.low.size hb, hci.box.lt⟩
           clear hci hb hlow)
        | (go_at_call 17; (with_reducible refine (HQ.out d w1).mono ?_); rintro e w1 ⟨rfl, rfl⟩)
        | (go_at_call 7; (with_reducible refine (ctrAwake_any w1).mono ?_); rintro e w9 ⟨rfl, hlow⟩; have HL9 := hid (HL1.out.self hlow); clear hlow))
      go_ret
      exact ⟨rfl, HL9.out.low⟩
  · have h1 : ¬ (M : Int) > 300 := by omega
    have HQ := hid (fun d w => HP.out d M dc (by omega) w)
    clear h300 hM
    rcases hc with ⟨rfl, hn⟩ | hl
    · rw [if_pos rfl] at HQ
      go_enter Try.func5, Try.ntmps5
      go_wp2_with (first
        | (go_at_call 8; (with_reducible refine HN.out.mono ?_); rintro e w1 ⟨d, b, c, cap, rfl, hci, hb, hlow⟩
           have HL1 : Hid (Lw b w w1) := hid ⟨HX.out.low.trans (hlow.mono HX.out.low.size), Nat.le_trans HX.out.low.size hb, hci.box.lt⟩
           clear hci hb hlow)
        | (go_at_call 17; (with_reducible refine (HQ.out d w1).mono ?_); rintro e w1 ⟨rfl, rfl⟩)
        | (go_at_call 7; (with_reducible refine (ctrAwake_any w1).mono ?_); rintro e w9 ⟨rfl, hlow⟩; have HL9 := hid (HL1.out.self hlow); clear hlow))
      go_ret
      exact ⟨rfl, HL9.out.low⟩
    · rw [if_neg hl] at HQ
      have hl1 : ¬ ((Lb : Int) = 16) := by omega
      have hl2 : ((Lb : Int) != 16) = true := by rw [bne_iff_ne]; exact hl1
      clear hl
      go_enter Try.func5, Try.ntmps5
      go_wp2_with (first
        | (go_at_call 8; (with_reducible refine HN.out.mono ?_); rintro e w1 ⟨d, b, c, cap, rfl, hci, hb, hlow⟩
           have HL1 : Hid (Lw b w w1) := hid ⟨HX.out.low.trans (hlow.mono HX.out.low.size), Nat.le_trans HX.out.low.size hb, hci.box.lt⟩
           clear hci hb hlow)
        | (go_at_call 17; (with_reducible refine (HQ.out d w1).mono ?_); rintro e w1 ⟨rfl, rfl⟩)
        | (go_at_call 7; (with_reducible refine (ctrAwake_any w1).mono ?_); rintro e w9 ⟨rfl, hlow⟩; have HL9 := hid (HL1.out.self hlow); clear hlow))
      go_ret
      exact ⟨rfl, HL9.out.low⟩
end Go.Proofs.Ytiejaedljebbfaa
