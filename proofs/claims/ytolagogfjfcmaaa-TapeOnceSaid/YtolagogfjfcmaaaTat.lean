import Derived.Test.YtolagogfjfcmaaaTas
import Derived.Deep.DeepMust
namespace Go.Proofs.Ytolagogfjfcmaaa
open Go.RowKit

def CloneRes (w : World) (zs : List Int) (d e : Nat) (r : Ending) (w' : World) : Prop := ∃ b, r = .returned (.pointer (some ⟨b, 0, none⟩)) ∧ TapeAt w' w.heap.size w'.heap.size b zs d e ∧ Below w.heap.size w w'

theorem TapeAt.fill {w : World} {lo hi b : Nat} {zs : List Int} (h : TapeAt w lo hi b zs 0 0) (d e : Nat) (hd : d ≤ e) (he : e ≤ zs.length) :
    TapeAt ((w.setCell ⟨b, 1, none⟩ (.int .i64 d)).setCell ⟨b, 2, none⟩ (.int .i64 e)) lo hi b zs d e := by
  obtain ⟨wv, hb, hr, h3, h4, h5, h6, h7⟩ := h
  have o1 : Only b w (w.setCell ⟨b, 1, none⟩ (.int .i64 d)) := Only.set (g := b) w (p := ⟨b, 1, none⟩) rfl _
  have o2 : Only b (w.setCell ⟨b, 1, none⟩ (.int .i64 d)) ((w.setCell ⟨b, 1, none⟩ (.int .i64 d)).setCell ⟨b, 2, none⟩ (.int .i64 e)) := Only.set (g := b) _ (p := ⟨b, 2, none⟩) rfl _
  exact ⟨wv, set3_2 (set3_1 hb), hr.only (o1.trans o2) (fun g hg => hg.2.2), hd, he, h5, h6, by simpa [World.setCell] using h7⟩

theorem TapeAt.hi_eq {w : World} {lo hi hi' b : Nat} {zs : List Int} {d e : Nat} (h : TapeAt w lo hi b zs d e) (q : hi = hi') : TapeAt w lo hi' b zs d e := q ▸ h

set_option maxHeartbeats 800000 in
theorem tclone_any (lo hi b : Nat) (zs : List Int) (d e : Nat) (w : World) (h : TapeAt w lo hi b zs d e) :
    Calls Try.prog 10 #[.pointer (some ⟨b, 0, none⟩)] w (CloneRes w zs d e) := by
  have hl := h.len
  have hlt := h.lt
  have H := hid h
  obtain ⟨wv, hb, hr, h3, h4, h5, h6, h7⟩ := h
  have HR := hid hr.rd
  obtain ⟨c0, c1, c2, hz⟩ := cells3 hb
  clear hr hz
  have C1 := hid c1
  have C2 := hid c2
  clear hb c1 c2
  go_enter Try.func10, Try.ntmps10
  go_wp2_with (go_at_call 11; go_must (refine (new_any wv zs _ HR.out).mono ?_; rintro r w1 ⟨b', rfl, ht, hlow⟩; have HT := hid ht; have hlt' := ht.lt; have hs := hlow.size; have HB := hid hlow; obtain ⟨wv', hb', hr', _⟩ := ht; obtain ⟨e0, e1, e2, ez⟩ := cells3 hb'; have E1 := hid e1; have ez1 := ez 1; have ez2 := ez 2; have D1 := hid ((hlow.cell (p := ⟨b, 1, none⟩) (by simp; omega)).trans C1.out); have d2 := (hlow.cell (p := ⟨b, 2, none⟩) (by simp; omega)).trans C2.out; have hbb : ¬ b' = b := (by omega); have hbb2 : ¬ b = b' := (by omega); clear hlow hb' hr' ez e0 e1))
  go_region_with (first
    | (go_at_call 16; (with_reducible refine (aload_any b 1 d _ ?_).mono ?_); exact D1.out; rintro r w2 ⟨rfl, rfl⟩)
    | (go_at_call 17; (with_reducible refine (astore_any b' 1 0 d _ ?_ ?_).mono ?_); exact E1.out; exact ez1; rintro r w2 ⟨rfl, rfl⟩))
  all_goals
    go_wp2
    go_ret
    refine ⟨b', rfl, ?_, ((HB.out.drew.setCell (p := ⟨b', 1, none⟩) hlt'.1 _).setCell (p := ⟨b', 2, none⟩) hlt'.1 _)⟩
    exact (HT.out.drew.fill d e h3 h4).hi_eq (by simp [World.setCell])
end Go.Proofs.Ytolagogfjfcmaaa
