import Derived.Test.YtffoinnllihdeaaTas
import Derived.Deep.DeepMust
namespace Go.Proofs.Ytffoinnllihdeaa
open Go.RowKit

def CloneRes (w : World) (zs : List Int) (d e : Nat) (r : Ending) (w' : World) : Prop := ∃ b, r = .returned (.pointer (some ⟨b, 0, none⟩)) ∧ TapeAt w' w.heap.size w'.heap.size b zs d e ∧ Below w.heap.size w w'

theorem TapeAt.fill {w : World} {lo hi b : Nat} {zs : List Int} (h : TapeAt w lo hi b zs 0 0) (d e : Nat) (hd : d ≤ e) (he : e ≤ zs.length) :
    TapeAt ((w.setCell ⟨b, 1, none⟩ (.int .i64 d)).setCell ⟨b, 2, none⟩ (.int .i64 e)) lo hi b zs d e := by
  obtain ⟨wv, hb, hr, h3, h4, h5, h6, h7⟩ := h
  have o1 : Only b w (w.setCell ⟨b, 1, none⟩ (.int .i64 d)) := Only.set (g := b) w (p := ⟨b, 1, none⟩) rfl _
  have o2 : Only b (w.setCell ⟨b, 1, none⟩ (.int .i64 d)) ((w.setCell ⟨b, 1, none⟩ (.int .i64 d)).setCell ⟨b, 2, none⟩ (.int .i64 e)) := Only.set (g := b) _ (p := ⟨b, 2, none⟩) rfl _
  exact ⟨wv, set3_2 (set3_1 hb), hr.only (o1.trans o2) (fun g hg => hg.2.2), hd, he, h5, h6, by simpa [World.setCell] using h7⟩

theorem TapeAt.hi_eq {w : World} {lo hi hi' b : Nat} {zs : List Int} {d e : Nat} (h : TapeAt w lo hi b zs d e) (q : hi = hi') : TapeAt w lo hi' b zs d e := q ▸ h

end Go.Proofs.Ytffoinnllihdeaa
