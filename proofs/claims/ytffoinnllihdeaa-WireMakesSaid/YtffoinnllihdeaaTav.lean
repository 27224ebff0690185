import Derived.Test.YtffoinnllihdeaaTau
namespace Go.Proofs.Ytffoinnllihdeaa
open Go.RowKit

def resCode (left n : Int) : Int := if n < 0 then 1 else if left < n then 2 else 0
def resE (d e : Nat) (left n : Int) : Nat := if n < 0 ∨ left < n then e else d + n.toNat
def drawW (zs : List Int) (d e : Nat) : Int := if d < e then nth zs d else 0
def drawB (d e : Nat) : Bool := decide (d < e)
def drawD (d e : Nat) : Nat := if d < e then d + 1 else d

theorem reserve_okI (lo hi b : Nat) (zs : List Int) (d e : Nat) (n : Int) (w : World) (h : TapeAt w lo hi b zs d e) (hn : 0 ≤ n) (ho : (d : Int) + n ≤ zs.length) :
    Calls Try.prog 7 #[.pointer (some ⟨b, 0, none⟩), .int .i64 n] w fun r w' => r = .returned (.int .i64 0) ∧ TapeAt w' lo hi b zs d (d + n.toNat) ∧ Only b w w' := by
  obtain ⟨k, rfl⟩ := Int.eq_ofNat_of_zero_le hn
  exact reserve_ok lo hi b zs d e k w h (by omega)

theorem reserve_any (lo hi b : Nat) (zs : List Int) (d e : Nat) (n : Int) (w : World) (h : TapeAt w lo hi b zs d e) :
    Calls Try.prog 7 #[.pointer (some ⟨b, 0, none⟩), .int .i64 n] w fun r w' => r = .returned (.int .i64 (resCode ((zs.length : Int) - d) n)) ∧ TapeAt w' lo hi b zs d (resE d e ((zs.length : Int) - d) n) ∧ Only b w w' := by
  unfold resCode resE
  by_cases h1 : n < 0
  · simp only [h1, if_true, true_or]
    refine (reserve_neg lo hi b zs d e n w h h1).mono ?_
    rintro r w' ⟨rfl, rfl⟩
    exact ⟨rfl, h, Only.refl _ _⟩
  · by_cases h2 : (zs.length : Int) - d < n
    · simp only [h1, h2, if_true, if_false, or_true]
      refine (reserve_over lo hi b zs d e n w h (by omega) h2).mono ?_
      rintro r w' ⟨rfl, k, rfl⟩
      exact ⟨rfl, h.drewN k, Only.drewN _ _ _⟩
    · simp only [h1, h2, if_false, or_false]
      exact reserve_okI lo hi b zs d e n w h (by omega) (by omega)

theorem draw_any (lo hi b : Nat) (zs : List Int) (d e : Nat) (w : World) (h : TapeAt w lo hi b zs d e) :
    Calls Try.prog 76 #[.pointer (some ⟨b, 0, none⟩)] w fun r w' => r = .returned (.tuple #[.int .u64 (drawW zs d e), .bool (drawB d e)]) ∧ TapeAt w' lo hi b zs (drawD d e) e ∧ Only b w w' := by
  unfold drawW drawB drawD
  by_cases h1 : d < e
  · simp only [h1, if_true, decide_true]
    exact draw_some lo hi b zs d e w h h1
  · simp only [h1, if_false, decide_false]
    refine (draw_none lo hi b zs d e w h (by omega)).mono ?_
    rintro r w' ⟨rfl, k, rfl⟩
    exact ⟨rfl, h.drewN k, Only.drewN _ _ _⟩

theorem mdraw_any (lo hi m : Nat) (zs : List Int) (d e : Nat) (w : World) (h : ModelAt w lo hi m (zs.drop d) d (e - d)) (he : e ≤ zs.length) (hl : zs.length ≤ 17592186043904) :
    Calls Try.prog 58 #[.pointer (some ⟨m, 0, none⟩)] w fun r w' => r = .returned (.tuple #[.int .u64 (drawW zs d e), .bool (drawB d e)]) ∧ ModelAt w' lo hi m (zs.drop (drawD d e)) (drawD d e) (e - drawD d e) ∧ Only m w w' := by
  unfold drawW drawB drawD
  by_cases h1 : d < e
  · simp only [h1, if_true, decide_true]
    have hdr : zs.drop d = nth zs d :: zs.drop (d + 1) := by rw [List.drop_eq_getElem_cons (by omega), nth_of (by omega)]
    have hee : e - d = (e - (d + 1)) + 1 := by omega
    rw [hdr, hee] at h
    exact mdraw_some lo hi m _ _ d _ w h (by omega) (by omega)
  · simp only [h1, if_false, decide_false]
    refine (mdraw_none lo hi m _ d _ w h (by omega)).mono ?_
    rintro r w' ⟨rfl, rfl⟩
    exact ⟨rfl, h, Only.refl _ _⟩

theorem drawD_le {d e : Nat} (h : d ≤ e) : d ≤ drawD d e ∧ drawD d e ≤ e := by unfold drawD; split <;> omega

end Go.Proofs.Ytffoinnllihdeaa
