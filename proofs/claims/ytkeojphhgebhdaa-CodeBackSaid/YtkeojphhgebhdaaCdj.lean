import Derived.Test.YtkeojphhgebhdaaProg
import Derived.Test.YtkeojphhgebhdaaCdi
/- Code: Pad by the document. -/
namespace Go.Proofs.Ytkeojphhgebhdaa
open Go.RowKit

/-- The length of a slice. -/
def lenV : Value → Nat
  | .slice _ n _ => n
  | _ => 0
/-- k zeros are put behind. -/
structure RpI (w wr : World) (xs : List Int) (v : Value) (k : Nat) : Prop where
  own : Own .u8 w.heap.size 5 wr v (xs ++ List.replicate k 0)
  low : Below w.heap.size w wr
theorem RpI.step {w w' : World} {xs : List Int} {v' : Value} {k : Nat} (ho : Own .u8 w.heap.size 5 w' v' (xs ++ List.replicate k 0 ++ [(0 : Int)])) (hl : Below w.heap.size w w') : RpI w w' xs v' (k + 1) :=
  ⟨by rw [List.replicate_succ', ← List.append_assoc]; exact ho, hl⟩

set_option maxRecDepth 100000 in
set_option maxHeartbeats 800000 in
theorem refpad_good (v : Value) (zs : List Int) (n : Nat) (w : World) (h : Rd .u8 w v zs) (h1 : 1 ≤ n) (h2 : n ≤ 1000) :
    Calls Try.prog 7 #[v, .int .i64 (n : Int)] w fun e w' => PadP w zs n e w' := by
  have h47 := len47 h
  obtain ⟨W, hW⟩ : ∃ W, (lef n).length = W := ⟨_, rfl⟩
  have HL := hid (refleft_any n w (by omega))
  have hle := lef_le (show n < 9223372036854775808 by omega)
  obtain ⟨M, hM⟩ : ∃ M, mis (W + zs.length) n = M := ⟨_, rfl⟩
  have hMl : M < n := by rw [← hM]; exact mis_lt h1
  have HP : Hid (pd zs n = lef n ++ zs ++ List.replicate M 0) := hid (by unfold pd; rw [hW, hM])
  have HMis : Hid (∀ k, k ≤ M → ((W + zs.length + k) % n = 0 ↔ k = M)) := hid fun k hk => by
    have := mis_at (n := W + zs.length) (w := n) (k := k) h1 (by rw [hM]; exact hk)
    rw [hM] at this
    exact this
  have HLe := hid hle
  have HR := hid h
  have HN : Hid (1 ≤ n ∧ n ≤ 1000 ∧ M ≤ 1000) := hid ⟨h1, h2, by omega⟩
  rw [hW] at hle
  have HXL : Hid ((lef n ++ zs).length = W + zs.length) := hid (by rw [List.length_append, hW])
  obtain ⟨a, cap, rfl, _⟩ := h
  obtain ⟨L, hL⟩ : ∃ L, zs.length = L := ⟨_, rfl⟩
  rw [hL] at HR h47 hM HXL HMis ⊢
  have H47 : Hid ((lef n).length + zs.length ≤ 140737488351232 + 9) := hid (by omega)
  obtain ⟨S, hS⟩ : ∃ S, W + L = S := ⟨_, rfl⟩
  rw [hS] at HXL HMis
  have g1 : ¬ ((n : Int) < 1) := by omega
  have g2 : ¬ (1000 < (n : Int)) := by omega
  have g0 : ¬ ((n : Int) = 0) := by omega
  have HS : Hid (S ≤ 140737488351241) := hid (by omega)
  clear hM hS hL hW
  go_enter Try.func7, Try.ntmps7
  go_wp2_with (first
    | (go_at_call 11; (with_reducible refine (HL.out).mono ?_); rintro e w1 ⟨v1, rfl, ho, hl⟩; have HO := hid ho; have HW := hid hl; clear ho hl)
    | (at_builtin; refine wpList_append_rd rfl (.tmp 14) (.tmp 15) 22 rfl .u8 w.heap.size 5 Try.underlying22 infob (by decide) _ _ rfl HO.out _ _ rfl (HR.out.self HW.out) (by have := H47.out; show (_ + _) * 1 ≤ _; omega) HW.out.size w.heap.size w HW.out (Nat.le_refl _) ?_; intro v' w' hown' hlow' _; have HI : Hid (RpI w w' (lef n ++ zs) v' 0) := hid ⟨by simpa using hown', hlow'⟩; clear hown' hlow'))
  obtain ⟨X, hX⟩ : ∃ X, X = lef n ++ zs := ⟨_, rfl⟩
  rw [← hX] at HI HP HXL
  clear hX HLe H47
  go_loopw [6] (fun v wr => ∃ k : Nat, k ≤ M ∧ RpI w wr X v k) (fun v _ => S + M - lenV v)
  case atStart => exact ⟨0, by omega, HI.out⟩
  case round =>
    obtain ⟨k, hk, hI⟩ := hrel
    have HI := hid hI
    obtain ⟨p, cp, rfl, _⟩ := hI.own.slice
    have HKM := hid (HMis.out k hk)
    have HLen : Hid ((X ++ List.replicate k 0).length = S + k) := hid (by rw [List.length_append, HXL.out, List.length_replicate])
    obtain ⟨T, hT⟩ : ∃ T, (X ++ List.replicate k (0 : Int)).length = T := ⟨_, rfl⟩
    have hTS : T = S + k := by rw [← hT]; exact HLen.out
    rw [hT] at HI ⊢
    have HTL := hid hT
    clear hI hT
    by_cases hlt : k < M
    · have hne : ¬ (T % n = 0) := by rw [hTS, HKM.out]; omega
      obtain ⟨r, hr⟩ : ∃ r, T % n = r := ⟨_, rfl⟩
      rw [hr] at hne
      have e1 : (T : Int).tmod (n : Int) = (r : Int) := by rw [← hr]; rfl
      have e2 : (T : Int) % (n : Int) = (r : Int) := by rw [← hr]; rfl
      have e3 : ¬ ((r : Int) = 0) := by omega
      have e4 : ((r : Int) != 0) = true := by simpa using e3
      have HT := hid hTS
      have HLim : Hid (((X ++ List.replicate k (0 : Int)).length + 1) * (IntKind.u8.bits / 8) ≤ 140737488355328) := hid (by have := HTL.out; have := HT.out; have := HS.out; have := HN.out; show (_ + 1) * 1 ≤ _; omega)
      have HSz : Hid (w.heap.size ≤ (wr.alloc (.cells #[.int .u8 0] 5)).heap.size) := hid (by have := HI.out.low.size; simp; omega)
      clear hTS hr
      go_wp2_with (first
        | (at_builtin; refine wpList_append_ints rfl (.tmp 22) (.tmp 23) 22 rfl .u8 w.heap.size 5 Try.underlying22 infob (by decide) _ _ rfl (HI.out.own.alloc _) ⟨wr.heap.size, 0, none⟩ 1 1 [(0 : Int)] rfl rfl (cell_new_int wr .u8 0 5) HLim.out HSz.out w.heap.size w (HI.out.low.alloc (HI.out.low.size) _) (Nat.le_refl _) ?_; intro v' w' hown' hlow' _; have HI2 := hid (RpI.step hown' hlow'); clear hown' hlow'))
      go_roundw
      case rel => exact ⟨k + 1, hlt, HI2.out⟩
      case measure =>
        obtain ⟨p2, cp2, e, _⟩ := HI2.out.own.slice
        have h3 : (X ++ List.replicate (k + 1) (0 : Int)).length = S + (k + 1) := by rw [List.length_append, HXL.out, List.length_replicate]
        rw [h3] at e
        subst e
        have := HT.out
        simp [lenV]
        omega
    · obtain rfl : k = M := by omega
      have h0 : T % n = 0 := by rw [hTS, HKM.out]
      clear hTS
      have e1 : (T : Int).tmod (n : Int) = 0 := by have : (T : Int).tmod (n : Int) = ((T % n : Nat) : Int) := rfl
                                                   rw [this, h0]; rfl
      have e2 : (T : Int) % (n : Int) = 0 := by omega
      have e3 : ((0 : Int) != 0) = false := rfl
      clear h0
      go_wp2
      go_ret2
      exact ⟨HI.out.low, .inl ⟨n, _, rfl, HN.out.1, HN.out.2.1, rfl, by rw [HP.out]; exact HI.out.own⟩⟩
end Go.Proofs.Ytkeojphhgebhdaa
