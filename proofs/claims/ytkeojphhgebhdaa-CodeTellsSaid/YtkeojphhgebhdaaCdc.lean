import Derived.Test.YtkeojphhgebhdaaProg
import Derived.Test.YtkeojphhgebhdaaCdb
/- Code: left and right of a number, by the program. -/
namespace Go.Proofs.Ytkeojphhgebhdaa
open Go.RowKit

theorem behind1 (c cap : Nat) (u0 : Value) (z0 : List Int) (w : World) (h0 : w.cell? ⟨c, 0, none⟩ = some u0) (r0 : Rd .u8 w u0 z0) (hlim : z0.length ≤ 140737488355328) :
    Calls Try.prog 19 #[.slice (some ⟨c, 0, none⟩) 1 cap] w fun e w' => ConcatP w z0 e w' := by
  have h := behind_any c 0 1 cap (fun _ => u0) (fun _ => z0) w (by decide) (fun i hi => by
    obtain rfl : i = 0 := by omega
    exact h0) (fun _ _ => r0) (by simpa [cat] using hlim)
  simpa [cat] using h
theorem behind2 (c cap : Nat) (u0 u1 : Value) (z0 z1 : List Int) (w : World) (h0 : w.cell? ⟨c, 0, none⟩ = some u0) (h1 : w.cell? ⟨c, 1, none⟩ = some u1) (r0 : Rd .u8 w u0 z0) (r1 : Rd .u8 w u1 z1) (hlim : z0.length + z1.length ≤ 140737488355328) :
    Calls Try.prog 19 #[.slice (some ⟨c, 0, none⟩) 2 cap] w fun e w' => ConcatP w (z0 ++ z1) e w' := by
  have h := behind_any c 0 2 cap (fun i => if i = 0 then u0 else u1) (fun i => if i = 0 then z0 else z1) w (by decide) (fun i hi => by
    rcases (by omega : i = 0 ∨ i = 1) with rfl | rfl
    · exact h0
    · exact h1) (fun i hi => by
    rcases (by omega : i = 0 ∨ i = 1) with rfl | rfl
    · exact r0
    · exact r1) (by simpa [cat] using hlim)
  simpa [cat] using h
theorem behind3 (c cap : Nat) (u0 u1 u2 : Value) (z0 z1 z2 : List Int) (w : World) (h0 : w.cell? ⟨c, 0, none⟩ = some u0) (h1 : w.cell? ⟨c, 1, none⟩ = some u1) (h2 : w.cell? ⟨c, 2, none⟩ = some u2) (r0 : Rd .u8 w u0 z0) (r1 : Rd .u8 w u1 z1) (r2 : Rd .u8 w u2 z2)
    (hlim : z0.length + z1.length + z2.length ≤ 140737488355328) :
    Calls Try.prog 19 #[.slice (some ⟨c, 0, none⟩) 3 cap] w fun e w' => ConcatP w (z0 ++ z1 ++ z2) e w' := by
  have h := behind_any c 0 3 cap (fun i => if i = 0 then u0 else if i = 1 then u1 else u2) (fun i => if i = 0 then z0 else if i = 1 then z1 else z2) w (by decide) (fun i hi => by
    rcases (by omega : i = 0 ∨ i = 1 ∨ i = 2) with rfl | rfl | rfl
    · exact h0
    · exact h1
    · exact h2) (fun i hi => by
    rcases (by omega : i = 0 ∨ i = 1 ∨ i = 2) with rfl | rfl | rfl
    · exact r0
    · exact r1
    · exact r2) (by simpa [cat] using by omega)
  simpa [cat] using h

theorem dg_wf (n : Nat) : ∀ z ∈ dg n, (Lit.int .u8 z).wf = true := fun z hz => WalkArith.wf_u8 (dg_bytes n z hz)
/-- A cell of a block just made. -/
theorem cell_made (w : World) (cs : Array Value) (E : TypeId) (j : Nat) : (w.alloc (.cells cs E)).cell? ⟨w.heap.size, j, none⟩ = cs[j]? := by
  have e := heap_alloc_new w (.cells cs E)
  simp only [World.cell?, e]
  cases cs[j]? <;> rfl
theorem rd_one (w : World) (z : Int) (h0 : 0 ≤ z) (h1 : z ≤ 255) : Rd .u8 (w.alloc (.cells #[.int .u8 z] 5)) (.slice (some ⟨w.heap.size, 0, none⟩) 1 1) [z] :=
  rd_new w 5 [z] _ 1 rfl rfl (by show 1 * 1 ≤ _; omega) (fun y hy => by rw [List.mem_singleton] at hy; subst hy; exact WalkArith.wf_u8 ⟨h0, h1⟩)


/-- What stands behind a row's making: one byte's block, and a block of two rows. -/
theorem two_rows {B : Nat} {w : World} {p : Option Addr} {L cap n : Nat} (h : Own .u8 B 5 w (.slice p L cap) (dg n)) (hL : (dg n).length = L) (hL8 : L ≤ 8) :
    Calls Try.prog 19 #[.slice (some ⟨w.heap.size + 1, 0, none⟩) 2 2] ((w.alloc (.cells #[.int .u8 L] 5)).alloc (.cells #[.slice (some ⟨w.heap.size, 0, none⟩) 1 1, .slice p L cap] 22)) (fun e w' => ∃ v, e = .returned v ∧ Own .u8 w.heap.size 5 w' v (lef n) ∧ Below w.heap.size w w') ∧
    Calls Try.prog 19 #[.slice (some ⟨w.heap.size + 1, 0, none⟩) 2 2] ((w.alloc (.cells #[.int .u8 L] 5)).alloc (.cells #[.slice p L cap, .slice (some ⟨w.heap.size, 0, none⟩) 1 1] 22)) (fun e w' => ∃ v, e = .returned v ∧ Own .u8 w.heap.size 5 w' v (rig n) ∧ Below w.heap.size w w') := by
  have r1 := (rd_one w L (by omega) (by omega))
  have b1 : Below w.heap.size w (w.alloc (.cells #[.int .u8 L] 5)) := (Below.refl _ _).alloc (Nat.le_refl _) _
  have r2 : Rd .u8 (w.alloc (.cells #[.int .u8 L] 5)) (.slice p L cap) (dg n) := (h.rd (by rw [hL]; show L * 1 ≤ _; omega) (dg_wf n)).self b1
  have hs : (w.alloc (.cells #[.int .u8 L] 5)).heap.size = w.heap.size + 1 := by simp
  have key : ∀ cs : Array Value, Below (w.heap.size + 1) (w.alloc (.cells #[.int .u8 L] 5)) ((w.alloc (.cells #[.int .u8 L] 5)).alloc (.cells cs 22)) := fun cs => (Below.refl _ _).alloc (by rw [hs]; exact Nat.le_refl _) _
  have c1 := fun cs j => cell_made (w.alloc (.cells #[.int .u8 L] 5)) cs 22 j
  rw [hs] at c1
  refine ⟨(behind2 _ _ _ _ [(L : Int)] (dg n) _ (c1 _ 0) (c1 _ 1) (r1.below (key _) (by rw [hs]; exact Nat.le_refl _)) (r2.below (key _) (by rw [hs]; exact Nat.le_refl _)) (by rw [hL]; simp; omega)).mono ?_,
    (behind2 _ _ _ _ (dg n) [(L : Int)] _ (c1 _ 0) (c1 _ 1) (r2.below (key _) (by rw [hs]; exact Nat.le_refl _)) (r1.below (key _) (by rw [hs]; exact Nat.le_refl _)) (by rw [hL]; simp; omega)).mono ?_⟩
  · rintro e w' ⟨v, rfl, ho, hl⟩
    refine ⟨v, rfl, ?_, (b1.trans ((key _).mono (by omega))).trans (hl.mono (by simp; omega))⟩
    have : lef n = [(L : Int)] ++ dg n := by unfold lef; rw [hL]; rfl
    rw [this]
    exact own_base ho (by simp; omega)
  · rintro e w' ⟨v, rfl, ho, hl⟩
    refine ⟨v, rfl, ?_, (b1.trans ((key _).mono (by omega))).trans (hl.mono (by simp; omega))⟩
    have : rig n = dg n ++ [(L : Int)] := by unfold rig; rw [hL]
    rw [this]
    exact own_base ho (by simp; omega)

/-- What a call tells that makes a row of L numbers. -/
def RowAt (w : World) (L : Nat) (zs : List Int) (e : Ending) (w' : World) : Prop := ∃ p cap, e = .returned (.slice p L cap) ∧ Own .u8 w.heap.size 5 w' (.slice p L cap) zs ∧ Below w.heap.size w w'
theorem ConcatP.at {w w' : World} {zs : List Int} {e : Ending} {L : Nat} (h : ConcatP w zs e w') (hL : zs.length = L) : RowAt w L zs e w' := by
  obtain ⟨v, rfl, ho, hl⟩ := h
  obtain ⟨p, cap, rfl, _⟩ := ho.slice
  subst hL
  exact ⟨p, cap, rfl, ho, hl⟩

set_option maxRecDepth 100000 in
theorem left_any (n : Nat) (w : World) (hn : n < 9223372036854775808) :
    Calls Try.prog 10 #[.int .i64 (n : Int)] w fun e w' => ConcatP w (lef n) e w' := by
  obtain ⟨L, hL⟩ : ∃ L, (dg n).length = L := ⟨_, rfl⟩
  have HD := hid ((digits_any n w hn).mono fun _ _ h => h.at hL)
  have hL8 := dg_len63 hn
  rw [hL] at hL8
  have HL := hid hL
  have HL8 := hid hL8
  have hm : (L : Int) % 256 = L := by omega
  have h0 : ¬ ((n : Int) < 0) := by omega
  clear hL
  go_enter Try.func10, Try.ntmps10
  go_wp2_with (first
    | (go_at_call 21; (with_reducible refine (HD.out).mono ?_); rintro e w1 ⟨p, cap, rfl, ho, hl⟩; have HT := hid (two_rows ho HL.out HL8.out).1; have HW := hid hl; clear ho hl)
    | (go_at_call 19; (with_reducible refine (HT.out).mono ?_); rintro e w2 ⟨v, rfl, ho, hl⟩; have HO := hid ho; have HW2 := hid hl; clear ho hl))
  go_ret
  exact ⟨_, rfl, own_base HO.out HW.out.size, HW.out.trans (HW2.out.mono HW.out.size)⟩
set_option maxRecDepth 100000 in
theorem left_neg (n : Int) (w : World) (hn : n < 0) : Calls Try.prog 10 #[.int .i64 n] w fun e w' => e = .returned (.slice none 0 0) ∧ w' = w := by
  go_enter Try.func10, Try.ntmps10
  go_wp2
  go_ret
  exact ⟨rfl, rfl⟩
set_option maxRecDepth 100000 in
theorem right_any (n : Nat) (w : World) (hn : n < 9223372036854775808) :
    Calls Try.prog 12 #[.int .i64 (n : Int)] w fun e w' => ConcatP w (rig n) e w' := by
  obtain ⟨L, hL⟩ : ∃ L, (dg n).length = L := ⟨_, rfl⟩
  have HD := hid ((digits_any n w hn).mono fun _ _ h => h.at hL)
  have hL8 := dg_len63 hn
  rw [hL] at hL8
  have HL := hid hL
  have HL8 := hid hL8
  have hm : (L : Int) % 256 = L := by omega
  have h0 : ¬ ((n : Int) < 0) := by omega
  clear hL
  go_enter Try.func12, Try.ntmps12
  go_wp2_with (first
    | (go_at_call 21; (with_reducible refine (HD.out).mono ?_); rintro e w1 ⟨p, cap, rfl, ho, hl⟩; have HT := hid (two_rows ho HL.out HL8.out).2; have HW := hid hl; clear ho hl)
    | (go_at_call 19; (with_reducible refine (HT.out).mono ?_); rintro e w2 ⟨v, rfl, ho, hl⟩; have HO := hid ho; have HW2 := hid hl; clear ho hl))
  go_ret
  exact ⟨_, rfl, own_base HO.out HW.out.size, HW.out.trans (HW2.out.mono HW.out.size)⟩
set_option maxRecDepth 100000 in
theorem right_neg (n : Int) (w : World) (hn : n < 0) : Calls Try.prog 12 #[.int .i64 n] w fun e w' => e = .returned (.slice none 0 0) ∧ w' = w := by
  go_enter Try.func12, Try.ntmps12
  go_wp2
  go_ret
  exact ⟨rfl, rfl⟩
end Go.Proofs.Ytkeojphhgebhdaa
