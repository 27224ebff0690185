import Derived.Test.YthopdlcmmafcaaaProg
import Derived.Test.YthopdlcmmafcaaaTse
import Derived.Test.YthopdlcmmafcaaaTte
import Derived.Test.YthopdlcmmafcaaaTtc
import Derived.Test.YthopdlcmmafcaaaTla
/- Trace: the laws' cores, over what the program's functions tell. -/
namespace Go.Proofs.Ythopdlcmmafcaaa
open Go.RowKit
set_option maxRecDepth 100000
theorem rop_nil (w : World) (f : Nat → Op6) : ROp w (.slice none 0 0) 0 f := ⟨by omega, fun i hi => by omega, none, 0, rfl, by omega, by unfold maxLen; omega, fun h => by omega⟩
theorem rsp_nil (w : World) (g : Nat → Sp3) : RSp w (.slice none 0 0) 0 g := ⟨by omega, fun i hi => by omega, none, 0, rfl, by omega, by unfold maxLen; omega, fun h => by omega⟩
theorem tawake_any (w : World) : Calls Try.prog 14 #[] w fun e w' => e = .returned (.bool true) ∧ Below w.heap.size w w' := by
  have H2 : Hid (∀ w, Calls Try.prog 7 #[.agg #[.int .i64 2, .slice none 0 0, .slice none 0 0]] w fun e w' => e = .returned (.int .i64 0) ∧ Below w.heap.size w w') := hid (fun w => tcheck_any 2 (.slice none 0 0) (.slice none 0 0) 0 0 (fun _ => ⟨0, 0, 0, 0, 0, 0⟩) (fun _ => ⟨0, 0, 0⟩) w (rop_nil w _) (rsp_nil w _))
  have H0 : Hid (∀ w, Calls Try.prog 7 #[.agg #[.int .i64 0, .slice none 0 0, .slice none 0 0]] w fun e w' => e = .returned (.int .i64 4) ∧ Below w.heap.size w w') := hid (fun w => tcheck_any 0 (.slice none 0 0) (.slice none 0 0) 0 0 (fun _ => ⟨0, 0, 0, 0, 0, 0⟩) (fun _ => ⟨0, 0, 0⟩) w (rop_nil w _) (rsp_nil w _))
  go_enter Try.func14, Try.ntmps14
  go_wp2_with (first
    | (go_at_call 7; (with_reducible refine (H2.out _).mono ?_); rintro e w1 ⟨rfl, h1⟩; have G1 := hid h1; clear h1)
    | (go_at_call 7; (with_reducible refine (H0.out _).mono ?_); rintro e w2 ⟨rfl, h2⟩; have G2 := hid (G1.out.trans (h2.mono G1.out.size)); clear h2))
  go_ret
  exact ⟨rfl, G2.out⟩
theorem ttells_all (N : Int) (v0 v1 : Value) (L M : Nat) (f : Nat → Op6) (g : Nat → Sp3) (W : World) (h : ROp W v0 L f) (h' : RSp W v1 M g) :
    Calls Try.prog 3 #[trV N v0 v1] W fun e w' => e = .returned (.bool true) ∧ Below W.heap.size W w' :=
  ttells_core N v0 v1 L M f g W h h'
    (fun w hb => tcheck_any N v0 v1 L M f g w (h.self hb) (h'.self hb))
    (fun w hb => ttally_any N v0 v1 L f w (h.self hb))
    (fun w hb => tdraws_any N v0 v1 L f w (h.self hb))
    (fun w hb => twords_any N v0 v1 L f w (h.self hb))
    (fun w hb => topens_any N v0 v1 L f w (h.self hb))
    (fun w _ => tawake_any w)
theorem tcounts_all (N N' : Int) (v0 v1 v0' v1' : Value) (L M L' M' : Nat) (f f' : Nat → Op6) (g g' : Nat → Sp3) (W : World) (h : ROp W v0 L f) (h1 : RSp W v1 M g) (h' : ROp W v0' L' f') (h1' : RSp W v1' M' g') :
    Calls Try.prog 4 #[trV N v0 v1, trV N' v0' v1'] W fun e w' => e = .returned (.bool true) ∧ Below W.heap.size W w' := by
  have hl := h.lim
  obtain ⟨a, cap, rfl, _⟩ := id h.at_
  obtain ⟨a2, cap2, rfl, _⟩ := id h1.at_
  obtain ⟨a', cap', rfl, _⟩ := id h'.at_
  obtain ⟨a2', cap2', rfl, _⟩ := id h1'.at_
  exact tcounts_core N N' a a2 a' a2' L M L' M' cap cap2 cap' cap2' (tal f L) (tal f' L') (if trB N L M f g then 0 else 4) (if trB N' L' M' f' g' then 0 else 4) (saB N N' L L' M M' f f' g g') W
    (fun i _ => by have := tal_le f L i; omega) (tal_sum f L) (fun e => ⟨fun i _ => saB_tal e i, by rw [saB_trB e]⟩)
    (fun w hb => ttally_any N _ _ L f w (h.self hb))
    (fun w hb => ttally_any N' _ _ L' f' w (h'.self hb))
    (fun w hb => tsame_any N N' _ _ _ _ L L' M M' f f' g g' w (h.self hb) (h1.self hb) (h'.self hb) (h1'.self hb))
    (fun w hb => by rw [saB_symm]; exact tsame_any N' N _ _ _ _ L' L M' M f' f g' g w (h'.self hb) (h1'.self hb) (h.self hb) (h1.self hb))
    (fun w hb => by have := tsame_any N N (.slice a L cap) (.slice a2 M cap2) (.slice a L cap) (.slice a2 M cap2) L L M M f f g g w (h.self hb) (h1.self hb) (h.self hb) (h1.self hb); rw [saB_refl] at this; exact this)
    (fun w hb => tcheck_any N _ _ L M f g w (h.self hb) (h1.self hb))
    (fun w hb => tcheck_any N' _ _ L' M' f' g' w (h'.self hb) (h1'.self hb))
    (fun w _ => tawake_any w)
end Go.Proofs.Ythopdlcmmafcaaa
