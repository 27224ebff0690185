import Derived.Test.YthhkhcacljgelaaProg
import Derived.Test.YthhkhcacljgelaaEac
/- A key for New alone; the chapter's example. -/
namespace Go.Proofs.Ythhkhcacljgelaa
open Go.RowKit
set_option maxRecDepth 100000

/-- New of a key that may be, in all that comes after w. -/
structure Kn (w : World) (v : Value) (R R1 : Nat) (Y : Nat → Nat → Nat) : Prop where
  num : R1 = R + 1 ∧ 0 < R ∧ R ≤ 1000
  yb : YB Y R
  new : ∀ W, Below w.heap.size w W → NewD v R1 Y W
theorem kn_wd {w : World} {g : Nat} {k : Nat → Nat} (hk : ∀ x, k x < 256) (hA : Wd w 16 g 0 k) : Kn w (.slice (some ⟨g, 0, none⟩) 16 16) 10 11 (rkey 4 k 40) :=
  ⟨⟨rfl, by decide, by decide⟩, fun r _ m _ => rkey_lt hk 40 r m, fun w' h => new_ok g 0 16 4 16 10 11 44 40 k w' rfl rfl rfl rfl rfl (by decide) (by decide) (by decide) (by decide) (by decide) (by decide) hk (hA.self h)⟩
theorem kn_box {w : World} {g : Nat} {k : Nat → Nat} (hA : At w g 16 22 k) (hk : ∀ i, i < 16 → k i < 256) : ∃ Y, Kn w (.slice (some ⟨g, 0, none⟩) 16 16) 10 11 Y :=
  ⟨_, kn_wd (k := fun x => if x < 16 then k x else 0) (fun x => by show (if x < 16 then k x else 0) < 256; split; exact hk x (by assumption); decide) ((Wd.of_at hA hk).ext fun j hj => (if_pos hj).symm)⟩
theorem esl_9 (d b c cap R R1 : Nat) (Y ν : Nat → Nat → Nat) (w : World) (h : Gc w d b c cap R R1 Y) :
    Calls Try.prog 6 #[.pointer (some ⟨d, 0, none⟩), .slice none 0 0, .slice none 0 0, .slice none 0 0, .int .i64 9] w fun q w' =>
      ∃ ua uc g, q = .returned (.tuple #[.slice ua 0 uc, .slice (some ⟨g, 0, none⟩) 9 9, .int .i64 0]) ∧ Only b w w' := by
  refine (esl_any d b c cap R R1 0 0 0 0 0 0 9 Y (ν 0) (ν 0) (ν 0) none none none w h (mg_none b w _) (mg_none b w _) (mg_none b w _) (by decide)).mono ?_
  rintro q w' ⟨ua, uc, g, rfl, hs⟩
  exact ⟨ua, uc, g, rfl, hs.low⟩
set_option maxHeartbeats 1600000 in
theorem eawake_any (w : World) : Calls Try.prog 4 #[] w fun e w' => e = .returned (.bool true) ∧ Below w.heap.size w w' := by
  have hmk : (Instr.makeSlice 23 (.int .i64 16) (.int .i64 16)).run Try.prog w = .ok (.slice (some ⟨w.heap.size, 0, none⟩) 16 16) (w.alloc (.cells (madeCells #[.int .u8 0] 16) 5)) := run_make_ints (P := Try.prog) w .u8 .i64 23 5 16 Try.underlying23 info8 (by simp [IntKind.bits]) (by decide)
  have hm : madeCells #[.int .u8 0] 16 = ba 16 (fun _ => 0) := by kernel_rfl
  rw [hm] at hmk
  have HL0 : Hid (Below w.heap.size w (w.alloc (.cells (ba 16 (fun _ => 0)) 5))) := hid ((Below.refl _ _).alloc (Nat.le_refl _) _)
  have hkn := kn_wd (k := fun _ => 0) (fun _ => by decide) (Wd.of_at (At.new w 16 5 (fun _ => 0)) B16.zero)
  have HN := hid (hkn.new _ (Below.refl _ _))
  unfold NewD at HN
  generalize rkey 4 (fun _ => 0) 40 = Y at *
  clear hkn hm
  go_enter Try.func4, Try.ntmps4
  go_wp2_with (first
    | (go_at_call 5; (with_reducible refine HN.out.mono ?_); rintro e w1 ⟨d, b, c, cap, rfl, hci, hb, hlow⟩
       have HL1 := hid (HL0.out.trans (hlow.mono HL0.out.size))
       have HBB := hid (Nat.le_trans HL0.out.size hb)
       have HS := hid (esl_9 d b c cap 10 11 Y (fun _ _ => 0) w1 ⟨by decide, hci⟩)
       clear hci hb hlow)
    | (go_at_call 6; (with_reducible refine HS.out.mono ?_); rintro e w2 ⟨ua, uc, g, rfl, ho⟩
       have HL2 := hid (HL1.out.trans (ho.below HBB.out HL1.out.size))
       clear ho))
  go_ret
  exact ⟨rfl, HL2.out⟩
end Go.Proofs.Ythhkhcacljgelaa
