import Derived.Test.YthkanhhpkaigoaaProg
import Derived.Test.YthkanhhpkaigoaaAew
import Derived.Test.YthkanhhpkaigoaaAef
import Derived.Test.YthkanhhpkaigoaaAei
namespace Go.Proofs.Ythkanhhpkaigoaa
open Go.RowKit

/-- The example's key and block on their way. -/
structure AW (w wr : World) (j : Nat) : Prop where
  key : At wr w.heap.size 16 23 (upF exK j)
  blk : At wr (w.heap.size + 1) 16 23 (upF exF j)
  low : Below w.heap.size w wr
theorem AW.start (w : World) : AW w ((((w.alloc (.cells (ba 16 (fun _ => 0)) 23)).alloc (.cells (ba 16 (fun _ => 0)) 23)).setRow w.heap.size (ba 16 (fun _ => 0))).setRow (w.heap.size + 1) (ba 16 (fun _ => 0))) 0 := by
  have h1 := At.new w 16 23 (fun _ => 0)
  have h2 := At.new (w.alloc (.cells (ba 16 (fun _ => 0)) 23)) 16 23 (fun _ => 0)
  rw [World.size_alloc] at h2
  refine ⟨((((h1.alloc _).row (fun _ => 0)).rowApart (by omega) _)).ext (upF_zero _), ((h2.rowApart (by omega) _).row (fun _ => 0)).ext (upF_zero _), below_setRow (below_setRow (((Below.refl _ _).alloc (Nat.le_refl _) _).alloc (by simp) _) (by omega) _) (by omega) _⟩
theorem AW.step {w wr : World} {j : Nat} (h : AW w wr j) : AW w ((wr.setCell ⟨w.heap.size, j, none⟩ (.int .u8 (exK j : Nat))).setCell ⟨w.heap.size + 1, j, none⟩ (.int .u8 (exF j : Nat))) (j + 1) := by
  refine ⟨((h.key.set j (exK j)).apart (by simp) _).ext (upF_step exK rfl), ((h.blk.apart (by simp) _).set j (exF j)).ext (upF_step exF rfl), (h.low.setCell (by simp) _).setCell (by simp) _⟩

set_option maxRecDepth 100000 in
theorem exec_eq16 {w : World} {o : Oper} {a : Act} (x y : Operand) (ho : o.op = .binOp .eql 23 x y 23) {f g : Nat → Nat} {q : Bool} (hx : a.eval x = .agg (ba 16 f)) (hy : a.eval y = .agg (ba 16 g)) (h : Eq16 f g ↔ q = true) :
    (execOp a.eval o).run Try.prog w = .ok (.value (.bool q)) w := by
  have heq := fun w => eqA h w
  have hguard := guardA
  unfold execOp
  rw [ho]
  simp only [hx, hy]
  generalize ba 16 f = A at *
  generalize ba 16 g = B at *
  go_simp
set_option maxRecDepth 100000 in
theorem exec_ne16 {w : World} {o : Oper} {a : Act} (x y : Operand) (ho : o.op = .binOp .neq 23 x y 23) {f g : Nat → Nat} {q : Bool} (hx : a.eval x = .agg (ba 16 f)) (hy : a.eval y = .agg (ba 16 g)) (h : Eq16 f g ↔ q = true) :
    (execOp a.eval o).run Try.prog w = .ok (.value (.bool (!q))) w := by
  have heq := fun w => eqA h w
  have hguard := guardA
  unfold execOp
  rw [ho]
  simp only [hx, hy]
  generalize ba 16 f = A at *
  generalize ba 16 g = B at *
  go_simp
theorem step_eq16 {w : World} {ops : Array Oper} {rest : List Oper} {o : Oper} {a : Act} {Q : Exit → Act → World → Prop} (hw : Region.wanted o (yielded ops a.tmps) = true) (x y : Operand) (ho : o.op = .binOp .eql 23 x y 23) (f g : Nat → Nat) (q : Bool)
    (hx : a.eval x = .agg (ba 16 f)) (hy : a.eval y = .agg (ba 16 g)) (h : Eq16 f g ↔ q = true) (k : wpList Try.prog ops Q rest (a.put o.dst (.bool q)) w) : wpList Try.prog ops Q (o :: rest) a w :=
  BigFrame.wpList_want hw fun _ hK => by
    unfold Oper.wp
    rw [exec_eq16 x y ho hx hy h]
    exact hK _ _ k
theorem exO_ba : ba 16 exO = #[.int .u8 105, .int .u8 196, .int .u8 224, .int .u8 216, .int .u8 106, .int .u8 123, .int .u8 4, .int .u8 48, .int .u8 216, .int .u8 205, .int .u8 183, .int .u8 128, .int .u8 112, .int .u8 180, .int .u8 197, .int .u8 90] := by kernel_rfl
theorem builtO : Try.prog.built 23 [(0, .int .u8 105), (1, .int .u8 196), (2, .int .u8 224), (3, .int .u8 216), (4, .int .u8 106), (5, .int .u8 123), (6, .int .u8 4), (7, .int .u8 48), (8, .int .u8 216), (9, .int .u8 205), (10, .int .u8 183), (11, .int .u8 128), (12, .int .u8 112), (13, .int .u8 180), (14, .int .u8 197), (15, .int .u8 90)] = some #[.int .u8 105, .int .u8 196, .int .u8 224, .int .u8 216, .int .u8 106, .int .u8 123, .int .u8 4, .int .u8 48, .int .u8 216, .int .u8 205, .int .u8 183, .int .u8 128, .int .u8 112, .int .u8 180, .int .u8 197, .int .u8 90] := by kernel_rfl
theorem step_build_ex {X : Nat → Nat} (hX : exO = X) {w : World} {ops : Array Oper} {rest : List Oper} {o : Oper} {a : Act} {Q : Exit → Act → World → Prop} (hw : Region.wanted o (yielded ops a.tmps) = true) (ho : o.op = .build 23 #[(0, Operand.const (.int .u8 105)), (1, Operand.const (.int .u8 196)), (2, Operand.const (.int .u8 224)), (3, Operand.const (.int .u8 216)), (4, Operand.const (.int .u8 106)), (5, Operand.const (.int .u8 123)), (6, Operand.const (.int .u8 4)), (7, Operand.const (.int .u8 48)), (8, Operand.const (.int .u8 216)), (9, Operand.const (.int .u8 205)), (10, Operand.const (.int .u8 183)), (11, Operand.const (.int .u8 128)), (12, Operand.const (.int .u8 112)), (13, Operand.const (.int .u8 180)), (14, Operand.const (.int .u8 197)), (15, Operand.const (.int .u8 90))])
    (k : wpList Try.prog ops Q rest (a.put o.dst (.agg (ba 16 X))) w) : wpList Try.prog ops Q (o :: rest) a w := by
  have e : ((#[(0, Operand.const (.int .u8 105)), (1, Operand.const (.int .u8 196)), (2, Operand.const (.int .u8 224)), (3, Operand.const (.int .u8 216)), (4, Operand.const (.int .u8 106)), (5, Operand.const (.int .u8 123)), (6, Operand.const (.int .u8 4)), (7, Operand.const (.int .u8 48)), (8, Operand.const (.int .u8 216)), (9, Operand.const (.int .u8 205)), (10, Operand.const (.int .u8 183)), (11, Operand.const (.int .u8 128)), (12, Operand.const (.int .u8 112)), (13, Operand.const (.int .u8 180)), (14, Operand.const (.int .u8 197)), (15, Operand.const (.int .u8 90))] : Array (Nat × Operand)).map fun (i, x) => (i, a.eval x)).toList = [(0, .int .u8 105), (1, .int .u8 196), (2, .int .u8 224), (3, .int .u8 216), (4, .int .u8 106), (5, .int .u8 123), (6, .int .u8 4), (7, .int .u8 48), (8, .int .u8 216), (9, .int .u8 205), (10, .int .u8 183), (11, .int .u8 128), (12, .int .u8 112), (13, .int .u8 180), (14, .int .u8 197), (15, .int .u8 90)] := by simp [Act.eval]
  refine BigFrame.wpList_want hw fun _ hK => wp_build 23 _ ho (by rw [e, builtO]; rfl) ?_
  rw [e, builtO, ← exO_ba, hX]
  exact hK _ _ k
theorem example_eq : Eq16 (blkF (rkey 4 exK 40) 10 exF) exO ↔ true = true := ⟨fun _ => rfl, fun _ => example_is⟩

set_option maxRecDepth 100000 in
set_option maxHeartbeats 3200000 in
theorem aesAwake_any (w : World) : Calls Try.prog 17 #[] w fun e w' => e = .returned (.bool true) ∧ Below w.heap.size w w' := by
  have HS := hid (AW.start w)
  have HA1 : Hid (At ((w.alloc (.cells #[.int .u8 0, .int .u8 0, .int .u8 0, .int .u8 0, .int .u8 0, .int .u8 0, .int .u8 0, .int .u8 0, .int .u8 0, .int .u8 0, .int .u8 0, .int .u8 0, .int .u8 0, .int .u8 0, .int .u8 0, .int .u8 0] 23)).alloc (.cells #[.int .u8 0, .int .u8 0, .int .u8 0, .int .u8 0, .int .u8 0, .int .u8 0, .int .u8 0, .int .u8 0, .int .u8 0, .int .u8 0, .int .u8 0, .int .u8 0, .int .u8 0, .int .u8 0, .int .u8 0, .int .u8 0] 23)) w.heap.size 16 23 (fun _ => 0)) := hid ((At.new w 16 23 (fun _ => 0)).alloc _)
  have HA2 : Hid (At (((w.alloc (.cells #[.int .u8 0, .int .u8 0, .int .u8 0, .int .u8 0, .int .u8 0, .int .u8 0, .int .u8 0, .int .u8 0, .int .u8 0, .int .u8 0, .int .u8 0, .int .u8 0, .int .u8 0, .int .u8 0, .int .u8 0, .int .u8 0] 23)).alloc (.cells #[.int .u8 0, .int .u8 0, .int .u8 0, .int .u8 0, .int .u8 0, .int .u8 0, .int .u8 0, .int .u8 0, .int .u8 0, .int .u8 0, .int .u8 0, .int .u8 0, .int .u8 0, .int .u8 0, .int .u8 0, .int .u8 0] 23)).setRow w.heap.size (ba 16 (fun _ => 0))) (w.heap.size + 1) 16 23 (fun _ => 0)) := hid (by
    have h2 := At.new (w.alloc (.cells (ba 16 (fun _ => 0)) 23)) 16 23 (fun _ => 0)
    rw [World.size_alloc] at h2
    exact h2.rowApart (by omega) _)
  go_enter Try.func17, Try.ntmps17
  go_wp2_with (first
    | (refine step_store_ba rfl 23 (.tmp 1) (.tmp 6) rfl w.heap.size 16 23 (fun _ => 0) (fun _ => 0) rfl rfl HA1.out infoa ?_)
    | (refine step_store_ba rfl 23 (.tmp 2) (.tmp 7) rfl (w.heap.size + 1) 16 23 (fun _ => 0) (fun _ => 0) rfl rfl HA2.out infoa ?_))
  go_loopw [3] (fun i wr => ∃ j : Nat, j ≤ 16 ∧ i = .int .i64 j ∧ AW w wr j) (fun i _ => 16 - (intOf i).toNat)
  case atStart => exact ⟨0, by omega, rfl, HS.out⟩
  case round =>
    obtain ⟨j, hj, rfl, hI⟩ := hrel
    have HI := hid hI
    clear hI HA1 HA2
    by_cases hlt : j < 16
    · obtain ⟨u, hu⟩ : ∃ u, 17 * j = u := ⟨_, rfl⟩
      have e1 : 17 * (j : Int) = (u : Int) := by omega
      have w1 : IntKind.i64.wrap (u : Int) = u := by rw [IntKind.wrap_i64]; omega
      have u1 : (u : Int) < 256 := by omega
      have j1 : (j : Int) < 256 := by omega
      have HT := hid HI.out.step
      rw [show exK j = j by unfold exK; omega, show exF j = u by unfold exF; omega] at HT
      have hc1 := HI.out.key.cell hlt
      have hf1 := HI.out.key.free j
      have hc2 : (wr.setCell ⟨w.heap.size, j, none⟩ (.int .u8 (j : Nat))).cell? ⟨w.heap.size + 1, j, none⟩ = some (.int .u8 (upF exF j j : Nat)) := (HI.out.blk.apart (by simp) _).cell hlt
      have hf2 : (wr.setCell ⟨w.heap.size, j, none⟩ (.int .u8 (j : Nat))).frozen? ⟨w.heap.size + 1, j, none⟩ = false := (HI.out.blk.apart (by simp) _).free j
      clear hu
      go_wp2
      go_roundw
      case rel => exact ⟨j + 1, by omega, by go_num, HT.out⟩
      case measure => simp [intOf]; omega
    · obtain rfl : j = 16 := by omega
      have HK : Hid (At wr w.heap.size 16 23 exK) := hid (HI.out.key.ext (upF_all _))
      have HB : Hid (At wr (w.heap.size + 1) 16 23 exF) := hid (HI.out.blk.ext (upF_all _))
      have HW := hid (Wd.of_at HK.out (fun j _ => exK_lt j))
      have HN : Hid (Calls Try.prog 13 #[.slice (some ⟨w.heap.size, 0, none⟩) 16 16] wr fun e w' =>
        ∃ d b c cap, e = .returned (.tuple #[.pointer (some ⟨d, 0, none⟩), .int .i64 0]) ∧ Ci w' d b c cap 11 (rkey 4 exK 40) ∧ wr.heap.size ≤ b ∧ Below wr.heap.size wr w') :=
        hid (new_ok w.heap.size 0 16 4 16 10 11 44 40 exK wr rfl rfl rfl rfl rfl (by decide) (by decide) (by decide) (by decide) (by decide) (by decide) exK_lt HW.out)
      have HEQ := hid example_is
      have HFb : Hid (B16 exF) := hid (fun i _ => exF_lt i)
      have HL := hid HI.out.low
      generalize hZ : blkF (rkey 4 exK 40) 10 exF = Z at *
      generalize hY : rkey 4 exK 40 = Y at *
      have HZ := hid hZ
      obtain ⟨X, hX⟩ : ∃ X, exO = X := ⟨_, rfl⟩
      rw [hX] at HEQ
      have HX := hid hX
      clear hX hY hZ
      go_wp2_with (first
        | (go_at_call 13; (with_reducible refine HN.out.mono ?_); rintro e w3 ⟨d, b, c, cap, rfl, hci, hb, hlow⟩; have HC := hid hci; have HBB := hid hb; have HB3 := hid (HB.out.self hlow); have HL3 := hid (HL.out.trans (hlow.mono HL.out.size)); have HLS := hid (Nat.le_trans HL.out.size hb); clear hci hb hlow)
        | (refine step_load_ba_want (by rfl) 23 (.tmp 2) rfl (w.heap.size + 1) 16 23 5 exF rfl HB3.out Try.underlying23 infoa ?_)
        | (go_at_call 14; (with_reducible refine (block_any d b c cap 10 11 Y exF _ rfl (by decide) (by decide) HFb.out HC.out).mono ?_); rintro e w4 ⟨rfl, _, ho⟩; rw [HZ.out]; have HL4 := hid (HL3.out.trans (ho.below HLS.out HL3.out.size)); clear ho)
        | (refine step_build_ex HX.out (by rfl) rfl ?_)
        | (refine step_eq16 (by rfl) (.tmp 31) (.tmp 32) rfl Z X true rfl rfl ⟨fun _ => rfl, fun _ => HEQ.out⟩ ?_))
      go_ret
      exact ⟨rfl, HL4.out⟩
end Go.Proofs.Ythkanhhpkaigoaa
