import Derived.Test.YthkijncnndoafaaGreatDoorProg
import Derived.Test.YthkijncnndoafaaGreatDoorOcb
import Derived.WalkKit
import Derived.ProofKit
import Derived.OpenShut
import Derived.SizedLaws
import Derived.BigQuiet
import Derived.Deep.QuietTactic
import Derived.Deep.RegionLaw
import Derived.Laws.CopyOwn
import GoSem.ClaimJoined
import Derived.Deep.Slices
import Derived.Deep.Fields
import Derived.Laws.Rows
import Derived.Laws.Tables
import Derived.Laws.StructEq
import Derived.ChangeKeysEq
import Derived.Deep.WholeRow
import Derived.Deep.RegionHeld3
import Derived.BigRegion
import Derived.StillTailTactics
import Derived.ArgAppend
import Derived.Deep.AppendLies
import Derived.Deep.MidRow
import Derived.Lib.AppendZerosOnto
import Derived.Deep.Matrix
import Derived.Laws.IdiomArrays
import Derived.Deep.RegionHeld
import Derived.ChangeArms
import Derived.Lib.ItoaNum
import Derived.Laws.Bits64
import Derived.Test.YthkijncnndoafaaGreatDoorGen
namespace Go.Proofs.YthkijncnndoafaaGreatDoor
open Go.RowKit
set_option maxRecDepth 100000
theorem wdL_cons (v : Nat → Nat) (n : Nat) : wdL v (n + 1) = (v 0 : Int) :: wdL (fun i => v (i + 1)) n := by
 unfold wdL; rw [List.range_succ_eq_map, List.map_cons, List.map_map]; rfl
theorem rds_tail {k : IntKind} {w : World} {F : Nat → Prop} {g off cap : Nat} {z : Int} {zs : List Int} (h : RdS k w F (.slice (some ⟨g, off, none⟩) (zs.length + 1) cap) (z :: zs)) (b : Option Addr) (hb : 0 < zs.length → b = some ⟨g, off + 1, none⟩) :
  RdS k w F (.slice b zs.length (cap - 1)) zs := by
 obtain ⟨a, c, h1, h2, h3, h4, h5, h7⟩ := h
 injection h1 with e1 e2 e3
 subst e3
 simp only [List.length_cons] at h2 h4
 refine ⟨b, cap - 1, rfl, by omega, by omega, by rw [Nat.add_mul] at h4; omega, fun x hx => h5 x (List.mem_cons_of_mem _ hx), fun hp => ?_⟩
 obtain ⟨g', off', e, hS, hlt, hc⟩ := h7 (by simp)
 rw [← e1] at e
 injection e with e
 injection e with e4 e5 e6
 subst e4; subst e5
 refine ⟨g, off + 1, hb hp, hS, hlt, fun j hj => ?_⟩
 have := hc (j + 1) (by simp; omega)
 rw [show off + 1 + j = off + (j + 1) by omega, this]
 rfl
section
variable {lo : LoG} {b : Nat} {w : World} {S : Ms} {ov bv vv tv : Value}
theorem Dm.drawn (h : Dm lo w b S ov bv vv tv) {v' : Value} {f' u' : Int} (hr : RdS .u64 w (fun g => g ≠ b ∧ ov.ownBlock ≠ some g ∧ bv.ownBlock ≠ some g ∧ vv.ownBlock ≠ some g ∧ lo.G g) v' (wdL (fun i => S.tw (S.used + 1 + i)) (S.TN - (S.used + 1)))) (hf : f' = ((S.free - 1 : Nat) : Int)) (hu : u' = ((S.used + 1 : Nat) : Int)) :
  Dm lo (((w.setCell ⟨b, 11, none⟩ v').setCell ⟨b, 13, none⟩ (.int .i64 f')).setCell ⟨b, 12, none⟩ (.int .i64 u')) b { S with used := S.used + 1, free := S.free - 1 } ov bv vv v' ∧ Tch (Ft b ov bv vv) w (((w.setCell ⟨b, 11, none⟩ v').setCell ⟨b, 13, none⟩ (.int .i64 f')).setCell ⟨b, 12, none⟩ (.int .i64 u')) := by
 subst hf; subst hu
 have ho : ∀ k, k ≠ b → (((w.setCell ⟨b, 11, none⟩ v').setCell ⟨b, 13, none⟩ (.int .i64 ((S.free - 1 : Nat) : Int))).setCell ⟨b, 12, none⟩ (.int .i64 ((S.used + 1 : Nat) : Int))).heap[k]? = w.heap[k]? := fun k hk => by
  rw [heap_setCell_other _ ⟨b, 12, none⟩ k _ hk, heap_setCell_other _ ⟨b, 13, none⟩ k _ hk, heap_setCell_other _ ⟨b, 11, none⟩ k _ hk]
 refine ⟨⟨?_, h.lob, ?_, ?_, ?_, h.hob, h.hbb, h.hvb, h.hobv, h.hov, h.hbv, ?_⟩, ?_⟩
 · rw [heap_setCell_same _ b 12 _ 53 _ (heap_setCell_same _ b 13 _ 53 _ (heap_setCell_same w b 11 _ 53 v' h.blk))]; rfl
 · exact h.ops.stays fun k hk => ho k (fun e => h.hob (by subst e; exact hk))
 · exact h.bls.stays fun k hk => ho k (fun e => h.hbb (by subst e; exact hk))
 · exact h.val.stays fun k hk => ho k (fun e => h.hvb (by subst e; exact hk))
 · exact rds_stays hr (by simp [World.setCell]) fun g hg _ => ho g hg.1
 · exact ((tch_set b 11 _ _).trans (tch_set b 13 _ _) (fun _ _ f => f)).trans (tch_set b 12 _ _) (fun _ _ f => f)
end
theorem ddraw_no (lo : LoG) (b : Nat) (S : Ms) (ov bv vv tv : Value) (w : World) (h : Dm lo w b S ov bv vv tv) (hn : S.free < 1 ∨ S.TN ≤ S.used) :
  Calls Tryz.prog 70 #[.pointer (some ⟨b, 11, none⟩)] w fun r w' => r = .returned (.tuple #[.int .u64 0, .bool false]) ∧ w' = w := by
 have c11 := h.c_tv
 have c12 := h.c_used
 have c13 := h.c_free
 obtain ⟨a, cap, rfl, _⟩ := h.tap
 rw [wdL_len] at c11
 clear h
 by_cases hf : S.free < 1
 ·
  have q1 : decide ((S.free : Int) < 1) = true := decide_eq_true (by omega)
  clear hf hn
  generalize S.free = f at *
  generalize S.TN - S.used = n at *
  go_enter Tryz.func70, Tryz.ntmps70
  go_wp2
  go_ret2
  exact ⟨rfl, rfl⟩
 ·
  have q1 : decide ((S.free : Int) < 1) = false := decide_eq_false (by omega)
  have q2 : S.TN - S.used = 0 := by omega
  rw [q2] at c11
  clear hf hn q2
  generalize S.free = f at *
  go_enter Tryz.func70, Tryz.ntmps70
  go_wp2
  go_ret2
  exact ⟨rfl, rfl⟩
set_option maxHeartbeats 800000 in
theorem ddraw_yes (lo : LoG) (b : Nat) (S : Ms) (ov bv vv tv : Value) (w : World) (h : Dm lo w b S ov bv vv tv) (hb : Bd S) (hf : ¬ S.free < 1) (hu : ¬ S.TN ≤ S.used) :
  Calls Tryz.prog 70 #[.pointer (some ⟨b, 11, none⟩)] w fun r w' => r = .returned (.tuple #[.int .u64 (S.tw S.used : Nat), .bool true]) ∧ ∃ tv', Dm lo w' b { S with used := S.used + 1, free := S.free - 1 } ov bv vv tv' ∧ Tch (Ft b ov bv vv) w w' := by
 have c11 := h.c_tv
 have c12 := h.c_used
 have c13 := h.c_free
 have f11 := h.fz 11
 have f12 := h.fz 12
 have f13 := h.fz 13
 have b1 := hb.used
 have b2 := hb.free
 have b3 := hb.TN
 have HR := h.tap
 have e0 : S.TN - S.used = (S.TN - (S.used + 1)) + 1 := by omega
 rw [e0, wdL_cons] at HR
 have e1 : (fun i => (fun i => S.tw (S.used + i)) (i + 1)) = fun i => S.tw (S.used + 1 + i) := funext fun i => congrArg S.tw (by omega)
 rw [e1] at HR
 have HD := hid (fun v' f' u' => h.drawn (v' := v') (f' := f') (u' := u'))
 clear h hb e0 e1
 have HRR := hid HR
 obtain ⟨a, cap, rfl, hcap1, hcap2, _, _, hr0⟩ := HR
 obtain ⟨g, off, rfl, hg0, hg, hrc⟩ := hr0 (by simp)
 have hrd : w.cell? ⟨g, off, none⟩ = some (.int .u64 (S.tw S.used : Nat)) := by simpa [nth] using hrc 0 (by simp)
 simp only [List.length_cons, wdL_len] at hcap1 c11 HRR
 unfold maxLen at hcap2
 clear hrc hr0
 have q1 : decide ((S.free : Int) < 1) = false := decide_eq_false (by omega)
 have e0 : (((S.TN - (S.used + 1) : Nat) : Int) + 1 == 0) = false := by simp; omega
 have en : (wdL (fun i => S.tw (S.used + 1 + i)) (S.TN - (S.used + 1))).length = S.TN - (S.used + 1) := wdL_len _ _
 have HF := hid (show ((S.free : Int) - 1 = ((S.free - 1 : Nat) : Int)) by omega)
 have HU := hid (show ((S.used : Int) + 1 = ((S.used + 1 : Nat) : Int)) by omega)
 by_cases hc : cap = 1
 ·
  have HT := hid (fun b => rds_tail (zs := wdL (fun i => S.tw (S.used + 1 + i)) (S.TN - (S.used + 1))) (by rw [en]; exact HRR.out) b (by omega))
  rw [en] at HT
  subst hc
  have hz0 : S.TN - (S.used + 1) = 0 := by omega
  have HZ := hid hz0
  simp only [hz0] at c11 HRR
  clear e0 en
  go_enter Tryz.func70, Tryz.ntmps70
  go_wp2
  go_ret2
  exact ⟨rfl, _, HD.out _ _ _ (by have h1 := HT.out (some ⟨g, off, none⟩); have hz := HZ.out; rw [hz] at h1 ⊢; exact h1) HF.out HU.out⟩
 ·
  have HT := hid (rds_tail (zs := wdL (fun i => S.tw (S.used + 1 + i)) (S.TN - (S.used + 1))) (by rw [en]; exact HRR.out) (some ⟨g, off + 1, none⟩) (fun _ => rfl))
  rw [en] at HT
  clear en
  go_enter Tryz.func70, Tryz.ntmps70
  go_wp2
  go_ret2
  exact ⟨rfl, _, HD.out _ _ _ HT.out HF.out HU.out⟩
open Go.RowKit

theorem rotl_rtw {x m : Nat} (hx : x < 2 ^ 64) : rotl (x : Int) m = (rt x m : Nat) := by
 unfold rotl rt
 have d : ((x : Int) / 2 ^ (64 - m)) = ((x / 2 ^ (64 - m) : Nat) : Int) := by simp
 have e : IntKind.u64.wrap ((x : Int) * 2 ^ m) = ((x * 2 ^ m % 2 ^ 64 : Nat) : Int) := by rw [IntKind.wrap_u64]; simp
 rw [e, d, bits_or_u64_nat _ _ (Nat.mod_lt _ (by decide)) (by have := Nat.div_le_self x (2 ^ (64 - m)); omega)]
theorem orot_n {x m : Nat} {k : Int} (hx : x < 2 ^ 64) (hk : k % 64 = m) (w : World) :
  Calls Tryz.prog 124 #[.int .u64 (x : Int), .int .i64 k] w fun e w' => e = .returned (.int .u64 (rt x m : Nat)) ∧ w' = w := by
 have h := orot_any (x : Int) k w (by omega)
 rw [show (k % 64).toNat = m by omega, rotl_rtw hx] at h
 exact h
theorem refrot_n {x m : Nat} {k : Int} (hx : x < 2 ^ 64) (hk : k % 64 = m) (w : World) :
  Calls Tryz.prog 88 #[.int .u64 (x : Int), .int .i64 k] w fun e w' => e = .returned (.int .u64 (rt x m : Nat)) ∧ w' = w := by
 have h := refrot_any (x : Int) k w (by omega)
 rw [show (k % 64).toNat = m by omega, ← rot_math _ (by omega) m (by omega), rotl_rtw hx] at h
 exact h
theorem rlow_n : ∀ n : Nat, n ≤ 64 → rlow n = ((2 ^ n - 1 : Nat) : Int) := by decide +kernel
theorem reflow_n (n : Nat) (w : World) (hn : n ≤ 64) :
  Calls Tryz.prog 89 #[.int .i64 (n : Int)] w fun e w' => e = .returned (.int .u64 ((2 ^ n - 1 : Nat) : Int)) ∧ w' = w := by
 have h := reflow_any (n : Int) w
 rw [show (min (max (n : Int) 0) 64).toNat = n by omega, rlow_n n hn] at h
 exact h
abbrev opV (K D A B E : Int) (C : Nat) : Value := .agg #[.int .i64 K, .int .i64 D, .int .i64 A, .int .i64 B, .int .i64 E, .int .u64 (C : Int)]
set_option maxRecDepth 100000 in
set_option maxHeartbeats 1600000 in
theorem refev_any (K D A B E : Int) (C a b d x : Nat) (w : World) (hC : C < 2 ^ 64) (ha : a < 2 ^ 64) (hb : b < 2 ^ 64) (hd : d < 2 ^ 64) (hx : x < 2 ^ 64) :
  Calls Tryz.prog 71 #[opV K D A B E C, .int .u64 (a : Int), .int .u64 (b : Int), .int .u64 (d : Int), .int .u64 (x : Int)] w fun e w' => e = .returned (.int .u64 (evN K C a b d x : Nat)) ∧ Below w.heap.size w w' := by
 have HB : Hid (Below w.heap.size w (w.alloc (.cells #[.int .i64 K, .int .i64 D, .int .i64 A, .int .i64 B, .int .i64 E, .int .u64 (C : Int)] 75))) := hid ((Below.refl _ _).alloc (Nat.le_refl _) _)
 obtain ⟨k, hk⟩ : ∃ k, C % 64 = k := ⟨_, rfl⟩
 have hk64 : k < 64 := by omega
 have m1 : (C : Int).tmod 64 = (k : Int) := by rw [← hk]; rfl
 have m2 : IntKind.i64.wrap (k : Int) = (k : Int) := by rw [IntKind.wrap_i64]; omega
 obtain ⟨r, hr⟩ : ∃ r, 64 - k = r := ⟨_, rfl⟩
 have m3 : (64 : Int) - (k : Int) = (r : Int) := by omega
 have m4 : IntKind.i64.wrap (r : Int) = (r : Int) := by rw [IntKind.wrap_i64]; omega
 have HLo := hid (fun w => reflow_n r w (by omega))
 have HR9 := hid (fun w => refrot_n (x := a &&& (2 ^ r - 1)) (m := k) (k := (k : Int)) (an_lt ha) (by omega) w)
 have HR10 := hid (fun w => refrot_n (x := a) (m := r % 64) (k := (r : Int)) ha (by omega) w)
 have HR11 := hid (fun w => refrot_n (x := a) (m := k) (k := (k : Int)) ha (by omega) w)
 have e9 : rt (a &&& (2 ^ r - 1)) k = wsl a k := by subst hr; exact wsl_doc ha hk64
 have e10 : rt a (r % 64) &&& (2 ^ r - 1) = wsr a k := by subst hr; exact wsr_doc ha hk64 rfl
 have lr : 2 ^ r - 1 < 2 ^ 64 := low_lt (by omega)
 have x1 := wx64 hx ha
 have x2 := wx64 (xr_lt hx ha) hb
 have x3 := wx64 ha hb
 have x4 := wx64 (xr_lt ha hb) hd
 have a1 := wn64 ha hb
 have a2 := wn64 ha hC
 have a3 := wn64 ha lr
 have a4 := wn64 (rt_lt (m := r % 64) ha) lr
 rw [e9] at HR9
 rw [e10] at a4
 have n1 : (18446744073709551615 : Int) - (a : Int) = (wnt a : Nat) := by unfold wnt; omega
 have n2 : IntKind.u64.wrap (wnt a : Nat) = (wnt a : Nat) := by rw [IntKind.wrap_u64]; have := wnt_lt a; omega
 unfold evN
 rw [hk]
 clear hC ha hb hd hx hk hr e9 e10 lr
 generalize 2 ^ r - 1 = L at *
 generalize a &&& L = aL at *
 generalize wnt a = na at *
 generalize x ^^^ a = xa at *
 generalize xa ^^^ b = xab at *
 generalize a ^^^ b = ab at *
 generalize ab ^^^ d = abd at *
 generalize a &&& b = anb at *
 generalize a &&& C = anc at *
 generalize rt a (r % 64) = ra at *
 generalize rt a k = ral at *
 generalize wsl a k = asl at *
 generalize wsr a k = asr at *
 rcases kinds12 K with rfl | rfl | rfl | rfl | rfl | rfl | rfl | rfl | rfl | rfl | rfl | rfl | h
 rotate_right
 ·
  rw [if_neg (by omega), if_neg (by omega), if_neg (by omega), if_neg (by omega), if_neg (by omega), if_neg (by omega), if_neg (by omega), if_neg (by omega), if_neg (by omega), if_neg (by omega), if_neg (by omega), if_neg (by omega)]
  have q1 : ¬ K = 1 := by omega
  have q2 : ¬ K = 2 := by omega
  have q3 : ¬ K = 3 := by omega
  have q4 : ¬ K = 4 := by omega
  have q5 : ¬ K = 5 := by omega
  have q6 : ¬ K = 6 := by omega
  have q7 : ¬ K = 7 := by omega
  have q8 : ¬ K = 8 := by omega
  have q9 : ¬ K = 9 := by omega
  have q10 : ¬ K = 10 := by omega
  have q11 : ¬ K = 11 := by omega
  have q12 : ¬ K = 12 := by omega
  clear h
  go_enter Tryz.func71, Tryz.ntmps71
  go_wp2
  go_ret
  exact ⟨rfl, HB.out⟩
 all_goals
  simp only [reduceIte, Int.reduceEq]
  go_enter Tryz.func71, Tryz.ntmps71
  go_wp2_with (first
   | (go_at_call 89; (with_reducible refine (HLo.out _).mono ?_); rintro e w1 ⟨rfl, rfl⟩)
   | (go_at_call 88; (with_reducible refine (HR9.out _).mono ?_); rintro e w1 ⟨rfl, rfl⟩)
   | (go_at_call 88; (with_reducible refine (HR10.out _).mono ?_); rintro e w1 ⟨rfl, rfl⟩)
   | (go_at_call 88; (with_reducible refine (HR11.out _).mono ?_); rintro e w1 ⟨rfl, rfl⟩))
  go_ret
  exact ⟨rfl, HB.out⟩
open Go.RowKit
theorem step_store_row {P : Program} {w : World} {ops : Array Oper} {rest : List Oper} {o : Oper} {a : Act} {Q : Exit → Act → World → Prop} (hgd : o.guard = none) (ty : TypeId) (x y : Operand) (ho : o.op = .store ty x y)
  (b : Nat) (t : TypeId) (cs cs' : Array Value) (hx : a.eval x = .pointer (some ⟨b, 0, none⟩)) (hy : a.eval y = .agg cs') (hA : w.heap[b]? = some (.cells cs t (0, 0))) (hi : (P.info? ty).map (·.size) = some cs'.size) (hs : cs.size = cs'.size) (h1 : cs'.all (·.oneCell') = true)
  (k : wpList P ops Q rest (a.put o.dst undef) (w.setRow b cs')) : wpList P ops Q (o :: rest) a w :=
 wpList_plain hgd fun _ hK => wp_store_row ty x y ho b _ hx hy t _ hA hi hs h1 (hK _ _ k)
theorem ret_row_tmp {P : Program} {fn : Func} {p u : Tmp} {ty : TypeId} {R : Ending → World → Prop} {a : Act} {w : World} {b : Nat} {t : TypeId} {cs : Array Value} {d : TypeDesc} (h : fn.results = #[.cell p ty, .tmp u])
  (hp : a.tmps.getD p undef = .pointer (some ⟨b, 0, none⟩)) (hA : w.heap[b]? = some (.cells cs t (0, 0))) (hu : P.underlying ty = some d) (hag : (match d with | .struct _ | .array _ _ => true | _ => false) = true) (hi : (P.info? ty).map (·.size) = some cs.size) (hd : a.defers = [])
  (k : R (.returned (.tuple #[.agg cs, a.tmps.getD u undef])) w) : bodyPost P fn R .ret a w := by
 refine bodyPost_ret ?_ hd k
 rw [results_cell_tmp h, hp]
 simp only [asAddr, Sem.run_pure, Result.andThen_ok, run_loadVar_row w b t ty cs (0, 0) d hA hu hag hi]
theorem yields_load_row {P : Program} {ops : Array Oper} {S : World → Prop} {o : Oper} {a : Act} (hw : Region.wanted o (yielded ops a.tmps) = true) (ty : TypeId) (x : Operand) (ho : o.op = .load ty x) (b : Nat) (t : TypeId) (cs : Array Value) (d : TypeDesc)
  (hx : a.eval x = .pointer (some ⟨b, 0, none⟩)) (hS : ∀ w, S w → w.heap[b]? = some (.cells cs t (0, 0))) (hu : P.underlying ty = some d) (hag : (match d with | .struct _ | .array _ _ => true | _ => false) = true) (hi : (P.info? ty).map (·.size) = some cs.size) : YieldsIf P ops S o (.agg cs) a :=
 .inl ⟨hw, fun w h => by
  unfold execOp
  simp only [ho, hx, Instr.loadAt, Instr.sureAddr, Sem.run_bind, Sem.run_pure, Result.andThen_ok, run_loadVar_row w b t ty cs (0, 0) d (hS w h) hu hag hi]⟩
open Go.RowKit
set_option maxRecDepth 100000

theorem okC_int (K : Int) (C : Nat) : okC K C = (if K = 9 ∨ K = 10 ∨ K = 11 then decide ((C : Int) < 64) else if K = 2 then decide ((C : Int) < 1048576) else if K = 3 ∨ K = 4 ∨ K = 8 then true else decide ((C : Int) = 0)) := by
 unfold okC
 rw [decide_eq_decide.2 (by omega : C < 64 ↔ (C : Int) < 64), decide_eq_decide.2 (by omega : C < 1048576 ↔ (C : Int) < 1048576), decide_eq_decide.2 (by omega : C = 0 ↔ (C : Int) = 0)]
set_option maxHeartbeats 12800000 in
theorem refopright_tail (o : Op6) (at_ n : Int) (w : World) (h : (n = 2 ∨ n = 3) ∧ 1 ≤ o.K ∧ o.K ≤ 12 ∧ -1 ≤ o.D ∧ o.D < n ∧ (o.K = 12 → o.D = -1)) :
  Calls Tryz.prog 67 #[.agg #[.int .i64 o.K, .int .i64 o.D, .int .i64 o.A, .int .i64 o.B, .int .i64 o.E, .int .u64 (o.C : Int)], .int .i64 at_, .int .i64 n] w fun e w' => e = .returned (.bool (allB (rgB o at_ n) 3 && okC o.K o.C)) ∧ Below w.heap.size w w' := by
 have HB : Hid (Below w.heap.size w (w.alloc (.cells #[.int .i64 o.K, .int .i64 o.D, .int .i64 o.A, .int .i64 o.B, .int .i64 o.E, .int .u64 (o.C : Int)] 75))) := hid ((Below.refl _ _).alloc (Nat.le_refl _) _)
 have HOc := hid (fun w' => oc_box (w := w) (w' := w') o)
 have HRg := hid (fun w => refregs_any o.K n w)
 have hrb : ∀ j, rgB o at_ n j = if (j : Int) < rgN o.K n then decide (0 ≤ rgL o j ∧ rgL o j < at_) else decide (rgL o j = -1) := fun j => rfl
 have HRb := hid hrb
 have HAl := hid (fun j (hj : j < 3) (h : rgB o at_ n j = false) => allB_no hj h)
 have HRL := hid (fun (w : World) (m : Nat) (h : w.heap[m]? = some (.cells #[.int .i64 o.A, .int .i64 o.B, .int .i64 o.E] 35 (0, 0))) => rgL_cell h)
 have HOK := hid (rfl : okC o.K o.C = okC o.K o.C)
 obtain ⟨R, hR⟩ : ∃ R, rgN o.K n = R := ⟨_, rfl⟩
 rw [hR] at HRg HRb
 generalize rgB o at_ n = rb at *
 clear hrb hR
 obtain ⟨h1, h2, h3, h4, h5, h6⟩ := h
 have g0 : ((n != 2) && (n != 3)) = false := by rcases h1 with rfl | rfl <;> rfl
 obtain ⟨rl, hrl⟩ : ∃ rl, rgL o = rl := ⟨_, rfl⟩
 rw [hrl] at HRb HRL
 clear hrl
 obtain ⟨K, D, A, B, E, C⟩ := o
 simp only at *
 obtain ⟨w1, hw1⟩ : ∃ w1, w.alloc (.cells #[.int .i64 K, .int .i64 D, .int .i64 A, .int .i64 B, .int .i64 E, .int .u64 (C : Int)] 75) = w1 := ⟨_, rfl⟩
 rw [hw1] at HB HOc
 have HW1 := hid hw1
 clear hw1
 have HAb : Hid ((w1.alloc (.cells #[.int .i64 A, .int .i64 B, .int .i64 E] 35)).heap[w1.heap.size]? = some (.cells #[.int .i64 A, .int .i64 B, .int .i64 E] 35 (0, 0))) := hid (heap_alloc_new w1 _)
 have HB2 : Hid (Below w1.heap.size w1 (w1.alloc (.cells #[.int .i64 A, .int .i64 B, .int .i64 E] 35))) := hid ((Below.refl _ _).alloc (Nat.le_refl _) _)
 have HD : Hid (K = 12 → D = -1) := hid h6
 clear h6
 have hs1 : w1.heap.size = w.heap.size + 1 := by rw [← HW1.out]; simp
 have HL2 := hid (HRL.out _ _ HAb.out)
 rw [hs1] at HL2
 clear hs1
 have HO2 := hid (HOc.out _ HB2.out)
 have HB02 := hid (HB.out.trans (HB2.out.mono HB.out.size))
 have HW2 : Hid (∃ w2, w1.alloc (.cells #[.int .i64 A, .int .i64 B, .int .i64 E] 35) = w2) := hid ⟨_, rfl⟩
 rcases (Classical.em (K = 12)) with h12 | h12
 ·
  have hd := HD.out h12
  subst h12 hd
  clear HD
  rcases h1 with rfl | rfl
  all_goals
   go_enter Tryz.func67, Tryz.ntmps67
   go_wp2
   rw [HW1.out]
   have hk := HO2.out.k
   have hc := HO2.out.c
   simp only [Nat.zero_add] at hc
   generalize w1.alloc (.cells #[.int .i64 A, .int .i64 B, .int .i64 E] 35) = w2 at *
   clear HRL HOc HAb
   have HC2 := hid (HRg.out w2)
   go_loop [8] (fun i => ∃ j : Nat, j ≤ 3 ∧ i = .int .i64 j ∧ allB rb j = true) (fun i => 3 - (intOf i).toNat)
   case atStart => exact ⟨0, by omega, rfl, rfl⟩
   case round =>
    obtain ⟨j, hj, rfl, hall⟩ := hrel
    have HJ := hid hall
    clear hall
    by_cases hlt : j < 3
    ·
     have hx := HL2.out j hlt
     have HX := hid (HRb.out j)
     have j1 : (0 : Int) ≤ (j : Int) := by omega
     have j2 : (j : Int) < 3 := by omega
     generalize rl j = x at *
     by_cases hR : (j : Int) < R
     ·
      by_cases x1 : 0 ≤ x
      ·
       by_cases x2 : x < at_
       ·
        have He : Hid (allB rb (j + 1) = true) := hid (by show (allB rb j && rb j) = true; rw [HJ.out, HX.out, if_pos hR, decide_eq_true ⟨x1, x2⟩]; rfl)
        go_wp2_with (go_at_call 87; (with_reducible refine (HC2.out).mono ?_); rintro e w' ⟨rfl, rfl⟩)
        go_round
        case rel => exact ⟨j + 1, by omega, by go_num, He.out⟩
        case measure => simp [intOf]; omega
       ·
        have He : Hid (rb j = false) := hid (by rw [HX.out, if_pos hR, decide_eq_false (fun h => x2 h.2)])
        go_wp2_with (go_at_call 87; (with_reducible refine (HC2.out).mono ?_); rintro e w' ⟨rfl, rfl⟩)
        go_ret
        exact ⟨by rw [HAl.out j hlt He.out]; rfl, HB02.out⟩
      ·
       have He : Hid (rb j = false) := hid (by rw [HX.out, if_pos hR, decide_eq_false (fun h => x1 h.1)])
       go_wp2_with (go_at_call 87; (with_reducible refine (HC2.out).mono ?_); rintro e w' ⟨rfl, rfl⟩)
       go_ret
       exact ⟨by rw [HAl.out j hlt He.out]; rfl, HB02.out⟩
     ·
      by_cases x1 : x = -1
      ·
       have He : Hid (allB rb (j + 1) = true) := hid (by show (allB rb j && rb j) = true; rw [HJ.out, HX.out, if_neg hR, decide_eq_true x1]; rfl)
       clear HX
       subst x1
       go_wp2_with (go_at_call 87; (with_reducible refine (HC2.out).mono ?_); rintro e w' ⟨rfl, rfl⟩)
       go_round
       case rel => exact ⟨j + 1, by omega, by go_num, He.out⟩
       case measure => simp [intOf]; omega
      ·
       have He : Hid (rb j = false) := hid (by rw [HX.out, if_neg hR, decide_eq_false x1])
       have x2 : (x != -1) = true := by simpa using x1
       go_wp2_with (go_at_call 87; (with_reducible refine (HC2.out).mono ?_); rintro e w' ⟨rfl, rfl⟩)
       go_ret
       exact ⟨by rw [HAl.out j hlt He.out]; rfl, HB02.out⟩
    ·
     obtain rfl : j = 3 := by omega
     have HF : Hid (okC 12 C = decide ((C : Int) = 0)) := hid (by simp [okC])
     go_wp2
     go_ret
     exact ⟨by rw [HJ.out, HF.out]; rfl, HB02.out⟩
 ·
  clear HD
  rcases h1 with rfl | rfl
  all_goals
   go_enter Tryz.func67, Tryz.ntmps67
   go_wp2
   rw [HW1.out]
   have hk := HO2.out.k
   have hc := HO2.out.c
   simp only [Nat.zero_add] at hc
   generalize w1.alloc (.cells #[.int .i64 A, .int .i64 B, .int .i64 E] 35) = w2 at *
   clear HRL HOc HAb
   have HC2 := hid (HRg.out w2)
   go_loop [8] (fun i => ∃ j : Nat, j ≤ 3 ∧ i = .int .i64 j ∧ allB rb j = true) (fun i => 3 - (intOf i).toNat)
   case atStart => exact ⟨0, by omega, rfl, rfl⟩
   case round =>
    obtain ⟨j, hj, rfl, hall⟩ := hrel
    have HJ := hid hall
    clear hall
    by_cases hlt : j < 3
    ·
     have hx := HL2.out j hlt
     have HX := hid (HRb.out j)
     have j1 : (0 : Int) ≤ (j : Int) := by omega
     have j2 : (j : Int) < 3 := by omega
     generalize rl j = x at *
     by_cases hR : (j : Int) < R
     ·
      by_cases x1 : 0 ≤ x
      ·
       by_cases x2 : x < at_
       ·
        have He : Hid (allB rb (j + 1) = true) := hid (by show (allB rb j && rb j) = true; rw [HJ.out, HX.out, if_pos hR, decide_eq_true ⟨x1, x2⟩]; rfl)
        go_wp2_with (go_at_call 87; (with_reducible refine (HC2.out).mono ?_); rintro e w' ⟨rfl, rfl⟩)
        go_round
        case rel => exact ⟨j + 1, by omega, by go_num, He.out⟩
        case measure => simp [intOf]; omega
       ·
        have He : Hid (rb j = false) := hid (by rw [HX.out, if_pos hR, decide_eq_false (fun h => x2 h.2)])
        go_wp2_with (go_at_call 87; (with_reducible refine (HC2.out).mono ?_); rintro e w' ⟨rfl, rfl⟩)
        go_ret
        exact ⟨by rw [HAl.out j hlt He.out]; rfl, HB02.out⟩
      ·
       have He : Hid (rb j = false) := hid (by rw [HX.out, if_pos hR, decide_eq_false (fun h => x1 h.1)])
       go_wp2_with (go_at_call 87; (with_reducible refine (HC2.out).mono ?_); rintro e w' ⟨rfl, rfl⟩)
       go_ret
       exact ⟨by rw [HAl.out j hlt He.out]; rfl, HB02.out⟩
     ·
      by_cases x1 : x = -1
      ·
       have He : Hid (allB rb (j + 1) = true) := hid (by show (allB rb j && rb j) = true; rw [HJ.out, HX.out, if_neg hR, decide_eq_true x1]; rfl)
       clear HX
       subst x1
       go_wp2_with (go_at_call 87; (with_reducible refine (HC2.out).mono ?_); rintro e w' ⟨rfl, rfl⟩)
       go_round
       case rel => exact ⟨j + 1, by omega, by go_num, He.out⟩
       case measure => simp [intOf]; omega
      ·
       have He : Hid (rb j = false) := hid (by rw [HX.out, if_neg hR, decide_eq_false x1])
       have x2 : (x != -1) = true := by simpa using x1
       go_wp2_with (go_at_call 87; (with_reducible refine (HC2.out).mono ?_); rintro e w' ⟨rfl, rfl⟩)
       go_ret
       exact ⟨by rw [HAl.out j hlt He.out]; rfl, HB02.out⟩
    ·
     obtain rfl : j = 3 := by omega
     have hK : K = 1 ∨ K = 2 ∨ K = 3 ∨ K = 4 ∨ K = 5 ∨ K = 6 ∨ K = 7 ∨ K = 8 ∨ K = 9 ∨ K = 10 ∨ K = 11 := by omega
     clear h2 h3 h12
     rcases hK with rfl | rfl | rfl | rfl | rfl | rfl | rfl | rfl | rfl | rfl | rfl
     all_goals
      go_wp2
      go_ret
      exact ⟨by rw [HJ.out, okC_int]; first | (simp; done) | rfl, HB02.out⟩
theorem refopright_any (o : Op6) (at_ n : Int) (w : World) :
  Calls Tryz.prog 67 #[.agg #[.int .i64 o.K, .int .i64 o.D, .int .i64 o.A, .int .i64 o.B, .int .i64 o.E, .int .u64 (o.C : Int)], .int .i64 at_, .int .i64 n] w fun e w' => e = .returned (.bool (okOp o at_ n)) ∧ Below w.heap.size w w' := by
 by_cases h : (n = 2 ∨ n = 3) ∧ 1 ≤ o.K ∧ o.K ≤ 12 ∧ -1 ≤ o.D ∧ o.D < n ∧ (o.K = 12 → o.D = -1)
 · rw [okH_yes h]; exact refopright_tail o at_ n w h
 · rw [okH_no h]; exact refopright_head o at_ n w h
end Go.Proofs.YthkijncnndoafaaGreatDoor
