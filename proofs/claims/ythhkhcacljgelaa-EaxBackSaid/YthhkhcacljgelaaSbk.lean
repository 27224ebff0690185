import Derived.Test.YthhkhcacljgelaaProg
import Derived.Test.YthhkhcacljgelaaGen
import Derived.Tactics
import Derived.Tactics2
import Derived.Defers
import Derived.Laws.Pointers
import Derived.Laws.LoneSync
import Derived.RegionTactic
import Derived.RegionCalls
import Derived.ChangeAlike
import Derived.Test.YthhkhcacljgelaaMat
import Derived.Test.YthhkhcacljgelaaGfk
set_option maxRecDepth 100000
namespace Go.Proofs.Ythhkhcacljgelaa
open Go.RowKit

theorem sy_disable (w : World) : (callFunc 79 #[]).run Try.prog w = .ok (.value (.tuple #[])) w := run_call_mark0 Try.func79 (by kernel_rfl) (by kernel_rfl) (by kernel_rfl) .disable (by kernel_rfl) w
theorem sy_enable (w : World) : (callFunc 81 #[]).run Try.prog w = .ok (.value (.tuple #[])) w := run_call_mark0 Try.func81 (by kernel_rfl) (by kernel_rfl) (by kernel_rfl) .enable (by kernel_rfl) w
theorem sy_acquire (a : Addr) (w : World) : (callFunc 82 #[.pointer (some a)]).run Try.prog w = .ok (.value (.tuple #[])) w := run_call_marked Try.func82 (by kernel_rfl) (by kernel_rfl) (by kernel_rfl) .acquire (by kernel_rfl) a w
theorem sy_releaseMerge (a : Addr) (w : World) : (callFunc 84 #[.pointer (some a)]).run Try.prog w = .ok (.value (.tuple #[])) w := run_call_marked Try.func84 (by kernel_rfl) (by kernel_rfl) (by kernel_rfl) .releaseMerge (by kernel_rfl) a w

/-- The mark that it is done, stored as a deferred call. -/
theorem mark_deferred (a : Addr) (x : Value) (u : FrameMode) (w : World) (hc : w.cell? a = some x) (hz : w.frozen? a = false) :
    CallsD Try.prog 74 #[.pointer (some a), .bool true] u w fun e u' w' => u' = u ∧ (e = .returned (.tuple #[]) ∧ w' = w.drew.setCell a (.int .u32 1)) := by
  have hc' : w.drew.cell? a = some x := by go_simp
  have hz' : w.drew.frozen? a = false := by go_simp
  have hst := run_call_store (P := Try.prog) Try.func77 (by kernel_rfl) (by kernel_rfl) (by kernel_rfl) (by kernel_rfl) (k := .u32) (y := 1) hc' hz'
  go_enter_d Try.func74, Try.ntmps74
  go_wp2
  go_region_calls
  all_goals (go_end0; exact ⟨rfl, rfl⟩)

/-- The lock let go, as a deferred call. -/
theorem letgo_deferred (a : Addr) (u : FrameMode) (w : World) (hc : w.cell? a = some (.int .i32 1)) (hz : w.frozen? a = false) :
    CallsD Try.prog 73 #[.pointer (some a)] u w fun e u' w' => u' = u ∧ (e = .returned (.tuple #[]) ∧ w' = w.setCell a (.int .i32 0)) := by
  have hd := sy_disable
  have he := sy_enable
  have hr := sy_releaseMerge
  have hadd := run_call_add (P := Try.prog) Try.func85 (by kernel_rfl) (by kernel_rfl) (by kernel_rfl) .i32 (by kernel_rfl) (y := -1) (s := 0) hc hz (by simp [go_sem]; rfl)
  have hcv := run_convert_to_unsafe (P := Try.prog) (src := 122) (dst := 126) Try.underlying122 Try.underlying126 (by kernel_rfl) hc
  go_enter_d Try.func73, Try.ntmps73
  go_wp2
  go_end0
  go_wp2
  go_end0
  exact ⟨rfl, rfl⟩

/-- The lock taken. -/
theorem take_free (a : Addr) (w : World) (hc : w.cell? a = some (.int .i32 0)) (hz : w.frozen? a = false) :
    Calls Try.prog 72 #[.pointer (some a)] w fun e w' => e = .returned (.tuple #[]) ∧ w' = w.setCell a (.int .i32 1) := by
  have hd := sy_disable
  have he := sy_enable
  have ha := sy_acquire
  have hcas := run_call_cas_hit (P := Try.prog) Try.func80 (by kernel_rfl) (by kernel_rfl) (by kernel_rfl) .i32 (by kernel_rfl) (y := 1) hc hz
  have hc' : (w.setCell a (.int .i32 1)).cell? a = some (.int .i32 1) := World.cell?_setCell_same w a _ hc
  have hcv := run_convert_to_unsafe (P := Try.prog) (src := 122) (dst := 126) Try.underlying122 Try.underlying126 (by kernel_rfl) hc'
  go_enter Try.func72, Try.ntmps72
  go_wp2
  first | go_end0 | (simp only [Exit.inBlock, Exit.then]; refine bodyPost_ret (results_none rfl _ _ _) rfl ?_) | refine bodyPost_ret (results_none rfl _ _ _) rfl ?_
  go_wp2
  go_end0
  exact ⟨rfl, rfl⟩

/-- Done already: nothing happens. -/
theorem do_done (a : Addr) (d : Int) (hd : ¬ d = 0) (fv : Value) (w : World) (h0 : w.cell? a = some (.int .u32 d)) :
    Calls Try.prog 58 #[.pointer (some a), fv] w fun e w' => e = .returned (.tuple #[]) ∧ w' = w := by
  have hl := run_call_load (P := Try.prog) Try.func71 (by kernel_rfl) (by kernel_rfl) (by kernel_rfl) .u32 (by kernel_rfl) h0
  have hnot : ∀ (x : Bool) (w : World), (Op.unary .not (.bool x)).run Try.prog w = .ok (.bool (!x)) w := fun _ _ => rfl
  have hd' : (d != 0) = true := by simp [hd]
  go_enter Try.func58, Try.ntmps58
  go_wp2
  go_end0
  exact ⟨rfl, rfl⟩
end Go.Proofs.Ythhkhcacljgelaa

namespace Go.Proofs.Ythhkhcacljgelaa
open Go.RowKit

/-- The bend's rows. -/
def bend (i : Nat) : Nat := 241 * 2 ^ i % 256 + 241 / 2 ^ (8 - i)
theorem bend_by : By bend := by unfold By; decide
theorem bend_rk : rk bend = 8 := by decide +kernel

theorem rot_any (j : Nat) (w : World) (hj : j < 8) :
    Calls Try.prog 70 #[.int .u8 241, .int .i64 (j : Int)] w fun e w' => e = .returned (.int .u8 (bend j : Nat)) ∧ w' = w := by
  have a0 : bits .and .u64 0 7 = 0 := by decide
  have a1 : bits .and .u64 1 7 = 1 := by decide
  have a2 : bits .and .u64 2 7 = 2 := by decide
  have a3 : bits .and .u64 3 7 = 3 := by decide
  have a4 : bits .and .u64 4 7 = 4 := by decide
  have a5 : bits .and .u64 5 7 = 5 := by decide
  have a6 : bits .and .u64 6 7 = 6 := by decide
  have a7 : bits .and .u64 7 7 = 7 := by decide
  obtain h | h | h | h | h | h | h | h : j = 0 ∨ j = 1 ∨ j = 2 ∨ j = 3 ∨ j = 4 ∨ j = 5 ∨ j = 6 ∨ j = 7 := by omega
  all_goals
    subst h
    go_enter Try.func70, Try.ntmps70
    go_wp2
    go_ret
    refine ⟨?_, rfl⟩
    kernel_rfl

structure BInv (w wr : World) (j : Nat) : Prop where
  out : At wr w.heap.size 8 79 (fun _ => 0)
  var : At wr (w.heap.size + 1) 8 79 (upTo bend j)
  low : Below w.heap.size w wr
theorem BInv.step {w wr : World} {j : Nat} (h : BInv w wr j) : BInv w (wr.setCell ⟨w.heap.size + 1, j, none⟩ (.int .u8 (bend j : Nat))) (j + 1) := by
  refine ⟨h.out.apart (by simp) _, (h.var.set j (bend j)).ext (fun i _ => ?_), h.low.setCell (by simp) _⟩
  unfold upd upTo
  by_cases e : i = j
  · subst e; simp
  · rw [if_neg e]
    by_cases h1 : i < j
    · rw [if_pos h1, if_pos (by omega)]
    · rw [if_neg h1, if_neg (by omega)]
theorem BInv.start (w : World) : BInv w ((w.alloc (.cells (ba 8 (fun _ => 0)) 79)).alloc (.cells (ba 8 (fun _ => 0)) 79)) 0 := by
  refine ⟨(At.new w 8 79 (fun _ => 0)).alloc _, ?_, ((Below.refl _ _).alloc (Nat.le_refl _) _).alloc (by simp) _⟩
  have := At.new (w.alloc (.cells (ba 8 (fun _ => 0)) 79)) 8 79 (fun _ => 0)
  rw [World.size_alloc] at this
  exact this.ext (fun i _ => (if_neg (by omega)).symm)

theorem bend_any (w : World) :
    Calls Try.prog 65 #[] w fun e w' => e = .returned (.agg (ba 8 bend)) ∧ Below w.heap.size w w' := by
  have HS := hid (BInv.start w)
  go_enter Try.func65, Try.ntmps65
  go_wp2
  go_loopw [3] (fun i wr => ∃ j : Nat, j ≤ 8 ∧ i = .int .i64 j ∧ BInv w wr j) (fun i _ => 8 - (intOf i).toNat)
  case atStart => exact ⟨0, by omega, rfl, HS.out⟩
  case round =>
    obtain ⟨j, hj, rfl, hI⟩ := hrel
    have HI := hid hI
    clear hI
    by_cases hlt : j < 8
    · have hf := HI.out.var.free j
      have hc := HI.out.var.cell hlt
      have RR := hid (fun w => rot_any j w hlt)
      have HT := hid HI.out.step
      generalize upTo bend j j = x0 at hc
      generalize bend j = x at RR HT
      go_wp2_with (first | (go_at_call 70; (with_reducible refine (RR.out _).mono ?_); rintro e w1 ⟨rfl, rfl⟩))
      go_roundw
      case rel => exact ⟨j + 1, by omega, by go_num, HT.out⟩
      case measure => simp [intOf]; omega
    · obtain rfl : j = 8 := by omega
      have HM := hid HI.out.var
      have HN := hid HI.out.out
      go_wp2_with (first
        | (refine step_load_ba rfl 79 _ rfl (w.heap.size + 1) 8 79 5 _ rfl HM.out Try.underlying79 info23 ?_)
        | (refine step_store_ba rfl 79 _ _ rfl w.heap.size 8 79 _ _ rfl rfl HN.out info23 ?_))
      refine ret_ba rfl rfl Try.underlying79 info23 rfl (HI.out.out.row (upTo bend 8)) ⟨?_, below_setRow HI.out.low (Nat.le_refl _) _⟩
      rw [ba_ext (fun i hi => show upTo bend 8 i = bend i from if_pos hi)]
end Go.Proofs.Ythhkhcacljgelaa

namespace Go.Proofs.Ythhkhcacljgelaa
open Go.RowKit

/-- What a byte is substituted by, and what it was substituted for. -/
def sb (x : Nat) : Nat := ap bend (pw x 254) ^^^ 99
def bk (y : Nat) : Nat := pw (ap (inv bend) (y ^^^ 99)) 254
theorem sb_lt (x : Nat) : sb x < 256 := xor_lt (ap_lt _ _) (by decide)
theorem bk_lt (y : Nat) : bk y < 256 := pw_lt (ap_lt _ _) _
def tI : List Nat := [0, 1, 141, 246, 203, 82, 123, 209, 232, 79, 41, 192, 176, 225, 229, 199, 116, 180, 170, 75, 153, 43, 96, 95, 88, 63, 253, 204, 255, 64, 238, 178, 58, 110, 90, 241, 85, 77, 168, 201, 193, 10, 152, 21, 48, 68, 162, 194, 44, 69, 146, 108, 243, 57, 102, 66, 242, 53, 32, 111, 119, 187, 89, 25, 29, 254, 55, 103, 45, 49, 245, 105, 167, 100, 171, 19, 84, 37, 233, 9, 237, 92, 5, 202, 76, 36, 135, 191, 24, 62, 34, 240, 81, 236, 97, 23, 22, 94, 175, 211, 73, 166, 54, 67, 244, 71, 145, 223, 51, 147, 33, 59, 121, 183, 151, 133, 16, 181, 186, 60, 182, 112, 208, 6, 161, 250, 129, 130, 131, 126, 127, 128, 150, 115, 190, 86, 155, 158, 149, 217, 247, 2, 185, 164, 222, 106, 50, 109, 216, 138, 132, 114, 42, 20, 159, 136, 249, 220, 137, 154, 251, 124, 46, 195, 143, 184, 101, 72, 38, 200, 18, 74, 206, 231, 210, 98, 12, 224, 31, 239, 17, 117, 120, 113, 165, 142, 118, 61, 189, 188, 134, 87, 11, 40, 47, 163, 218, 212, 228, 15, 169, 39, 83, 4, 27, 252, 172, 230, 122, 7, 174, 99, 197, 219, 226, 234, 148, 139, 196, 213, 157, 248, 144, 107, 177, 13, 214, 235, 198, 14, 207, 173, 8, 78, 215, 227, 93, 80, 30, 179, 91, 35, 56, 52, 104, 70, 3, 140, 221, 156, 125, 160, 205, 26, 65, 28]
theorem tI_all : ∀ x < 256, tI.getD x 0 < 256 ∧ (x ≠ 0 → gm x (tI.getD x 0) = 1) := by decide +kernel
theorem tI_pw {x : Nat} (hx : x < 256) : pw x 254 = tI.getD x 0 := by
  by_cases h0 : x = 0
  · subst h0; exact pw_zero (by decide)
  · exact (inv_only hx (tI_all x hx).1 ((tI_all x hx).2 h0)).symm
theorem pw_pw_all : ∀ x < 256, pw (pw x 254) 254 = x := fun x hx => by
  by_cases h0 : x = 0
  · subst h0; rw [pw_zero (by decide), pw_zero (by decide)]
  · exact (inv_only (pw_lt hx 254) hx ((gm_comm (pw_lt hx 254) hx).trans (gm_inv hx h0))).symm
theorem xor_back (a b : Nat) : (a ^^^ b) ^^^ b = a := by rw [Nat.xor_assoc, Nat.xor_self, Nat.xor_zero]
theorem bk_sb {x : Nat} (hx : x < 256) : bk (sb x) = x := by
  unfold bk sb
  rw [xor_back, inv_left bend_by bend_rk _ (pw_lt hx _), pw_pw_all x hx]
theorem sb_bk {y : Nat} (hy : y < 256) : sb (bk y) = y := by
  unfold bk sb
  rw [pw_pw_all _ (ap_lt _ _), inv_right bend_by bend_rk _ (xor_lt hy (by decide)), xor_back]
theorem tI_apart : ∀ x < 256, ap bend (tI.getD x 0) ^^^ 99 ≠ x ∧ ap bend (tI.getD x 0) ^^^ 99 ≠ 255 - x := by decide +kernel
theorem sb_apart_all : ∀ x < 256, sb x ≠ x ∧ sb x ≠ 255 - x := fun x hx => by
  unfold sb
  rw [tI_pw hx]
  exact tI_apart x hx

theorem subst_any (x : Nat) (w : World) (hx : x < 256) :
    Calls Try.prog 57 #[.int .u8 (x : Int)] w fun e w' => e = .returned (.int .u8 (sb x : Nat)) ∧ Below w.heap.size w w' := by
  have HB := hid bend_any
  have HI := hid (fun w => inv_any x w hx)
  have HA := hid (fun w => apply_any bend (pw x 254) w bend_by (pw_lt hx _))
  have HX := hid (xor8 (ap_lt bend (pw x 254)) (show 99 < 256 by decide))
  have HE : Hid (ap bend (pw x 254) ^^^ 99 = sb x) := hid rfl
  generalize sb x = s at *
  generalize ap bend (pw x 254) = r at *
  generalize pw x 254 = p at *
  generalize bend = f at *
  go_enter Try.func57, Try.ntmps57
  go_wp2_with (first
    | (go_at_call 65; (with_reducible refine (HB.out _).mono ?_); rintro e w1 ⟨rfl, hlow1⟩; have HL := hid hlow1; clear hlow1)
    | (go_at_call 66; (with_reducible refine (HI.out _).mono ?_); rintro e w2 ⟨rfl, rfl⟩)
    | (go_at_call 64; (with_reducible refine (HA.out _).mono ?_); rintro e w3 ⟨rfl, hlow3⟩; have HL3 := hid (HL.out.trans (hlow3.mono HL.out.size)); clear hlow3))
  go_ret
  refine ⟨?_, HL3.out⟩
  rw [← HE.out]
  exact congrArg (fun z => Ending.returned (.int .u8 z)) HX.out

end Go.Proofs.Ythhkhcacljgelaa

namespace Go.Proofs.Ythhkhcacljgelaa
open Go.RowKit

/-- A box's 516 cells: done, the lock's two words, both tables, the field. -/
def bcs (d m s : Int) (f g : Nat → Nat) (p : Option Addr) : Array Value := (#[.int .u32 d, .int .i32 m, .int .u32 s] ++ ba 256 f) ++ (ba 256 g ++ #[.pointer p])
theorem built48 (p : Addr) : Try.prog.built 69 [(3, .pointer (some p))] = some (bcs 0 0 0 (fun _ => 0) (fun _ => 0) (some p)) := by
  kernel_rfl
theorem step_build_box (p : Addr) {w : World} {ops : Array Oper} {rest : List Oper} {o : Oper} {a : Act} {Q : Exit → Act → World → Prop} (hgd : o.guard = none) (x : Operand) (ho : o.op = .build 69 #[(3, x)])
    (hx : a.eval x = .pointer (some p)) (k : wpList Try.prog ops Q rest (a.put o.dst (.agg (bcs 0 0 0 (fun _ => 0) (fun _ => 0) (some p)))) w) : wpList Try.prog ops Q (o :: rest) a w := by
  have e : ((#[(3, x)] : Array (Nat × Operand)).map fun (i, x) => (i, a.eval x)).toList = [(3, .pointer (some p))] := by simp [hx]
  refine wpList_build hgd 69 #[(3, x)] ho (by rw [e, built48]; rfl) ?_
  rw [e, built48]; exact k

theorem bcs_size (d m s : Int) (f g : Nat → Nat) (p : Option Addr) : (bcs d m s f g p).size = 516 := by simp [bcs, ba_size]
theorem bcs_f (d m s : Int) (f g : Nat → Nat) (p : Option Addr) {i : Nat} (hi : i < 256) : (bcs d m s f g p)[3 + i]? = some (.int .u8 (f i : Int)) := by
  unfold bcs
  rw [Array.getElem?_append_left (by simp [ba_size] <;> omega), Array.getElem?_append_right (by simp), ← ba_get f hi]
  simp
theorem bcs_g (d m s : Int) (f g : Nat → Nat) (p : Option Addr) {i : Nat} (hi : i < 256) : (bcs d m s f g p)[259 + i]? = some (.int .u8 (g i : Int)) := by
  unfold bcs
  rw [Array.getElem?_append_right (by simp [ba_size] <;> omega), Array.getElem?_append_left (by simp [ba_size] <;> omega), ← ba_get g hi]
  simp [ba_size]
theorem bcs_p (d m s : Int) (f g : Nat → Nat) (p : Option Addr) : (bcs d m s f g p)[515]? = some (.pointer p) := by
  unfold bcs
  rw [Array.getElem?_append_right (by simp [ba_size]), Array.getElem?_append_right (by simp [ba_size])]
  simp [ba_size]
theorem bcs_head (d m s : Int) (f g : Nat → Nat) (p : Option Addr) {i : Nat} (hi : i < 3) : (bcs d m s f g p)[i]? = (#[Value.int .u32 d, .int .i32 m, .int .u32 s] : Array Value)[i]? := by
  unfold bcs
  rw [Array.getElem?_append_left (by simp [ba_size] <;> omega), Array.getElem?_append_left (by simpa using hi)]
theorem bcs_set0 (d m s d' : Int) (f g : Nat → Nat) (p : Option Addr) : (bcs d m s f g p).setIfInBounds 0 (.int .u32 d') = bcs d' m s f g p := by
  unfold bcs
  rw [Array.setIfInBounds_append_left (by simp <;> omega), Array.setIfInBounds_append_left (by simp)]
  rfl
theorem bcs_set1 (d m s m' : Int) (f g : Nat → Nat) (p : Option Addr) : (bcs d m s f g p).setIfInBounds 1 (.int .i32 m') = bcs d m' s f g p := by
  unfold bcs
  rw [Array.setIfInBounds_append_left (by simp <;> omega), Array.setIfInBounds_append_left (by simp)]
  rfl
theorem bcs_setf (d m s : Int) (f g : Nat → Nat) (p : Option Addr) {i : Nat} (hi : i < 256) (z : Nat) : (bcs d m s f g p).setIfInBounds (3 + i) (.int .u8 (z : Int)) = bcs d m s (upd f i z) g p := by
  unfold bcs
  rw [Array.setIfInBounds_append_left (by simp [ba_size] <;> omega), Array.setIfInBounds_append_right (by simp), ← ba_set]
  simp
theorem bcs_setg (d m s : Int) (f g : Nat → Nat) (p : Option Addr) {i : Nat} (hi : i < 256) (z : Nat) : (bcs d m s f g p).setIfInBounds (259 + i) (.int .u8 (z : Int)) = bcs d m s f (upd g i z) p := by
  unfold bcs
  rw [Array.setIfInBounds_append_right (by simp [ba_size] <;> omega), Array.setIfInBounds_append_left (by simp [ba_size] <;> omega), ← ba_set]
  simp [ba_size]

def BAt (w : World) (b : Nat) (d m s : Int) (f g : Nat → Nat) (p : Option Addr) : Prop := w.heap[b]? = some (.cells (bcs d m s f g p) 69 (0, 0))
section
variable {w w' : World} {b c B : Nat} {d m s : Int} {f g : Nat → Nat} {p : Option Addr}
theorem BAt.lt (h : BAt w b d m s f g p) : b < w.heap.size := (Array.getElem?_eq_some_iff.1 h).1
theorem BAt.free (h : BAt w b d m s f g p) (o : Nat) : w.frozen? ⟨b, o, none⟩ = false := frozen_of_row w b o _ 69 h
theorem BAt.at (h : BAt w b d m s f g p) (o : Nat) : w.cell? ⟨b, o, none⟩ = (bcs d m s f g p)[o]? := cell_of_row w b o _ 69 _ h
theorem BAt.c0 (h : BAt w b d m s f g p) : w.cell? ⟨b, 0, none⟩ = some (.int .u32 d) := (h.at 0).trans (bcs_head d m s f g p (by omega))
theorem BAt.c1 (h : BAt w b d m s f g p) : w.cell? ⟨b, 1, none⟩ = some (.int .i32 m) := (h.at 1).trans (bcs_head d m s f g p (by omega))
theorem BAt.cf (h : BAt w b d m s f g p) {i : Nat} (hi : i < 256) : w.cell? ⟨b, 3 + i, none⟩ = some (.int .u8 (f i : Int)) := (h.at _).trans (bcs_f d m s f g p hi)
theorem BAt.cg (h : BAt w b d m s f g p) {i : Nat} (hi : i < 256) : w.cell? ⟨b, 259 + i, none⟩ = some (.int .u8 (g i : Int)) := (h.at _).trans (bcs_g d m s f g p hi)
theorem BAt.cp (h : BAt w b d m s f g p) : w.cell? ⟨b, 515, none⟩ = some (.pointer p) := (h.at _).trans (bcs_p d m s f g p)
theorem BAt.set0 (h : BAt w b d m s f g p) (d' : Int) : BAt (w.setCell ⟨b, 0, none⟩ (.int .u32 d')) b d' m s f g p := by
  have := heap_setCell_same w b 0 _ 69 (.int .u32 d') h; rw [bcs_set0] at this; exact this
theorem BAt.set1 (h : BAt w b d m s f g p) (m' : Int) : BAt (w.setCell ⟨b, 1, none⟩ (.int .i32 m')) b d m' s f g p := by
  have := heap_setCell_same w b 1 _ 69 (.int .i32 m') h; rw [bcs_set1] at this; exact this
theorem BAt.setf (h : BAt w b d m s f g p) {i : Nat} (hi : i < 256) (z : Nat) : BAt (w.setCell ⟨b, 3 + i, none⟩ (.int .u8 (z : Int))) b d m s (upd f i z) g p := by
  have := heap_setCell_same w b (3 + i) _ 69 (.int .u8 (z : Int)) h; rw [bcs_setf _ _ _ _ _ _ hi] at this; exact this
theorem BAt.setg (h : BAt w b d m s f g p) {i : Nat} (hi : i < 256) (z : Nat) : BAt (w.setCell ⟨b, 259 + i, none⟩ (.int .u8 (z : Int))) b d m s f (upd g i z) p := by
  have := heap_setCell_same w b (259 + i) _ 69 (.int .u8 (z : Int)) h; rw [bcs_setg _ _ _ _ _ _ hi] at this; exact this
theorem BAt.below (h : BAt w b d m s f g p) (hb : Below B w w') (hB : b < B) : BAt w' b d m s f g p := (hb.block b hB).trans h
theorem BAt.self (h : BAt w b d m s f g p) (hb : Below w.heap.size w w') : BAt w' b d m s f g p := h.below hb h.lt
theorem BAt.drew (h : BAt w b d m s f g p) : BAt w.drew b d m s f g p := h
theorem BAt.only (h : BAt w b d m s f g p) (o : Only c w w') (hc : b ≠ c) : BAt w' b d m s f g p := (o.block b h.lt hc).trans h
theorem BAt.alloc (h : BAt w b d m s f g p) (o : Obj) : BAt (w.alloc o) b d m s f g p := (heap_alloc_old w o h.lt).trans h
theorem BAt.row (h : BAt w b d m s f g p) (hc : b ≠ c) (cs : Array Value) : BAt (w.setRow c cs) b d m s f g p := (setRow_other w c b cs hc).trans h
theorem BAt.ext {f' g' : Nat → Nat} (h : BAt w b d m s f g p) (hf : ∀ i, i < 256 → f i = f' i) (hg : ∀ i, i < 256 → g i = g' i) : BAt w b d m s f' g' p := by
  unfold BAt bcs at h ⊢
  rw [← ba_ext hf, ← ba_ext hg]; exact h
end

abbrev zt : Nat → Nat := fun _ => 0
end Go.Proofs.Ythhkhcacljgelaa

namespace Go.Proofs.Ythhkhcacljgelaa
open Go.RowKit

/-- The tables after i bytes. -/
def sbTo (i : Nat) : Nat → Nat := fun x => if x < i then sb x else 0
def bkTo (i : Nat) : Nat → Nat := fun y => if bk y < i then bk y else 0
theorem sbTo_zero : ∀ x, x < 256 → zt x = sbTo 0 x := fun _ _ => (if_neg (by omega)).symm
theorem bkTo_zero : ∀ y, y < 256 → zt y = bkTo 0 y := fun _ _ => (if_neg (by omega)).symm
theorem sbTo_all : ∀ x, x < 256 → sbTo 256 x = sb x := fun _ h => if_pos h
theorem bkTo_all : ∀ y, y < 256 → bkTo 256 y = bk y := fun y _ => if_pos (bk_lt y)
theorem sbTo_step (i : Nat) : ∀ x, x < 256 → upd (sbTo i) i (sb i) x = sbTo (i + 1) x := fun x _ => by
  unfold upd sbTo
  by_cases e : x = i
  · subst e; rw [if_pos rfl, if_pos (by omega)]
  · rw [if_neg e]
    by_cases h1 : x < i
    · rw [if_pos h1, if_pos (by omega)]
    · rw [if_neg h1, if_neg (by omega)]
theorem bkTo_step {i : Nat} (hi : i < 256) : ∀ y, y < 256 → upd (bkTo i) (sb i) i y = bkTo (i + 1) y := fun y hy => by
  unfold upd bkTo
  by_cases e : y = sb i
  · subst e; rw [if_pos rfl, bk_sb hi, if_pos (by omega)]
  · rw [if_neg e]
    have : bk y ≠ i := fun h => e (by rw [← h, sb_bk hy])
    by_cases h1 : bk y < i
    · rw [if_pos h1, if_pos (by omega)]
    · rw [if_neg h1, if_neg (by omega)]

structure FInv (b : Nat) (s : Int) (p : Option Addr) (w wr : World) (i : Nat) : Prop where
  box : BAt wr b 0 1 s (sbTo i) (bkTo i) p
  low : Only b w wr
theorem FInv.start {b : Nat} {s : Int} {p : Option Addr} {w : World} (h : BAt w b 0 1 s zt zt p) : FInv b s p w w 0 := ⟨h.ext sbTo_zero bkTo_zero, Only.refl b w⟩
theorem FInv.on {b : Nat} {s : Int} {p : Option Addr} {w wr w1 : World} {i : Nat} (h : FInv b s p w wr i) (hb : Below wr.heap.size wr w1) : FInv b s p w w1 i := ⟨h.box.self hb, h.low.trans (Only.of_below hb)⟩
theorem FInv.drew {b : Nat} {s : Int} {p : Option Addr} {w wr : World} {i : Nat} (h : FInv b s p w wr i) : FInv b s p w wr.drew i := ⟨h.box, h.low.drew⟩
theorem FInv.step {b : Nat} {s : Int} {p : Option Addr} {w wr : World} {i : Nat} (h : FInv b s p w wr i) (hi : i < 256) :
    FInv b s p w ((wr.setCell ⟨b, 3 + i, none⟩ (.int .u8 (sb i : Nat))).setCell ⟨b, 259 + sb i, none⟩ (.int .u8 (i : Int))) (i + 1) :=
  ⟨((h.box.setf hi (sb i)).setg (sb_lt i) i).ext (sbTo_step i) (bkTo_step hi), (h.low.trans (Only.set wr (p := ⟨b, 3 + i, none⟩) rfl _)).trans (Only.set _ (p := ⟨b, 259 + sb i, none⟩) rfl _)⟩

set_option maxRecDepth 100000 in
set_option maxHeartbeats 1600000 in
theorem fill_any (b : Nat) (s : Int) (p : Option Addr) (w : World) (hB : BAt w b 0 1 s zt zt p) :
    Calls Try.prog 59 #[.pointer (some ⟨b, 0, none⟩)] w fun e w' => e = .returned (.tuple #[]) ∧ BAt w' b 0 1 s sb bk p ∧ Only b w w' := by
  have HS := hid (FInv.start hB)
  clear hB
  go_enter Try.func59, Try.ntmps59
  go_wp2
  go_loopw [5] (fun i wr => ∃ j : Nat, j ≤ 256 ∧ i = .int .i64 j ∧ FInv b s p w wr j) (fun i _ => 256 - (intOf i).toNat)
  case atStart => exact ⟨0, by omega, rfl, HS.out⟩
  case round =>
    obtain ⟨j, hj, rfl, hI⟩ := hrel
    have HI := hid hI
    clear hI
    by_cases hlt : j < 256
    · have HX := hid (fun w => subst_any j w hlt)
      obtain ⟨y, hy⟩ : ∃ y, sb j = y := ⟨_, rfl⟩
      have ly : y < 256 := hy ▸ sb_lt j
      rw [hy] at HX
      have HY := hid hy
      clear hy
      go_wp2_with (first | (go_at_call 57; (with_reducible refine (HX.out _).mono ?_); rintro e w1 ⟨rfl, hlow⟩; have HJ := hid (HI.out.on hlow); clear hlow))
      have HK := hid HJ.out.box.drew
      have hc1 := HK.out.cf hlt
      have hf1 := HK.out.free (3 + j)
      have hc2 := HK.out.cg ly
      have hf2 := HK.out.free (259 + y)
      have hn1 : 259 + y ≠ 3 + j := by omega
      have hn2 : 3 + j ≠ 259 + y := by omega
      have HT := hid (HJ.out.box.setf hlt y)
      have HU := hid (HJ.out.step hlt)
      rw [HY.out] at HU
      have hc3 := HT.out.drew.cg ly
      have hf3 := HT.out.drew.free (259 + y)
      have hc4 := HT.out.cg ly
      have hf4 := HT.out.free (259 + y)
      go_region
      go_wp2
      go_roundw
      case rel => exact ⟨j + 1, by omega, by go_num, HU.out.drew⟩
      case measure => simp [intOf]; omega
    · obtain rfl : j = 256 := by omega
      go_wp2
      go_end0
      exact ⟨rfl, HI.out.box.ext sbTo_all bkTo_all, HI.out.low⟩
end Go.Proofs.Ythhkhcacljgelaa

namespace Go.Proofs.Ythhkhcacljgelaa
open Go.RowKit

set_option maxRecDepth 100000 in
set_option maxHeartbeats 1600000 in
theorem slow_box (b : Nat) (s : Int) (p : Option Addr) (w : World) (hB : BAt w b 0 0 s zt zt p) :
    Calls Try.prog 68 #[.pointer (some ⟨b, 0, none⟩), .func (.func 59) #[.pointer (some ⟨b, 0, none⟩)] #[]] w fun e w' => e = .returned (.tuple #[]) ∧ BAt w' b 1 0 s sb bk p ∧ Only b w w' := by
  have h1 := hB.c1
  have z1 := hB.free 1
  have HF1 := hid (hB.set1 1)
  have HO1 := hid (Only.set w (p := ⟨b, 1, none⟩) rfl (.int .i32 1))
  have hl := run_call_load (P := Try.prog) Try.func71 (by kernel_rfl) (by kernel_rfl) (by kernel_rfl) .u32 (by kernel_rfl) (w := w.setCell ⟨b, 1, none⟩ (.int .i32 1)) (a := ⟨b, 0, none⟩) (x := 0) HF1.out.c0
  have HCL := hid (fill_any b s p _ HF1.out)
  have HTF := hid (take_free ⟨b, 1, none⟩ w h1 z1)
  have hnot : ∀ (x : Bool) (w : World), (Op.unary .not (.bool x)).run Try.prog w = .ok (.bool (!x)) w := fun _ _ => rfl
  clear h1 z1 hB
  generalize hw1 : w.setCell ⟨b, 1, none⟩ (.int .i32 1) = w1 at *
  go_enter_defers Try.func68, Try.ntmps68
  go_wp2_with (first
    | (go_at_call 72; (with_reducible refine HTF.out.mono ?_); rintro e w' ⟨rfl, rfl⟩)
    | (go_at_call 67; go_in)
    | (go_at_call 59; (with_reducible refine HCL.out.mono ?_); rintro e w2 ⟨rfl, hf2, ho2⟩))
  have HF2 := hid hf2
  have HO2 := hid (HO1.out.trans ho2)
  clear hf2 ho2
  refine leaves_cons (f := 74) (args := #[.pointer (some ⟨b, 0, none⟩), .bool true]) (by simp) (by simp [go_sem]) ?_
  refine (mark_deferred ⟨b, 0, none⟩ (.int .u32 0) .returning _ HF2.out.c0 (HF2.out.free 0)).mono ?_
  rintro e u' w3 ⟨rfl, rfl, rfl⟩
  have HF3 := hid (HF2.out.drew.set0 1)
  have HO3 := hid ((HO2.out.drew).trans (Only.set w2.drew (p := ⟨b, 0, none⟩) rfl (.int .u32 1)))
  generalize w2.drew.setCell ⟨b, 0, none⟩ (.int .u32 1) = w3 at *
  refine leaves_cons (f := 73) (args := #[.pointer (some ⟨b, 1, none⟩)]) (by simp [settle]) (by simp [go_sem]) ?_
  refine (letgo_deferred ⟨b, 1, none⟩ _ _ HF3.out.c1 (HF3.out.free 1)).mono ?_
  rintro e u' w4 ⟨rfl, rfl, rfl⟩
  have HF4 := hid (HF3.out.set1 0)
  have HO4 := hid (HO3.out.trans (Only.set w3 (p := ⟨b, 1, none⟩) rfl (.int .i32 0)))
  generalize w3.setCell ⟨b, 1, none⟩ (.int .i32 0) = w4 at *
  exact ⟨_, results_none rfl _ _ _, rfl, HF4.out, HO4.out⟩

set_option maxRecDepth 100000 in
set_option maxHeartbeats 1600000 in
theorem dobox_first (b : Nat) (s : Int) (p : Option Addr) (w : World) (hB : BAt w b 0 0 s zt zt p) :
    Calls Try.prog 58 #[.pointer (some ⟨b, 0, none⟩), .func (.func 59) #[.pointer (some ⟨b, 0, none⟩)] #[]] w fun e w' => e = .returned (.tuple #[]) ∧ BAt w' b 1 0 s sb bk p ∧ Only b w w' := by
  have HSL := hid (slow_box b s p w hB)
  have hl := run_call_load (P := Try.prog) Try.func71 (by kernel_rfl) (by kernel_rfl) (by kernel_rfl) .u32 (by kernel_rfl) hB.c0
  have hnot : ∀ (x : Bool) (w : World), (Op.unary .not (.bool x)).run Try.prog w = .ok (.bool (!x)) w := fun _ _ => rfl
  clear hB
  go_enter Try.func58, Try.ntmps58
  go_wp2_with (first
    | (go_at_call 68; (with_reducible refine HSL.out.mono ?_); rintro e w2 ⟨rfl, hf2, ho2⟩)
    | (go_at_call 67; go_in))
  go_end0
  exact ⟨rfl, hf2, ho2⟩

set_option maxRecDepth 100000 in
set_option maxHeartbeats 1600000 in
theorem sub_first (b x : Nat) (s : Int) (p : Option Addr) (w : World) (hx : x < 256) (hB : BAt w b 0 0 s zt zt p) :
    Calls Try.prog 48 #[.pointer (some ⟨b, 0, none⟩), .int .u8 (x : Int)] w fun e w' => e = .returned (.int .u8 (sb x : Nat)) ∧ BAt w' b 1 0 s sb bk p ∧ Only b w w' := by
  have HD := hid (dobox_first b s p w hB)
  have hmf : ∀ (fn : Fn) (first cap : Array Value) (w : World), (Instr.makeFunc fn first cap).run Try.prog w = .ok (.func fn first cap) w := fun _ _ _ _ => rfl
  clear hB
  go_enter Try.func48, Try.ntmps48
  go_wp2_with (first
    | (go_at_call 58; (with_reducible refine HD.out.mono ?_); rintro e w2 ⟨rfl, hf2, ho2⟩; have HF2 := hid hf2; have HO2 := hid ho2; have hc := hf2.cf hx; clear hf2 ho2))
  go_ret
  exact ⟨rfl, HF2.out, HO2.out⟩

set_option maxRecDepth 100000 in
set_option maxHeartbeats 1600000 in
theorem sub_done (b x : Nat) (s : Int) (p : Option Addr) (w : World) (hx : x < 256) (hB : BAt w b 1 0 s sb bk p) :
    Calls Try.prog 48 #[.pointer (some ⟨b, 0, none⟩), .int .u8 (x : Int)] w fun e w' => e = .returned (.int .u8 (sb x : Nat)) ∧ w' = w := by
  have HD := hid (fun fv => do_done ⟨b, 0, none⟩ 1 (by decide) fv w hB.c0)
  have hmf : ∀ (fn : Fn) (first cap : Array Value) (w : World), (Instr.makeFunc fn first cap).run Try.prog w = .ok (.func fn first cap) w := fun _ _ _ _ => rfl
  have hc := hB.cf hx
  clear hB
  go_enter Try.func48, Try.ntmps48
  go_wp2_with (first
    | (go_at_call 58; (with_reducible refine (HD.out _).mono ?_); rintro e w2 ⟨rfl, rfl⟩))
  go_ret
  exact ⟨rfl, rfl⟩

end Go.Proofs.Ythhkhcacljgelaa

namespace Go.Proofs.Ythhkhcacljgelaa
open Go.RowKit

/-- tower.New, where nothing of its field is asked. -/
theorem field_made (w : World) : Calls Try.prog 20 #[] w fun e w' => e = .returned (.pointer (some ⟨w.heap.size, 0, none⟩)) ∧ Below w.heap.size w w' := by
  go_enter Try.func20, Try.ntmps20
  go_wp2
  go_ret
  exact ⟨rfl, (Below.refl _ _).alloc (Nat.le_refl _) _⟩

theorem box_made (w : World) :
    Calls Try.prog 10 #[] w fun e w' => ∃ b, e = .returned (.pointer (some ⟨b, 0, none⟩)) ∧ w.heap.size ≤ b ∧ (∃ p, BAt w' b 0 0 0 zt zt p) ∧ Below w.heap.size w w' := by
  have HN := hid (field_made w)
  go_enter Try.func10, Try.ntmps10
  go_wp2_with (first
    | (go_at_call 20; (with_reducible refine HN.out.mono ?_); rintro e w1 ⟨rfl, hl⟩; have HL := hid hl; clear hl)
    | (refine step_build_box ⟨w.heap.size, 0, none⟩ rfl _ rfl rfl ?_; generalize hcs : bcs 0 0 0 (fun _ => 0) (fun _ => 0) (some ⟨w.heap.size, 0, none⟩) = cs; have HC := hid hcs; clear hcs))
  go_ret
  exact ⟨_, rfl, HL.out.size, ⟨some ⟨w.heap.size, 0, none⟩, by have := heap_alloc_new w1 (.cells cs 69); rw [← HC.out] at this; unfold BAt; rw [HC.out]; rw [HC.out] at this; exact this⟩, HL.out.alloc HL.out.size _⟩
end Go.Proofs.Ythhkhcacljgelaa
