import Derived.Test.YthkanhhpkaigoaaProg
import Derived.Test.YthkanhhpkaigoaaAeb
import Derived.Test.YthkanhhpkaigoaaAed
namespace Go.Proofs.Ythkanhhpkaigoaa
open Go.RowKit

set_option maxRecDepth 100000 in
set_option maxHeartbeats 800000 in
theorem mixes_any (d b c cap R R1 r : Nat) (_Y : Nat → Nat → Nat) (w : World) (h : CAt w d b (.slice (some ⟨c, 0, none⟩) R1 cap)) (hR : R1 = R + 1) (hr : r ≤ R) (hl : R ≤ 1000) :
    Calls Try.prog 30 #[.pointer (some ⟨d, 0, none⟩), .int .i64 (r : Int)] w fun e w' => e = .returned (.bool (decide (0 < r ∧ r < R))) ∧ w' = w := by
  have hc := h.c1
  clear h
  by_cases h0 : 0 < r
  · have e0 : (0 : Int) < (r : Int) := by omega
    have e1 : (R1 : Int) - 1 = (R : Int) := by omega
    have w1 : IntKind.i64.wrap (R : Int) = R := by rw [IntKind.wrap_i64]; omega
    by_cases h1 : r < R
    · have e2 : (r : Int) < (R : Int) := by omega
      rw [decide_eq_true (show 0 < r ∧ r < R from ⟨h0, h1⟩)]
      clear h0 h1 hR hr hl
      go_enter Try.func30, Try.ntmps30
      go_wp2
      go_ret
      exact ⟨rfl, rfl⟩
    · have e2 : ¬ (r : Int) < (R : Int) := by omega
      rw [decide_eq_false (show ¬ (0 < r ∧ r < R) from fun h => h1 h.2)]
      clear h0 h1 hR hr hl
      go_enter Try.func30, Try.ntmps30
      go_wp2
      go_ret
      exact ⟨rfl, rfl⟩
  · obtain rfl : r = 0 := by omega
    rw [decide_eq_false (show ¬ (0 < 0 ∧ 0 < R) from fun h => h0 h.1)]
    clear h0 hR hr hl
    go_enter Try.func30, Try.ntmps30
    go_wp2
    go_ret
    exact ⟨rfl, rfl⟩

theorem step_load_ma {P : Program} {ops : Array Oper} {rest : List Oper} {op : Oper} {a : Act} {w : World} {Q : Exit → Act → World → Prop} (hgd : op.guard = none) (ty : TypeId) (x : Operand) (ho : op.op = .load ty x)
    (b o n : Nat) (f : Nat → Nat) (e : TypeId) (hx : a.eval x = .pointer (some ⟨b, o, none⟩)) (hc : w.rangeAt b o (ba n f).toList)
    (hu : P.underlying ty = some (.array n e)) (hi : (P.info? ty).map (·.size) = some n)
    (h : wpList P ops Q rest (a.put op.dst (.agg (ba n f))) w) : wpList P ops Q (op :: rest) a w :=
  wpList_load_mid hgd ty x ho b o hx _ _ hc hu rfl (by rw [Array.length_toList, ba_size]; exact hi) (by simpa using h)

/-- A cipher at work: the block in its variable, the result's block, the cipher. -/
structure BI (w wr : World) (d b c cap R1 : Nat) (Y : Nat → Nat → Nat) (g : Nat → Nat) : Prop where
  var : At wr w.heap.size 16 23 g
  out : At wr (w.heap.size + 1) 16 23 (fun _ => 0)
  ci : Ci wr d b c cap R1 Y
  low : Only b w wr
  lt : d < w.heap.size ∧ b < w.heap.size ∧ c < w.heap.size
section
variable {w wr w1 : World} {d b c cap R1 n : Nat} {Y : Nat → Nat → Nat} {f g g' k : Nat → Nat}
theorem BI.start (h : Ci w d b c cap R1 Y) (f : Nat → Nat) : BI w ((w.alloc (.cells (ba 16 f) 23)).alloc (.cells (ba 16 (fun _ => 0)) 23)) d b c cap R1 Y f := by
  have hv := Var.start1 w f
  exact ⟨hv.var, hv.out, h.self hv.low, Only.of_below hv.low, h.blk.lt, h.box.lt, h.rows.lt⟩
theorem BI.self (h : BI w wr d b c cap R1 Y g) (hb : Below wr.heap.size wr w1) : BI w w1 d b c cap R1 Y g :=
  ⟨h.var.self hb, h.out.self hb, h.ci.self hb, h.low.trans (Only.of_below hb), h.lt⟩
theorem BI.only (h : BI w wr d b c cap R1 Y g) (o : Only b wr w1) (hB : Box w1 b) : BI w w1 d b c cap R1 Y g :=
  ⟨(o.block _ h.var.lt (by have := h.lt; omega)).trans h.var, (o.block _ h.out.lt (by have := h.lt; omega)).trans h.out, h.ci.only o hB, h.low.trans o, h.lt⟩
theorem BI.drew (h : BI w wr d b c cap R1 Y g) : BI w wr.drew d b c cap R1 Y g := ⟨h.var.drew, h.out.drew, h.ci.drew, h.low.drew, h.lt⟩
theorem BI.ext (h : BI w wr d b c cap R1 Y g) (e : Eq16 g g') : BI w wr d b c cap R1 Y g' := ⟨h.var.ext e, h.out, h.ci, h.low, h.lt⟩
theorem BI.setRow (h : BI w wr d b c cap R1 Y g) (hn : w.heap.size ≤ n) (cs : Array Value) : Ci (wr.setRow n cs) d b c cap R1 Y ∧ Only b w (wr.setRow n cs) := by
  have hl := h.lt
  refine ⟨⟨(setRow_other wr n d cs (by omega)).trans h.ci.blk, h.ci.box.same (setRow_other wr n b cs (by omega)), h.ci.rows.same (by simp) (setRow_other wr n c cs (by omega)), h.ci.ne⟩, ?_⟩
  exact ⟨h.low.os, h.low.tape, h.low.output, by simpa using h.low.size, fun j hj hn' => (setRow_other wr n j cs (by omega)).trans (h.low.block j hj hn')⟩
theorem BI.row (h : BI w wr d b c cap R1 Y g) (g' : Nat → Nat) : BI w (wr.setRow w.heap.size (ba 16 g')) d b c cap R1 Y g' :=
  ⟨h.var.row g', h.out.rowApart (by omega) _, (h.setRow (Nat.le_refl _) _).1, (h.setRow (Nat.le_refl _) _).2, h.lt⟩
theorem BI.done (h : BI w wr d b c cap R1 Y g) (k : Nat → Nat) :
    At (wr.setRow (w.heap.size + 1) (ba 16 k)) (w.heap.size + 1) 16 23 k ∧ Ci (wr.setRow (w.heap.size + 1) (ba 16 k)) d b c cap R1 Y ∧ Only b w (wr.setRow (w.heap.size + 1) (ba 16 k)) :=
  ⟨h.out.row k, h.setRow (by omega) _⟩
/-- .. and a round's key in a variable n. -/
structure BK (w wr : World) (d b c cap R1 : Nat) (Y : Nat → Nat → Nat) (n : Nat) (g k : Nat → Nat) : Prop extends BI w wr d b c cap R1 Y g where
  key : At wr n 16 23 k
  far : w.heap.size + 1 < n
theorem BI.keyed (h : BI w wr d b c cap R1 Y g) (k : Nat → Nat) : BK w ((wr.alloc (.cells (ba 16 (fun _ => 0)) 23)).setRow wr.heap.size (ba 16 k)) d b c cap R1 Y wr.heap.size g k := by
  have h1 := h.self ((Below.refl _ _).alloc (Nat.le_refl _) (.cells (ba 16 (fun _ => 0)) 23))
  have hl := h.var.lt
  have hl1 := h.out.lt
  exact ⟨⟨h1.var.rowApart (by omega) _, h1.out.rowApart (by omega) _, (h1.setRow (Nat.le_of_lt hl) _).1, (h1.setRow (Nat.le_of_lt hl) _).2, h1.lt⟩, (At.new wr 16 23 _).row k, hl1⟩
theorem BK.self (h : BK w wr d b c cap R1 Y n g k) (hb : Below wr.heap.size wr w1) : BK w w1 d b c cap R1 Y n g k := ⟨h.toBI.self hb, h.key.self hb, h.far⟩
theorem BK.only (h : BK w wr d b c cap R1 Y n g k) (o : Only b wr w1) (hB : Box w1 b) : BK w w1 d b c cap R1 Y n g k :=
  ⟨h.toBI.only o hB, (o.block _ h.key.lt (by have := h.lt; have := h.far; omega)).trans h.key, h.far⟩
theorem BK.drew (h : BK w wr d b c cap R1 Y n g k) : BK w wr.drew d b c cap R1 Y n g k := ⟨h.toBI.drew, h.key.drew, h.far⟩
theorem BK.row (h : BK w wr d b c cap R1 Y n g k) (g' : Nat → Nat) : BK w (wr.setRow w.heap.size (ba 16 g')) d b c cap R1 Y n g' k :=
  ⟨h.toBI.row g', h.key.rowApart (by have := h.far; omega) _, h.far⟩
end
theorem At.range {w : World} {b n : Nat} {t : TypeId} {f : Nat → Nat} (h : At w b n t f) : w.rangeAt b 0 (ba n f).toList := by
  intro j v hv
  have hj : j < n := by have := (List.getElem?_eq_some_iff.1 hv).1; rwa [Array.length_toList, ba_size] at this
  rw [Array.getElem?_toList, ba_get _ hj] at hv
  injection hv with hv
  rw [← hv, Nat.zero_add]; exact h.cell hj

set_option maxRecDepth 100000 in
theorem block_nil (f : Nat → Nat) (w : World) : Calls Try.prog 14 #[.pointer none, .agg (ba 16 f)] w fun e w' => e = .returned (.agg (ba 16 f)) ∧ Below w.heap.size w w' := by
  have HS := hid (Var.start1 w f)
  go_enter Try.func14, Try.ntmps14
  go_wp2_with (first
    | (refine step_load_ba rfl 23 _ rfl w.heap.size 16 23 5 f rfl HS.out.var Try.underlying23 infoa ?_)
    | (refine step_store_ba rfl 23 _ _ rfl (w.heap.size + 1) 16 23 (fun _ => 0) f rfl rfl HS.out.out infoa ?_))
  exact ret_ba rfl rfl Try.underlying23 infoa rfl (HS.out.done _).1 ⟨rfl, (HS.out.done _).2⟩
set_option maxRecDepth 100000 in
theorem unblock_nil (f : Nat → Nat) (w : World) : Calls Try.prog 15 #[.pointer none, .agg (ba 16 f)] w fun e w' => e = .returned (.agg (ba 16 f)) ∧ Below w.heap.size w w' := by
  have HS := hid (Var.start1 w f)
  go_enter Try.func15, Try.ntmps15
  go_wp2_with (first
    | (refine step_load_ba rfl 23 _ rfl w.heap.size 16 23 5 f rfl HS.out.var Try.underlying23 infoa ?_)
    | (refine step_store_ba rfl 23 _ _ rfl (w.heap.size + 1) 16 23 (fun _ => 0) f rfl rfl HS.out.out infoa ?_))
  exact ret_ba rfl rfl Try.underlying23 infoa rfl (HS.out.done _).1 ⟨rfl, (HS.out.done _).2⟩
end Go.Proofs.Ythkanhhpkaigoaa
