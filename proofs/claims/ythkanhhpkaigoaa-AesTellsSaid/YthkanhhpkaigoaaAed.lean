import Derived.Test.YthkanhhpkaigoaaProg
import Derived.Test.YthkanhhpkaigoaaAec
import Derived.Great.BuildSlice
namespace Go.Proofs.Ythkanhhpkaigoaa
open Go.RowKit

/-- m rows of 16 bytes, one behind the other. -/
def flt (m : Nat) (F : Nat → Nat → Nat) : List Value := (ba (16 * m) (fun x => F (x / 16) (x % 16))).toList
theorem flt_len (m : Nat) (F : Nat → Nat → Nat) : (flt m F).length = m * 16 := by unfold flt; rw [Array.length_toList, ba_size, Nat.mul_comm]
theorem flt_at {m : Nat} (F : Nat → Nat → Nat) {x : Nat} (h : x < 16 * m) : (flt m F)[x]? = some (.int .u8 (F (x / 16) (x % 16) : Int)) := by
  unfold flt; rw [Array.getElem?_toList, ba_get _ h]
theorem flt_snoc (m : Nat) (F : Nat → Nat → Nat) (f : Nat → Nat) : flt m F ++ (ba 16 f).toList = flt (m + 1) (updR F m f) := by
  apply List.ext_getElem?
  intro x
  by_cases h1 : x < 16 * m
  · rw [List.getElem?_append_left (by rw [flt_len]; omega), flt_at _ h1, flt_at _ (by omega)]
    unfold updR
    rw [if_neg (by omega)]
  · rw [List.getElem?_append_right (by rw [flt_len]; omega), flt_len]
    by_cases h2 : x < 16 * (m + 1)
    · rw [flt_at _ h2, Array.getElem?_toList, ba_get _ (by omega)]
      unfold updR
      rw [if_pos (by omega), show x - m * 16 = x % 16 by omega]
    · rw [List.getElem?_eq_none (by rw [Array.length_toList, ba_size]; omega), List.getElem?_eq_none (by rw [flt_len]; omega)]
theorem flt_ext {m : Nat} {F G : Nat → Nat → Nat} (h : ∀ i, i < m → ∀ j, j < 16 → F i j = G i j) : flt m F = flt m G := by
  unfold flt
  rw [ba_ext (fun x hx => h (x / 16) (by omega) (x % 16) (by omega))]

/-- Block c reads, from its beginning on, as rows of 16 bytes. -/
structure R16 (w : World) (c m : Nat) (F : Nat → Nat → Nat) : Prop where
  lt : c < w.heap.size
  cell : ∀ i, i < m → ∀ j, j < 16 → w.cell? ⟨c, i * 16 + j, none⟩ = some (.int .u8 (F i j : Int))
  byte : ∀ i, i < m → B16 (F i)
theorem R16.same {w w' : World} {c m : Nat} {F : Nat → Nat → Nat} (h : R16 w c m F) (hs : w.heap.size ≤ w'.heap.size) (hb : w'.heap[c]? = w.heap[c]?) : R16 w' c m F :=
  ⟨Nat.lt_of_lt_of_le h.lt hs, fun i hi j hj => (World.cell?_of_block (w := w) hb).trans (h.cell i hi j hj), h.byte⟩
theorem R16.range {w : World} {c m : Nat} {F : Nat → Nat → Nat} (h : R16 w c m F) {i : Nat} (hi : i < m) : w.rangeAt c (i * 16) (ba 16 (F i)).toList := by
  intro j v hv
  have hj : j < 16 := by have := (List.getElem?_eq_some_iff.1 hv).1; rwa [Array.length_toList, ba_size] at this
  rw [Array.getElem?_toList, ba_get _ hj] at hv
  injection hv with hv
  rw [← hv]; exact h.cell i hi j hj
theorem Wd.range {w : World} {g o : Nat} {f : Nat → Nat} (h : Wd w 16 g o f) : w.rangeAt g o (ba 16 f).toList := by
  intro j v hv
  have hj : j < 16 := by have := (List.getElem?_eq_some_iff.1 hv).1; rwa [Array.length_toList, ba_size] at this
  rw [Array.getElem?_toList, ba_get _ hj] at hv
  injection hv with hv
  rw [← hv]; exact h.cell j hj

/-- A list of rows of 16 bytes, the call's own. -/
structure LB (w : World) (B : Nat) (v : Value) (m : Nat) (F : Nat → Nat → Nat) : Prop where
  own : w.ownsRow B 23 16 v m (flt m F)
  byte : ∀ i, i < m → B16 (F i)
theorem LB.r16 {w : World} {B c cap m : Nat} {F : Nat → Nat → Nat} (h : LB w B (.slice (some ⟨c, 0, none⟩) m cap) m F) (hm : 0 < m) : R16 w c m F := by
  obtain ⟨g, cap', e, hb, hlt⟩ := h.own.form hm
  injection e with e1 _ _
  injection e1 with e1
  injection e1 with e1
  subst e1
  refine ⟨hlt, fun i hi j hj => ?_, h.byte⟩
  have := h.own.cells (g := c) rfl (i * 16 + j) _ (flt_at F (by omega))
  rw [Addr.add_mid, Nat.zero_add] at this
  rw [this, show (i * 16 + j) / 16 = i by omega, show (i * 16 + j) % 16 = j by omega]
theorem LB.same {w w' : World} {B : Nat} {v : Value} {m : Nat} {F : Nat → Nat → Nat} (h : LB w B v m F) (hb : ∀ g, B ≤ g → g < w.heap.size → w'.heap[g]? = w.heap[g]?) : LB w' B v m F := by
  refine ⟨⟨h.own.1, ?_⟩, h.byte⟩
  rcases h.own.2 with h1 | ⟨g, cap, cur, e, h1, h2, h3⟩
  · exact .inl h1
  · exact .inr ⟨g, cap, cur, e, h1, (hb g h1 (Array.getElem?_eq_some_iff.1 h2).1).trans h2, h3⟩
theorem LB.ext {w : World} {B : Nat} {v : Value} {m : Nat} {F G : Nat → Nat → Nat} (h : LB w B v m F) (e : ∀ i, i < m → ∀ j, j < 16 → F i j = G i j) : LB w B v m G :=
  ⟨by rw [← flt_ext e]; exact h.own, fun i hi j hj => by rw [← e i hi j hj]; exact h.byte i hi j hj⟩

theorem info16 : (Try.prog.info? 23).map (fun i => (i.zero, i.size, i.bytes)) = some (some (.agg (ba 16 (fun _ => 0))), 16, 16) := by kernel_rfl
set_option maxRecDepth 100000 in
theorem wp_append_lb {w : World} {o : Oper} {a : Act} {Kk : Act → World → Prop} {Q : Exit → Act → World → Prop} (s x : Operand)
    (ho : o.op = .call { callee := .builtin .append, args := #[s, x], argTypes := #[45, 45] }) (B : Nat) (v : Value) (m : Nat) (F : Nat → Nat → Nat) (hs : a.eval s = v) (hown : LB w B v m F)
    (ad : Addr) (c : Nat) (f : Nat → Nat) (hx : a.eval x = .slice (some ad) 1 c) (hu : ∀ j, j < 16 → w.cell? (ad.add j) = some (.int .u8 (f j : Int))) (hf : B16 f)
    (hlim : m ≤ 1048576) (hB : B ≤ w.heap.size) (B0 : Nat) (w0 : World) (hb : Below B0 w0 w) (hBB : B0 ≤ B)
    (h : ∀ v' w', LB w' B v' (m + 1) (updR F m f) → Below B0 w0 w' → w.heap.size ≤ w'.heap.size → Kk (a.put o.dst v') w') : o.wp Try.prog a w Kk Q := by
  obtain ⟨i0, hi, hz0, hz1, hz2⟩ := info_parts info16
  refine wp_append_own w s x 45 ho B 23 i0 _ 16 16 Try.underlying45 hi hz0 hz1 hz2 (ba_size _ _) (by decide) v m (flt m F) hs hown.own ad 1 c (ba 16 f).toList hx (by rw [Array.length_toList, ba_size]) ?_ ?_ (by unfold maxLen; omega) (by omega) hB ?_
  · intro j y hj
    have hj4 : j < 16 := by have := (List.getElem?_eq_some_iff.1 hj).1; rwa [Array.length_toList, ba_size] at this
    rw [Array.getElem?_toList, ba_get _ hj4] at hj
    injection hj with hj
    rw [← hj]; exact hu j hj4
  · intro y hy
    obtain ⟨j, hj, e⟩ := List.mem_iff_getElem.1 hy
    have hj4 : j < 16 := by rwa [Array.length_toList, ba_size] at hj
    have : (ba 16 f).toList[j]? = some y := by rw [List.getElem?_eq_getElem hj, e]
    rw [Array.getElem?_toList, ba_get _ hj4] at this
    injection this with this
    rw [← this]; rfl
  · intro v' w' h2 h3 _
    refine h v' w' ⟨by rw [← flt_snoc]; exact h2, fun i hi j hj => ?_⟩ (hb.grown h3 (by omega) (fun j hj => by have := (World.ownsRow.lt hown.own j hj).1; omega)) h3.size
    unfold updR
    split
    · exact hf j hj
    · exact hown.byte i (by omega) j hj
theorem step_append_lb {w : World} {ops : Array Oper} {o : Oper} {a : Act} {Kk : Act → World → Prop} {Q : Exit → Act → World → Prop} {X : Prop} (hgd : o.guard = none) (s x : Operand)
    (ho : o.op = .call { callee := .builtin .append, args := #[s, x], argTypes := #[45, 45] }) (B : Nat) (v : Value) (m : Nat) (F : Nat → Nat → Nat) (hs : a.eval s = v) (hown : LB w B v m F)
    (ad : Addr) (c : Nat) (f : Nat → Nat) (hx : a.eval x = .slice (some ad) 1 c) (hu : ∀ j, j < 16 → w.cell? (ad.add j) = some (.int .u8 (f j : Int))) (hf : B16 f)
    (hlim : m ≤ 1048576) (hB : B ≤ w.heap.size) (B0 : Nat) (w0 : World) (hb : Below B0 w0 w) (hBB : B0 ≤ B)
    (h : ∀ v' w', LB w' B v' (m + 1) (updR F m f) → Below B0 w0 w' → w.heap.size ≤ w'.heap.size → Kk (a.put o.dst v') w') :
    if Region.wanted o (yielded ops a.tmps) = true then Oper.wp Try.prog o a w Kk Q else X := by
  have hw : Region.wanted o (yielded ops a.tmps) = true := by simp [Region.wanted, hgd]
  rw [if_pos hw]
  exact wp_append_lb s x ho B v m F hs hown ad c f hx hu hf hlim hB B0 w0 hb hBB h
theorem cells_new16 (w : World) (f : Nat → Nat) (E : TypeId) : ∀ j, j < 16 → (w.alloc (.cells (ba 16 f) E)).cell? (Addr.add ⟨w.heap.size, 0, none⟩ j) = some (.int .u8 (f j : Int)) := by
  intro j hj
  rw [Addr.add_mid, Nat.zero_add]
  exact (At.new w 16 E f).cell hj

/-- A cipher in block d: its box in b, its round keys in c. -/
def CAt (w : World) (d b : Nat) (v : Value) : Prop := w.heap[d]? = some (.cells #[.pointer (some ⟨b, 0, none⟩), v] 47 (0, 0))
theorem CAt.c0 {w : World} {d b : Nat} {v : Value} (h : CAt w d b v) : w.cell? ⟨d, 0, none⟩ = some (.pointer (some ⟨b, 0, none⟩)) := cell_of_row w d 0 _ 47 _ h
theorem CAt.c1 {w : World} {d b : Nat} {v : Value} (h : CAt w d b v) : w.cell? ⟨d, 1, none⟩ = some v := cell_of_row w d 1 _ 47 _ h
theorem CAt.free {w : World} {d b : Nat} {v : Value} (h : CAt w d b v) (o : Nat) : w.frozen? ⟨d, o, none⟩ = false := frozen_of_row w d o _ 47 h
theorem CAt.lt {w : World} {d b : Nat} {v : Value} (h : CAt w d b v) : d < w.heap.size := (Array.getElem?_eq_some_iff.1 h).1
theorem CAt.set {w : World} {d b : Nat} {v : Value} (h : CAt w d b v) (v' : Value) : CAt (w.setCell ⟨d, 1, none⟩ v') d b v' := by
  unfold CAt
  rw [heap_setCell_same w d 1 _ 47 _ h]
  rfl
structure Ci (w : World) (d b c cap n : Nat) (Y : Nat → Nat → Nat) : Prop where
  blk : CAt w d b (.slice (some ⟨c, 0, none⟩) n cap)
  box : Box w b
  rows : R16 w c n Y
  ne : d ≠ b ∧ c ≠ b
section
variable {w w' : World} {d b c cap n : Nat} {Y : Nat → Nat → Nat}
theorem Ci.self (h : Ci w d b c cap n Y) (hb : Below w.heap.size w w') : Ci w' d b c cap n Y :=
  ⟨(hb.block d h.blk.lt).trans h.blk, h.box.self hb, h.rows.same hb.size (hb.block c h.rows.lt), h.ne⟩
theorem Ci.only (h : Ci w d b c cap n Y) (o : Only b w w') (hB : Box w' b) : Ci w' d b c cap n Y :=
  ⟨(o.block d h.blk.lt h.ne.1).trans h.blk, hB, h.rows.same o.size (o.block c h.rows.lt h.ne.2), h.ne⟩
theorem Ci.drew (h : Ci w d b c cap n Y) : Ci w.drew d b c cap n Y := ⟨h.blk, h.box, ⟨h.rows.lt, h.rows.cell, h.rows.byte⟩, h.ne⟩
end

/-- While a cipher is made: wl the world from which the loop starts. -/
structure NInv (wl wr : World) (d b n : Nat) (v : Value) (Y : Nat → Nat → Nat) : Prop where
  blk : CAt wr d b v
  rows : LB wr wl.heap.size v n Y
  low : Only d wl wr
  lt : d < wl.heap.size
section
variable {wl wr w1 : World} {d b n : Nat} {v v' : Value} {Y : Nat → Nat → Nat}
theorem NInv.drew (h : NInv wl wr d b n v Y) : NInv wl wr.drew d b n v Y := ⟨h.blk, ⟨h.rows.own, h.rows.byte⟩, h.low.drew, h.lt⟩
theorem NInv.alloc (h : NInv wl wr d b n v Y) (o : Obj) : NInv wl (wr.alloc o) d b n v Y :=
  ⟨(heap_alloc_old wr o h.blk.lt).trans h.blk, h.rows.same (fun _ _ hg => heap_alloc_old wr o hg), h.low.trans (Only.of_below ((Below.refl _ _).alloc (Nat.le_refl _) _)), h.lt⟩
/-- .. what append leaves of the cipher's block. -/
theorem NInv.blk' (h : NInv wl wr d b n v Y) (hb : Below wl.heap.size wr w1) : CAt w1 d b v := (hb.block d h.lt).trans h.blk
theorem NInv.more (h : NInv wl wr d b n v Y) (hb : Below wl.heap.size wr w1) (hl : LB w1 wl.heap.size v' (n + 1) (updR Y n (Y n))) : NInv wl (w1.setCell ⟨d, 1, none⟩ v') d b (n + 1) v' Y := by
  have ho : Only d wl w1 := ⟨hb.os.trans h.low.os, hb.tape.trans h.low.tape, hb.output.trans h.low.output, Nat.le_trans h.low.size hb.size, fun j hj hn => (hb.block j hj).trans (h.low.block j hj hn)⟩
  refine ⟨(h.blk' hb).set v', ?_, ho.trans (Only.set (p := ⟨d, 1, none⟩) _ rfl _), h.lt⟩
  exact (hl.ext (fun i _ j _ => by unfold updR; split; (rename_i e; rw [e]); rfl)).same (fun g hg _ => heap_setCell_other w1 ⟨d, 1, none⟩ g _ (by show g ≠ d; have := h.lt; omega))
end

theorem expand_bad' (v : Value) (L : Nat) (w : World) (hv : ∃ a c, v = .slice a L c) (h : rnd (L : Int) = 0) :
    Calls Try.prog 26 #[v] w fun e w' => e = .returned (.tuple #[.slice none 0 0, .int .i64 5]) ∧ w' = w := by
  obtain ⟨a, c, rfl⟩ := hv
  have HR := hid (fun w => by have := rounds_any (L : Int) w; rw [h] at this; exact this)
  clear h
  go_enter Try.func26, Try.ntmps26
  go_wp2_with (first | (go_at_call 36; (with_reducible refine (HR.out _).mono ?_); rintro e u1 ⟨rfl, rfl⟩))
  go_ret2
  exact ⟨rfl, rfl⟩
set_option maxRecDepth 100000 in
theorem new_bad (a : Option Addr) (L c : Nat) (w : World) (h : rnd (L : Int) = 0) :
    Calls Try.prog 13 #[.slice a L c] w fun e w' => e = .returned (.tuple #[.pointer none, .int .i64 5]) ∧ w' = w := by
  have HE := hid (fun w => expand_bad' (.slice a L c) L w ⟨a, c, rfl⟩ h)
  clear h
  go_enter Try.func13, Try.ntmps13
  go_wp2_with (first | (go_at_call 26; (with_reducible refine (HE.out _).mono ?_); rintro e u1 ⟨rfl, rfl⟩))
  go_ret2
  exact ⟨rfl, rfl⟩

theorem row16_filled (f : Nat → Nat) : Instr.fill (fun i => some (i * 16, 16)) ((Array.range (1 * 16)).map ((Value.agg (ba 16 (fun _ => 0))).cells[· % (Value.agg (ba 16 (fun _ => 0))).cells.size]!)) [(0, .agg (ba 16 f))] = some (ba 16 f) := by kernel_rfl
theorem step_row16 {w : World} {ops : Array Oper} {rest : List Oper} {o : Oper} {a : Act} {Q : Exit → Act → World → Prop} (hgd : o.guard = none) (x : Operand) (ho : o.op = .buildSlice 45 1 #[(0, x)])
    (f : Nat → Nat) (h0 : a.eval x = .agg (ba 16 f))
    (k : wpList Try.prog ops Q rest (a.put o.dst (.slice (some ⟨w.heap.size, 0, none⟩) 1 1)) (w.alloc (.cells (ba 16 f) 23))) : wpList Try.prog ops Q (o :: rest) a w := by
  obtain ⟨i0, hi, hz0, hz1, hz2⟩ := info_parts info16
  refine wpList_buildSlice hgd 45 23 1 _ ho (ba 16 f) i0 _ Try.underlying45 hi hz0 (by rw [hz1]; decide) (by rw [hz1]; decide) ?_ k
  have e : ((#[(0, x)] : Array (Nat × Operand)).map fun (i, x) => (i, a.eval x)).toList = [(0, .agg (ba 16 f))] := by simp [h0]
  rw [e, hz1]; exact row16_filled f
theorem wp_row16 {w : World} {o : Oper} {a : Act} {K : Act → World → Prop} {Q : Exit → Act → World → Prop} (x : Operand) (ho : o.op = .buildSlice 45 1 #[(0, x)])
    (f : Nat → Nat) (h0 : a.eval x = .agg (ba 16 f)) (k : K (a.put o.dst (.slice (some ⟨w.heap.size, 0, none⟩) 1 1)) (w.alloc (.cells (ba 16 f) 23))) : o.wp Try.prog a w K Q := by
  obtain ⟨i0, hi, hz0, hz1, hz2⟩ := info_parts info16
  refine wp_buildSlice 45 23 1 _ ho (ba 16 f) i0 _ Try.underlying45 hi hz0 (by rw [hz1]; decide) (by rw [hz1]; decide) ?_ k
  have e : ((#[(0, x)] : Array (Nat × Operand)).map fun (i, x) => (i, a.eval x)).toList = [(0, .agg (ba 16 f))] := by simp [h0]
  rw [e, hz1]; exact row16_filled f
theorem wpList_append_lb {w : World} {ops : Array Oper} {rest : List Oper} {o : Oper} {a : Act} {Q : Exit → Act → World → Prop} (hgd : o.guard = none) (s x : Operand)
    (ho : o.op = .call { callee := .builtin .append, args := #[s, x], argTypes := #[45, 45] }) (B : Nat) (v : Value) (m : Nat) (F : Nat → Nat → Nat) (hs : a.eval s = v) (hown : LB w B v m F)
    (ad : Addr) (c : Nat) (f : Nat → Nat) (hx : a.eval x = .slice (some ad) 1 c) (hu : ∀ j, j < 16 → w.cell? (ad.add j) = some (.int .u8 (f j : Int))) (hf : B16 f)
    (hlim : m ≤ 1048576) (hB : B ≤ w.heap.size) (B0 : Nat) (w0 : World) (hb : Below B0 w0 w) (hBB : B0 ≤ B)
    (h : ∀ v' w', LB w' B v' (m + 1) (updR F m f) → Below B0 w0 w' → w.heap.size ≤ w'.heap.size → wpList Try.prog ops Q rest (a.put o.dst v') w') : wpList Try.prog ops Q (o :: rest) a w :=
  wpList_plain hgd fun _ hK => wp_append_lb s x ho B v m F hs hown ad c f hx hu hf hlim hB B0 w0 hb hBB fun v' w' h2 h3 h4 => hK _ _ (h v' w' h2 h3 h4)

theorem still_load_mid {P : Program} {ops : Array Oper} {rest : List Oper} {o : Oper} {a : Act} {w : World} {Q : Act → Prop} (hgd : o.guard = none) (ty : TypeId) (x : Operand) (ho : o.op = .load ty x)
    (b off n : Nat) (f : Nat → Nat) (e : TypeId) (hx : a.eval x = .pointer (some ⟨b, off, none⟩)) (hc : w.rangeAt b off (ba n f).toList) (hu : P.underlying ty = some (.array n e)) (hi : (P.info? ty).map (·.size) = some n)
    (h : wpStill P ops w Q rest (a.put o.dst (.agg (ba n f)))) : wpStill P ops w Q (o :: rest) a := by
  unfold wpStill
  rw [if_pos (by simp [Region.wanted, hgd])]
  have hr := run_loadVar_mid (P := P) w b off ty _ _ hc hu rfl (by rw [Array.length_toList, ba_size]; exact hi)
  unfold Oper.still execOp
  simp only [ho, hx, Instr.loadAt, Instr.sureAddr, Sem.run_bind, Sem.run_pure, Result.andThen_ok, hr]
  rw [Oper.stillUpon_value]
  simpa using h
theorem arr_at (g c : Nat) (w : World) : (Instr.arrayAt 23 (.slice (some ⟨g, 0, none⟩) 16 c)).run Try.prog w = .ok (.pointer (some ⟨g, 0, none⟩)) w := by
  simp [Instr.arrayAt, run_underlying Try.underlying23]
theorem build47 (p : Option Addr) : Try.prog.built 47 [(0, .pointer p)] = some #[.pointer p, .slice none 0 0] := by kernel_rfl
set_option maxRecDepth 100000 in
set_option maxHeartbeats 1600000 in
theorem new_ok (kb ko kc K L R R1 M N : Nat) (k : Nat → Nat) (w : World) (hL : L = 4 * K) (hR : rnd (L : Int) = R) (hR1 : R1 = R + 1) (hM : M = 4 * R1) (hMN : M = K + N) (hK : 4 ≤ K) (hK8 : K ≤ 8) (hN : N ≤ 900) (hR0 : 0 < R) (hc : L ≤ kc) (hkc : kc ≤ maxLen)
    (hk : ∀ x, k x < 256) (hA : Wd w L kb ko k) :
    Calls Try.prog 13 #[.slice (some ⟨kb, ko, none⟩) L kc] w fun e w' =>
      ∃ d b c cap, e = .returned (.tuple #[.pointer (some ⟨d, 0, none⟩), .int .i64 0]) ∧ Ci w' d b c cap R1 (rkey K k N) ∧ w.heap.size ≤ b ∧ Below w.heap.size w w' := by
  have HE := hid (expand_ok kb ko kc K L R R1 M N k w hL hR hR1 hM hMN hK hK8 hN hR0 hc hkc hk hA)
  have HRR : Hid (R1 = R + 1 ∧ M = 4 * R1 ∧ M = K + N ∧ K ≤ 8 ∧ N ≤ 900) := hid ⟨hR1, hM, hMN, hK8, hN⟩
  clear hL hR hR1 hM hMN hK hK8 hN hR0 hc hkc hk hA
  generalize rkey K k N = Y at *
  go_enter Try.func13, Try.ntmps13
  go_wp2_with (first
    | (go_at_call 26; (with_reducible refine (HE.out).mono ?_); rintro e w1 ⟨c, gs, cs, rfl, hr, hl⟩; have HR := hid hr; have HL := hid hl; clear hr hl)
    | (go_at_call 27; (with_reducible refine (box_made _).mono ?_); rintro e w2 ⟨b, rfl, hb, hbx, hl⟩; have HB := hid hb; have HBX := hid hbx; have HL2 := hid hl; clear hb hbx hl))
  have HS : Hid (NInv (w2.alloc (.cells #[.pointer (some ⟨b, 0, none⟩), .slice none 0 0] 47)) (w2.alloc (.cells #[.pointer (some ⟨b, 0, none⟩), .slice none 0 0] 47)) w2.heap.size b 0 (.slice none 0 0) Y) :=
    hid ⟨heap_alloc_new w2 _, ⟨⟨rfl, .inl ⟨rfl, rfl⟩⟩, fun i hi => absurd hi (by omega)⟩, Only.refl _ _, by simp⟩
  have HRL : Hid (RL (w2.alloc (.cells #[.pointer (some ⟨b, 0, none⟩), .slice none 0 0] 47)) c R1 16 gs (fun _ => 0) cs Y) := hid ((HR.out.self HL2.out).self ((Below.refl _ _).alloc (Nat.le_refl _) _))
  have HBB : Hid (Box (w2.alloc (.cells #[.pointer (some ⟨b, 0, none⟩), .slice none 0 0] 47)) b ∧ b ≠ w2.heap.size) :=
    hid (by obtain ⟨p, hp⟩ := HBX.out; exact ⟨⟨0, p, .inl (hp.alloc _)⟩, Nat.ne_of_lt hp.lt⟩)
  have HLow : Hid (Below w.heap.size w (w2.alloc (.cells #[.pointer (some ⟨b, 0, none⟩), .slice none 0 0] 47))) :=
    hid ((HL.out.trans (HL2.out.mono HL.out.size)).alloc (Nat.le_trans HL.out.size HL2.out.size) _)
  have HDS : Hid (c < w2.heap.size ∧ (∀ i, i < R1 → gs i < w2.heap.size) ∧ w.heap.size ≤ w2.heap.size ∧ w.heap.size ≤ b) :=
    hid ⟨Nat.lt_of_lt_of_le HR.out.lt HL2.out.size, fun i hi => Nat.lt_of_lt_of_le (HR.out.each i hi).lt HL2.out.size, Nat.le_trans HL.out.size HL2.out.size, Nat.le_trans HL.out.size HB.out⟩
  clear HR HL HL2 HBX HB
  generalize w2.heap.size = d at *
  generalize w2.alloc (.cells #[.pointer (some ⟨b, 0, none⟩), .slice none 0 0] 47) = wl at *
  go_loopw [22] (fun i wr => ∃ (j : Nat) (v : Value), j ≤ R1 ∧ i = .int .i64 j ∧ NInv wl wr d b j v Y) (fun i _ => R1 - (intOf i).toNat)
  case atStart => exact ⟨0, _, by omega, rfl, HS.out⟩
  case round =>
    obtain ⟨j, v, hj, rfl, hI⟩ := hrel
    have HI := hid hI
    clear hI
    by_cases hlt : j < R1
    · have hHR := HRR.out
      have c1 : (0 : Int) ≤ (j : Int) := by omega
      have c2 : (j : Int) < (R1 : Int) := by omega
      have hlim : j ≤ 1000 := by omega
      clear hHR
      have hc1 : wr.cell? ⟨c, j, none⟩ = some (.slice (some ⟨gs j, 0, none⟩) 16 (cs j)) :=
        (HI.out.low.cell (p := ⟨c, j, none⟩) HRL.out.lt (by show c ≠ d; have := HDS.out.1; omega)).trans (HRL.out.cell j hlt)
      have HW : Hid (Wd wr.drew 16 (gs j) 0 (Y j)) := hid (((HRL.out.each j hlt).only HI.out.low (by have := HDS.out.2.1 j hlt; omega)).drew)
      have hd1 := HI.out.drew.blk.c1
      have HLV : Hid ((loadVar 23 ⟨gs j, 0, none⟩).run Try.prog wr.drew = .ok (.agg (ba 16 (Y j))) wr.drew) := hid (by
        have := run_loadVar_mid (P := Try.prog) wr.drew (gs j) 0 23 (ba 16 (Y j)).toList _ HW.out.range Try.underlying23 rfl (by rw [Array.length_toList, ba_size]; exact infoa)
        simpa using this)
      have HAR := hid (arr_at (gs j) (cs j))
      have HID := hid HI.out.drew
      have HYb := hid HW.out.byte
      go_wp2
      generalize hw5 : wr.drew = w5 at *
      have harr := HAR.out
      refine wp_region_noPanic ?_
      refine wp_region_held_drew (S := fun w' => w'.rangeAt (gs j) 0 (ba 16 (Y j)).toList) (by kernel_rfl) (by rw [hw5]; exact HW.out.range) (fun h0 => ?_)
      rw [hw5] at h0 ⊢
      refine wpAnyH_take (i := 0) (v := .pointer (some ⟨d, 0, none⟩)) rfl (by kernel_rfl) (by kernel_rfl) (by kernel_rfl) (fun _ _ _ h => h) (.inl ⟨by rfl, fun w hw => by clear hw; go_simp⟩) h0 ?_
      try simp only [Act.put, lay_out]
      refine wpAnyH_take (i := 1) (v := .pointer (some ⟨d, 0, none⟩)) rfl (by kernel_rfl) (by kernel_rfl) (by kernel_rfl) (fun _ _ _ h => h) (.inl ⟨by rfl, fun w hw => by clear hw; go_simp⟩) h0 ?_
      try simp only [Act.put, lay_out]
      refine wpAnyH_take (i := 2) (v := .pointer (some ⟨d, 0, none⟩)) rfl (by kernel_rfl) (by kernel_rfl) (by kernel_rfl) (fun _ _ _ h => h) (.inl ⟨by rfl, fun w hw => by clear hw; go_simp⟩) h0 ?_
      try simp only [Act.put, lay_out]
      refine wpAnyH_take (i := 3) (v := .pointer (some ⟨d, 1, none⟩)) rfl (by kernel_rfl) (by kernel_rfl) (by kernel_rfl) (fun _ _ _ h => h) (.inl ⟨by rfl, fun w hw => by clear hw; go_simp⟩) h0 ?_
      try simp only [Act.put, lay_out]
      refine wpAnyH_take (i := 5) (v := .slice (some ⟨gs j, 0, none⟩) 16 (cs j)) rfl (by kernel_rfl) (by kernel_rfl) (by kernel_rfl) (fun _ _ _ h => h) (.inl ⟨by rfl, fun w hw => by clear hw; go_simp⟩) h0 ?_
      try simp only [Act.put, lay_out]
      refine wpAnyH_take (i := 6) (v := .pointer (some ⟨gs j, 0, none⟩)) rfl (by kernel_rfl) (by kernel_rfl) (by kernel_rfl) (fun _ _ _ h => h) (.inl ⟨by rfl, fun w hw => by clear hw; go_simp⟩) h0 ?_
      try simp only [Act.put, lay_out]
      refine wpAnyH_take (i := 7) (v := .agg (ba 16 (Y j)).toList.toArray) rfl (by kernel_rfl) (by kernel_rfl) (by kernel_rfl) (fun _ _ _ h => h) (yieldsIf_load_mid (by rfl) 23 _ rfl (gs j) 0 rfl (ba 16 (Y j)).toList _ (fun w h => h) Try.underlying23 rfl (by rw [Array.length_toList, ba_size]; exact infoa)) h0 ?_
      try simp only [Act.put, lay_out]
      simp only [Array.toArray_toList]
      have HIE := hid (HID.out.alloc (.cells (ba 16 (Y j)) 23))
      have HW6 := hid (HW.out.alloc (.cells (ba 16 (Y j)) 23))
      have HGL : Hid (gs j < wl.heap.size ∧ gs j ≠ d) := hid (by have := HDS.out.2.1 j hlt; have := HID.out.lt; omega)
      clear HLV hd1
      refine wpAnyH_ready (rs := [4, 8]) (by kernel_rfl) (by simp) (AllReadyH.cons rfl (fun K hK => ?_) (AllReadyH.cons rfl (fun K hK => ?_) AllReadyH.nil))
      · have hd9 := HID.out.blk.c1
        go_simp
        refine hK.out _ _ (h0) (fun h1 => ?_)
        clear hK K
        try simp only [Act.put, lay_out]
        clear hd9
        refine wpAnyH_ready (rs := [8]) (by kernel_rfl) (by simp) (AllReadyH.cons rfl (fun K hK => ?_) AllReadyH.nil)
        rw [if_pos (by rfl)]
        refine wp_row16 (.tmp 33) rfl (Y j) rfl ?_
        refine hK.out _ _ (HW6.out.range) (fun h2 => ?_)
        clear hK K
        try simp only [Act.put, lay_out]
        refine wpAnyH_ready (rs := [9]) (by kernel_rfl) (by simp) (AllReadyH.cons rfl (fun K hK => ?_) AllReadyH.nil)
        rw [if_pos (by rfl)]
        refine wp_append_lb (.tmp 30) (.tmp 34) rfl wl.heap.size v j Y rfl HIE.out.rows ⟨w5.heap.size, 0, none⟩ 1 (Y j) rfl (cells_new16 w5 (Y j) 23) HYb.out (by omega) HIE.out.low.size wl.heap.size _ (Below.refl _ _) (Nat.le_refl _) ?_
        intro v' w' hl hb hs
        obtain ⟨g', cap', rfl, _, _⟩ := hl.own.form (by omega)
        have HN := hid (HIE.out.more hb hl)
        have hd2 := (HIE.out.blk' hb).c1
        have hf2 := (HIE.out.blk' hb).free 1
        have HW7 := hid (HW6.out.below hb HGL.out.1)
        have HW8 : Hid (Wd (w'.setCell ⟨d, 1, none⟩ (.slice (some ⟨g', 0, none⟩) (j + 1) cap')) 16 (gs j) 0 (Y j)) := hid (HW7.out.same (by simp [World.setCell]) (heap_setCell_other w' ⟨d, 1, none⟩ (gs j) _ HGL.out.2))
        clear hl hb hs
        refine hK.out _ _ (HW7.out.range) (fun h3 => ?_)
        clear hK K
        try simp only [Act.put, lay_out]
        refine wpAnyH_take (i := 10) (v := .pointer (some ⟨d, 0, none⟩)) rfl (by kernel_rfl) (by kernel_rfl) (by kernel_rfl) (fun _ _ _ h => h) (.inl ⟨by rfl, fun w hw => by clear hw; go_simp⟩) h3 ?_
        try simp only [Act.put, lay_out]
        refine wpAnyH_take (i := 11) (v := .pointer (some ⟨d, 1, none⟩)) rfl (by kernel_rfl) (by kernel_rfl) (by kernel_rfl) (fun _ _ _ h => h) (.inl ⟨by rfl, fun w hw => by clear hw; go_simp⟩) h3 ?_
        try simp only [Act.put, lay_out]
        refine wpAnyH_ready (rs := [12]) (by kernel_rfl) (by simp) (AllReadyH.cons rfl (fun K hK => ?_) AllReadyH.nil)
        go_simp
        refine hK.out _ _ (HW8.out.range) (fun h4 => ?_)
        clear hK K
        try simp only [Act.put, lay_out]
        refine wpAnyH_done (by kernel_rfl) ?_ _
        refine NoPanic.normal ?_
        clear h0 h1 h2 h3 h4 hd2 hf2
        go_wp2
        go_roundw
        case rel => exact ⟨j + 1, _, by omega, by go_num, HN.out⟩
        case measure => simp [intOf]; omega
      · rw [if_pos (by rfl)]
        refine wp_row16 (.tmp 33) rfl (Y j) rfl ?_
        refine hK.out _ _ (HW6.out.range) (fun h2 => ?_)
        clear hK K
        try simp only [Act.put, lay_out]
        refine wpAnyH_ready (rs := [4]) (by kernel_rfl) (by simp) (AllReadyH.cons rfl (fun K hK => ?_) AllReadyH.nil)
        have hd9 := HIE.out.blk.c1
        go_simp
        refine hK.out _ _ (h2) (fun h1 => ?_)
        clear hK K
        try simp only [Act.put, lay_out]
        clear hd9
        refine wpAnyH_ready (rs := [9]) (by kernel_rfl) (by simp) (AllReadyH.cons rfl (fun K hK => ?_) AllReadyH.nil)
        rw [if_pos (by rfl)]
        refine wp_append_lb (.tmp 30) (.tmp 34) rfl wl.heap.size v j Y rfl HIE.out.rows ⟨w5.heap.size, 0, none⟩ 1 (Y j) rfl (cells_new16 w5 (Y j) 23) HYb.out (by omega) HIE.out.low.size wl.heap.size _ (Below.refl _ _) (Nat.le_refl _) ?_
        intro v' w' hl hb hs
        obtain ⟨g', cap', rfl, _, _⟩ := hl.own.form (by omega)
        have HN := hid (HIE.out.more hb hl)
        have hd2 := (HIE.out.blk' hb).c1
        have hf2 := (HIE.out.blk' hb).free 1
        have HW7 := hid (HW6.out.below hb HGL.out.1)
        have HW8 : Hid (Wd (w'.setCell ⟨d, 1, none⟩ (.slice (some ⟨g', 0, none⟩) (j + 1) cap')) 16 (gs j) 0 (Y j)) := hid (HW7.out.same (by simp [World.setCell]) (heap_setCell_other w' ⟨d, 1, none⟩ (gs j) _ HGL.out.2))
        clear hl hb hs
        refine hK.out _ _ (HW7.out.range) (fun h3 => ?_)
        clear hK K
        try simp only [Act.put, lay_out]
        refine wpAnyH_take (i := 10) (v := .pointer (some ⟨d, 0, none⟩)) rfl (by kernel_rfl) (by kernel_rfl) (by kernel_rfl) (fun _ _ _ h => h) (.inl ⟨by rfl, fun w hw => by clear hw; go_simp⟩) h3 ?_
        try simp only [Act.put, lay_out]
        refine wpAnyH_take (i := 11) (v := .pointer (some ⟨d, 1, none⟩)) rfl (by kernel_rfl) (by kernel_rfl) (by kernel_rfl) (fun _ _ _ h => h) (.inl ⟨by rfl, fun w hw => by clear hw; go_simp⟩) h3 ?_
        try simp only [Act.put, lay_out]
        refine wpAnyH_ready (rs := [12]) (by kernel_rfl) (by simp) (AllReadyH.cons rfl (fun K hK => ?_) AllReadyH.nil)
        go_simp
        refine hK.out _ _ (HW8.out.range) (fun h4 => ?_)
        clear hK K
        try simp only [Act.put, lay_out]
        refine wpAnyH_done (by kernel_rfl) ?_ _
        refine NoPanic.normal ?_
        clear h0 h1 h2 h3 h4 hd2 hf2
        go_wp2
        go_roundw
        case rel => exact ⟨j + 1, _, by omega, by go_num, HN.out⟩
        case measure => simp [intOf]; omega
    · obtain rfl : j = R1 := by omega
      have hr0 : 0 < j := by have := HRR.out; omega
      obtain ⟨c', cap, rfl, hB, _⟩ := HI.out.rows.own.form hr0
      have HC : Hid (Ci wr d b c' cap j Y) := hid ⟨HI.out.blk, HBB.out.1.only HI.out.low HBB.out.2, HI.out.rows.r16 hr0, ⟨HBB.out.2.symm, by have := HBB.out.1.lt; omega⟩⟩
      clear hB hr0
      go_wp2
      go_ret2
      exact ⟨d, b, c', cap, rfl, HC.out, HDS.out.2.2.2, HLow.out.trans (HI.out.low.below HDS.out.2.2.1 HLow.out.size)⟩
end Go.Proofs.Ythkanhhpkaigoaa
