import Derived.Test.YtiejaedljebbfaaProg
import Derived.Test.YtiejaedljebbfaaCtc
import Derived.Deep.DeepAppendRoom
/- The first bytes of a stream: a loop over the function that tells its blocks. -/
namespace Go.Proofs.Ytiejaedljebbfaa
open Go.RowKit Go.Shelf
set_option maxRecDepth 100000
attribute [local go_sem] Oper.semAt_some

theorem own_same {B : Nat} {E : TypeId} {w w' : World} {g n c : Nat} {zs : List Int} (h : Own .u8 B E w (.slice (some ⟨g, 0, none⟩) n c) zs) (hg : w'.heap[g]? = w.heap[g]?) : Own .u8 B E w' (.slice (some ⟨g, 0, none⟩) n c) zs := by
  obtain ⟨h1, h2⟩ := h
  rcases h2 with ⟨h0, _⟩ | ⟨g', cap, cur, hv, hb, hc, hn, hcap, hsz, ht⟩
  · cases h0
  · injection hv with e1 e2 e3
    injection e1 with e1
    injection e1 with e1
    subst e1
    exact ⟨h1, .inr ⟨g, cap, cur, by rw [e2, e3], hb, hg.trans hc, hn, hcap, hsz, ht⟩⟩
/-- Room for n bytes, of which none is there. -/
theorem make_room (w : World) (n : Nat) (hn : n ≤ 70368744177664) :
    (Instr.makeSlice 22 (.int .i64 0) (.int .i64 n)).run Try.prog w = .ok (.slice (some ⟨w.heap.size, 0, none⟩) 0 n) (w.alloc (.cells (madeCells #[.int .u8 0] n) 5)) := by
  obtain ⟨i0, hi, hz0, hz1, hz2⟩ := info_parts info8
  have := run_make (P := Try.prog) w 22 5 i0 _ Try.underlying22 hi hz0 .i64 .i64 0 n (by omega) (by omega) (by rw [hz2]; simp; omega) (by omega)
  rw [this]
  simp [hz1, Value.cells]
theorem own_room (w : World) (n : Nat) (hn : n ≤ maxLen) : Own .u8 w.heap.size 5 (w.alloc (.cells (madeCells #[.int .u8 0] n) 5)) (.slice (some ⟨w.heap.size, 0, none⟩) 0 n) [] :=
  ⟨rfl, .inr ⟨w.heap.size, n, madeCells #[.int .u8 0] n, rfl, Nat.le_refl _, heap_alloc_new w _, Nat.zero_le _, hn, by simp [size_madeCells], by simp⟩⟩

theorem only_put {b l : Nat} {w A : World} (h : Only b w A) (hl : w.heap.size ≤ l) (o : Obj) : Only b w (A.putObj l o) :=
  ⟨h.os, h.tape, h.output, by rw [World.putObj_size]; exact h.size, fun j hj hb => (World.putObj_heap_other (by omega)).trans (h.block j hj hb)⟩
theorem ci_put {A : World} {d b c cap n l : Nat} {Y : Nat → Nat → Nat} (h : Ci A d b c cap n Y) (hd : d ≠ l) (hb : b ≠ l) (hc : c ≠ l) (o : Obj) : Ci (A.putObj l o) d b c cap n Y :=
  ⟨(World.putObj_heap_other hd).trans h.blk, h.box.same (World.putObj_heap_other hb), h.rows.same (by rw [World.putObj_size]; exact Nat.le_refl _) (World.putObj_heap_other hc), h.ne⟩
/-- Between two rounds: k blocks have been put. -/
structure Fs (w : World) (b n : Nat) (F : Nat → Nat) (rec : Loop) (k : Nat) (A : World) : Prop where
  loop : A.heap[w.heap.size + 4]? = some (.loop rec)
  dfr : A.heap[w.heap.size + 3]? = some (.deferred (some []))
  num : A.heap[w.heap.size]? = some (.cells #[.int .i64 n] 3 (0, 0))
  out : A.heap[w.heap.size + 2]? = some (.cells #[.slice (some ⟨w.heap.size + 1, 0, none⟩) (16 * k) n] 22 (0, 0))
  own : Own .u8 w.heap.size 5 A (.slice (some ⟨w.heap.size + 1, 0, none⟩) (16 * k) n) (ns (16 * k) F)
  low : Only b w A
  lt : 16 * k < n ∨ (k = 0 ∧ n = 0)
/-- The last round has been left. -/
structure Fe (w : World) (b n : Nat) (F : Nat → Nat) (rec : Loop) (A : World) : Prop where
  loop : A.heap[w.heap.size + 4]? = some (.loop { rec with state := .done, pending := some (.exit 0) })
  dfr : A.heap[w.heap.size + 3]? = some (.deferred (some []))
  out : A.heap[w.heap.size + 2]? = some (.cells #[.slice (some ⟨w.heap.size + 1, 0, none⟩) n n] 22 (0, 0))
  own : Own .u8 w.heap.size 5 A (.slice (some ⟨w.heap.size + 1, 0, none⟩) n n) (ns n F)
  low : Only b w A
section
variable {w : World} {b n : Nat} {F : Nat → Nat} {rec : Loop} {k : Nat} {A B : World}
theorem Fs.only (h : Fs w b n F rec k A) (hb : b < w.heap.size) (o : Only b A B) : Fs w b n F rec k B := by
  have ha := fun j (hj : w.heap.size ≤ j) (hl : j < A.heap.size) => o.block j hl (by omega)
  have hlt := (Array.getElem?_eq_some_iff.1 h.loop).1
  exact ⟨(ha _ (by omega) hlt).trans h.loop, (ha _ (by omega) (by omega)).trans h.dfr, (ha _ (by omega) (by omega)).trans h.num, (ha _ (by omega) (by omega)).trans h.out, own_same h.own (ha _ (by omega) (by omega)), h.low.trans o, h.lt⟩
/-- In a round: q bytes have been put; the block B lies at x. -/
structure Rb (w : World) (b n : Nat) (F : Nat → Nat) (rec : Loop) (x : Nat) (B : Nat → Nat) (A : World) (q : Nat) (C : World) : Prop where
  loop : C.heap[w.heap.size + 4]? = some (.loop { rec with state := .busy })
  dfr : C.heap[w.heap.size + 3]? = some (.deferred (some []))
  num : C.heap[w.heap.size]? = some (.cells #[.int .i64 n] 3 (0, 0))
  out : C.heap[w.heap.size + 2]? = some (.cells #[.slice (some ⟨w.heap.size + 1, 0, none⟩) q n] 22 (0, 0))
  own : Own .u8 w.heap.size 5 C (.slice (some ⟨w.heap.size + 1, 0, none⟩) q n) (ns q F)
  low : Only b w C
  blk : At C x 16 39 B
  big : w.heap.size + 5 ≤ x
  kp : Kp (fun j => j = w.heap.size + 1 ∨ j = w.heap.size + 2 ∨ j = w.heap.size + 4) A C
theorem Fs.start_ {B : Nat → Nat} (h : Fs w b n F rec k A) (_ : b < w.heap.size) {A1 : World} (hA : A1.heap[A.heap.size]? = some (.cells (ba 16 (fun _ => 0)) 39 (0, 0))) (hs : A1.heap.size = A.heap.size + 1) (ho : ∀ j, j < A.heap.size → A1.heap[j]? = A.heap[j]?)
    (e1 : A1.os = A.os) (e2 : A1.tape = A.tape) (e3 : A1.output = A.output) : ∀ C, (A1.setRow A.heap.size (ba 16 B)).putObj (w.heap.size + 4) (.loop { rec with state := .busy }) = C → Rb w b n F rec A.heap.size B A (16 * k) C := by
  rintro C rfl
  have hl := (Array.getElem?_eq_some_iff.1 h.loop).1
  have hk : ∀ j, j < A.heap.size → j ≠ w.heap.size + 4 → ((A1.setRow A.heap.size (ba 16 B)).putObj (w.heap.size + 4) (.loop { rec with state := .busy })).heap[j]? = A.heap[j]? := fun j hj hn =>
    (World.putObj_heap_other hn).trans ((setRow_other A1 A.heap.size j (ba 16 B) (by omega)).trans (ho j hj))
  have hz : ((A1.setRow A.heap.size (ba 16 B)).putObj (w.heap.size + 4) (.loop { rec with state := .busy })).heap.size = A.heap.size + 1 := by rw [World.putObj_size]; simpa using hs
  refine ⟨World.putObj_heap_same (by rw [show (A1.setRow A.heap.size (ba 16 B)).heap.size = A1.heap.size by simp, hs]; omega), (hk _ (by omega) (by omega)).trans h.dfr, (hk _ (by omega) (by omega)).trans h.num, (hk _ (by omega) (by omega)).trans h.out, own_same h.own (hk _ (by omega) (by omega)),
    ⟨e1.trans h.low.os, e2.trans h.low.tape, e3.trans h.low.output, by rw [hz]; have := h.low.size; omega, fun j hj hjb => (hk j (by have := h.low.size; omega) (by omega)).trans (h.low.block j hj hjb)⟩,
    (World.putObj_heap_other (by omega)).trans (At.row (t := 39) (n := 16) (f := fun _ => 0) hA B), by omega, ⟨by rw [hz]; omega, fun j hj hS => hk j hj (fun e => hS (.inr (.inr e)))⟩⟩
section
variable {x q m : Nat} {B : Nat → Nat} {C C1 : World}
theorem Rb.drew (h : Rb w b n F rec x B A q C) : Rb w b n F rec x B A q C.drew := ⟨h.loop, h.dfr, h.num, h.out, h.own, h.low.drew, h.blk, h.big, ⟨h.kp.size, h.kp.block⟩⟩
/-- The row has grown; the variable not yet. -/
structure Rm (w : World) (b n : Nat) (F : Nat → Nat) (rec : Loop) (x : Nat) (B : Nat → Nat) (A : World) (q m : Nat) (C : World) : Prop where
  loop : C.heap[w.heap.size + 4]? = some (.loop { rec with state := .busy })
  dfr : C.heap[w.heap.size + 3]? = some (.deferred (some []))
  num : C.heap[w.heap.size]? = some (.cells #[.int .i64 n] 3 (0, 0))
  out : C.heap[w.heap.size + 2]? = some (.cells #[.slice (some ⟨w.heap.size + 1, 0, none⟩) q n] 22 (0, 0))
  own : Own .u8 w.heap.size 5 C (.slice (some ⟨w.heap.size + 1, 0, none⟩) (q + m) n) (ns (q + m) F)
  low : Only b w C
  blk : At C x 16 39 B
  big : w.heap.size + 5 ≤ x
  kp : Kp (fun j => j = w.heap.size + 1 ∨ j = w.heap.size + 2 ∨ j = w.heap.size + 4) A C
theorem Rb.grown (h : Rb w b n F rec x B A q C) (hg : C.grownBy C1 (some (w.heap.size + 1))) (ho : Own .u8 w.heap.size 5 C1 (.slice (some ⟨w.heap.size + 1, 0, none⟩) (q + m) n) (ns (q + m) F)) : Rm w b n F rec x B A q m C1 := by
  have hk : ∀ j, j < C.heap.size → j ≠ w.heap.size + 1 → C1.heap[j]? = C.heap[j]? := fun j hj hn => hg.block j hj (fun e => hn (by injection e))
  have hl := (Array.getElem?_eq_some_iff.1 h.loop).1
  exact ⟨(hk _ (by omega) (by omega)).trans h.loop, (hk _ (by omega) (by omega)).trans h.dfr, (hk _ (by omega) (by omega)).trans h.num, (hk _ (by omega) (by omega)).trans h.out, ho,
    ⟨hg.os.trans h.low.os, hg.tape.trans h.low.tape, hg.output.trans h.low.output, Nat.le_trans h.low.size hg.size, fun j hj hb => (hk j (by omega) (by omega)).trans (h.low.block j hj hb)⟩,
    (hk _ h.blk.lt (by have := h.big; omega)).trans h.blk, h.big, ⟨Nat.le_trans h.kp.size hg.size, fun j hj hS => (hk j (Nat.lt_of_lt_of_le hj h.kp.size) (fun e => hS (.inl e))).trans (h.kp.block j hj hS)⟩⟩
theorem Rm.put (h : Rm w b n F rec x B A q m C) : Rb w b n F rec x B A (q + m) (C.setCell ⟨w.heap.size + 1 + 1, 0, none⟩ (.slice (some ⟨w.heap.size + 1, 0, none⟩) (q + m) n)) := by
  have hk : ∀ j, j ≠ w.heap.size + 2 → (C.setCell ⟨w.heap.size + 1 + 1, 0, none⟩ (.slice (some ⟨w.heap.size + 1, 0, none⟩) (q + m) n)).heap[j]? = C.heap[j]? := fun j hn => heap_setCell_other C _ j _ hn
  have hz : (C.setCell ⟨w.heap.size + 1 + 1, 0, none⟩ (.slice (some ⟨w.heap.size + 1, 0, none⟩) (q + m) n)).heap.size = C.heap.size := by simp [World.setCell]
  exact ⟨(hk _ (by omega)).trans h.loop, (hk _ (by omega)).trans h.dfr, (hk _ (by omega)).trans h.num, (heap_setCell_same C (w.heap.size + 1 + 1) 0 _ 22 _ h.out).trans (by simp), own_same h.own (hk _ (by omega)),
    ⟨h.low.os, h.low.tape, h.low.output, by rw [hz]; exact h.low.size, fun j hj hb => (hk j (by omega)).trans (h.low.block j hj hb)⟩,
    (hk _ (by have := h.big; omega)).trans h.blk, h.big, ⟨by rw [hz]; exact h.kp.size, fun j hj hS => (hk j (fun e => hS (.inr (.inl e)))).trans (h.kp.block j hj hS)⟩⟩
theorem Rb.put_l (h : Rb w b n F rec x B A q C) (o : Obj) : Kp (fun j => j = w.heap.size + 1 ∨ j = w.heap.size + 2 ∨ j = w.heap.size + 4) A (C.putObj (w.heap.size + 4) o) :=
  ⟨by rw [World.putObj_size]; exact h.kp.size, fun j hj hS => (World.putObj_heap_other (fun e => hS (.inr (.inr e)))).trans (h.kp.block j hj hS)⟩
theorem Rb.next (h : Rb w b n F rec x B A q C) (hq : q = 16 * (k + 1)) (hn : q < n) : Fs w b n F rec (k + 1) (C.putObj (w.heap.size + 4) (.loop rec)) := by
  subst hq
  have hl := (Array.getElem?_eq_some_iff.1 h.loop).1
  exact ⟨World.putObj_heap_same hl, (World.putObj_heap_other (by omega)).trans h.dfr, (World.putObj_heap_other (by omega)).trans h.num, (World.putObj_heap_other (by omega)).trans h.out, own_same h.own (World.putObj_heap_other (by omega)), only_put h.low (by omega) _, .inl hn⟩
theorem Rb.last (h : Rb w b n F rec x B A n C) : Fe w b n F rec (C.putObj (w.heap.size + 4) (.loop { rec with state := .done, pending := some (.exit 0) })) := by
  have hl := (Array.getElem?_eq_some_iff.1 h.loop).1
  exact ⟨World.putObj_heap_same hl, (World.putObj_heap_other (by omega)).trans h.dfr, (World.putObj_heap_other (by omega)).trans h.out, own_same h.own (World.putObj_heap_other (by omega)), only_put h.low (by omega) _⟩
end
theorem Fs.rb (h : Fs w b n F rec k A) (hb : b < w.heap.size) (B : Nat → Nat) : ((A.alloc (.cells #[.int .u8 0, .int .u8 0, .int .u8 0, .int .u8 0, .int .u8 0, .int .u8 0, .int .u8 0, .int .u8 0, .int .u8 0, .int .u8 0, .int .u8 0, .int .u8 0, .int .u8 0, .int .u8 0, .int .u8 0, .int .u8 0] 39)).setRow A.heap.size (ba 16 B)).heap[w.heap.size + 4]? = some (.loop rec) ∧
    Rb w b n F rec A.heap.size B A (16 * k) (((A.alloc (.cells #[.int .u8 0, .int .u8 0, .int .u8 0, .int .u8 0, .int .u8 0, .int .u8 0, .int .u8 0, .int .u8 0, .int .u8 0, .int .u8 0, .int .u8 0, .int .u8 0, .int .u8 0, .int .u8 0, .int .u8 0, .int .u8 0] 39)).setRow A.heap.size (ba 16 B)).putObj (w.heap.size + 4) (.loop { rec with state := .busy })) :=
  have hl := (Array.getElem?_eq_some_iff.1 h.loop).1
  ⟨(setRow_other _ A.heap.size _ (ba 16 B) (by omega)).trans ((heap_alloc_old A _ hl).trans h.loop), h.start_ hb (heap_alloc_new A _) (World.size_alloc _ _) (fun j hj => heap_alloc_old A _ hj) rfl rfl rfl _ rfl⟩
theorem Fs.start (w : World) (b n : Nat) (F : Nat → Nat) (_ : b < w.heap.size) : ∀ W3, ((w.alloc (.cells #[.int .i64 n] 3)).alloc (.cells (madeCells #[.int .u8 0] n) 5)).alloc (.cells #[.slice (some ⟨w.heap.size + 1, 0, none⟩) 0 n] 22) = W3 →
    n ≤ 140000 → ∀ rec, Fs w b n F rec 0 ((W3.alloc (.deferred (some []))).alloc (.loop rec)) := by
  rintro W3 rfl hn rec
  have q : ∀ (u : World) (o : Obj) (j : Nat) (x : Obj), u.heap[j]? = some x → (u.alloc o).heap[j]? = some x := fun u o j x h => (heap_alloc_old u o (Array.getElem?_eq_some_iff.1 h).1).trans h
  have e : ∀ (u : World) (o : Obj) (j : Nat), j = u.heap.size → (u.alloc o).heap[j]? = some o := fun u o j h => by subst h; exact heap_alloc_new u o
  refine ⟨?_, ?_, ?_, ?_, ?_, ?_, by omega⟩
  · exact e _ _ _ (by simp)
  · exact q _ _ _ _ (e _ _ _ (by simp))
  · exact q _ _ _ _ (q _ _ _ _ (q _ _ _ _ (q _ _ _ _ (e _ _ _ rfl))))
  · exact q _ _ _ _ (q _ _ _ _ (e _ _ _ (by simp)))
  · have := own_room (w.alloc (.cells #[.int .i64 n] 3)) n (by unfold maxLen; omega)
    rw [World.size_alloc] at this
    obtain ⟨h1, h2⟩ := (((this.alloc (.cells #[.slice (some ⟨w.heap.size + 1, 0, none⟩) 0 n] 22)).alloc (.deferred (some []))).alloc (.loop rec))
    exact ⟨h1, h2.imp id (fun ⟨g, c, cur, a1, a2, a3⟩ => ⟨g, c, cur, a1, by omega, a3⟩)⟩
  · exact Only.of_below ((((((Below.refl _ w).alloc (Nat.le_refl _) _).alloc (by simp) _).alloc (by simp; omega) _).alloc (by simp; omega) _).alloc (by simp; omega) _)
end

set_option maxHeartbeats 3200000 in
theorem first_any (d b c cap R R1 Bc Bb g off cc n : Nat) (Y : Nat → Nat → Nat) (f : Nat → Nat) (w : World)
    (hR1 : R1 = R + 1) (hR : 0 < R) (hl : R ≤ 1000) (hn : n ≤ 140000) (hci : Ci w d b c cap R1 Y) (hcn : Wd w 16 g off f) (hgb : g ≠ b) (hBb : w.heap[Bb]? = some (.cells #[.slice (some ⟨g, off, none⟩) 16 cc] 22 (0, 0)))
    (hBc : w.heap[Bc]? = some (.cells #[.pointer (some ⟨d, 0, none⟩)] 25 (0, 0))) :
    Calls Try.prog 21 #[.func (.func 31) #[] #[.pointer (some ⟨Bb, 0, none⟩), .pointer (some ⟨Bc, 0, none⟩)], .int .i64 n] w fun e w' =>
      ∃ g', e = .returned (.slice (some ⟨g', 0, none⟩) n n) ∧ Own .u8 w.heap.size 5 w' (.slice (some ⟨g', 0, none⟩) n n) (ns n (strF Y R f)) ∧ Ci w' d b c cap R1 Y ∧ Only b w w' := by
  have hmk := make_room (w.alloc (.cells #[.int .i64 n] 3)) n (by omega)
  rw [World.size_alloc] at hmk
  refine (callsIn_wide (n := 7)).1 ?_
  refine callsIn_of_wp_marks Try.func21 rfl trivial ?_ rfl
  simp only [Try.ntmps21, List.size_toArray, List.length_cons, List.length_nil, Nat.reduceAdd, Nat.reduceSub, Array.replicate_succ, Array.replicate_zero, List.push_toArray, List.append_toArray, List.nil_append, List.cons_append]
  gi_wp2
  clear hmk
  obtain ⟨W3, hW3⟩ : ∃ W3, ((w.alloc (.cells #[.int .i64 n] 3)).alloc (.cells (madeCells #[.int .u8 0] n) 5)).alloc (.cells #[.slice (some ⟨w.heap.size + 1, 0, none⟩) 0 n] 22) = W3 := ⟨_, rfl⟩
  have hsz : W3.heap.size = w.heap.size + 3 := by rw [← hW3]; simp
  have HST := hid (Fs.start w b n (strF Y R f) hci.box.lt W3 hW3 hn)
  rw [hW3]
  refine range_wide (w.heap.size + 4) (by rw [hsz]) (gf := 31) (lb := #[.pointer (some ⟨Bb, 0, none⟩), .pointer (some ⟨Bc, 0, none⟩)]) rfl (enters_of Try.func31 (by kernel_rfl) rfl) (fun rec r1 r0 r2 r3 r4 r5 => ?_)
  rw [hsz]
  have HLOW : Below w.heap.size w ((W3.alloc (.deferred (some []))).alloc (.loop rec)) := by
    rw [← hW3]; exact ((((((Below.refl _ w).alloc (Nat.le_refl _) _).alloc (by simp) _).alloc (by simp; omega) _).alloc (by simp; omega) _).alloc (by simp; omega) _)
  have HB := hid HLOW
  have hF := HST.out rec
  have hs5 : ((W3.alloc (.deferred (some []))).alloc (.loop rec)).heap.size = w.heap.size + 5 := by rw [World.size_alloc, World.size_alloc, hsz]
  generalize (W3.alloc (.deferred (some []))).alloc (.loop rec) = W5 at *
  clear HST hW3 hsz HLOW
  have hbl := hci.box.lt
  have hout : ∀ j, j < w.heap.size → ¬ (j = w.heap.size + 1 ∨ j = w.heap.size + 2 ∨ j = w.heap.size + 4) := fun j hj => by omega
  refine (iter_any (fun j => j = w.heap.size + 1 ∨ j = w.heap.size + 2 ∨ j = w.heap.size + 4) (Fs w b n (strF Y R f) rec) (Fe w b n (strF Y R f) rec) (w.heap.size + 4) d b c cap R R1 Bc Bb g off cc (n / 16 + 1) Y f W5 hR1 hR hl
    (fun j hj => by omega) (fun k A h => by have := h.lt; omega) (fun k A B h o => h.only hbl o) (fun k A hA => ?_)
    ⟨hci.self HB.out, (HB.out.block _ (Array.getElem?_eq_some_iff.1 hBc).1).trans hBc, hcn.self HB.out, (lat_zero hcn.byte).symm, ⟨hgb, fun e => ?_⟩,
      ⟨hout _ hci.blk.lt, hout _ hbl, hout _ hci.rows.lt, hout _ (Array.getElem?_eq_some_iff.1 hBc).1, hout _ hcn.lt⟩, Nat.le_refl _, hF⟩ ((HB.out.block _ (Array.getElem?_eq_some_iff.1 hBb).1).trans hBb)).mono ?_
  · refine round_wide hA.loop r1 r2 r3 r4 r5 rfl ?_
    have hat : At (A.alloc (.cells #[.int .u8 0, .int .u8 0, .int .u8 0, .int .u8 0, .int .u8 0, .int .u8 0, .int .u8 0, .int .u8 0, .int .u8 0, .int .u8 0, .int .u8 0, .int .u8 0, .int .u8 0, .int .u8 0, .int .u8 0, .int .u8 0] 39)) A.heap.size 16 39 (fun _ => 0) := At.new A 16 39 (fun _ => 0)
    have HAT := hid hat
    have HA := hid hA
    have HRE := hid (And.intro r1 r0)
    clear hA hF hBb hBc hcn hci hout HB hat r0 r1 r2 r3 r4 r5
    simp only [Array.zip, List.zipWith_toArray, List.zipWith_cons_cons, List.zipWith_nil_right, List.foldl_toArray, List.foldl_cons, List.foldl_nil, List.setIfInBounds_toArray, lay_out]
    generalize hbk : blkF Y R (lat f k) = B at *
    refine region0_R (by kernel_rfl) ?_
    go_wp2_with (refine step_store_ba rfl 39 _ _ rfl A.heap.size 16 39 (fun _ => 0) B rfl rfl HAT.out infoa ?_)
    have HS := hid (HA.out.rb hbl B)
    refine ⟨HS.out.1, ?_⟩
    have HR0 := hid HS.out.2
    clear HS HAT
    obtain ⟨C, hC⟩ : ∃ C, ((A.alloc (.cells #[.int .u8 0, .int .u8 0, .int .u8 0, .int .u8 0, .int .u8 0, .int .u8 0, .int .u8 0, .int .u8 0, .int .u8 0, .int .u8 0, .int .u8 0, .int .u8 0, .int .u8 0, .int .u8 0, .int .u8 0, .int .u8 0] 39)).setRow A.heap.size (ba 16 B)).putObj (w.heap.size + 4) (.loop { rec with state := .busy }) = C := ⟨_, rfl⟩
    rw [hC] at HR0 ⊢
    clear hC
    have HLT := hid HA.out.lt
    have HBF : Hid (∀ j, j < 16 → B j = strF Y R f (16 * k + j)) := hid (fun j hj => by rw [← hbk]; unfold strF; rw [show (16 * k + j) / 16 = k by omega, show (16 * k + j) % 16 = j by omega])
    obtain ⟨i5, hi5, hz5⟩ : ∃ i, Try.prog.info? 5 = some i ∧ i.size = 1 := by obtain ⟨i0, hi, _, h1, _⟩ := info_parts info8; exact ⟨i0, hi, h1⟩
    obtain ⟨q, hq⟩ : ∃ q, 16 * k = q := ⟨_, rfl⟩
    obtain ⟨m, hm⟩ : ∃ m, min 16 (n - q) = m := ⟨_, rfl⟩
    have HQM : Hid (q + m ≤ n ∧ m ≤ 16 ∧ 16 * k = q ∧ (q + m < n → m = 16)) := hid ⟨by have := HLT.out; omega, by omega, hq, by omega⟩
    rw [hq] at HR0 HLT HBF
    gi_wp2
    have HR := hid HR0.out.drew
    clear HR0
    have c0 : C.drew.cell? ⟨w.heap.size, 0, none⟩ = some (.int .i64 n) := one_box HR.out.num
    refine region_R (S := fun w' => w'.cell? ⟨w.heap.size, 0, none⟩ = some (.int .i64 n)) (by kernel_rfl) (by kernel_rfl) c0 (fun h0 => ?_)
    clear c0
    generalize C.drew = C0 at *
    have HNW : Hid (∀ j u, ((ns m B).map (Value.int .u8))[j]? = some u → C0.cell? ((⟨A.heap.size, 0, none⟩ : Addr).add j) = some u) := hid (by
      intro j u hj
      have hjm : j < m := by have := (List.getElem?_eq_some_iff.1 hj).1; rwa [List.length_map, ns_len] at this
      rw [List.getElem?_map, ns_at B hjm] at hj
      rw [Addr.add_mid, Nat.zero_add, HR.out.blk.cell (j := j) (by have := HQM.out.2.1; omega)]
      simpa using hj)
    have HROW : Hid (C0.ownsRow w.heap.size 5 1 (.slice (some ⟨w.heap.size + 1, 0, none⟩) q n) q ((ns q (strF Y R f)).map (Value.int .u8))) := hid (by have h : C0.ownsRow _ _ _ _ (ns q (strF Y R f)).length _ := HR.out.own; rw [ns_len] at h; exact h)
    have HCAT : Hid (∀ W : World, W.ownsRow w.heap.size 5 1 (.slice (some ⟨w.heap.size + 1, 0, none⟩) (q + m) n) (q + m) ((ns q (strF Y R f)).map (Value.int .u8) ++ (ns m B).map (Value.int .u8)) → Own .u8 w.heap.size 5 W (.slice (some ⟨w.heap.size + 1, 0, none⟩) (q + m) n) (ns (q + m) (strF Y R f))) := hid (by
      intro W h
      rw [← List.map_append, show ns m B = ns m (fun j => strF Y R f (q + j)) from ns_ext fun j hj => HBF.out j (by have := HQM.out.2.1; omega), ns_app] at h
      show W.ownsRow _ _ _ _ (ns (q + m) (strF Y R f)).length _
      rw [ns_len]; exact h)
    have ho : C0.cell? ⟨w.heap.size + 1 + 1, 0, none⟩ = some (.slice (some ⟨w.heap.size + 1, 0, none⟩) q n) := one_box HR.out.out
    have hmin : (if (n : Int) - q < 16 then (n : Int) - q else 16) = (m : Int) := by have := HLT.out; split <;> omega
    have hm0 : (m : Int) ≤ 16 := by omega
    have hm1 : (0 : Int) ≤ m := by omega
    have hw1 : IntKind.i64.wrap ((n : Int) - q) = (n : Int) - q := by rw [IntKind.wrap_i64]; have := HLT.out; omega
    clear hq hm
    refine wpAnyH_take (i := 1) (v := .int .i64 n) rfl (by kernel_rfl) (by kernel_rfl) (by kernel_rfl) (fun _ _ _ h => h) (.inl ⟨by rfl, fun w4 hw => by have hw : w4.cell? ⟨w.heap.size, 0, none⟩ = some (.int .i64 n) := hw; go_simp⟩) h0 ?_
    try simp only [Act.put, lay_out]
    refine wpAnyH_ready (rs := [0, 2]) (by kernel_rfl) (by simp) (AllReadyH.cons rfl (fun K hK => ?_) (AllReadyH.cons rfl (fun K hK => ?_) AllReadyH.nil))
    · rw [if_pos (by rfl)]
      go_simp
      refine hK.out _ _ h0 (fun h0 => ?_)
      clear hK K
      try simp only [Act.put, lay_out]
      refine wpAnyH_ready (rs := [2]) (by kernel_rfl) (by simp) (AllReadyH.cons rfl (fun K hK => ?_) AllReadyH.nil)
      rw [if_pos (by rfl)]
      go_simp
      refine hK.out _ _ h0 (fun h0 => ?_)
      clear hK K
      try simp only [Act.put, lay_out]
      refine wpAnyH_take (i := 3) (v := .int .i64 (q : Int)) rfl (by kernel_rfl) (by kernel_rfl) (by kernel_rfl) (fun _ _ _ h => h) (.inl ⟨by rfl, fun w hw => by clear hw; go_simp⟩) h0 ?_
      try simp only [Act.put, lay_out]
      refine wpAnyH_take (i := 4) (v := .int .i64 ((n : Int) - q)) rfl (by kernel_rfl) (by kernel_rfl) (by kernel_rfl) (fun _ _ _ h => h) (.inl ⟨by rfl, fun w hw => by clear hw; go_simp⟩) h0 ?_
      try simp only [Act.put, lay_out]
      refine wpAnyH_take (i := 5) (v := .int .i64 (m : Int)) rfl (by kernel_rfl) (by kernel_rfl) (by kernel_rfl) (fun _ _ _ h => h) (.inl ⟨by rfl, fun w hw => by clear hw; go_simp⟩) h0 ?_
      try simp only [Act.put, lay_out]
      refine wpAnyH_take (i := 6) (v := .slice (some ⟨A.heap.size, 0, none⟩) m 16) rfl (by kernel_rfl) (by kernel_rfl) (by kernel_rfl) (fun _ _ _ h => h) (.inl ⟨by rfl, fun w hw => by clear hw; go_simp⟩) h0 ?_
      try simp only [Act.put, lay_out]
      refine wpAnyH_ready (rs := [7]) (by kernel_rfl) (by simp) (AllReadyH.cons rfl (fun K hK => ?_) AllReadyH.nil)
      rw [if_pos (by rfl)]
      refine wp_append_own_spare _ (.tmp 11) (.tmp 17) 22 rfl w.heap.size 5 i5 1 Try.underlying22 hi5 hz5 (w.heap.size + 1) q n _ rfl HROW.out ⟨A.heap.size, 0, none⟩ m 16 ((ns m B).map (Value.int .u8)) rfl (by simp [ns_len]) HNW.out (by intro u hu; obtain ⟨z, _, rfl⟩ := List.mem_map.1 hu; rfl) HQM.out.1 ?_
      intro C1 ho hg
      have HM := hid (HR.out.grown hg (HCAT.out _ ho))
      have hc2 : C1.cell? ⟨w.heap.size + 1 + 1, 0, none⟩ = some (.slice (some ⟨w.heap.size + 1, 0, none⟩) q n) := one_box HM.out.out
      have hf2 : C1.frozen? ⟨w.heap.size + 1 + 1, 0, none⟩ = false := frozen_of_row _ _ _ _ 22 HM.out.out
      have h1 := one_box HM.out.num
      clear ho hg
      refine hK.out _ _ h1 (fun h1 => ?_)
      clear hK K
      try simp only [Act.put, lay_out]
      refine wpAnyH_ready (rs := [8]) (by kernel_rfl) (by simp) (AllReadyH.cons rfl (fun K hK => ?_) AllReadyH.nil)
      rw [if_pos (by rfl)]
      go_simp
      have HP := hid HM.out.put
      refine hK.out _ _ (one_box HP.out.num) (fun _ => ?_)
      clear hK K
      try simp only [Act.put, lay_out]
      refine wpAnyH_done (by kernel_rfl) ?_ _
      try simp only [Act.put, lay_out]
      simp only [nrm, Exit.then]
      clear hc2 hf2 h1 HM ho HNW HROW HCAT HR hw1 hmin
      clear h0 hi5 hz5 hbk
      generalize C1.setCell ⟨w.heap.size + 1 + 1, 0, none⟩ (.slice (some ⟨w.heap.size + 1, 0, none⟩) (q + m) n) = C2 at *
      have d1 : C2.cell? ⟨w.heap.size + 1 + 1, 0, none⟩ = some (.slice (some ⟨w.heap.size + 1, 0, none⟩) (q + m) n) := one_box HP.out.out
      have d2 := one_box HP.out.num
      by_cases he : q + m = n
      · have he1 : (q : Int) + m = n := by omega
        have HP1 : Hid (Rb w b n (strF Y R f) rec A.heap.size B A n C2) := hid (he ▸ HP.out)
        have HE := hid he
        clear he HP
        gi_wp2
        exact ⟨HP1.out.loop, .inr ⟨rfl, HP1.out.last, HP1.out.put_l _⟩⟩
      · have he1 : ¬ ((q : Int) + m = n) := by omega
        have HRR : Hid (({ rec with state := .ready, pending := none } : Loop) = rec) := hid (by obtain ⟨h1, h2⟩ := HRE.out; cases rec; simp_all)
        have hlt : q + m < n := by have := HQM.out.1; omega
        have HN := hid (HP.out.next (k := k) (by have := HQM.out; omega) hlt)
        have HKP := hid (HP.out.put_l (.loop rec))
        have HL := hid HP.out.loop
        clear he HP hlt
        gi_wp2
        refine ⟨HL.out, .inl ⟨rfl, ?_⟩⟩
        rw [HRR.out]
        exact ⟨HN.out, HKP.out⟩
    · rw [if_pos (by rfl)]
      go_simp
      refine hK.out _ _ h0 (fun h0 => ?_)
      clear hK K
      try simp only [Act.put, lay_out]
      refine wpAnyH_take (i := 3) (v := .int .i64 (q : Int)) rfl (by kernel_rfl) (by kernel_rfl) (by kernel_rfl) (fun _ _ _ h => h) (.inl ⟨by rfl, fun w hw => by clear hw; go_simp⟩) h0 ?_
      try simp only [Act.put, lay_out]
      refine wpAnyH_take (i := 4) (v := .int .i64 ((n : Int) - q)) rfl (by kernel_rfl) (by kernel_rfl) (by kernel_rfl) (fun _ _ _ h => h) (.inl ⟨by rfl, fun w hw => by clear hw; go_simp⟩) h0 ?_
      try simp only [Act.put, lay_out]
      refine wpAnyH_take (i := 5) (v := .int .i64 (m : Int)) rfl (by kernel_rfl) (by kernel_rfl) (by kernel_rfl) (fun _ _ _ h => h) (.inl ⟨by rfl, fun w hw => by clear hw; go_simp⟩) h0 ?_
      try simp only [Act.put, lay_out]
      refine wpAnyH_take (i := 6) (v := .slice (some ⟨A.heap.size, 0, none⟩) m 16) rfl (by kernel_rfl) (by kernel_rfl) (by kernel_rfl) (fun _ _ _ h => h) (.inl ⟨by rfl, fun w hw => by clear hw; go_simp⟩) h0 ?_
      try simp only [Act.put, lay_out]
      refine wpAnyH_ready (rs := [0]) (by kernel_rfl) (by simp) (AllReadyH.cons rfl (fun K hK => ?_) AllReadyH.nil)
      rw [if_pos (by rfl)]
      go_simp
      refine hK.out _ _ h0 (fun h0 => ?_)
      clear hK K
      try simp only [Act.put, lay_out]
      refine wpAnyH_ready (rs := [7]) (by kernel_rfl) (by simp) (AllReadyH.cons rfl (fun K hK => ?_) AllReadyH.nil)
      rw [if_pos (by rfl)]
      refine wp_append_own_spare _ (.tmp 11) (.tmp 17) 22 rfl w.heap.size 5 i5 1 Try.underlying22 hi5 hz5 (w.heap.size + 1) q n _ rfl HROW.out ⟨A.heap.size, 0, none⟩ m 16 ((ns m B).map (Value.int .u8)) rfl (by simp [ns_len]) HNW.out (by intro u hu; obtain ⟨z, _, rfl⟩ := List.mem_map.1 hu; rfl) HQM.out.1 ?_
      intro C1 ho hg
      have HM := hid (HR.out.grown hg (HCAT.out _ ho))
      have hc2 : C1.cell? ⟨w.heap.size + 1 + 1, 0, none⟩ = some (.slice (some ⟨w.heap.size + 1, 0, none⟩) q n) := one_box HM.out.out
      have hf2 : C1.frozen? ⟨w.heap.size + 1 + 1, 0, none⟩ = false := frozen_of_row _ _ _ _ 22 HM.out.out
      have h1 := one_box HM.out.num
      clear ho hg
      refine hK.out _ _ h1 (fun h1 => ?_)
      clear hK K
      try simp only [Act.put, lay_out]
      refine wpAnyH_ready (rs := [8]) (by kernel_rfl) (by simp) (AllReadyH.cons rfl (fun K hK => ?_) AllReadyH.nil)
      rw [if_pos (by rfl)]
      go_simp
      have HP := hid HM.out.put
      refine hK.out _ _ (one_box HP.out.num) (fun _ => ?_)
      clear hK K
      try simp only [Act.put, lay_out]
      refine wpAnyH_done (by kernel_rfl) ?_ _
      try simp only [Act.put, lay_out]
      simp only [nrm, Exit.then]
      clear hc2 hf2 h1 HM ho HNW HROW HCAT HR hw1 hmin
      clear h0 hi5 hz5 hbk
      generalize C1.setCell ⟨w.heap.size + 1 + 1, 0, none⟩ (.slice (some ⟨w.heap.size + 1, 0, none⟩) (q + m) n) = C2 at *
      have d1 : C2.cell? ⟨w.heap.size + 1 + 1, 0, none⟩ = some (.slice (some ⟨w.heap.size + 1, 0, none⟩) (q + m) n) := one_box HP.out.out
      have d2 := one_box HP.out.num
      by_cases he : q + m = n
      · have he1 : (q : Int) + m = n := by omega
        have HP1 : Hid (Rb w b n (strF Y R f) rec A.heap.size B A n C2) := hid (he ▸ HP.out)
        have HE := hid he
        clear he HP
        gi_wp2
        exact ⟨HP1.out.loop, .inr ⟨rfl, HP1.out.last, HP1.out.put_l _⟩⟩
      · have he1 : ¬ ((q : Int) + m = n) := by omega
        have HRR : Hid (({ rec with state := .ready, pending := none } : Loop) = rec) := hid (by obtain ⟨h1, h2⟩ := HRE.out; cases rec; simp_all)
        have hlt : q + m < n := by have := HQM.out.1; omega
        have HN := hid (HP.out.next (k := k) (by have := HQM.out; omega) hlt)
        have HKP := hid (HP.out.put_l (.loop rec))
        have HL := hid HP.out.loop
        clear he HP hlt
        gi_wp2
        refine ⟨HL.out, .inl ⟨rfl, ?_⟩⟩
        rw [HRR.out]
        exact ⟨HN.out, HKP.out⟩
  · subst e
    obtain ⟨s, p, h | h⟩ := hci.box
    · exact absurd (h.symm.trans hBc) (by simp)
    · exact absurd (h.symm.trans hBc) (by simp)
  · rintro e w' ⟨⟨v, rfl⟩, hfe, hci'⟩
    refine ⟨v, _, rfl, hfe.loop, by simp, ?_⟩
    have HE : Hid (Own .u8 w.heap.size 5 (w'.putObj (w.heap.size + 4) (.loop { rec with state := .exhausted, pending := some (.exit 0) })) (.slice (some ⟨w.heap.size + 1, 0, none⟩) n n) (ns n (strF Y R f))) := hid (own_same hfe.own (World.putObj_heap_other (by omega)))
    have HC := hid (ci_put hci' (Nat.ne_of_lt (Nat.lt_of_lt_of_le hci.blk.lt (by omega))) (Nat.ne_of_lt (Nat.lt_of_lt_of_le hbl (by omega))) (Nat.ne_of_lt (Nat.lt_of_lt_of_le hci.rows.lt (by omega))) (.loop { rec with state := .exhausted, pending := some (.exit 0) }) (l := w.heap.size + 4))
    have HO := hid (only_put hfe.low (show w.heap.size ≤ w.heap.size + 4 by omega) (.loop { rec with state := .exhausted, pending := some (.exit 0) }))
    have HL : Hid (d < w.heap.size ∧ b < w.heap.size ∧ c < w.heap.size) := hid ⟨hci.blk.lt, hbl, hci.rows.lt⟩
    have c1 := one_box ((World.putObj_heap_other (w := w') (o := .loop { rec with state := .exhausted, pending := some (.exit 0) }) (show w.heap.size + 2 ≠ w.heap.size + 4 by omega)).trans hfe.out)
    have hK := (World.putObj_heap_other (w := w') (o := .loop { rec with state := .exhausted, pending := some (.exit 0) }) (show w.heap.size + 3 ≠ w.heap.size + 4 by omega)).trans hfe.dfr
    have c2 : (w'.putObj (w.heap.size + 4) (.loop { rec with state := .exhausted, pending := some (.exit 0) })).cell? ⟨w.heap.size + 1 + 1, 0, none⟩ = some (.slice (some ⟨w.heap.size + 1, 0, none⟩) n n) := c1
    clear hfe hci' hF hBb hBc hcn hci c1 hout hbl
    dsimp only
    have hr := r1; clear hr
    obtain ⟨w6, hw6⟩ : ∃ w6, w'.putObj (w.heap.size + 4) (.loop { rec with state := .exhausted, pending := some (.exit 0) }) = w6 := ⟨_, rfl⟩
    rw [hw6] at HE HC HO c2 hK ⊢
    clear hw6 r1 r2 r3 r4 r5 HB hs5
    gi_wp2
    refine ⟨by simp, .inl ⟨_, _, rfl, run_takeDeferred hK, ?_⟩⟩
    exact ⟨_, results_tmp rfl _ _ _, _, rfl, own_same HE.out (World.putObj_heap_other (by omega)),
      ci_put HC.out (Nat.ne_of_lt (Nat.lt_of_lt_of_le HL.out.1 (by omega))) (Nat.ne_of_lt (Nat.lt_of_lt_of_le HL.out.2.1 (by omega))) (Nat.ne_of_lt (Nat.lt_of_lt_of_le HL.out.2.2 (by omega))) _, only_put HO.out (by omega) _⟩
end Go.Proofs.Ytiejaedljebbfaa
