import Derived.Test.YtfjgelialaccdaaProg
import Derived.Test.YtfjgelialaccdaaSqi
/- Sponge: Read, of what was not read from yet. -/
namespace Go.Proofs.Ytfjgelialaccdaa
open Go.RowKit Go.Shelf
set_option maxRecDepth 100000
attribute [local go_sem] Oper.semAt_some

theorem plain_in {r : Option Nat} {n : Nat} {P : Program} {ops : Array Oper} {rest : List Oper} {o : Oper} {a : Act} {w : World} {Q : Exit → Act → World → Prop} (hg : o.guard = none) (hd : ∀ c, o.op ≠ .defer c)
    (h : o.wp P a w (fun a w => wpListIn (wideR r) n P ops Q rest a w) Q) : wpListIn (wideR r) n P ops Q (o :: rest) a w := by
  have hw : Region.wanted o (yielded ops a.tmps) = true := always hg _
  unfold wpListIn
  rw [if_pos hw]
  refine ⟨fun _ _ => trivial, ?_⟩
  rw [Oper.semAt_eq _ _ _ hd]
  exact upon_R h
theorem at_append {F : Fence} {n : Nat} {P : Program} {ops : Array Oper} {rest : List Oper} {o : Oper} {a : Act} {w : World} {Q : Exit → Act → World → Prop} (s x : Operand) (t : TypeId)
    (_ : o.op = .call { callee := .builtin .append, args := #[s, x], argTypes := #[t, t] }) (h : wpListIn F n P ops Q (o :: rest) a w) : wpListIn F n P ops Q (o :: rest) a w := h
theorem only_cell {b : Nat} {w A : World} (h : Only b w A) {p : Addr} (hp : w.heap.size ≤ p.block) (v : Value) : Only b w (A.setCell p v) :=
  ⟨h.os, h.tape, h.output, by simpa [World.setCell] using h.size, fun j hj hb => (heap_setCell_other A p j v (by omega)).trans (h.block j hj hb)⟩
/-- In a round, or between two: A the world at its start. -/
structure Rr (w : World) (M b q n : Nat) (mk : Int) (F : Nat → Nat) (lo : Loop) (Q T : Nat) (L : List Int) (a : Nat) (A C : World) : Prop where
  loop : C.heap[M + 4]? = some (.loop lo)
  dfr : C.heap[M + 3]? = some (.deferred (some []))
  bx : C.heap[w.heap.size]? = some (.cells #[.pointer (some ⟨b, 0, none⟩)] 53 (0, 0))
  num : C.heap[w.heap.size + 1]? = some (.cells #[.int .i64 (n : Int)] 3 (0, 0))
  out : C.heap[M + 1]? = some (.cells #[.slice (some ⟨M, 0, none⟩) Q n] 22 (0, 0))
  own : Own .u8 M 5 C (.slice (some ⟨M, 0, none⟩) T n) L
  obj : Wo C b (8 * q) mk F a true
  low : Only b w C
  kp : Kp (fun j => j = b ∨ j = M ∨ j = M + 1 ∨ j = M + 4) A C
  pl : b < w.heap.size ∧ w.heap.size + 2 ≤ M
section
variable {w A B C D : World} {M b q n : Nat} {mk : Int} {F G : Nat → Nat} {lo lo' : Loop} {Q T T' a a' : Nat} {L L' : List Int}
theorem own_blk {B' : Nat} {E : TypeId} {w w' : World} {g n c : Nat} {zs : List Int} (h : Own .u8 B' E w (.slice (some ⟨g, 0, none⟩) n c) zs) (hg : w'.heap[g]? = w.heap[g]?) : Own .u8 B' E w' (.slice (some ⟨g, 0, none⟩) n c) zs := by
  obtain ⟨h1, h2⟩ := h
  rcases h2 with ⟨h0, _⟩ | ⟨g', cap, cur, hv, hb, hc, hn, hcap, hsz, ht⟩
  · cases h0
  · injection hv with e1 e2 e3
    injection e1 with e1
    injection e1 with e1
    subst e1
    exact ⟨h1, .inr ⟨g, cap, cur, by rw [e2, e3], hb, hg.trans hc, hn, hcap, hsz, ht⟩⟩
theorem kp_refl (S : Nat → Prop) (A : World) : Kp S A A := ⟨Nat.le_refl _, fun _ _ _ => rfl⟩
theorem Rr.reset (h : Rr w M b q n mk F lo Q T L a A C) : Rr w M b q n mk F lo Q T L a C C := ⟨h.loop, h.dfr, h.bx, h.num, h.out, h.own, h.obj, h.low, kp_refl _ _, h.pl⟩
theorem Rr.big (h : Rr w M b q n mk F lo Q T L a A C) : M + 5 ≤ C.heap.size := (Array.getElem?_eq_some_iff.1 h.loop).1
theorem Rr.put_lo (h : Rr w M b q n mk F lo Q T L a A C) (lo' : Loop) : Rr w M b q n mk F lo' Q T L a A (C.putObj (M + 4) (.loop lo')) := by
  have hp := h.pl
  exact ⟨World.putObj_heap_same h.big, (World.putObj_heap_other (by omega)).trans h.dfr, (World.putObj_heap_other (by omega)).trans h.bx, (World.putObj_heap_other (by omega)).trans h.num, (World.putObj_heap_other (by omega)).trans h.out,
    own_blk h.own (World.putObj_heap_other (by omega)), h.obj.put (by omega) _, only_put h.low (by omega) _,
    ⟨by rw [World.putObj_size]; exact h.kp.size, fun j hj hS => (World.putObj_heap_other (fun e => hS (.inr (.inr (.inr e))))).trans (h.kp.block j hj hS)⟩, hp⟩
theorem Rr.grown (h : Rr w M b q n mk F lo Q T L a A C) (hg : C.grownBy D (some M)) (ho : Own .u8 M 5 D (.slice (some ⟨M, 0, none⟩) T' n) L') : Rr w M b q n mk F lo Q T' L' a A D := by
  have hp := h.pl
  have hb := h.big
  have hk : ∀ j, j < C.heap.size → j ≠ M → D.heap[j]? = C.heap[j]? := fun j hj hn => hg.block j hj (fun e => hn (by injection e))
  exact ⟨(hk _ (by omega) (by omega)).trans h.loop, (hk _ (by omega) (by omega)).trans h.dfr, (hk _ (by omega) (by omega)).trans h.bx, (hk _ (by omega) (by omega)).trans h.num, (hk _ (by omega) (by omega)).trans h.out, ho, (hk _ h.obj.lt (by omega)).trans h.obj,
    ⟨hg.os.trans h.low.os, hg.tape.trans h.low.tape, hg.output.trans h.low.output, Nat.le_trans h.low.size hg.size, fun j hj hb => (hk j (by omega) (by omega)).trans (h.low.block j hj hb)⟩,
    ⟨Nat.le_trans h.kp.size hg.size, fun j hj hS => (hk j (Nat.lt_of_lt_of_le hj h.kp.size) (fun e => hS (.inr (.inl e)))).trans (h.kp.block j hj hS)⟩, hp⟩
theorem Rr.put (h : Rr w M b q n mk F lo Q T L a A C) : Rr w M b q n mk F lo T T L a A (C.setCell ⟨M + 1, 0, none⟩ (.slice (some ⟨M, 0, none⟩) T n)) := by
  have hp := h.pl
  have hk : ∀ j, j ≠ M + 1 → (C.setCell ⟨M + 1, 0, none⟩ (.slice (some ⟨M, 0, none⟩) T n)).heap[j]? = C.heap[j]? := fun j hn => heap_setCell_other C _ j _ hn
  exact ⟨(hk _ (by omega)).trans h.loop, (hk _ (by omega)).trans h.dfr, (hk _ (by omega)).trans h.bx, (hk _ (by omega)).trans h.num, (heap_setCell_same C (M + 1) 0 _ 22 _ h.out).trans (by simp), own_blk h.own (hk _ (by omega)),
    (hk _ (by omega)).trans h.obj, only_cell h.low (by show w.heap.size ≤ M + 1; omega) _,
    ⟨by simpa [World.setCell] using h.kp.size, fun j hj hS => (hk j (fun e => hS (.inr (.inr (.inl e))))).trans (h.kp.block j hj hS)⟩, hp⟩
theorem Rr.setA (h : Rr w M b q n mk F lo Q T L a A C) (a' : Nat) : Rr w M b q n mk F lo Q T L a' A (C.setCell ⟨b, 27, none⟩ (.int .i64 (a' : Int))) := by
  have hp := h.pl
  have hk : ∀ j, j ≠ b → (C.setCell ⟨b, 27, none⟩ (.int .i64 (a' : Int))).heap[j]? = C.heap[j]? := fun j hn => heap_setCell_other C _ j _ hn
  exact ⟨(hk _ (by omega)).trans h.loop, (hk _ (by omega)).trans h.dfr, (hk _ (by omega)).trans h.bx, (hk _ (by omega)).trans h.num, (hk _ (by omega)).trans h.out, own_blk h.own (hk _ (by omega)),
    h.obj.setA a', h.low.trans (Only.set (p := ⟨b, 27, none⟩) _ rfl _),
    ⟨by simpa [World.setCell] using h.kp.size, fun j hj hS => (hk j (fun e => hS (.inl e))).trans (h.kp.block j hj hS)⟩, hp⟩
theorem Rr.only (h : Rr w M b q n mk F lo Q T L a C C) (o : Only b C D) (ho : Wo D b (8 * q) mk G a' true) : Rr w M b q n mk G lo Q T L a' D D := by
  have hp := h.pl
  have hb := h.big
  have hk : ∀ j, j < C.heap.size → j ≠ b → D.heap[j]? = C.heap[j]? := fun j hj hn => o.block j hj hn
  exact ⟨(hk _ (by omega) (by omega)).trans h.loop, (hk _ (by omega) (by omega)).trans h.dfr, (hk _ (by omega) (by omega)).trans h.bx, (hk _ (by omega) (by omega)).trans h.num, (hk _ (by omega) (by omega)).trans h.out, own_blk h.own (hk _ (by omega) (by omega)),
    ho, h.low.trans o, kp_refl _ _, hp⟩
theorem Rr.ext (h : Rr w M b q n mk F lo Q T L a A C) {Q' T' a' : Nat} {L' : List Int} (e1 : Q = Q') (e2 : T = T') (e3 : L = L') (e4 : a = a') : Rr w M b q n mk F lo Q' T' L' a' A C := by subst e1 e2 e3 e4; exact h
end
set_option maxHeartbeats 3200000 in
theorem read_any (b q n : Nat) (mk : Int) (zs : List Int) (w : World) (hW : Wo w b (8 * q) mk (wkF q zs) (zs.length % (8 * q)) false) (hq : 1 ≤ q ∧ q ≤ 24) (hm : 0 ≤ mk ∧ mk ≤ 255) (hz : ∀ z ∈ zs, 0 ≤ z ∧ z ≤ 255) (hn : n ≤ 65536) :
    Calls Try.prog 33 #[.pointer (some ⟨b, 0, none⟩), .int .i64 (n : Int)] w fun e w' => ∃ g, e = .returned (.tuple #[.slice (some ⟨g, 0, none⟩) n n, .int .i64 0]) ∧
      Own .u8 w.heap.size 5 w' (.slice (some ⟨g, 0, none⟩) n n) (sumL zs (8 * q) mk n) ∧ Only b w w' := by
  have HSm : Hid (sumL zs (8 * q) mk n = toldL q n (wkF q (flL zs (8 * q) mk))) := hid (by
    rw [sumL, Nat.mul_div_cancel_left q (by decide : 0 < 8), wk_done (flL_bytes hz hm) (flL_mod zs mk (by omega))])
  have hFw := wk_w q (flL zs (8 * q) mk)
  have hb := hW.lt
  obtain ⟨W1, hW1⟩ : ∃ W1, (w.alloc (.cells #[.pointer (some ⟨b, 0, none⟩)] 53)).alloc (.cells #[.int .i64 (n : Int)] 3) = W1 := ⟨_, rfl⟩
  have hobj : Wo W1 b (8 * q) mk (wkF q zs) (zs.length % (8 * q)) false := by rw [← hW1]; exact (hW.alloc _).alloc _
  have h1 : W1.heap[w.heap.size]? = some (.cells #[.pointer (some ⟨b, 0, none⟩)] 53 (0, 0)) := by rw [← hW1]; exact (heap_alloc_old _ _ (by simp)).trans (heap_alloc_new w _)
  have h2 : W1.heap[w.heap.size + 1]? = some (.cells #[.int .i64 (n : Int)] 3 (0, 0)) := by
    have := heap_alloc_new (w.alloc (.cells #[.pointer (some ⟨b, 0, none⟩)] 53)) (.cells #[.int .i64 (n : Int)] 3)
    rw [World.size_alloc] at this; rw [← hW1]; exact this
  have h3 : Below w.heap.size w W1 := by rw [← hW1]; exact ((Below.refl _ _).alloc (Nat.le_refl _) _).alloc (by simp) _
  have h4 : W1.heap.size = w.heap.size + 2 := by rw [← hW1]; simp
  have HNo := hid (nobodys_any hobj hq)
  have hct : canT (n : Int) = true := decide_eq_true (by omega)
  have HCa := hid (cantell_any (n : Int) W1)
  rw [hct] at HCa
  have HEn := hid (end_any b q mk zs W1 hobj hq hm hz)
  obtain ⟨F, hF⟩ : ∃ F, wkF q (flL zs (8 * q) mk) = F := ⟨_, rfl⟩
  rw [hF] at HSm HEn hFw
  obtain ⟨S, hS⟩ : ∃ S, sumL zs (8 * q) mk n = S := ⟨_, rfl⟩
  rw [hS] at HSm ⊢
  have c1 := one_box h1
  have c2 := one_box h2
  have HW1 : Hid (W1.heap[w.heap.size]? = some (.cells #[.pointer (some ⟨b, 0, none⟩)] 53 (0, 0)) ∧ W1.heap[w.heap.size + 1]? = some (.cells #[.int .i64 (n : Int)] 3 (0, 0)) ∧ Below w.heap.size w W1 ∧ W1.heap.size = w.heap.size + 2 ∧ b < w.heap.size) := hid ⟨h1, h2, h3, h4, hb⟩
  have HQ : Hid ((1 ≤ q ∧ q ≤ 24) ∧ n ≤ 65536 ∧ W25 F) := hid ⟨hq, hn, hFw⟩
  have hw2 : (w.alloc (.cells #[.pointer (some ⟨b, 0, none⟩)] 53)).alloc (.cells #[.int .i64 (n : Int)] 3) = W1 := hW1
  have HW2 := hid hw2
  have hs1 : (w.alloc (.cells #[.pointer (some ⟨b, 0, none⟩)] 53)).heap.size = w.heap.size + 1 := by simp
  clear hW hobj h1 h2 h3 h4 hct hF hS hFw hb hq hm hz hn hW1 hw2
  refine (callsIn_wide (n := 7)).1 ?_
  refine callsIn_of_wp_marks Try.func33 rfl trivial ?_ rfl
  simp only [Try.ntmps33, List.size_toArray, List.length_cons, List.length_nil, Nat.reduceAdd, Nat.reduceSub, Array.replicate_succ, Array.replicate_zero, List.push_toArray, List.append_toArray, List.nil_append, List.cons_append]
  gi_wp2_with (first
    | (refine ⟨trivial, ?_⟩; gi_at_call 42; rw [HW2.out]; refine (callsIn_wide.2 HNo.out).mono ?_; rintro e w1 ⟨rfl, rfl⟩)
    | (refine ⟨trivial, ?_⟩; gi_at_call 30; refine (callsIn_wide.2 HCa.out).mono ?_; rintro e w2 ⟨rfl, rfl⟩)
    | (refine ⟨trivial, ?_⟩; gi_at_call 45; refine (callsIn_wide.2 HEn.out).mono ?_; rintro e w3 ⟨⟨v3, rfl⟩, ho3, hw3⟩; have HO3 := hid ho3; have HW3 := hid hw3
       have d1 := (ho3.block w.heap.size (by have := HW1.out.2.2.2.1; omega) (by have := HW1.out.2.2.2.2; omega)).trans HW1.out.1
       have d2 := (ho3.block (w.heap.size + 1) (by have := HW1.out.2.2.2.1; omega) (by have := HW1.out.2.2.2.2; omega)).trans HW1.out.2.1
       have c3 := one_box d1
       have c4 := one_box d2
       have HD := hid (And.intro d1 d2)
       have hmk := smake_room w3 n (by have := HQ.out.2.1; omega)
       have c5 : ((w3.alloc (.cells (madeCells #[.int .u8 0] n) 5)).alloc (.cells #[.slice (some ⟨w3.heap.size, 0, none⟩) 0 n] 22)).cell? ⟨w.heap.size, 0, none⟩ = some (.pointer (some ⟨b, 0, none⟩)) :=
         one_box ((heap_alloc_old _ _ (by rw [World.size_alloc]; have := (Array.getElem?_eq_some_iff.1 d1).1; omega)).trans ((heap_alloc_old _ _ (Array.getElem?_eq_some_iff.1 d1).1).trans d1))
       clear ho3 hw3 d1 d2)
    | (refine ⟨trivial, ?_⟩; gi_at_call 46; refine (callsIn_wide.2 (told_any b _)).mono ?_; rintro e w4 ⟨rfl, rfl⟩))
  have hM : w.heap.size + 2 ≤ w3.heap.size := by have := HO3.out.size; have := HW1.out.2.2.2.1; omega
  obtain ⟨M, hMe⟩ : ∃ M, w3.heap.size = M := ⟨_, rfl⟩
  obtain ⟨W6, hW6⟩ : ∃ W6, ((w3.alloc (.cells (madeCells #[.int .u8 0] n) 5)).alloc (.cells #[.slice (some ⟨w3.heap.size, 0, none⟩) 0 n] 22)).alloc (.cells #[.pointer (some ⟨b, 0, none⟩)] 53) = W6 := ⟨_, rfl⟩
  have hs6 : W6.heap.size = M + 3 := by rw [← hW6, ← hMe]; simp
  rw [hW6]
  simp only [hMe]
  refine range_wide (M + 4) (by rw [hs6]) (gf := 56) (lb := #[.pointer (some ⟨M + 1 + 1, 0, none⟩)]) rfl (enters_of Try.func56 (by kernel_rfl) rfl) (fun rec r1 r0 r2 r3 r4 r5 => ?_)
  rw [hs6]
  obtain ⟨W5, hW5⟩ : ∃ W5, (W6.alloc (.deferred (some []))).alloc (.loop rec) = W5 := ⟨_, rfl⟩
  rw [hW5]
  have e1 : ∀ (u : World) (o : Obj) (j : Nat), j = u.heap.size → (u.alloc o).heap[j]? = some o := fun u o j h => by subst h; exact heap_alloc_new u o
  have e2 : ∀ (u : World) (o : Obj) (j : Nat) (x : Obj), u.heap[j]? = some x → (u.alloc o).heap[j]? = some x := fun u o j x h => (heap_alloc_old u o (Array.getElem?_eq_some_iff.1 h).1).trans h
  have hrec : ({ rec with state := .ready, pending := none } : Loop) = rec := by cases rec; simp_all
  obtain ⟨⟨hq, hn, hF⟩, ⟨d1, d2⟩, hw1⟩ := And.intro HQ.out (And.intro HD.out HW1.out)
  have hlw : Only b w w3 := (Only.of_below hw1.2.2.1).trans HO3.out
  have hR0 : Rr w M b q n mk (stN F 0) rec (8 * q * 0) (8 * q * 0) (sqL q F 0) 0 W5 W5 := by
    rw [← hW5, ← hW6]
    refine ⟨e1 _ _ _ (by simp; omega), e2 _ _ _ _ (e1 _ _ _ (by simp; omega)), e2 _ _ _ _ (e2 _ _ _ _ (e2 _ _ _ _ (e2 _ _ _ _ (e2 _ _ _ _ d1)))), e2 _ _ _ _ (e2 _ _ _ _ (e2 _ _ _ _ (e2 _ _ _ _ (e2 _ _ _ _ d2)))), ?_, ?_, ((((HW3.out.alloc _).alloc _).alloc _).alloc _).alloc _, ?_, kp_refl _ _, hw1.2.2.2.2, by omega⟩
    · rw [← hMe]; exact e2 _ _ _ _ (e2 _ _ _ _ (e2 _ _ _ _ (e1 _ _ _ (by simp))))
    · rw [← hMe]; exact ((((sown_room w3 n (by unfold maxLen; omega)).alloc _).alloc _).alloc _).alloc _
    · exact hlw.trans (Only.of_below ((((((Below.refl _ w3).alloc (Nat.le_refl _) _).alloc (by simp) _).alloc (by simp; omega) _).alloc (by simp; omega) _).alloc (by simp; omega) _))
  have hs5 : W5.heap.size = M + 5 := by rw [← hW5]; simp; omega
  have hbx : W5.heap[M + 1 + 1]? = some (.cells #[.pointer (some ⟨b, 0, none⟩)] 53 (0, 0)) := by rw [← hW5, ← hW6]; exact e2 _ _ _ _ (e2 _ _ _ _ (e1 _ _ _ (by simp; omega)))
  have hbM : b < w.heap.size := hw1.2.2.2.2
  refine (told_blocks (fun j => j = b ∨ j = M ∨ j = M + 1 ∨ j = M + 4) (fun k A => Rr w M b q n mk (stN F k) rec (8 * q * k) (8 * q * k) (sqL q F k) 0 A A ∧ (8 * q * k < n ∨ (k = 0 ∧ n = 0)))
    (fun k A => Rr w M b q n mk (stN F k) rec (8 * q * (k + 1)) (8 * q * (k + 1)) (sqL q F (k + 1)) (8 * q) A A ∧ 8 * q * (k + 1) < n)
    (fun B => ∃ G a, Rr w M b q n mk G { rec with state := .done, pending := some (.exit 0) } n n (toldL q n F) a B B) (M + 4) b (M + 1 + 1) q (n + 1) mk F W5 hq hF
    (fun k A h => ⟨by have := Nat.le_mul_of_pos_left k (show 0 < 8 * q by omega); omega, h.1.obj⟩) (fun k A B h hb => ⟨h.1.only (Only.of_below hb) (h.1.obj.self hb), h.2⟩)
    (fun k A h => ⟨⟨_, h.1.obj⟩, fun B ho hw => ⟨h.1.only ho hw, .inl h.2⟩⟩) (fun k A g c N hA hN hc ho => ?_) (fun k A h => by rw [hs5]; exact h.1.big)
    ⟨hbx, ⟨by omega, by omega⟩, hR0, by omega⟩).mono ?_
  · obtain ⟨hA, hlt⟩ := hA
    obtain ⟨R, hR⟩ : ∃ R, 8 * q = R := ⟨_, rfl⟩
    rw [show (Value.slice (some ⟨g, 0, none⟩) (8 * q) c) = Value.slice (some ⟨g, 0, none⟩) R c by rw [hR]]
    refine round_wide hA.loop r1 r2 r3 r4 r5 rfl ?_
    have hgM : M + 5 ≤ g ∧ g < A.heap.size := by
      have h9 : N ≤ g ∧ g < A.heap.size := own_block ho rfl
      have h8 : W5.heap.size ≤ N := hN
      rw [hs5] at h8
      omega
    have HA := hid hA
    have HR0 := hid (hA.put_lo { rec with state := .busy })
    obtain ⟨C, hC⟩ : ∃ C, A.putObj (M + 4) (.loop { rec with state := .busy }) = C := ⟨_, rfl⟩
    have HBk : Hid (∀ j, j < 8 * q → C.cell? ⟨g, 0 + j, none⟩ = some (.int .u8 (nth (wdL (stN F k) q) j))) := hid fun j hj => by
      obtain ⟨g', c', hv, _, _, hcc, _⟩ := ho.part (by rw [wdL_len]; omega)
      injection hv with hv1
      injection hv1 with hv1
      injection hv1 with hv1
      subst hv1
      rw [← hC, Nat.zero_add, World.cell?_of_block (w := A) (w' := A.putObj (M + 4) _) (World.putObj_heap_other (by show g ≠ M + 4; omega))]
      exact hcc j (by rw [wdL_len]; exact hj)
    have HC := hid hC
    rw [hC] at HR0
    obtain ⟨Q, hQ⟩ : ∃ Q, 8 * q * k = Q := ⟨_, rfl⟩
    rw [hQ] at HR0 hlt
    have hQn : Q ≤ n := by
      rcases hlt with h | ⟨h, _⟩
      · omega
      · rw [← hQ, h, Nat.mul_zero]; exact Nat.zero_le _
    have hlt2 : Q < n ∨ n = 0 := hlt.imp id (·.2)
    rw [hR] at hc
    obtain ⟨d, hd⟩ : ∃ d, n - Q = d := ⟨_, rfl⟩
    obtain ⟨m, hm⟩ : ∃ m, min R d = m := ⟨_, rfl⟩
    have HN : Hid (Q + m ≤ n ∧ m ≤ R ∧ m ≤ c ∧ R = 8 * q ∧ Q = 8 * q * k ∧ (Q + m < n → m = R) ∧ n ≤ 65536 ∧ 1 ≤ q ∧ q ≤ 24) := hid ⟨by omega, by omega, by omega, hR.symm, hQ.symm, by omega, hn, hq.1, hq.2⟩
    have m1 : IntKind.i64.wrap ((n : Int) - (Q : Int)) = (d : Int) := by rw [IntKind.wrap_i64]; omega
    have m2 : min (R : Int) (d : Int) = (m : Int) := by omega
    have m3 : (0 : Int) ≤ (m : Int) := by omega
    have m4 : (m : Int) ≤ (R : Int) := by omega
    have m5 : (m : Int) ≤ (c : Int) := by omega
    have m6 : (m : Int) ≤ 65536 := by omega
    have HROW : Hid (C.ownsRow M 5 1 (.slice (some ⟨M, 0, none⟩) Q n) Q ((sqL q F k).map (Value.int .u8))) := hid (by have h : C.ownsRow _ _ _ _ (sqL q F k).length _ := HR0.out.own; rw [sqL_len, hQ] at h; exact h)
    have hnl : ((wdL (stN F k) q).take m).length = m := by rw [List.length_take, wdL_len]; omega
    have HNW : Hid (∀ j u, (((wdL (stN F k) q).take m).map (Value.int .u8))[j]? = some u → C.cell? ((⟨g, 0, none⟩ : Addr).add j) = some u) := hid (by
      intro j u hj
      have hjm : j < m := by have := (List.getElem?_eq_some_iff.1 hj).1; rwa [List.length_map, hnl] at this
      rw [List.getElem?_map, Option.map_eq_some_iff] at hj
      obtain ⟨z, hz, rfl⟩ := hj
      rw [Addr.add_mid, HBk.out j (by omega), nth_of (by rw [wdL_len]; omega)]
      rw [List.getElem?_take_of_lt hjm] at hz
      obtain ⟨hz1, rfl⟩ := List.getElem?_eq_some_iff.1 hz
      rfl)
    have HNL : Hid ((((wdL (stN F k) q).take m).map (Value.int .u8)).length = m * 1) := hid (by rw [List.length_map, hnl, Nat.mul_one])
    have H1C : Hid (∀ u ∈ ((wdL (stN F k) q).take m).map (Value.int .u8), u.oneCell' = true) := hid (by intro u hu; obtain ⟨z, _, rfl⟩ := List.mem_map.1 hu; rfl)
    have hcat : (sqL q F k ++ (wdL (stN F k) q).take m).length = Q + m := by rw [List.length_append, sqL_len, hnl, hQ]
    have HCAT : Hid (∀ W : World, W.ownsRow M 5 1 (.slice (some ⟨M, 0, none⟩) (Q + m) n) (Q + m) ((sqL q F k).map (Value.int .u8) ++ ((wdL (stN F k) q).take m).map (Value.int .u8)) → Own .u8 M 5 W (.slice (some ⟨M, 0, none⟩) (Q + m) n) (sqL q F k ++ (wdL (stN F k) q).take m)) := hid (by
      intro W h
      rw [← List.map_append] at h
      show W.ownsRow _ _ _ _ (sqL q F k ++ (wdL (stN F k) q).take m).length _
      rw [hcat]; exact h)
    have HTo : Hid (Q + m = n → sqL q F k ++ (wdL (stN F k) q).take m = toldL q n F) := hid fun e => by
      have h9 : (sqL q F (k + 1)).take n = toldL q n F := told_of (by omega) (by rw [Nat.mul_succ]; omega)
      have h10 : (sqL q F k ++ wdL (stN F k) q).take n = sqL q F k ++ (wdL (stN F k) q).take m := by
        rw [List.take_append, sqL_len, List.take_of_length_le (l := sqL q F k) (by rw [sqL_len]; omega), show n - 8 * q * k = m by omega]
      rw [← h9, sqL, h10]
    have HTm : Hid (m = R → (wdL (stN F k) q).take m = wdL (stN F k) q) := hid fun e => List.take_of_length_le (by rw [wdL_len]; omega)
    obtain ⟨i5, hi5, hz5⟩ : ∃ i, Try.prog.info? 5 = some i ∧ i.size = 1 := by obtain ⟨i0, hi, _, h1, _⟩ := info_parts info8; exact ⟨i0, hi, h1⟩
    have HRE := hid hrec
    have q1 := one_box HR0.out.num
    have q2 := one_box HR0.out.out
    clear hR0 hs5 hbx hbM hA hlt hgM hC hQ hR hd hm hnl hcat HBk hQn hlt2 ho hN hc hq hn hF d1 d2 hw1 hlw hrec r0 r1 r2 r3 r4 r5 hW5 hW6 hs6 hM hMe e1 e2 hmk c1 c2 c3 c4 c5
    simp only [Array.zip, List.zipWith_toArray, List.zipWith_cons_cons, List.zipWith_nil_right, List.foldl_toArray, List.foldl_cons, List.foldl_nil, List.setIfInBounds_toArray, lay_out]
    refine region0_R (by kernel_rfl) ?_
    go_wp2
    refine ⟨HA.out.loop, ?_⟩
    rw [HC.out]
    by_cases he : Q + m = n
    · have he1 : (Q : Int) + (m : Int) = (n : Int) := by omega
      have HE := hid he
      clear he
      gi_wp2_with (refine at_append (.tmp 32) (.tmp 33) 22 rfl ?_; refine plain_in rfl (fun c e => by cases e) ?_; (refine (wp_append_own_spare _ (.tmp 32) (.tmp 33) 22 rfl M 5 i5 1 Try.underlying22 hi5 hz5 M Q n _ rfl HROW.out ⟨g, 0, none⟩ m c _ rfl HNL.out HNW.out H1C.out HN.out.1 ?_)); intro C1 ho hg; have HG := hid (HR0.out.grown hg (HCAT.out _ ho)); clear ho hg; have g1 := one_box HG.out.out; have g2 := frozen_of_row _ _ 0 _ 22 HG.out.out; have HP := hid HG.out.put; have p1 := one_box HP.out.bx; have p2 := HP.out.obj.at; have p3 := HP.out.obj.free 27; have HA2 := hid (HP.out.setA m); have t1 := one_box HA2.out.out; have t2 := one_box HA2.out.num)
      have HL := hid (HA2.out.put_lo { rec with state := .done, pending := some (.exit 0) })
      exact ⟨HA2.out.loop, .inr ⟨rfl, ⟨_, m, HL.out.reset.ext HE.out HE.out (HTo.out HE.out) rfl⟩, HL.out.kp, m, HL.out.obj⟩⟩
    · have he1 : ¬ ((Q : Int) + (m : Int) = (n : Int)) := by omega
      have HE := hid he
      clear he
      gi_wp2_with (refine at_append (.tmp 32) (.tmp 33) 22 rfl ?_; refine plain_in rfl (fun c e => by cases e) ?_; (refine (wp_append_own_spare _ (.tmp 32) (.tmp 33) 22 rfl M 5 i5 1 Try.underlying22 hi5 hz5 M Q n _ rfl HROW.out ⟨g, 0, none⟩ m c _ rfl HNL.out HNW.out H1C.out HN.out.1 ?_)); intro C1 ho hg; have HG := hid (HR0.out.grown hg (HCAT.out _ ho)); clear ho hg; have g1 := one_box HG.out.out; have g2 := frozen_of_row _ _ 0 _ 22 HG.out.out; have HP := hid HG.out.put; have p1 := one_box HP.out.bx; have p2 := HP.out.obj.at; have p3 := HP.out.obj.free 27; have HA2 := hid (HP.out.setA m); have t1 := one_box HA2.out.out; have t2 := one_box HA2.out.num)
      have HL := hid (HA2.out.put_lo { rec with state := .ready, pending := none })
      have HM : Hid (m = R ∧ Q + m = 8 * q * (k + 1) ∧ Q + m < n ∧ m = 8 * q) := hid (by
        have h1 := HN.out
        have h2 := HE.out
        have h3 : 8 * q * (k + 1) = 8 * q * k + 8 * q := Nat.mul_succ _ _
        omega)
      refine ⟨HA2.out.loop, .inl ⟨rfl, ⟨?_, by rw [← HM.out.2.1]; exact HM.out.2.2.1⟩, HL.out.kp⟩⟩
      have h9 := HL.out.reset.ext HM.out.2.1 HM.out.2.1 (show _ = sqL q F (k + 1) by rw [HTm.out HM.out.1, sqL]) HM.out.2.2.2
      rw [HRE.out] at h9 ⊢
      exact h9
  · rintro e w' ⟨⟨v, rfl⟩, G, a, hr⟩
    refine ⟨v, _, rfl, hr.loop, by simp, ?_⟩
    dsimp only
    have HL := hid (hr.put_lo { rec with state := .exhausted, pending := some (.exit 0) })
    have hK := HL.out.dfr
    have c9 := one_box HL.out.out
    have hMw : w.heap.size ≤ M := by omega
    have HMw := hid hMw
    obtain ⟨w6, hw6⟩ : ∃ w6, w'.putObj (M + 4) (.loop { rec with state := .exhausted, pending := some (.exit 0) }) = w6 := ⟨_, rfl⟩
    rw [hw6] at HL hK c9 ⊢
    clear hw6 hr hs5 hbx hbM hR0 hq hn hF d1 d2 hw1 hlw hrec r0 r1 r2 r3 r4 r5 hW5 hW6 hs6 hM hMe e1 e2 hmk c1 c2 c3 c4 c5 hMw
    gi_wp2
    refine ⟨by simp, .inl ⟨_, _, rfl, run_takeDeferred hK, ?_⟩⟩
    exact ⟨_, results_tmp2 rfl _ _ _, M, rfl, by rw [HSm.out]; exact own_base (own_blk HL.out.own (World.putObj_heap_other (by omega))) HMw.out, only_put HL.out.low (by have := HMw.out; omega) _⟩
end Go.Proofs.Ytfjgelialaccdaa
