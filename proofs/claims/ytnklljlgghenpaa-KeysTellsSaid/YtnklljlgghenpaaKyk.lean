import Derived.Test.YtnklljlgghenpaaProg
import Derived.Test.YtnklljlgghenpaaKyj
namespace Go.Proofs.Ytnklljlgghenpaa
open Go.RowKit

/-- m rows of four bytes, one behind the other. -/
def flat (m : Nat) (F : Nat → Nat → Nat) : List Value := (ba (4 * m) (fun x => F (x / 4) (x % 4))).toList
theorem flat_len (m : Nat) (F : Nat → Nat → Nat) : (flat m F).length = m * 4 := by unfold flat; rw [Array.length_toList, ba_size, Nat.mul_comm]
theorem flat_at {m : Nat} (F : Nat → Nat → Nat) {x : Nat} (h : x < 4 * m) : (flat m F)[x]? = some (.int .u8 (F (x / 4) (x % 4) : Int)) := by
  unfold flat; rw [Array.getElem?_toList, ba_get _ h]
theorem flat_snoc (m : Nat) (F : Nat → Nat → Nat) (f : Nat → Nat) : flat m F ++ (ba 4 f).toList = flat (m + 1) (updR F m f) := by
  apply List.ext_getElem?
  intro x
  by_cases h1 : x < 4 * m
  · rw [List.getElem?_append_left (by rw [flat_len]; omega), flat_at _ h1, flat_at _ (by omega)]
    unfold updR
    rw [if_neg (by omega)]
  · rw [List.getElem?_append_right (by rw [flat_len]; omega), flat_len]
    by_cases h2 : x < 4 * (m + 1)
    · rw [flat_at _ h2, Array.getElem?_toList, ba_get _ (by omega)]
      unfold updR
      rw [if_pos (by omega), show x - m * 4 = x % 4 by omega]
    · rw [List.getElem?_eq_none (by rw [Array.length_toList, ba_size]; omega), List.getElem?_eq_none (by rw [flat_len]; omega)]
theorem flat_ext {m : Nat} {F G : Nat → Nat → Nat} (h : ∀ i, i < m → ∀ j, j < 4 → F i j = G i j) : flat m F = flat m G := by
  unfold flat
  rw [ba_ext (fun x hx => h (x / 4) (by omega) (x % 4) (by omega))]

/-- A list of rows of four bytes, the call's own. -/
structure LA (w : World) (B : Nat) (v : Value) (m : Nat) (F : Nat → Nat → Nat) : Prop where
  own : w.ownsRow B 38 4 v m (flat m F)
  byte : ∀ i, i < m → ∀ j, j < 4 → F i j < 256
theorem LA.ra {w : World} {B c cap m : Nat} {F : Nat → Nat → Nat} (h : LA w B (.slice (some ⟨c, 0, none⟩) m cap) m F) (hm : 0 < m) : RA w c m F := by
  obtain ⟨g, cap', e, hb, hlt⟩ := h.own.form hm
  injection e with e1 _ _
  injection e1 with e1
  injection e1 with e1
  subst e1
  refine ⟨hlt, fun i hi j hj => ?_, h.byte⟩
  have := h.own.cells (g := c) rfl (i * 4 + j) _ (flat_at F (by omega))
  rw [Addr.add_mid, Nat.zero_add] at this
  rw [this, show (i * 4 + j) / 4 = i by omega, show (i * 4 + j) % 4 = j by omega]
theorem LA.same {w w' : World} {B : Nat} {v : Value} {m : Nat} {F : Nat → Nat → Nat} (h : LA w B v m F) (hb : Below w.heap.size w w') : LA w' B v m F := by
  refine ⟨⟨h.own.1, ?_⟩, h.byte⟩
  rcases h.own.2 with h1 | ⟨g, cap, cur, e, h1, h2, h3⟩
  · exact .inl h1
  · exact .inr ⟨g, cap, cur, e, h1, (hb.block g (Array.getElem?_eq_some_iff.1 h2).1).trans h2, h3⟩

theorem LA.ext {w : World} {B : Nat} {v : Value} {m : Nat} {F G : Nat → Nat → Nat} (h : LA w B v m F) (e : ∀ i, i < m → ∀ j, j < 4 → F i j = G i j) : LA w B v m G :=
  ⟨by rw [← flat_ext e]; exact h.own, fun i hi j hj => by rw [← e i hi j hj]; exact h.byte i hi j hj⟩

theorem info38 : (Try.prog.info? 38).map (fun i => (i.zero, i.size, i.bytes)) = some (some (.agg #[.int .u8 0, .int .u8 0, .int .u8 0, .int .u8 0]), 4, 4) := by kernel_rfl
theorem wp_append_la {w : World} {o : Oper} {a : Act} {Kk : Act → World → Prop} {Q : Exit → Act → World → Prop} (s x : Operand)
    (ho : o.op = .call { callee := .builtin .append, args := #[s, x], argTypes := #[37, 37] }) (B : Nat) (v : Value) (m : Nat) (F : Nat → Nat → Nat) (hs : a.eval s = v) (hown : LA w B v m F)
    (ad : Addr) (c : Nat) (f : Nat → Nat) (hx : a.eval x = .slice (some ad) 1 c) (hu : ∀ j, j < 4 → w.cell? (ad.add j) = some (.int .u8 (f j : Int))) (hf : ∀ j, j < 4 → f j < 256)
    (hlim : m ≤ 1048576) (hB : B ≤ w.heap.size) (B0 : Nat) (w0 : World) (hb : Below B0 w0 w) (hBB : B0 ≤ B)
    (h : ∀ v' w', LA w' B v' (m + 1) (updR F m f) → Below B0 w0 w' → w.heap.size ≤ w'.heap.size → Kk (a.put o.dst v') w') : o.wp Try.prog a w Kk Q := by
  obtain ⟨i0, hi, hz0, hz1, hz2⟩ := info_parts info38
  refine wp_append_own w s x 37 ho B 38 i0 _ 4 4 Try.underlying37 hi hz0 hz1 hz2 rfl (by decide) v m (flat m F) hs hown.own ad 1 c (ba 4 f).toList hx (by rw [Array.length_toList, ba_size]) ?_ ?_ (by unfold maxLen; omega) (by omega) hB ?_
  · intro j y hj
    have hj4 : j < 4 := by have := (List.getElem?_eq_some_iff.1 hj).1; rwa [Array.length_toList, ba_size] at this
    rw [Array.getElem?_toList, ba_get _ hj4] at hj
    injection hj with hj
    rw [← hj]; exact hu j hj4
  · intro y hy
    obtain ⟨j, hj, e⟩ := List.mem_iff_getElem.1 hy
    have hj4 : j < 4 := by rwa [Array.length_toList, ba_size] at hj
    have : (ba 4 f).toList[j]? = some y := by rw [List.getElem?_eq_getElem hj, e]
    rw [Array.getElem?_toList, ba_get _ hj4] at this
    injection this with this
    rw [← this]; rfl
  · intro v' w' h2 h3 _
    refine h v' w' ⟨by rw [← flat_snoc]; exact h2, fun i hi j hj => ?_⟩ (hb.grown h3 (by omega) (fun j hj => by have := (World.ownsRow.lt hown.own j hj).1; omega)) h3.size
    unfold updR
    split
    · exact hf j hj
    · exact hown.byte i (by omega) j hj
theorem wpList_append_la {w : World} {ops : Array Oper} {rest : List Oper} {o : Oper} {a : Act} {Q : Exit → Act → World → Prop} (hgd : o.guard = none) (s x : Operand)
    (ho : o.op = .call { callee := .builtin .append, args := #[s, x], argTypes := #[37, 37] }) (B : Nat) (v : Value) (m : Nat) (F : Nat → Nat → Nat) (hs : a.eval s = v) (hown : LA w B v m F)
    (ad : Addr) (c : Nat) (f : Nat → Nat) (hx : a.eval x = .slice (some ad) 1 c) (hu : ∀ j, j < 4 → w.cell? (ad.add j) = some (.int .u8 (f j : Int))) (hf : ∀ j, j < 4 → f j < 256)
    (hlim : m ≤ 1048576) (hB : B ≤ w.heap.size) (B0 : Nat) (w0 : World) (hb : Below B0 w0 w) (hBB : B0 ≤ B)
    (h : ∀ v' w', LA w' B v' (m + 1) (updR F m f) → Below B0 w0 w' → w.heap.size ≤ w'.heap.size → wpList Try.prog ops Q rest (a.put o.dst v') w') : wpList Try.prog ops Q (o :: rest) a w :=
  wpList_plain hgd fun _ hK => wp_append_la s x ho B v m F hs hown ad c f hx hu hf hlim hB B0 w0 hb hBB fun v' w' h2 h3 h4 => hK _ _ (h v' w' h2 h3 h4)
theorem step_append_la {w : World} {ops : Array Oper} {o : Oper} {a : Act} {Kk : Act → World → Prop} {Q : Exit → Act → World → Prop} {X : Prop} (hgd : o.guard = none) (s x : Operand)
    (ho : o.op = .call { callee := .builtin .append, args := #[s, x], argTypes := #[37, 37] }) (B : Nat) (v : Value) (m : Nat) (F : Nat → Nat → Nat) (hs : a.eval s = v) (hown : LA w B v m F)
    (ad : Addr) (c : Nat) (f : Nat → Nat) (hx : a.eval x = .slice (some ad) 1 c) (hu : ∀ j, j < 4 → w.cell? (ad.add j) = some (.int .u8 (f j : Int))) (hf : ∀ j, j < 4 → f j < 256)
    (hlim : m ≤ 1048576) (hB : B ≤ w.heap.size) (B0 : Nat) (w0 : World) (hb : Below B0 w0 w) (hBB : B0 ≤ B)
    (h : ∀ v' w', LA w' B v' (m + 1) (updR F m f) → Below B0 w0 w' → w.heap.size ≤ w'.heap.size → Kk (a.put o.dst v') w') :
    if Region.wanted o (yielded ops a.tmps) = true then Oper.wp Try.prog o a w Kk Q else X := by
  have hw : Region.wanted o (yielded ops a.tmps) = true := by simp [Region.wanted, hgd]
  rw [if_pos hw]
  exact wp_append_la s x ho B v m F hs hown ad c f hx hu hf hlim hB B0 w0 hb hBB h
theorem from_drew {B : Nat} {a w : World} (h : Below B a w) : Below B a.drew w := ⟨h.os, h.tape, h.output, h.size, h.block⟩
theorem cells_new4 (w : World) (f : Nat → Nat) (E : TypeId) : ∀ j, j < 4 → (w.alloc (.cells (ba 4 f) E)).cell? (Addr.add ⟨w.heap.size, 0, none⟩ j) = some (.int .u8 (f j : Int)) := by
  intro j hj
  rw [Addr.add_mid, Nat.zero_add]
  exact (At.new w 4 E f).cell hj

/-- The rows that are told, and the words that they are made of. -/
structure OInv (w wr : World) (c i : Nat) (X : Nat → Nat → Nat) (o cap r : Nat) (gs cs : Nat → Nat) (Y : Nat → Nat → Nat) : Prop where
  words : RA wr c i X
  list : LW wr w.heap.size 22 o r cap 16 gs (fun _ => 0) cs Y
  low : Below w.heap.size w wr
  ne : c ≠ o
theorem OInv.self {w wr w1 : World} {c i o cap r : Nat} {X Y : Nat → Nat → Nat} {gs cs : Nat → Nat} (h : OInv w wr c i X o cap r gs cs Y) (hb : Below wr.heap.size wr w1) : OInv w w1 c i X o cap r gs cs Y :=
  ⟨h.words.self hb, h.list.self hb, h.low.trans (hb.mono h.low.size), h.ne⟩
theorem OInv.more {w wr w1 : World} {c i o cap r o' cap' g k : Nat} {X Y : Nat → Nat → Nat} {gs cs : Nat → Nat} (h : OInv w wr c i X o cap r gs cs Y)
    (hl : LW w1 w.heap.size 22 o' (r + 1) cap' 16 (upd gs r g) (upd (fun _ => 0) r 0) (upd cs r k) (updR Y r (Y r))) (hgr : wr.grownBy w1 (some o)) (ho : o' = o ∨ o' = wr.heap.size) : OInv w w1 c i X o' cap' (r + 1) (upd gs r g) (upd cs r k) Y := by
  refine ⟨⟨Nat.lt_of_lt_of_le h.words.lt hgr.size, fun i hi j hj => (World.cell?_of_block (w := wr) (hgr.block c h.words.lt (by simpa using h.ne))).trans (h.words.cell i hi j hj), h.words.byte⟩, ?_, h.low.grown hgr h.low.size (fun j hj => by injection hj with hj; subst hj; exact h.list.form.1), by have := h.ne; have := h.words.lt; rcases ho with rfl | rfl <;> omega⟩
  rw [upd_const] at hl
  exact hl.ext (fun i _ x _ => by unfold updR; split; (rename_i e; rw [e]); rfl)
/-- One row of 16 bytes on its way. -/
structure InInv (w wr : World) (v : Value) (f : Nat → Nat) (t : Nat) : Prop where
  own : Own .u8 w.heap.size 5 wr v (ns t f)
  low : Below w.heap.size w wr

set_option maxRecDepth 100000 in
set_option maxHeartbeats 6400000 in
theorem refexpand_ok (kb ko kc K L R R1 M N : Nat) (k : Nat → Nat) (w : World) (hL : L = 4 * K) (hR : rnd (L : Int) = R) (hR1 : R1 = R + 1) (hM : M = 4 * R1) (hMN : M = K + N) (hK : 4 ≤ K) (hK8 : K ≤ 8) (hN : N ≤ 900) (hR0 : 0 < R)
    (hk : ∀ x, k x < 256) (hA : Wd w L kb ko k) :
    Calls Try.prog 10 #[.slice (some ⟨kb, ko, none⟩) L kc] w fun e w' =>
      ∃ c cap gs cs, e = .returned (.tuple #[.slice (some ⟨c, 0, none⟩) R1 cap, .int .i64 0]) ∧ RL w' c R1 16 gs (fun _ => 0) cs (rkey K k N) ∧ Below w.heap.size w w' := by
  have HRD := hid (fun w => by have := refrounds_any (L : Int) w; rw [hR] at this; exact this)
  have r0 : ((R : Int) == 0) = false := by rw [beq_eq_false_iff_ne]; omega
  have d4 : (L : Int) / 4 = (K : Int) := by omega
  have wK : IntKind.i64.wrap (K : Int) = K := by rw [IntKind.wrap_i64]; omega
  have HA := hid hA
  have HK := hid hk
  have HM := hid hM
  have HMN := hid hMN
  have HL4 := hid hL
  have HR1 := hid hR1
  clear hA hk hM hMN hL hR hR1
  go_enter Try.func10, Try.ntmps10
  go_wp2_with (first
    | (go_at_call 6; (with_reducible refine (HRD.out _).mono ?_); rintro e u1 ⟨rfl, rfl⟩))
  have HS : Hid (LA (u1.alloc (.cells #[] 38)) u1.heap.size (.slice (some ⟨u1.heap.size, 0, none⟩) 0 0) 0 (fun i x => k (4 * i + x))) :=
    hid ⟨⟨rfl, .inr ⟨u1.heap.size, 0, #[], rfl, Nat.le_refl _, heap_alloc_new u1 _, Nat.le_refl _, Nat.zero_le _, rfl, rfl⟩⟩, fun i hi => absurd hi (by omega)⟩
  have HSL : Hid (Below u1.heap.size u1 (u1.alloc (.cells #[] 38))) := hid ((Below.refl _ _).alloc (Nat.le_refl _) _)
  go_loopw [6, 7] (fun v i wr => ∃ j : Nat, j ≤ K ∧ i = .int .i64 (j : Nat) ∧ LA wr u1.heap.size v j (fun i x => k (4 * i + x)) ∧ Below u1.heap.size u1 wr) (fun _ i _ => K - (intOf i).toNat)
  case atStart => exact ⟨0, by omega, rfl, HS.out, HSL.out⟩
  case round =>
    obtain ⟨j, hj, rfl, hI, hl⟩ := hrel
    have HI := hid hI
    have HL := hid hl
    clear hI hl
    by_cases hlt : j < K
    · have HAw := hid (HA.out.self HL.out)
      have hle : 4 * j + 4 ≤ L := by have := HL4.out; omega
      obtain ⟨q, hq⟩ : ∃ q, 4 * j = q := ⟨_, rfl⟩
      obtain ⟨q1, hq1⟩ : ∃ q1, 4 * j + 1 = q1 := ⟨_, rfl⟩
      obtain ⟨q2, hq2⟩ : ∃ q2, 4 * j + 2 = q2 := ⟨_, rfl⟩
      obtain ⟨q3, hq3⟩ : ∃ q3, 4 * j + 3 = q3 := ⟨_, rfl⟩
      have y0 : wr.drew.cell? ⟨kb, ko + q, none⟩ = some (.int .u8 (k q : Int)) := HAw.out.drew.cell q (by omega)
      have y1 : wr.drew.cell? ⟨kb, ko + q1, none⟩ = some (.int .u8 (k q1 : Int)) := HAw.out.drew.cell q1 (by omega)
      have y2 : wr.drew.cell? ⟨kb, ko + q2, none⟩ = some (.int .u8 (k q2 : Int)) := HAw.out.drew.cell q2 (by omega)
      have y3 : wr.drew.cell? ⟨kb, ko + q3, none⟩ = some (.int .u8 (k q3 : Int)) := HAw.out.drew.cell q3 (by omega)
      have e0 : 4 * (j : Int) = (q : Int) := by omega
      have e1 : (q : Int) + 1 = (q1 : Int) := by omega
      have e2 : (q : Int) + 2 = (q2 : Int) := by omega
      have e3 : (q : Int) + 3 = (q3 : Int) := by omega
      have w0 : IntKind.i64.wrap (q : Int) = q := by rw [IntKind.wrap_i64]; omega
      have w1 : IntKind.i64.wrap (q1 : Int) = q1 := by rw [IntKind.wrap_i64]; omega
      have w2' : IntKind.i64.wrap (q2 : Int) = q2 := by rw [IntKind.wrap_i64]; omega
      have w3 : IntKind.i64.wrap (q3 : Int) = q3 := by rw [IntKind.wrap_i64]; omega
      have b0 : (q : Int) < (L : Int) := by omega
      have b1 : (q1 : Int) < (L : Int) := by omega
      have b2 : (q2 : Int) < (L : Int) := by omega
      have b3 : (q3 : Int) < (L : Int) := by omega
      have n0 : (0 : Int) ≤ (q : Int) := by omega
      have n1 : (0 : Int) ≤ (q1 : Int) := by omega
      have n2 : (0 : Int) ≤ (q2 : Int) := by omega
      have n3 : (0 : Int) ≤ (q3 : Int) := by omega
      have HF : Hid (∀ j', j' < 4 → quad (k q) (k q1) (k q2) (k q3) j' = k (4 * j + j')) := hid (by
        intro j' hj'
        obtain rfl | rfl | rfl | rfl : j' = 0 ∨ j' = 1 ∨ j' = 2 ∨ j' = 3 := by omega
        · rw [← hq]; rfl
        · rw [← hq1]; rfl
        · rw [← hq2]; rfl
        · rw [← hq3]; rfl)
      have HB0 := hid (HK.out q)
      have HB1 := hid (HK.out q1)
      have HB2 := hid (HK.out q2)
      have HB3 := hid (HK.out q3)
      obtain ⟨x0, hx0⟩ : ∃ x, k q = x := ⟨_, rfl⟩
      obtain ⟨x1, hx1⟩ : ∃ x, k q1 = x := ⟨_, rfl⟩
      obtain ⟨x2, hx2⟩ : ∃ x, k q2 = x := ⟨_, rfl⟩
      obtain ⟨x3, hx3⟩ : ∃ x, k q3 = x := ⟨_, rfl⟩
      rw [hx0] at y0 HF HB0
      rw [hx1] at y1 HF HB1
      rw [hx2] at y2 HF HB2
      rw [hx3] at y3 HF HB3
      have HQ := hid (And.intro hx0 (And.intro hx1 (And.intro hx2 hx3)))
      clear hx0 hx1 hx2 hx3
      clear hq hq1 hq2 hq3
      have HY : Hid (wr.drew.cell? ⟨kb, ko + q, none⟩ = some (.int .u8 (x0 : Int)) ∧ wr.drew.cell? ⟨kb, ko + q1, none⟩ = some (.int .u8 (x1 : Int)) ∧ wr.drew.cell? ⟨kb, ko + q2, none⟩ = some (.int .u8 (x2 : Int)) ∧ wr.drew.cell? ⟨kb, ko + q3, none⟩ = some (.int .u8 (x3 : Int))) := hid ⟨y0, y1, y2, y3⟩
      have HD : Hid (LA (wr.drew.alloc (.cells #[.int .u8 (x0 : Int), .int .u8 (x1 : Int), .int .u8 (x2 : Int), .int .u8 (x3 : Int)] 38)) u1.heap.size u6 j (fun i x => k (4 * i + x))) := hid ((show LA wr.drew u1.heap.size _ j _ from ⟨HI.out.own, HI.out.byte⟩).same ((Below.refl _ _).alloc (Nat.le_refl _) _))
      have HLD : Hid (Below u1.heap.size u1 (wr.drew.alloc (.cells #[.int .u8 (x0 : Int), .int .u8 (x1 : Int), .int .u8 (x2 : Int), .int .u8 (x3 : Int)] 38))) := hid (HL.out.drew.alloc HL.out.size _)
      have HYY : Hid (∀ w', Below wr.heap.size wr w' → w'.cell? ⟨kb, ko + q, none⟩ = some (.int .u8 (x0 : Int)) ∧ w'.cell? ⟨kb, ko + q1, none⟩ = some (.int .u8 (x1 : Int)) ∧ w'.cell? ⟨kb, ko + q2, none⟩ = some (.int .u8 (x2 : Int)) ∧ w'.cell? ⟨kb, ko + q3, none⟩ = some (.int .u8 (x3 : Int))) := hid (fun w' hb => ⟨cell_self y0 (from_drew hb), cell_self y1 (from_drew hb), cell_self y2 (from_drew hb), cell_self y3 (from_drew hb)⟩)
      have HZZ : Hid (∀ w', Below u1.heap.size u1 w' → w'.cell? ⟨kb, ko + q, none⟩ = some (.int .u8 (x0 : Int)) ∧ w'.cell? ⟨kb, ko + q1, none⟩ = some (.int .u8 (x1 : Int)) ∧ w'.cell? ⟨kb, ko + q2, none⟩ = some (.int .u8 (x2 : Int)) ∧ w'.cell? ⟨kb, ko + q3, none⟩ = some (.int .u8 (x3 : Int))) := hid (fun w' hb => by have h := (HA.out.self hb); exact ⟨by rw [h.cell q (by omega), HQ.out.1], by rw [h.cell q1 (by omega), HQ.out.2.1], by rw [h.cell q2 (by omega), HQ.out.2.2.1], by rw [h.cell q3 (by omega), HQ.out.2.2.2]⟩)
      have HY2 := hid (HYY.out (wr.drew.alloc (.cells #[.int .u8 (x0 : Int), .int .u8 (x1 : Int), .int .u8 (x2 : Int), .int .u8 (x3 : Int)] 38)) ((Below.refl wr.heap.size wr).drew.alloc (Nat.le_refl _) _))
      have HLA : Hid (Below wr.heap.size wr (wr.drew.alloc (.cells #[.int .u8 (x0 : Int), .int .u8 (x1 : Int), .int .u8 (x2 : Int), .int .u8 (x3 : Int)] 38))) := hid ((Below.refl wr.heap.size wr).drew.alloc (Nat.le_refl _) _)
      have HC4 : Hid (∀ j', j' < 4 → (wr.alloc (.cells #[.int .u8 (x0 : Int), .int .u8 (x1 : Int), .int .u8 (x2 : Int), .int .u8 (x3 : Int)] 38)).drew.cell? (Addr.add ⟨wr.heap.size, 0, none⟩ j') = some (.int .u8 (quad x0 x1 x2 x3 j' : Int))) := hid (cells_new4 wr (quad x0 x1 x2 x3) 38)
      clear y0 y1 y2 y3
      go_wp2
      go_region_held3 (fun w' => w'.cell? ⟨kb, ko + q, none⟩ = some (.int .u8 (x0 : Int)) ∧ w'.cell? ⟨kb, ko + q1, none⟩ = some (.int .u8 (x1 : Int)) ∧ w'.cell? ⟨kb, ko + q2, none⟩ = some (.int .u8 (x2 : Int)) ∧ w'.cell? ⟨kb, ko + q3, none⟩ = some (.int .u8 (x3 : Int)))
        (first | with_reducible assumption | exact HY.out | exact HY2.out | exact HZ.out)
        (first
          | (refine step_append_la rfl (.tmp 27) (.tmp 52) rfl u1.heap.size _ j _ rfl HD.out ⟨wr.heap.size, 0, none⟩ 1 (quad x0 x1 x2 x3) rfl HC4.out ?_ (by omega) HLD.out.size u1.heap.size u1 HLD.out (Nat.le_refl _) ?_; (intro j' hj'; obtain rfl | rfl | rfl | rfl : j' = 0 ∨ j' = 1 ∨ j' = 2 ∨ j' = 3 := (by omega); exact HB0.out; exact HB1.out; exact HB2.out; exact HB3.out); intro v' w' hla hlow' hsz'; have HN := hid hla; have HLN := hid hlow'; have HZ : Hid (w'.cell? ⟨kb, ko + q, none⟩ = some (.int .u8 (x0 : Int)) ∧ w'.cell? ⟨kb, ko + q1, none⟩ = some (.int .u8 (x1 : Int)) ∧ w'.cell? ⟨kb, ko + q2, none⟩ = some (.int .u8 (x2 : Int)) ∧ w'.cell? ⟨kb, ko + q3, none⟩ = some (.int .u8 (x3 : Int))) := hid (HZZ.out w' hlow'); clear hla hlow' hsz'))
      go_wp2
      go_roundw
      case rel =>
        refine ⟨j + 1, by omega, by go_num, HN.out.ext (fun i hi x hx => ?_), HLN.out⟩
        unfold updR
        split
        · rename_i e; subst e; exact HF.out x hx
        · rfl
      case measure => simp [intOf]; omega
    · obtain rfl : j = K := by omega
      have HS2 := hid (HI.out.ext (G := exps j k 0) (fun _ _ _ _ => rfl))
      have HSL2 := HL
      have e5 : 4 * (R : Int) + 4 = (M : Int) := by have := HM.out; have := HR1.out; omega
      have HMl : Hid (M ≤ 1000) := hid (by have := HMN.out; omega)
      have hRl : R ≤ 1000 := by have := HMl.out; omega
      clear HI HL
      go_wp2
      go_loopw [6, 8] (fun v i wr => ∃ n : Nat, n ≤ N ∧ i = .int .i64 (j + n : Nat) ∧ LA wr u1.heap.size v (j + n) (exps j k n) ∧ Below u1.heap.size u1 wr) (fun _ i _ => M - (intOf i).toNat)
      case atStart => exact ⟨0, by omega, rfl, HS2.out, HSL2.out⟩
      case round =>
        obtain ⟨n, hn, rfl, hI, hl⟩ := hrel
        have HI := hid hI
        have HL := hid hl
        obtain ⟨c, cap, rfl, _, _⟩ := hI.own.form (by omega)
        clear hI hl
        obtain ⟨i, hi⟩ : ∃ i, j + n = i := ⟨_, rfl⟩
        have Hi := hid hi
        have HRA := hid (HI.out.ra (by omega))
        have hmi := HMN.out
        rw [hi] at HRA HI ⊢
        by_cases hlt : n < N
        · have HW := hid (word_any c cap i j n (i - 1) (exps j k n) wr (by omega) (by omega) (by omega) (by omega) HRA.out)
          have b5 : (i : Int) < 4 * (R : Int) + 4 := by omega
          obtain ⟨f, hf⟩ : ∃ f, f = (fun x => exps j k n n x ^^^ mkw j i (exps j k n (i - 1)) x) := ⟨_, rfl⟩
          have HFl : Hid (∀ x, x < 4 → f x < 256) := hid (fun x hx => by rw [hf]; exact xor_lt (HRA.out.byte n (by omega) x hx) (mkw_lt (HRA.out.byte (i - 1) (by omega)) x hx))
          have HNX : Hid (updR (exps j k n) i f = exps j k (n + 1)) := hid (by rw [exps_new, hi, hf])
          rw [← hf] at HW
          have HW4 : Hid (Calls Try.prog 17 #[.slice (some ⟨c, 0, none⟩) i cap, .int .i64 (i : Int), .int .i64 (j : Int)] wr fun e w' => e = .returned (.agg #[.int .u8 (f 0 : Int), .int .u8 (f 1 : Int), .int .u8 (f 2 : Int), .int .u8 (f 3 : Int)]) ∧ Below wr.heap.size wr w') := HW
          clear hi hmi HW hf
          go_wp2_with (first
            | (go_at_call 17; (with_reducible refine (HW4.out).mono ?_); rintro e w5 ⟨rfl, hl5⟩; have HL5 := hid hl5; have HD5 : Hid (LA (w5.alloc (.cells #[.int .u8 (f 0 : Int), .int .u8 (f 1 : Int), .int .u8 (f 2 : Int), .int .u8 (f 3 : Int)] 38)) u1.heap.size (.slice (some ⟨c, 0, none⟩) i cap) i (exps j k n)) := hid ((HI.out.same hl5).same ((Below.refl _ _).alloc (Nat.le_refl _) _)); have HLD5 : Hid (Below u1.heap.size u1 (w5.alloc (.cells #[.int .u8 (f 0 : Int), .int .u8 (f 1 : Int), .int .u8 (f 2 : Int), .int .u8 (f 3 : Int)] 38))) := hid ((HL.out.trans (hl5.mono HL.out.size)).alloc (Nat.le_trans HL.out.size hl5.size) _); clear hl5)
            | (refine wpList_append_la rfl (.tmp 62) (.tmp 67) rfl u1.heap.size _ i _ rfl HD5.out ⟨w5.heap.size, 0, none⟩ 1 f rfl (cells_new4 w5 f 38) HFl.out (by omega) HLD5.out.size u1.heap.size u1 HLD5.out (Nat.le_refl _) ?_; intro v' w' hla hlow' hsz'; have HN := hid hla; have HLN := hid hlow'; clear hla hlow' hsz'))
          go_roundw
          case rel => exact ⟨n + 1, by omega, by rw [← Nat.add_assoc, Hi.out]; go_num, by rw [← Nat.add_assoc, Hi.out, ← HNX.out]; exact HN.out, HLN.out⟩
          case measure => simp [intOf]; omega
        · obtain rfl : n = N := by omega
          have b5 : ¬ (i : Int) < 4 * (R : Int) + 4 := by omega
          clear hi hmi
          go_wp2
          have HSO : Hid (OInv u1 (wr.alloc (.cells #[] 22)) c i (exps j k n) wr.heap.size 0 0 (fun _ => 0) (fun _ => 0) (rkey j k n)) :=
            hid ⟨HRA.out.self ((Below.refl _ _).alloc (Nat.le_refl _) _), ⟨⟨rfl, .inr ⟨wr.heap.size, 0, #[], rfl, HL.out.size, heap_alloc_new wr _, Nat.le_refl _, Nat.zero_le _, rfl, rfl⟩⟩, fun i hi => absurd hi (by omega), fun i hi => absurd hi (by omega)⟩, HL.out.alloc HL.out.size _, Nat.ne_of_lt HRA.out.lt⟩
          have HiR : Hid (i = 4 * R1) := hid (by have := Hi.out; have := HMN.out; have := HM.out; omega)
          have HRR : Hid (R1 = R + 1) := HR1
          clear HRA HI HL HS2 HSL2 e5 hN HA HSL HK b5
          generalize wr.heap.size = o0 at *
          generalize wr.alloc (.cells #[] 22) = wo at *
          have HX := hid (fun (r t : Nat) => show exps j k n (4 * r + t / 4) (t % 4) = rkey j k n r t from rfl)
          generalize hYY : rkey j k n = Y at *
          have HYE := hid hYY
          clear hYY
          generalize exps j k n = X at *
          go_loopw [9, 10] (fun v i' wr => ∃ r o cap gs cs, r ≤ R1 ∧ i' = .int .i64 (r : Nat) ∧ v = .slice (some ⟨o, 0, none⟩) r cap ∧ OInv u1 wr c i X o cap r gs cs Y) (fun _ i' _ => R1 - (intOf i').toNat)
          case atStart => exact ⟨0, o0, 0, _, _, by omega, rfl, rfl, HSO.out⟩
          case round =>
            obtain ⟨r, o, ocap, gs, cs, hr, rfl, rfl, hO⟩ := hrel
            have HO := hid hO
            clear hO
            obtain ⟨wz, rfl⟩ : ∃ wz, wz = wr := ⟨_, rfl⟩
            have hRR := HRR.out
            by_cases hlt3 : r < R1
            · have c1 : (r : Int) ≤ (R : Int) := by omega
              have HIn : Hid (InInv wz (wz.alloc (.cells #[] 5)) (.slice (some ⟨wz.heap.size, 0, none⟩) 0 0) (Y r) 0) := hid ⟨own_empty wz (Nat.le_refl _), (Below.refl _ _).alloc (Nat.le_refl _) _⟩
              clear hRR
              go_wp2
              go_loopw [11, 12] (fun v i' wr => ∃ t : Nat, t ≤ 16 ∧ i' = .int .i64 (t : Nat) ∧ InInv wz wr v (Y r) t) (fun _ i' _ => 16 - (intOf i').toNat)
              case atStart => exact ⟨0, by omega, rfl, HIn.out⟩
              case round =>
                obtain ⟨t, ht, rfl, hI⟩ := hrel
                have HI := hid hI
                clear hI
                by_cases hlt4 : t < 16
                · obtain ⟨q, hq⟩ : ∃ q, 4 * r = q := ⟨_, rfl⟩
                  obtain ⟨th, hth⟩ : ∃ th, t / 4 = th := ⟨_, rfl⟩
                  obtain ⟨d, hd⟩ : ∃ d, t % 4 = d := ⟨_, rfl⟩
                  obtain ⟨a, ha⟩ : ∃ a, 4 * r + t / 4 = a := ⟨_, rfl⟩
                  have hiR := HiR.out
                  have hai : a < i := by omega
                  have hdl : d < 4 := by omega
                  have f1 : 4 * (r : Int) = (q : Int) := by omega
                  have f2 : (t : Int) / 4 = (th : Int) := by omega
                  have f3 : (q : Int) + (th : Int) = (a : Int) := by omega
                  have f4 : (t : Int) % 4 = (d : Int) := by omega
                  have z1 : IntKind.i64.wrap (q : Int) = q := by rw [IntKind.wrap_i64]; omega
                  have z2 : IntKind.i64.wrap (th : Int) = th := by rw [IntKind.wrap_i64]; omega
                  have z3 : IntKind.i64.wrap (a : Int) = a := by rw [IntKind.wrap_i64]; omega
                  have g1 : (0 : Int) ≤ (a : Int) := by omega
                  have g2 : (a : Int) < (i : Int) := by omega
                  have g3 : (0 : Int) ≤ (d : Int) := by omega
                  have g4 : (d : Int) < 4 := by omega
                  have HWR := hid ((HO.out.self HI.out.low).words)
                  have hce : X a d = Y r t := by rw [← HX.out r t, ha, hd]
                  have hc : _ := HWR.out.cell a hai d hdl
                  rw [hce] at hc
                  have hyl : Y r t < 256 := by rw [← hce]; exact HWR.out.byte a hai d hdl
                  have HY := hid hyl
                  have HSN := hid (ns_snoc t (Y r))
                  generalize Y r t = y at hc HSN HY
                  clear hq hth hd ha hiR hai hdl hce hyl
                  go_wp2_with (first
                    | (refine wpList_append_ints rfl (.tmp 80) (.tmp 92) 22 rfl .u8 wz.heap.size 5 Try.underlying22 infob (by decide) _ _ rfl (HI.out.own.alloc _) ⟨_, 0, none⟩ 1 1 [(y : Int)] rfl rfl (cell_new_int _ .u8 _ 5) (by rw [ns_len]; show (t + 1) * 1 ≤ _; omega) (Nat.le_trans HI.out.low.size (by simp)) wz.heap.size wz (HI.out.low.alloc HI.out.low.size _) (Nat.le_refl _) ?_; intro v' w' hown' hlow' hsz'; rw [HSN.out] at hown'; have HN : Hid (InInv wz w' v' (Y r) (t + 1)) := hid ⟨hown', hlow'⟩; clear hown' hlow' hsz'))
                  go_roundw
                  case rel => exact ⟨t + 1, by omega, by go_num, HN.out⟩
                  case measure => simp [intOf]; omega
                · obtain rfl : t = 16 := by omega
                  obtain ⟨g, gcap, rfl, hg, _⟩ := World.ownsRow.form HI.out.own (by rw [ns_len]; decide)
                  have HOW : Hid (Own .u8 wz.heap.size 5 wr (.slice (some ⟨g, 0, none⟩) 16 gcap) (ns 16 (Y r))) := hid (by have := HI.out.own; rw [ns_len] at this; exact this)
                  rw [ns_len]
                  have HO2 := hid (HO.out.self HI.out.low)
                  have hiR := HiR.out
                  have HWd := hid (Wd.of_own HOW.out (by decide) (fun t ht => by rw [← HX.out r t]; exact HO2.out.words.byte _ (by omega) _ (Nat.mod_lt _ (by decide))))
                  have HGO : Hid (g ≠ o) := hid (by have := HO.out.list.lt; omega)
                  have HO3 := hid (HO2.out.self (w1 := _) ((Below.refl _ _).alloc (Nat.le_refl _) (.cells #[.slice (some ⟨g, 0, none⟩) 16 gcap] 22)))
                  have HW3 := hid (HWd.out.alloc (.cells #[.slice (some ⟨g, 0, none⟩) 16 gcap] 22))
                  clear hg hiR
                  go_wp2_with (first
                    | (refine wpList_append_lw rfl (.tmp 94) (.tmp 96) 25 rfl Try.underlying25 infor HO3.out.list rfl ⟨_, 0, none⟩ 1 rfl g 0 gcap (Y r) (cell_new0 _ _ 22) HW3.out HGO.out (by omega) HO3.out.low.size ?_; intro o' ocap' w' hl' hgr' ho'; have HN := hid (HO3.out.more hl' hgr' ho'); clear hl' hgr' ho'))
                  go_roundw
                  case rel => exact ⟨r + 1, o', ocap', _, _, by omega, by go_num, rfl, HN.out⟩
                  case measure => simp [intOf]; omega
            · obtain rfl : r = R1 := by omega
              have c1 : ¬ (r : Int) ≤ (R : Int) := by omega
              clear hRR
              go_wp2
              go_ret2
              exact ⟨o, ⟨ocap, rfl⟩, ⟨gs, cs, by rw [HYE.out]; exact HO.out.list.rl⟩, HO.out.low⟩
end Go.Proofs.Ytnklljlgghenpaa
