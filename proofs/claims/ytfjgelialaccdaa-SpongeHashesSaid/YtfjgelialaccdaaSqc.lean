import Derived.Test.YtfjgelialaccdaaProg
import Derived.Test.YtfjgelialaccdaaSqb
import Derived.Test.YtfjgelialaccdaaCod
/- Sponge: Fill, and a state's first bytes, by the program. -/
namespace Go.Proofs.Ytfjgelialaccdaa
open Go.RowKit
set_option maxRecDepth 100000

/-- A block holds, whole, a row of bytes. -/
def Br (w : World) (g : Nat) (zs : List Int) : Prop := w.heap[g]? = some (.cells (zs.map (Value.int .u8)).toArray 5 (0, 0))
section
variable {w w' : World} {g : Nat} {zs : List Int}
theorem Br.made (w : World) (n : Nat) : Br (w.alloc (.cells (madeCells #[.int .u8 0] n) 5)) w.heap.size (List.replicate n 0) := by
  unfold Br
  rw [heap_alloc_new]
  congr 2
  apply Array.ext_getElem?
  intro i
  by_cases h : i < n
  · simp [madeCells, h, Nat.mod_one]
  · simp [madeCells, h]
theorem Br.cell (h : Br w g zs) {j : Nat} (hj : j < zs.length) : w.cell? ⟨g, j, none⟩ = some (.int .u8 (nth zs j)) := by
  rw [cell_of_row w g j _ 5 (0, 0) h, nth_of hj]
  simp [hj]
theorem Br.free (h : Br w g zs) (o : Nat) : w.frozen? ⟨g, o, none⟩ = false := frozen_of_row w g o _ 5 h
theorem Br.set (h : Br w g zs) (j : Nat) (z : Int) : Br (w.setCell ⟨g, j, none⟩ (.int .u8 z)) g (zs.set j z) := by
  unfold Br
  rw [heap_setCell_same w g j _ 5 _ h]
  simp
theorem Br.own {B n : Nat} (h : Br w g zs) (hB : B ≤ g) (hn : zs.length = n) (hm : n ≤ maxLen) : Own .u8 B 5 w (.slice (some ⟨g, 0, none⟩) n n) zs :=
  ⟨by simp, .inr ⟨g, n, _, by rw [hn], hB, h, by omega, hm, by simp [hn], by subst hn; simp [List.take_of_length_le]⟩⟩
end
/-- How long what is filled in is. -/
theorem fill_len (L : Nat) {R : Nat} (h : 0 < R) : (L / R + 1) * R = L + 1 + cmis (L + 1) R := by
  obtain ⟨k, a, ha, hL⟩ : ∃ k a, a < R ∧ L = R * k + a := ⟨L / R, L % R, Nat.mod_lt _ h, (Nat.div_add_mod L R).symm⟩
  have h1 : L / R = k := by rw [hL, Nat.mul_add_div h, Nat.div_eq_of_lt ha, Nat.add_zero]
  rw [h1, Nat.add_mul, Nat.mul_comm k R]
  unfold cmis
  by_cases e : a + 1 = R
  · have h2 : (L + 1) % R = 0 := by rw [hL, Nat.add_assoc, e]; simp
    rw [h2]; simp; omega
  · have h2 : (L + 1) % R = a + 1 := by rw [hL, Nat.add_assoc, Nat.mul_add_mod, Nat.mod_eq_of_lt (by omega)]
    rw [h2, Nat.mod_eq_of_lt (by omega : R - (a + 1) < R)]; omega
theorem copied_fill (zs : List Int) (mark : Int) (M : Nat) : ((splice (List.replicate (zs.length + 1 + M) (0 : Int)) 0 zs).set zs.length mark) = zs ++ [mark] ++ List.replicate M 0 := by
  rw [splice, List.take_zero, List.nil_append, Nat.zero_add, List.set_append_right _ _ (Nat.le_refl _), Nat.sub_self, List.drop_replicate, show zs.length + 1 + M - zs.length = M + 1 by omega, List.replicate_succ, List.set_cons_zero]
  simp
theorem splice_map {α β : Type} (f : α → β) (L : List α) (o : Nat) (cs : List α) : splice (L.map f) o (cs.map f) = (splice L o cs).map f := by simp [splice]
theorem splice_len (zs : List Int) (T : Nat) (h : zs.length ≤ T) : (splice (List.replicate T (0 : Int)) 0 zs).length = T := by simp [splice]; omega
theorem wpList_copy_head {w : World} {ops : Array Oper} {rest : List Oper} {o : Oper} {a : Act} {Q : Exit → Act → World → Prop} (hgd : o.guard = none) (d s : Operand) (ho : o.op = .call { callee := .builtin .copy, args := #[d, s], argTypes := #[22, 22] })
    (g T L cap : Nat) (p : Option Addr) (hd : a.eval d = .slice (some ⟨g, 0, none⟩) T T) (hs : a.eval s = .slice p L cap) (zd zs : List Int) (hB : Br w g zd) (hT : zd.length = T) (hsrc : Rd .u8 w (.slice p L cap) zs) (hle : L ≤ T)
    (B0 : Nat) (w0 : World) (hb : Below B0 w0 w) (hBg : B0 ≤ g) (h : ∀ w', Br w' g (splice zd 0 zs) → Below B0 w0 w' → wpList Try.prog ops Q rest (a.put o.dst (goInt L)) w') : wpList Try.prog ops Q (o :: rest) a w := by
  obtain ⟨sa, scap, e, _, _, hc⟩ := hsrc
  injection e with e1 e2 e3
  subst e1 e3
  refine wpList_copy_splice hgd d s 22 22 ho 5 Try.underlying22 (by kernel_rfl) _ _ T T L cap hd hs g 0 (zd.map (Value.int .u8)) 5 hB (zs.map (Value.int .u8)) (by rw [List.length_map, ← e2]; exact (Nat.min_eq_left hle).symm)
    (fun hp => ⟨rfl, ?_⟩) (by simp [hT, ← e2, hle]) (by intro v hv; obtain ⟨z, _, rfl⟩ := List.mem_map.1 hv; rfl) B0 w0 hb hBg (fun w' hg hb => ?_)
  · rw [List.length_map] at hp
    obtain ⟨b, off, e, _, hc⟩ := hc hp
    refine ⟨⟨b, off, none⟩, e, fun j v hj => ?_⟩
    rw [List.getElem?_map, Option.map_eq_some_iff] at hj
    obtain ⟨z, hz, rfl⟩ := hj
    obtain ⟨hj, rfl⟩ := List.getElem?_eq_some_iff.1 hz
    rw [Addr.add_mid, hc j hj, nth_of hj]
  · have h1 := h w' (by have := hg.out; rw [splice_map] at this; exact this) hb
    rw [List.length_map, ← e2]
    exact h1
theorem w64 (n : Nat) (h : n ≤ 200000) : wrap64 (n : Int) = (n : Int) := by unfold wrap64; omega
theorem fill_ok (v : Value) (zs : List Int) (R : Nat) (mark : Int) (w : World) (h : Rd .u8 w v zs) (hl : zs.length ≤ 100000) (hR : 1 ≤ R ∧ R ≤ 192) (hr : rad (R : Int) = true) (hm : 0 ≤ mark ∧ mark ≤ 255) :
    Calls Try.prog 7 #[v, .int .i64 (R : Int), .int .u8 mark] w fun e w' => ∃ u, e = .returned (.tuple #[u, .int .i64 0]) ∧ Own .u8 w.heap.size 5 w' u (flL zs R mark) ∧ Below w.heap.size w w' := by
  have HI := hid (israte_any (R : Int) w)
  rw [hr] at HI
  have hby := rd_bytes h
  have HR := hid h
  obtain ⟨L, hL⟩ : ∃ L, zs.length = L := ⟨_, rfl⟩
  obtain ⟨T, hT⟩ : ∃ T, (L / R + 1) * R = T := ⟨_, rfl⟩
  obtain ⟨d, hd⟩ : ∃ d, L / R = d := ⟨_, rfl⟩
  have hTM := fill_len L hR.1
  obtain ⟨M, hM⟩ : ∃ M, cmis (L + 1) R = M := ⟨_, rfl⟩
  have hMR : M < R := by rw [← hM]; exact mis_lt hR.1
  rw [hT, hM] at hTM
  rw [hd] at hT
  have hdl : d ≤ L := by rw [← hd]; exact Nat.div_le_self _ _
  have g0 : ¬ ((R : Int) = 0) := by omega
  have g1 : (L : Int).tdiv (R : Int) = (d : Int) := by rw [← hd]; rfl
  have g2 : (L : Int) / (R : Int) = (d : Int) := by rw [← hd]; rfl
  have hd3 : d ≤ 100000 ∧ T ≤ 101000 := ⟨by omega, by omega⟩
  have hd4 := hd3.1
  have hd5 := hd3.2
  have e7 : ((d : Int) + 1) * (R : Int) = (T : Int) := by rw [← hT, Int.natCast_mul]; rfl
  clear hd3
  have HT : Hid (T = L + 1 + M ∧ T ≤ 101000 ∧ L ≤ 100000) := hid ⟨hTM, by omega, by omega⟩
  have hmk := make_row T (by omega) w
  have HB0 := hid (Br.made w T)
  have HW0 : Hid (Below w.heap.size w (w.alloc (.cells (madeCells #[.int .u8 0] T) 5))) := hid ((Below.refl _ _).alloc (Nat.le_refl _) _)
  have HFl : Hid ((splice (List.replicate T (0 : Int)) 0 zs).set L mark = fl0 zs R mark) := hid (by rw [← hL, hTM, ← hL, copied_fill, fl0, hL, hM])
  have HLz := hid hL
  have HBy := hid hby
  have HFL : Hid ((fl0 zs R mark).length = T) := hid (by rw [fl0_len, hL, hM]; exact hTM.symm)
  have HBf := hid (fl0_bytes (rate := R) hby hm)
  have HSl := hid (splice_len zs T (by omega))
  obtain ⟨wa, hW⟩ : ∃ wa, w.alloc (.cells (madeCells #[.int .u8 0] T) 5) = wa := ⟨_, rfl⟩
  rw [hW] at hmk HB0 HW0
  have hsl := h.self HW0.out
  have HSR := hid hsl
  have HLe : Hid (L ≤ T) := hid (by omega)
  have HWa : Hid (w.heap.size < wa.heap.size) := hid (by rw [← hW]; simp)
  obtain ⟨a, cap, rfl, _⟩ := hsl
  rw [hL] at HR HSR ⊢
  have a1 : (0 : Int) ≤ (L : Int) := by omega
  have a2 : (L : Int) < (T : Int) := by omega
  obtain ⟨t, ht⟩ : ∃ t, T = t + 1 := ⟨L + M, by omega⟩
  have b1 : IntKind.i64.wrap ((T : Int) - 1) = (t : Int) := by rw [IntKind.wrap_i64]; omega
  have b2 : (0 : Int) ≤ (t : Int) := by omega
  have b3 : (t : Int) < (T : Int) := by omega
  have Ht := hid ht
  clear h hby hl hR hr hm hL hT hd hTM hM hMR hdl hW ht
  go_enter Try.func7, Try.ntmps7
  go_wp2_with (first
    | (go_at_call 20; (with_reducible refine (HI.out).mono ?_); rintro e w1 ⟨rfl, rfl⟩)
    | (refine wpList_copy_head rfl (.tmp 20) (.tmp 21) rfl w1.heap.size T L cap a rfl rfl _ zs HB0.out List.length_replicate HSR.out HLe.out w1.heap.size w1 HW0.out (Nat.le_refl _) ?_
       intro w2 hg hb2
       have HB2 := hid hg
       have HW2 := hid hb2
       have c1 := HB2.out.cell (j := L) (by rw [HSl.out]; have := HT.out; omega)
       have f1 := HB2.out.free L
       have HB3 : Hid (Br (w2.setCell ⟨w1.heap.size, L, none⟩ (.int .u8 mark)) w1.heap.size (fl0 zs R mark)) := hid (by rw [← HFl.out]; exact HB2.out.set L mark)
       have HW3 : Hid (Below w1.heap.size w1 (w2.setCell ⟨w1.heap.size, L, none⟩ (.int .u8 mark))) := hid (hb2.setCell (Nat.le_refl _) _)
       have c2 := HB3.out.cell (j := t) (by rw [HFL.out]; have := Ht.out; omega)
       have f2 := HB3.out.free t
       have HB4 := hid (HB3.out.set t (top (nth (fl0 zs R mark) t)))
       clear hg hb2))
  go_ret2
  have e : (fl0 zs R mark).set t (top (nth (fl0 zs R mark) t)) = flL zs R mark := by rw [flL, HFL.out, Ht.out, Nat.add_sub_cancel]
  exact ⟨_, rfl, by rw [← e]; exact HB4.out.own (Nat.le_refl _) (by rw [List.length_set, HFL.out]) (by have := HT.out; unfold maxLen; omega), HW3.out.setCell (Nat.le_refl _) _⟩
theorem sfill_i (v : Value) (zs : List Int) (rate mark : Int) (w : World) (h : Rd .u8 w v zs) (hl : zs.length ≤ 100000) (hm : 0 ≤ mark ∧ mark ≤ 255) :
    Calls Try.prog 7 #[v, .int .i64 rate, .int .u8 mark] w fun e w' => RdE w (fiL zs rate mark) (fiE rate) e w' := by
  by_cases h1 : rad rate = true
  · have hr := h1
    obtain ⟨q, rfl, h2, h3⟩ := rad_of h1
    rw [fiL, fiE, if_pos h1, if_pos h1, Int.toNat_natCast]
    refine (fill_ok v zs (8 * q) mark w h hl (by omega) hr hm).mono ?_
    rintro e w' ⟨u, rfl, ho, hb⟩
    have h4 := flL_len zs (8 * q) mark
    have h5 := mis_lt (n := zs.length + 1) (w := 8 * q) (by omega)
    exact ⟨u, rfl, ho.rd (by show _ * 1 ≤ _; omega) (fun z hz => WalkArith.wf_u8 (flL_bytes (rd_bytes h) hm z hz)), hb⟩
  · rw [fiL, fiE, if_neg h1, if_neg h1]
    have HI := hid (israte_any rate w)
    rw [rad_no h1] at HI
    clear h1 h
    go_enter Try.func7, Try.ntmps7
    go_wp2_with (first
      | (go_at_call 20; (with_reducible refine (HI.out).mono ?_); rintro e w1 ⟨rfl, rfl⟩))
    go_ret2
    exact ⟨_, rfl, rd_nil _, Below.refl _ _⟩
end Go.Proofs.Ytfjgelialaccdaa
