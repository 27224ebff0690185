import Derived.Test.YthfgpjebmhbedaaDoorGen
import Derived.Test.YthfgpjebmhbedaaDoorLin
import Derived.ArgAppend
import Derived.Lib.AppendStr
import Derived.Lib.AppendIntMem
import Derived.Lib.ConvBytes
/- General: a row of bytes that a call owns, whatever is frozen behind its end ('[]byte(s)' freezes one place there). No program is named. -/
namespace Go.Proofs.YthfgpjebmhbedaaDoor
open Go.RowKit Go.Lib

def Ob (B : Nat) (E : TypeId) (w : World) (v : Value) (xs : List UInt8) : Prop :=
  ∃ g cap cur fz, v = .slice (some ⟨g, 0, none⟩) xs.length cap ∧ B ≤ g ∧ w.heap[g]? = some (.cells cur E fz) ∧ (∀ j, xs.length ≤ j → j < cap → (decide (fz.1 ≤ j) && decide (j < fz.2)) = false) ∧ xs.length ≤ cap ∧ cap ≤ maxLen ∧ cur.size = cap ∧ cur.toList.take xs.length = Lib.byteCells xs
theorem ob_one (l : List UInt8) : ∀ v ∈ Lib.byteCells l, v.oneCell' = true := by
  intro v hv
  simp only [Lib.byteCells, List.mem_map] at hv
  obtain ⟨b, _, rfl⟩ := hv
  rfl
theorem setCells_row (g : Nat) (E : TypeId) (fz : Nat × Nat) : ∀ (vs : List Value) (o : Nat) (w : World) (cur : Array Value), w.heap[g]? = some (.cells cur E fz) → o + vs.length ≤ cur.size →
    (w.setCells g o vs).heap[g]? = some (.cells (cur.toList.take o ++ vs ++ cur.toList.drop (o + vs.length)).toArray E fz)
  | [], o, w, cur, h, _ => by
    show w.heap[g]? = _
    rw [h]
    simp
  | v :: r, o, w, cur, h, hl => by
    show ((w.setCell ⟨g, o, none⟩ v).setCells g (o + 1) r).heap[g]? = _
    have hlt : o < cur.size := by simp at hl; omega
    have h1 : (w.setCell ⟨g, o, none⟩ v).heap[g]? = some (.cells (cur.setIfInBounds o v) E fz) := by
      rw [setCell_eq_setRow w g o cur E fz v h]
      exact setRow_heap w g cur _ E fz h
    rw [setCells_row g E fz r (o + 1) _ _ h1 (by simp at hl ⊢; omega)]
    congr 2
    apply Array.ext'
    simp only [Array.toList_setIfInBounds]
    have e1 : (cur.toList.set o v).take (o + 1) = cur.toList.take o ++ [v] := by
      rw [List.take_set, List.take_add_one, List.set_append_right _ _ (by simp; omega)]
      have hm : min o cur.toList.length = o := by simp; omega
      rw [List.length_take, hm, Nat.sub_self]
      have hs : cur.toList[o]? = some cur[o] := by simp [hlt]
      rw [hs]
      simp
    have e2 : (cur.toList.set o v).drop (o + 1 + r.length) = cur.toList.drop (o + (r.length + 1)) := by
      rw [List.drop_set_of_lt (by omega)]
      congr 1
      omega
    rw [e1, e2]
    simp
theorem setCells_apart (g : Nat) : ∀ (vs : List Value) (o : Nat) (w : World) (k : Nat), k ≠ g → (w.setCells g o vs).heap[k]? = w.heap[k]?
  | [], _, _, _, _ => rfl
  | v :: r, o, w, k, h => by
    show ((w.setCell ⟨g, o, none⟩ v).setCells g (o + 1) r).heap[k]? = _
    rw [setCells_apart g r (o + 1) _ k h]
    exact heap_setCell_other w ⟨g, o, none⟩ k v h
theorem setCells_size (g : Nat) : ∀ (vs : List Value) (o : Nat) (w : World), (w.setCells g o vs).heap.size = w.heap.size
  | [], _, _ => rfl
  | v :: r, o, w => by
    show ((w.setCell ⟨g, o, none⟩ v).setCells g (o + 1) r).heap.size = _
    rw [setCells_size g r (o + 1) _]
    simp [World.setCell]
theorem setCells_out (g : Nat) : ∀ (vs : List Value) (o : Nat) (w : World), (w.setCells g o vs).os = w.os ∧ (w.setCells g o vs).tape = w.tape ∧ (w.setCells g o vs).output = w.output
  | [], _, _ => ⟨rfl, rfl, rfl⟩
  | v :: r, o, w => by
    obtain ⟨h1, h2, h3⟩ := setCells_out g r (o + 1) (w.setCell ⟨g, o, none⟩ v)
    exact ⟨h1.trans rfl, h2.trans rfl, h3.trans rfl⟩
section
variable {B : Nat} {E : TypeId} {w w' : World} {v : Value} {xs : List UInt8}
theorem Ob.lt (h : Ob B E w v xs) : ∀ k, v.ownBlock = some k → B ≤ k ∧ k < w.heap.size := by
  obtain ⟨g, cap, cur, fz, rfl, hb, hg, _⟩ := h
  intro k hk
  obtain rfl : g = k := by simpa [Value.ownBlock] using hk
  exact ⟨hb, (Array.getElem?_eq_some_iff.1 hg).1⟩
theorem Ob.stays (h : Ob B E w v xs) (hs : ∀ k, v.ownBlock = some k → w'.heap[k]? = w.heap[k]?) : Ob B E w' v xs := by
  obtain ⟨g, cap, cur, fz, rfl, hb, hg, r⟩ := h
  exact ⟨g, cap, cur, fz, rfl, hb, (hs g rfl).trans hg, r⟩
theorem Ob.self (h : Ob B E w v xs) (hb : Below w.heap.size w w') : Ob B E w' v xs := h.stays fun k hk => hb.block k (h.lt k hk).2
theorem Ob.alloc (h : Ob B E w v xs) (o : Obj) : Ob B E (w.alloc o) v xs := h.stays fun k hk => heap_alloc_old w o (h.lt k hk).2
theorem Ob.drew (h : Ob B E w v xs) : Ob B E w.drew v xs := h
theorem Ob.mono {B' : Nat} (h : Ob B E w v xs) (hB : B' ≤ B) : Ob B' E w v xs := by
  obtain ⟨g, cap, cur, fz, e, hb, r⟩ := h
  exact ⟨g, cap, cur, fz, e, by omega, r⟩
theorem Ob.of_row {n : Nat} (h : w.ownsRow B E 1 v n (Lib.byteCells xs)) (hn : xs ≠ []) : Ob B E w v xs ∧ n = xs.length := by
  obtain ⟨hl, h⟩ := h
  rw [Lib.byteCells_length, Nat.mul_one] at hl
  subst hl
  refine ⟨?_, rfl⟩
  rcases h with ⟨_, h0⟩ | ⟨g, cap, cur, rfl, hb, hg, hc, hm, hs, ht⟩
  · exact absurd (List.eq_nil_of_length_eq_zero h0) hn
  · exact ⟨g, cap, cur, (0, 0), rfl, hb, hg, fun j _ _ => by simp, hc, hm, by simpa using hs, by simpa using ht⟩
theorem Ob.cells {g n cap : Nat} (h : Ob B E w (.slice (some ⟨g, 0, none⟩) n cap) xs) : ∀ j u, (Lib.byteCells xs)[j]? = some u → w.cell? ⟨g, j, none⟩ = some u := by
  obtain ⟨g', cap', cur, fz, e, _, hg, _, _, _, _, ht⟩ := h
  simp only [Value.slice.injEq, Option.some.injEq, Addr.mk.injEq, and_true] at e
  obtain ⟨rfl, _, rfl⟩ := e
  intro j u hj
  rw [cell_of_row w g j cur E fz hg]
  rw [← ht, List.getElem?_take] at hj
  split at hj
  · simpa using hj
  · cases hj
end
/-- '[]byte(s)'. -/
theorem ob_bytes (E : TypeId) (w : World) (s : ByteArray) (hs : s.size ≤ 140737488355328) : Ob w.heap.size E (bytesWorld w E s) (.slice (some ⟨w.heap.size, 0, none⟩) s.size (grownCap w s.size 0 E)) s.data.toList := by
  have hge := grownCap_ge w s.size 0 E
  have hm : grownCap w s.size 0 E ≤ maxLen := grownCap_le_maxLen w s.size 0 E (by unfold maxLen; omega)
  have hl : s.data.toList.length = s.size := rfl
  have hcs : (bytesCells w E s).size = grownCap w s.size 0 E := by
    unfold bytesCells
    rw [Array.size_append, Array.size_map, Array.size_replicate]
    show s.size + _ = _
    omega
  refine ⟨w.heap.size, grownCap w s.size 0 E, bytesCells w E s, _, by rw [hl], Nat.le_refl _, bytesWorld_at_new w E s, ?_, by rw [hl]; exact hge, hm, hcs, ?_⟩
  · intro j _ hj
    rw [hcs]
    have : ¬ grownCap w s.size 0 E ≤ j := by omega
    simp [this]
  · unfold bytesCells Lib.byteCells
    rw [Array.toList_append, List.take_append_of_le_length (by simp), List.take_of_length_le (by simp)]
    simp
section
variable {P : Program} {w : World}
theorem info_u8 {E : TypeId} (h : (P.info? E).map (fun i => (i.zero, i.size, i.bytes)) = some (some (.int .u8 0), 1, 1)) : ∃ i, P.info? E = some i ∧ i.zero = some (.int .u8 0) ∧ i.size = 1 ∧ i.bytes = 1 := by
  cases hq : P.info? E with
  | none => simp [hq] at h
  | some i =>
    rw [hq] at h
    simp only [Option.map_some, Option.some.injEq, Prod.mk.injEq] at h
    exact ⟨i, rfl, h.1, h.2.1, h.2.2⟩
/-- What is written into the room behind a row. -/
theorem ob_put {B : Nat} {E : TypeId} {xs ys : List UInt8} {g cap : Nat} {cur : Array Value} {fz : Nat × Nat} (hb : B ≤ g) (hg : w.heap[g]? = some (.cells cur E fz)) (hfz : ∀ j, xs.length ≤ j → j < cap → (decide (fz.1 ≤ j) && decide (j < fz.2)) = false) (hm : cap ≤ maxLen) (hcs : cur.size = cap) (ht : cur.toList.take xs.length = Lib.byteCells xs) (hr : xs.length + ys.length ≤ cap) :
    Ob B E (w.setCells g xs.length (Lib.byteCells ys)) (.slice (some ⟨g, 0, none⟩) (xs.length + ys.length) cap) (xs ++ ys) ∧ w.grownBy (w.setCells g xs.length (Lib.byteCells ys)) (some g) := by
  have hrow := setCells_row g E fz (Lib.byteCells ys) xs.length w cur hg (by rw [Lib.byteCells_length]; omega)
  obtain ⟨o1, o2, o3⟩ := setCells_out g (Lib.byteCells ys) xs.length w
  refine ⟨⟨g, cap, _, fz, by rw [List.length_append], hb, hrow, fun j hj hc => hfz j (by rw [List.length_append] at hj; omega) hc, by rw [List.length_append]; exact hr, hm, ?_, ?_⟩, ⟨o1, o2, o3, by rw [setCells_size]; exact Nat.le_refl _, fun k _ hk => setCells_apart g _ _ _ k (fun e => hk (by rw [e]))⟩⟩
  · simp only [List.size_toArray, List.length_append, List.length_take, List.length_drop, Lib.byteCells_length, Array.length_toList]
    omega
  · rw [List.length_append, ht, Lib.byteCells_append]
    have e : (Lib.byteCells xs ++ Lib.byteCells ys).length = xs.length + ys.length := by rw [List.length_append, Lib.byteCells_length, Lib.byteCells_length]
    rw [← e]
    exact List.take_left
theorem ob_free {E : TypeId} {g cap n m : Nat} {cur : Array Value} {fz : Nat × Nat} (hg : w.heap[g]? = some (.cells cur E fz)) (hfz : ∀ j, n ≤ j → j < cap → (decide (fz.1 ≤ j) && decide (j < fz.2)) = false) (hcs : cur.size = cap) (hr : n + m ≤ cap) :
    (∀ j, j < m → (w.cell? ⟨g, n + j, none⟩).isSome = true) ∧ (∀ j, j < m → w.frozen? ⟨g, n + j, none⟩ = false) := by
  refine ⟨fun j hj => ?_, fun j hj => ?_⟩
  · rw [cell_of_row w g _ cur E fz hg]
    have : n + j < cur.size := by omega
    simp [this]
  · have := hfz (n + j) (by omega) (by omega)
    unfold World.frozen?
    simp only [hg]
    obtain ⟨lo, hi⟩ := fz
    exact this
theorem run_ob_string {B : Nat} {E : TypeId} {v : Value} {xs : List UInt8} (h : Ob B E w v xs) (t u ty : TypeId) (ht : P.underlying t = some (.slice E)) (hu : P.underlying u = some .string) (hi : (P.info? E).map (fun i => (i.zero, i.size, i.bytes)) = some (some (.int .u8 0), 1, 1)) (s : ByteArray) (hl : xs.length + s.size ≤ 140737488355328) (hB : B ≤ w.heap.size) :
    ∃ v' w', (Builtin.append_ #[t, u] ty #[v, .string s]).run P w = .ok v' w' ∧ Ob B E w' v' (xs ++ s.data.toList) ∧ w.grownBy w' v.ownBlock := by
  obtain ⟨i, hi, hz, h1, hby⟩ := info_u8 hi
  obtain ⟨g, cap, cur, fz, rfl, hb, hg, hfz, hnc, hm, hcs, htk⟩ := id h
  have hsl : s.data.toList.length = s.size := rfl
  have hsc : strCells s = Lib.byteCells s.data.toList := rfl
  by_cases hroom : xs.length + s.size ≤ cap
  · obtain ⟨hc, hf⟩ := ob_free (m := s.size) hg hfz hcs hroom
    have hfc := run_firstCells_string (P := P) w 1 s
    have hst := run_storeCells_cells (P := P) g xs.length (strCells s) 0 w (by simpa [strCells_length] using hc) (by simpa [strCells_length] using hf) (by rw [hsc]; exact ob_one _)
    simp only [Nat.add_zero] at hst
    obtain ⟨p1, p2⟩ := ob_put (ys := s.data.toList) hb hg hfz hm hcs htk (by rw [hsl]; exact hroom)
    refine ⟨_, _, ?_, p1, p2⟩
    rw [hsl, ← hsc]
    simp [Builtin.append_, run_underlying ht, run_underlying hu, sizeOf, typeInfo, hi, h1, Builtin.lenOf, hroom, hfc, Addr.add_lit, hst]
  · have hr := run_append_grow_string (P := P) w t u ty E i (.int .u8 0) ht hu hi hz ⟨g, 0, none⟩ xs.length cap (Lib.byteCells xs) (by rw [h1, Lib.byteCells_length, Nat.mul_one]) (fun j u hj => by rw [Addr.add_lit]; have := h.cells j u hj; simpa using this) s (by omega) (by omega) (by rw [hby]; exact growslice_fits (by omega) (by omega))
    have hge := grownCap_ge w (xs.length + s.size) cap E
    have hcm := grownCap_le_maxLen w (xs.length + s.size) cap E (by unfold maxLen; omega)
    have hlen : (Lib.byteCells xs ++ strCells s).length = xs.length + s.size := by rw [List.length_append, Lib.byteCells_length, strCells_length]
    refine ⟨_, _, hr, ⟨w.heap.size, _, _, (0, 0), by rw [List.length_append, hsl], hB, heap_alloc_new w.drew _, fun j _ _ => by simp, by rw [List.length_append, hsl]; exact hge, hcm, ?_, ?_⟩, ⟨rfl, rfl, rfl, by simp, fun k hk _ => heap_alloc_old w.drew _ hk⟩⟩
    · have hz1 : (Value.int IntKind.u8 0).cells.size = 1 := rfl
      simp only [Array.size_append, List.size_toArray, size_zeroCells, hz1, Lib.byteCells_length, strCells_length]
      omega
    · simp only [Array.toList_append, List.append_assoc]
      rw [← List.append_assoc, Lib.byteCells_append, List.length_append, hsl, ← hsc, ← hlen]
      exact List.take_left
theorem run_ob_slice {B : Nat} {E : TypeId} {v : Value} {xs ys : List UInt8} (h : Ob B E w v xs) (t ty : TypeId) (ht : P.underlying t = some (.slice E)) (hi : (P.info? E).map (fun i => (i.zero, i.size, i.bytes)) = some (some (.int .u8 0), 1, 1)) (a : Addr) (c : Nat) (hy : ∀ j u, (Lib.byteCells ys)[j]? = some u → w.cell? (a.add j) = some u) (hl : xs.length + ys.length ≤ 140737488355328) (hy0 : ys ≠ []) (hB : B ≤ w.heap.size) :
    ∃ v' w', (Builtin.append_ #[t, t] ty #[v, .slice (some a) ys.length c]).run P w = .ok v' w' ∧ Ob B E w' v' (xs ++ ys) ∧ w.grownBy w' v.ownBlock := by
  obtain ⟨i, hi, hz, h1, hby⟩ := info_u8 hi
  obtain ⟨g, cap, cur, fz, rfl, hb, hg, hfz, hnc, hm, hcs, htk⟩ := id h
  by_cases hroom : xs.length + ys.length ≤ cap
  · obtain ⟨hc, hf⟩ := ob_free (m := ys.length) hg hfz hcs hroom
    obtain ⟨p1, p2⟩ := ob_put (ys := ys) hb hg hfz hm hcs htk hroom
    have hr := run_append_room_cells (P := P) w t ty E i ht hi g 0 xs.length cap a ys.length c (Lib.byteCells ys) (by rw [h1, Lib.byteCells_length, Nat.mul_one]) hy (ob_one _) hroom (by rw [h1, Lib.byteCells_length]; simpa using hc) (by rw [h1, Lib.byteCells_length]; simpa using hf)
    rw [h1, Nat.mul_one, Nat.zero_add] at hr
    exact ⟨_, _, hr, p1, p2⟩
  · obtain ⟨v', w', hr, r1, r2⟩ := run_append_arg_grows (P := P) w t ty E i (.int .u8 0) 1 1 ht hi hz h1 hby rfl (by decide) ⟨g, 0, none⟩ xs.length cap (Lib.byteCells xs) (by rw [Lib.byteCells_length, Nat.mul_one]) (fun j u hj => by rw [Addr.add_lit]; have := h.cells j u hj; simpa using this) a ys.length c (Lib.byteCells ys) (by rw [Lib.byteCells_length, Nat.mul_one]) hy (by omega) (by unfold maxLen; omega) (by omega)
    rw [← Lib.byteCells_append] at r1
    obtain ⟨r3, _⟩ := Ob.of_row r1 (by simp [hy0])
    exact ⟨v', w', hr, r3.mono hB, ⟨r2.os, r2.tape, r2.output, r2.size, fun k hk _ => r2.block k hk (by simp)⟩⟩
theorem wpList_ob_string {ops : Array Oper} {rest : List Oper} {o : Oper} {a : Act} {Q : Exit → Act → World → Prop} (hgd : o.guard = none) (sl x : Operand) (t u : TypeId) (ho : o.op = .call { callee := .builtin .append, args := #[sl, x], argTypes := #[t, u] })
    {B : Nat} {E : TypeId} {v : Value} {xs : List UInt8} (hs : a.eval sl = v) (h : Ob B E w v xs) (ht : P.underlying t = some (.slice E)) (hu : P.underlying u = some .string) (hi : (P.info? E).map (fun i => (i.zero, i.size, i.bytes)) = some (some (.int .u8 0), 1, 1)) (s : ByteArray) (hx : a.eval x = .string s) (hl : xs.length + s.size ≤ 140737488355328) (hB : B ≤ w.heap.size)
    (k : ∀ v' w', Ob B E w' v' (xs ++ s.data.toList) → w.grownBy w' v.ownBlock → wpList P ops Q rest (a.put o.dst v') w') : wpList P ops Q (o :: rest) a w := by
  refine wpList_plain hgd fun K hK => ?_
  obtain ⟨v', w', hr, h2, h3⟩ := run_ob_string (P := P) h t u o.type ht hu hi s hl hB
  unfold Oper.wp execOp
  simp only [ho, resolve, invoke, builtin, Sem.run_bind, Sem.run_pure, Result.andThen_ok, List.map_toArray, List.map_cons, List.map_nil, hs, hx, hr]
  exact hK _ _ (k v' w' h2 h3)
theorem wpList_ob_slice {ops : Array Oper} {rest : List Oper} {o : Oper} {a : Act} {Q : Exit → Act → World → Prop} (hgd : o.guard = none) (sl x : Operand) (t : TypeId) (ho : o.op = .call { callee := .builtin .append, args := #[sl, x], argTypes := #[t, t] })
    {B : Nat} {E : TypeId} {v : Value} {xs ys : List UInt8} (hs : a.eval sl = v) (h : Ob B E w v xs) (ht : P.underlying t = some (.slice E)) (hi : (P.info? E).map (fun i => (i.zero, i.size, i.bytes)) = some (some (.int .u8 0), 1, 1)) (ad : Addr) (c : Nat) (hx : a.eval x = .slice (some ad) ys.length c) (hy : ∀ j u, (Lib.byteCells ys)[j]? = some u → w.cell? (ad.add j) = some u) (hl : xs.length + ys.length ≤ 140737488355328) (hy0 : ys ≠ []) (hB : B ≤ w.heap.size)
    (k : ∀ v' w', Ob B E w' v' (xs ++ ys) → w.grownBy w' v.ownBlock → wpList P ops Q rest (a.put o.dst v') w') : wpList P ops Q (o :: rest) a w := by
  refine wpList_plain hgd fun K hK => ?_
  obtain ⟨v', w', hr, h2, h3⟩ := run_ob_slice (P := P) h t o.type ht hi ad c hy hl hy0 hB
  unfold Oper.wp execOp
  simp only [ho, resolve, invoke, builtin, Sem.run_bind, Sem.run_pure, Result.andThen_ok, List.map_toArray, List.map_cons, List.map_nil, hs, hx, hr]
  exact hK _ _ (k v' w' h2 h3)
/-- 'string(v)' of such a row. -/
theorem run_ob_conv {B : Nat} {E : TypeId} {v : Value} {xs : List UInt8} (h : Ob B E w v xs) (src dst : TypeId) (hs : P.underlying src = some (.slice E)) (he : P.underlying E = some (.int .u8)) (hd : P.underlying dst = some .string) : (convert src dst v).run P w = .ok (.string (sB xs)) w := by
  obtain ⟨g, cap, cur, fz, rfl, _⟩ := id h
  have hc := h.cells
  exact run_convert_bytes_back (P := P) w src dst E ⟨g, 0, none⟩ cap xs hs he hd (fun j hj => by
    have := hc j (.int .u8 (xs[j]).toNat) (by simp [Lib.byteCells, hj])
    simpa [Addr.add_lit] using this)
end
end Go.Proofs.YthfgpjebmhbedaaDoor
