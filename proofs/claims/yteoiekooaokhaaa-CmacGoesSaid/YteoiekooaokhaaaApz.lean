import Derived.Test.YteoiekooaokhaaaGen
import Derived.Lib.AppendZerosOnto
/- General: zeros behind a row of bytes that is the call's own; numbers behind a row that is full and another's. No program is named. -/
namespace Go.Proofs.Yteoiekooaokhaaa
open Go.ChangeShapes Go.WideShapes Go.ChangeAt Go.RowKit

theorem rep_toList (k : Nat) : (Builtin.zeroCells #[Value.int .u8 0] k).toList = (List.replicate k (0 : Int)).map (Value.int .u8) := by
  apply List.ext_getElem
  · simp [Builtin.zeroCells]
  · intro i h1 h2
    simp [Builtin.zeroCells, Nat.mod_one]
section
variable {P : Program} (w : World)
/-- k zeros behind a row of numbers that is the call's own. -/
theorem run_append_own_zeros (B : Nat) (t tn ty E : TypeId) (kn kq : IntKind) (ht : P.underlying t = some (.slice E)) (htn : P.underlying tn = some (.int kn))
    (hinfo : (P.info? E).map (fun i => (i.zero, i.size, i.bytes)) = some (some (.int .u8 0), 1, 1)) (g n c : Nat) (zs : List Int) (hn : zs.length = n) (hown : Own .u8 B E w (.slice (some ⟨g, 0, none⟩) n c) zs) (k : Nat) (hk : n + k ≤ 1073741824) (hB : B ≤ w.heap.size) :
    ∃ g' c' w', (Builtin.append_ #[t, tn] ty #[.slice (some ⟨g, 0, none⟩) n c, .int kq k]).run P w = .ok (.slice (some ⟨g', 0, none⟩) (n + k) c') w' ∧
      Own .u8 B E w' (.slice (some ⟨g', 0, none⟩) (n + k) c') (zs ++ List.replicate k 0) ∧ w.grownBy w' (some g) := by
  obtain ⟨i, hi, hz0, hz1, hz2⟩ := info_parts hinfo
  subst hn
  have hcells := World.ownsRow.cells hown (g := g) rfl
  obtain ⟨hl, h0 | ⟨g', cap, cur, e, hbg, hg, hnc, hcm, hcs, htake⟩⟩ := hown
  · cases h0.1
  · injection e with e1 e2 e3
    injection e1 with e1
    injection e1 with e1
    subst e1; subst e3
    have hw : IntKind.i64.wrap (k : Int) = k := by rw [IntKind.wrap_i64]; omega
    have hneg : ¬ ((k : Int) < 0) := by omega
    have h48 : ¬ (281474976710656 < (k : Int) * (i.bytes : Int)) := by rw [hz2]; omega
    have hlen : (zs ++ List.replicate k (0 : Int)).length = zs.length + k := by simp
    by_cases hroom : zs.length + k ≤ c
    · have hst : ∀ news : List Value, news.length = k → (∀ u ∈ news, u.oneCell' = true) → (storeCells ((⟨g, 0, none⟩ : Addr).add zs.length) news).run P w =
          .ok () (w.setRow g (cur.toList.take zs.length ++ news ++ cur.toList.drop (zs.length + news.length)).toArray) := by
        intro news hkn h1
        have := run_storeCells_at P g (zs.length * i.size) E news 0 cur w hg (by rw [hz1, hkn]; omega) h1
        simp only [Nat.add_zero, hz1, Nat.mul_one] at this
        rw [add_plain, Nat.zero_add]; exact this
      have key : ∀ news : List Value, news.length = k → (∀ u ∈ news, u.oneCell' = true) → news = (List.replicate k (0 : Int)).map (Value.int .u8) →
          Own .u8 B E (w.setRow g (cur.toList.take zs.length ++ news ++ cur.toList.drop (zs.length + news.length)).toArray) (.slice (some ⟨g, 0, none⟩) (zs.length + k) c) (zs ++ List.replicate k 0) ∧
          w.grownBy (w.setRow g (cur.toList.take zs.length ++ news ++ cur.toList.drop (zs.length + news.length)).toArray) (some g) := by
        intro news hkn _ he
        refine ⟨⟨by simp, .inr ⟨g, c, _, by rw [hlen], hbg, setRow_heap w g cur _ E _ hg, by rw [hlen]; exact hroom, hcm, ?_, ?_⟩⟩, ⟨rfl, rfl, rfl, by simp, fun j _ hj => setRow_other w g j _ (fun e => hj (by rw [e]))⟩⟩
        · simp only [List.size_toArray, List.length_append, List.length_take, List.length_drop, Array.length_toList]
          omega
        · rw [Nat.mul_one] at htake
          rw [htake, he, Nat.mul_one, List.map_append, hlen]
          have : zs.length + k = (zs.map (Value.int .u8) ++ (List.replicate k (0 : Int)).map (Value.int .u8)).length := by simp
          rw [this]
          exact List.take_left
      have h1 : ∀ u ∈ (List.replicate k (0 : Int)).map (Value.int .u8), u.oneCell' = true := fun u hu => by obtain ⟨z, _, rfl⟩ := List.mem_map.1 hu; rfl
      have hst1 := hst _ (by simp) h1
      have hk1 := key _ (by simp) h1 rfl
      generalize w.setRow g _ = W at hst1 hk1
      rw [← rep_toList] at hst1
      refine ⟨g, c, W, ?_, hk1.1, hk1.2⟩
      by_cases hk0 : k = 0
      · subst hk0
        have hw0 : IntKind.i64.wrap 0 = 0 := by decide
        have hz : (Builtin.zeroCells #[Value.int .u8 0] 0).toList = [] := rep_toList 0
        rw [hz] at hst1
        simp [Builtin.append_, run_underlying ht, run_underlying htn, sizeOf, typeInfo, zeroValue, hi, hz0, asInt, asIntOf, hw0, hnc, hz1, hst1]
      · have hz : (Value.int .u8 0).cells = #[Value.int .u8 0] := rfl
        simp [Builtin.append_, run_underlying ht, run_underlying htn, sizeOf, typeInfo, zeroValue, hi, hz0, asInt, asIntOf, hw, hneg, h48, hroom, hk0, hz, hz1, hst1]
    · have hold : (Builtin.firstCells i.size zs.length (.slice (some ⟨g, 0, none⟩) zs.length c)).run P w.drew = .ok (zs.map (Value.int .u8)).toArray w.drew := by
        exact run_firstCells_some (P := P) (w := w.drew) i.size zs.length ⟨g, 0, none⟩ zs.length c (zs.map (Value.int .u8)) (by rw [List.length_map, hz1, Nat.mul_one]) hcells
      have hr := Lib.run_append_grow_zeros (P := P) w t tn ty E i _ kq kn ht htn hi hz0 (some ⟨g, 0, none⟩) zs.length c (zs.map (Value.int .u8)) hold k (by omega) (by omega) (by omega) (by omega) (by rw [hz2]; omega) (by rw [hz2]; exact growslice_fits (by omega) (by omega))
      have hge := grownCap_ge w (zs.length + k) c E
      have hle := grownCap_le_maxLen w (zs.length + k) c E (by unfold maxLen; omega)
      refine ⟨_, _, _, hr, ⟨by simp, .inr ⟨w.heap.size, _, _, by rw [hlen], hB, heap_alloc_new w.drew _, by rw [hlen]; exact hge, hle, ?_, ?_⟩⟩, ⟨rfl, rfl, rfl, by simp, fun j hj _ => heap_alloc_old w.drew _ hj⟩⟩
      · simp only [Array.size_append, List.size_toArray, size_zeroCells, List.length_map]
        show zs.length + k * 1 + (_ - _) * 1 = _
        omega
      · rw [Nat.mul_one, List.map_append, Array.toList_append, Array.toList_append, List.toList_toArray]
        have e : (Builtin.zeroCells (Value.int .u8 0).cells k).toList = (List.replicate k (0 : Int)).map (Value.int .u8) := rep_toList k
        have e2 : (zs ++ List.replicate k (0 : Int)).length = (zs.map (Value.int .u8) ++ (List.replicate k (0 : Int)).map (Value.int .u8)).length := by simp
        rw [e, e2]
        exact List.take_left
/-- Numbers behind a row that is full, and another's: a new row. -/
theorem run_append_full (k : IntKind) (t ty E : TypeId) (ht : P.underlying t = some (.slice E)) (hinfo : (P.info? E).map (fun i => (i.zero, i.size, i.bytes)) = some (some (.int k 0), 1, k.bits / 8)) (hk : 0 < k.bits / 8)
    (a : Option Addr) (zs : List Int) (h : Rd k w (.slice a zs.length zs.length) zs) (ad : Addr) (m c : Nat) (ns : List Int) (hm : ns.length = m) (hns : ∀ j, j < m → w.cell? (ad.add j) = some (.int k (nth ns j))) (h0 : 0 < m) (hlim : (zs.length + m) * (k.bits / 8) ≤ 140737488355328) :
    ∃ g c' w', (Builtin.append_ #[t, t] ty #[.slice a zs.length zs.length, .slice (some ad) m c]).run P w = .ok (.slice (some ⟨g, 0, none⟩) (zs.length + m) c') w' ∧
      Own k w.heap.size E w' (.slice (some ⟨g, 0, none⟩) (zs.length + m) c') (zs ++ ns) ∧ Below w.heap.size w w' := by
  obtain ⟨i0, hi, hz0, hz1, hz2⟩ := info_parts hinfo
  have hle : zs.length + m ≤ (zs.length + m) * (k.bits / 8) := Nat.le_mul_of_pos_right _ hk
  have hnews : ∀ j u, (ns.map (Value.int k))[j]? = some u → w.cell? (ad.add j) = some u := fun j u hj => by
    simp only [List.getElem?_map, Option.map_eq_some_iff] at hj
    obtain ⟨z, hz, rfl⟩ := hj
    obtain ⟨hj, rfl⟩ := List.getElem?_eq_some_iff.1 hz
    rw [hns j (by omega), nth_of hj]
  have fin : ∀ v' w', w'.ownsRow w.heap.size E 1 v' (zs.length + m) (zs.map (Value.int k) ++ ns.map (Value.int k)) → w.grownBy w' none →
      ∃ g c', v' = .slice (some ⟨g, 0, none⟩) (zs.length + m) c' ∧ Own k w.heap.size E w' (.slice (some ⟨g, 0, none⟩) (zs.length + m) c') (zs ++ ns) ∧ Below w.heap.size w w' := fun v' w' r1 r2 => by
    obtain ⟨g, c', rfl, _⟩ := r1.form (by omega)
    refine ⟨g, c', rfl, ?_, (Below.refl _ _).grown r2 (Nat.le_refl _) (fun _ h => by cases h)⟩
    unfold Own
    rw [List.length_append, List.map_append, hm]
    exact r1
  cases a with
  | none =>
    have hz : zs = [] := by
      obtain ⟨a', c', e, _, _, hc⟩ := h
      by_cases hp : 0 < zs.length
      · obtain ⟨b, off, e2, _⟩ := hc hp
        injection e with e1 _ _
        rw [← e1] at e2
        cases e2
      · exact List.eq_nil_of_length_eq_zero (by omega)
    subst hz
    obtain ⟨v', w', hr, h2, h3, _⟩ := run_append_own (P := P) w w.heap.size t ty E i0 _ 1 (k.bits / 8) ht hi hz0 hz1 hz2 rfl (by decide) (.slice none 0 0) 0 [] (World.ownsRow_nil w _ _ _) ad m c (ns.map (Value.int k)) (by simp [hm]) hnews (fun u hu => by obtain ⟨z, _, rfl⟩ := List.mem_map.1 hu; rfl)
      (by unfold maxLen; simp at hle hlim ⊢; omega) (by simpa using hlim) (Nat.le_refl _)
    obtain ⟨g, c', rfl, ho, hb⟩ := fin v' w' (by simpa using h2) ⟨h3.os, h3.tape, h3.output, h3.size, fun j hj hn => h3.block j hj (by cases hn' : Value.ownBlock (.slice none 0 0) <;> simp [Value.ownBlock] at hn' ⊢)⟩
    exact ⟨g, c', w', hr, ho, hb⟩
  | some b =>
    have holds : ∀ j u, (zs.map (Value.int k))[j]? = some u → w.cell? (b.add j) = some u := fun j u hj => by
      simp only [List.getElem?_map, Option.map_eq_some_iff] at hj
      obtain ⟨z, hz, rfl⟩ := hj
      obtain ⟨hj, rfl⟩ := List.getElem?_eq_some_iff.1 hz
      obtain ⟨a', c', e, _, _, hc⟩ := h
      obtain ⟨b', off, rfl, _, hcell⟩ := hc (by omega)
      injection e with e1 _ _
      injection e1 with e1
      subst e1
      rw [add_plain, hcell j hj, nth_of hj]
    obtain ⟨v', w', hrun, r1, r2⟩ := run_append_arg_grows (P := P) w t ty E i0 _ 1 (k.bits / 8) ht hi hz0 hz1 hz2 rfl (by decide) b zs.length zs.length (zs.map (Value.int k)) (by simp) holds ad m c (ns.map (Value.int k)) (by simp [hm]) hnews
      (by omega) (by unfold maxLen; omega) hlim
    obtain ⟨g, c', rfl, ho, hb⟩ := fin v' w' r1 r2
    exact ⟨g, c', w', hrun, ho, hb⟩
theorem run_append_full_at (k : IntKind) (t ty E : TypeId) (ht : P.underlying t = some (.slice E)) (hinfo : (P.info? E).map (fun i => (i.zero, i.size, i.bytes)) = some (some (.int k 0), 1, k.bits / 8)) (hk : 0 < k.bits / 8)
    (a : Option Addr) (zs : List Int) (n : Nat) (hn : zs.length = n) (h : Rd k w (.slice a n n) zs) (ad : Addr) (m c : Nat) (ns : List Int) (hm : ns.length = m) (hns : ∀ j, j < m → w.cell? (ad.add j) = some (.int k (nth ns j))) (h0 : 0 < m) (hlim : (n + m) * (k.bits / 8) ≤ 140737488355328) :
    ∃ g c' w', (Builtin.append_ #[t, t] ty #[.slice a n n, .slice (some ad) m c]).run P w = .ok (.slice (some ⟨g, 0, none⟩) (n + m) c') w' ∧
      Own k w.heap.size E w' (.slice (some ⟨g, 0, none⟩) (n + m) c') (zs ++ ns) ∧ Below w.heap.size w w' := by
  subst hn
  exact run_append_full w k t ty E ht hinfo hk a zs h ad m c ns hm hns h0 hlim
end
end Go.Proofs.Yteoiekooaokhaaa
