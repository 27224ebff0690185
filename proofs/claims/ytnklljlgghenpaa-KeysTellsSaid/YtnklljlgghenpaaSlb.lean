/- General: rows of bytes as functions, words in blocks, lists of words that the call owns, append that leaves the old row. No program is named. -/
import Derived.Test.YtnklljlgghenpaaArr
import Derived.ArgAppend
import Derived.Deep.AppendLies
import Derived.Deep.MidRow
namespace Go.Proofs.Ytnklljlgghenpaa
open Go.ChangeShapes Go.WideShapes Go.ChangeAt Go.RowKit

/-- The first n bytes of f as numbers. -/
def ns (n : Nat) (f : Nat → Nat) : List Int := (List.range n).map fun j => (f j : Int)
theorem ns_len (n : Nat) (f : Nat → Nat) : (ns n f).length = n := by simp [ns]
theorem ns_at {n : Nat} (f : Nat → Nat) {j : Nat} (h : j < n) : (ns n f)[j]? = some (f j : Int) := by simp [ns, h]
theorem ns_nth {n : Nat} (f : Nat → Nat) {j : Nat} (h : j < n) : nth (ns n f) j = (f j : Int) := by simp [nth, List.getD, ns_at f h]
theorem ns_ext {n : Nat} {f g : Nat → Nat} (h : ∀ j, j < n → f j = g j) : ns n f = ns n g :=
  List.map_congr_left fun i hi => by rw [h i (List.mem_range.1 hi)]
theorem ns_inj {n : Nat} {f g : Nat → Nat} (h : ns n f = ns n g) : ∀ j, j < n → f j = g j := fun j hj => by
  have := congrArg (fun l => l[j]?) h
  simp only [ns_at f hj, ns_at g hj, Option.some.injEq] at this
  omega
theorem ns_set (n : Nat) (f : Nat → Nat) (j z : Nat) : (ns n f).set j (z : Int) = ns n (upd f j z) := by
  apply List.ext_getElem?
  intro i
  rw [List.getElem?_set, ns_len]
  by_cases hi : i < n
  · rw [ns_at _ hi, ns_at _ hi]
    by_cases e : j = i
    · subst e; rw [if_pos rfl, if_pos hi, upd_same]
    · rw [if_neg e, upd_other _ _ _ _ (fun h => e h.symm)]
  · have h1 : (ns n f)[i]? = none := by rw [List.getElem?_eq_none_iff, ns_len]; omega
    have h2 : (ns n (upd f j z))[i]? = none := by rw [List.getElem?_eq_none_iff, ns_len]; omega
    rw [h1, h2]
    by_cases e : j = i
    · rw [if_pos e, if_neg (by omega)]
    · rw [if_neg e]
theorem ns_snoc (n : Nat) (f : Nat → Nat) : ns n f ++ [(f n : Int)] = ns (n + 1) f := by simp [ns, List.range_succ]
theorem ns_app (n m : Nat) (f : Nat → Nat) : ns n f ++ ns m (fun j => f (n + j)) = ns (n + m) f := by
  unfold ns
  rw [List.range_add, List.map_append, List.map_map]
  rfl
theorem ns_zero (n : Nat) : List.replicate n (0 : Int) = ns n (fun _ => 0) := by
  apply List.ext_getElem?
  intro i
  by_cases hi : i < n
  · rw [ns_at _ hi]; simp [hi]
  · rw [List.getElem?_eq_none (by simp; omega), List.getElem?_eq_none (by rw [ns_len]; omega)]
theorem wf_byte {z : Nat} (h : z < 256) : (Lit.int .u8 (z : Int)).wf = true := WalkArith.wf_u8 (by omega)
theorem ns_wf {n : Nat} {f : Nat → Nat} (h : ∀ j, j < n → f j < 256) : ∀ z ∈ ns n f, (Lit.int .u8 z).wf = true := by
  intro z hz
  obtain ⟨j, hj, rfl⟩ := List.mem_map.1 hz
  exact wf_byte (h j (List.mem_range.1 hj))
theorem ns_ba (n : Nat) (f : Nat → Nat) : (ns n f).map (Value.int .u8) = (ba n f).toList := by simp [ns, ba]

/-! ### bytes that lie in a block -/
/-- n bytes of block g, from off on, are f's. -/
structure Wd (w : World) (n g off : Nat) (f : Nat → Nat) : Prop where
  lt : g < w.heap.size
  cell : ∀ j, j < n → w.cell? ⟨g, off + j, none⟩ = some (.int .u8 (f j : Int))
  byte : ∀ j, j < n → f j < 256
section
variable {w w' : World} {n g off b B : Nat} {f : Nat → Nat}
theorem Wd.same (h : Wd w n g off f) (hs : w.heap.size ≤ w'.heap.size) (hb : w'.heap[g]? = w.heap[g]?) : Wd w' n g off f :=
  ⟨Nat.lt_of_lt_of_le h.lt hs, fun j hj => (World.cell?_of_block (w := w) hb).trans (h.cell j hj), h.byte⟩
theorem Wd.only (h : Wd w n g off f) (o : Only b w w') (hn : g ≠ b) : Wd w' n g off f := h.same o.size (o.block g h.lt hn)
theorem Wd.below (h : Wd w n g off f) (hb : Below B w w') (hB : g < B) : Wd w' n g off f := h.same hb.size (hb.block g hB)
theorem Wd.self (h : Wd w n g off f) (hb : Below w.heap.size w w') : Wd w' n g off f := h.below hb h.lt
theorem Wd.drew (h : Wd w n g off f) : Wd w.drew n g off f := ⟨h.lt, h.cell, h.byte⟩
theorem Wd.alloc (h : Wd w n g off f) (o : Obj) : Wd (w.alloc o) n g off f := h.same (by simp) (heap_alloc_old w o h.lt)
theorem Wd.ext {f' : Nat → Nat} (h : Wd w n g off f) (e : ∀ j, j < n → f j = f' j) : Wd w n g off f' :=
  ⟨h.lt, fun j hj => by rw [h.cell j hj, e j hj], fun j hj => by rw [← e j hj]; exact h.byte j hj⟩
theorem Wd.part (h : Wd w n g off f) {k m : Nat} (hk : k + m ≤ n) : Wd w m g (off + k) (fun j => f (k + j)) :=
  ⟨h.lt, fun j hj => by rw [Nat.add_assoc]; exact h.cell (k + j) (by omega), fun j hj => h.byte (k + j) (by omega)⟩
theorem Wd.rd (h : Wd w n g off f) (c : Nat) (hn : n ≤ 65536) : Rd .u8 w (.slice (some ⟨g, off, none⟩) n c) (ns n f) :=
  ⟨some ⟨g, off, none⟩, c, by rw [ns_len], by rw [ns_len]; show n * 1 ≤ _; omega, ns_wf h.byte, fun _ => ⟨g, off, rfl, h.lt, fun j hj => by rw [ns_len] at hj; rw [h.cell j hj, ns_nth f hj]⟩⟩
theorem Wd.of_at {t : TypeId} (h : At w b n t f) (hf : ∀ j, j < n → f j < 256) : Wd w n b 0 f :=
  ⟨h.lt, fun j hj => by rw [Nat.zero_add]; exact h.cell hj, hf⟩
theorem Wd.of_own {E : TypeId} {c m : Nat} (h : Own .u8 B E w (.slice (some ⟨g, 0, none⟩) m c) (ns n f)) (hn : 0 < n) (hf : ∀ j, j < n → f j < 256) : Wd w n g 0 f := by
  obtain ⟨g', cap, e, hB, hlt, hc, _⟩ := h.part (by rw [ns_len]; exact hn)
  injection e with e1 e2 e3
  injection e1 with e1
  injection e1 with e1
  subst e1
  exact ⟨hlt, fun j hj => by rw [Nat.zero_add, hc j (by rw [ns_len]; exact hj), ns_nth f hj], hf⟩
theorem Wd.of_rd {v : Value} {zs : List Int} (h : Rd .u8 w v zs) (h0 : 0 < zs.length) :
    ∃ g off c, v = .slice (some ⟨g, off, none⟩) zs.length c ∧ Wd w zs.length g off (fun j => (nth zs j).toNat) := by
  obtain ⟨a, c, rfl, _, hw, hc⟩ := h
  obtain ⟨g, off, rfl, hlt, hcell⟩ := hc h0
  refine ⟨g, off, c, rfl, hlt, fun j hj => ?_, fun j hj => ?_⟩
  · have hb := bounds_u8 (hw _ (List.getElem_mem (h := hj)))
    rw [← nth_of hj] at hb
    rw [hcell j hj]; congr 2; omega
  · have hb := bounds_u8 (hw _ (List.getElem_mem (h := hj)))
    rw [← nth_of hj] at hb
    show (nth zs j).toNat < 256
    omega
end

/-- A slice of numbers that comes in, with its capacity. -/
theorem rd_open2 {H : Type} {enc : TypeId × Value → H} {P : Program} {W : World} {held : Bool} {k : IntKind} {t e : TypeId} {base : Nat} {v : Value} {d : DataW H} {p : List MemPlace} {ts : List TypeId} {ds : List (DataW H)} {j : Nat}
    (ht : P.underlying t = some (.slice e)) (he : P.underlying e = some (.int k)) (hc : P.cellsOf e = 1) (hb : P.bytesOf e = k.bits / 8)
    (hv : Value.okWide P W .any base t v) (h : DataW.Trod enc P W 0 (fun _ => true) held t v d p) (hlt : ∀ x ∈ p, x.block < W.heap.size)
    (hsz : (DataW.weightsEach P ts ds).all (· ≤ reachBytes) = true) (hj : ts[j]? = some t) (hd : ds[j]? = some d) :
    ∃ zs, Rd k W v zs ∧ ∀ a n c, v = .slice a n c → n ≤ c ∧ c ≤ maxLen := by
  obtain ⟨a0, len, cap, rfl⟩ := okWide_slice ht hv
  obtain ⟨fuel, hf⟩ := h
  rcases open_ints ht he hc hf with ⟨hcs, hx⟩ | ⟨a, len', cap', zs, hcs, _, hl, hm, hz, hx, hcell, hwz⟩
  · simp [Value.cells] at hcs
    obtain ⟨rfl, rfl, rfl⟩ := hcs
    exact ⟨[], ⟨none, 0, rfl, by simp, by simp, by simp⟩, fun a n c e => by injection e with e1 e2 e3; subst e2; subst e3; unfold maxLen; omega⟩
  · simp [Value.cells] at hcs
    obtain ⟨rfl, rfl, rfl⟩ := hcs
    simp only [Prod.mk.injEq] at hx
    obtain ⟨rfl, rfl⟩ := hx
    simp only [if_true] at hz
    have hreach := sized_slice hsz hj hd ht
    rw [hb] at hreach
    simp only [lits, List.length_map, List.length_take, List.length_drop, reachBytes] at hreach
    have hle : (zs.take len).length = len := by simp; omega
    refine ⟨zs.take len, ⟨some a, cap, by rw [hle], ?_, fun z hz' => hwz z (List.mem_of_mem_take hz'), fun hp => ?_⟩, fun a n c e => by injection e with e1 e2 e3; subst e2; subst e3; exact ⟨hl, hm⟩⟩
    · rw [hle]
      refine Nat.le_trans (Nat.mul_le_mul_right _ ?_) hreach
      omega
    · rw [hle] at hp ⊢
      obtain ⟨b, off, spot⟩ := a
      have hspot : spot = none := by simpa [Addr.add] using World.cell?_spot (hcell 0 (by omega))
      subst hspot
      refine ⟨b, off, rfl, hlt (.cell b off) (MemPlace.mem_row.2 ⟨0, by omega, by simp⟩), fun j hj => ?_⟩
      have := hcell j (by omega)
      rw [add_plain] at this
      rw [this]
      simp [nth, List.getD, hj]

/-! ### append onto a row that the call owns: the old row's cells stand, wherever the new one lies -/
section
variable {P : Program} (w : World)
theorem run_append_stays (t ty : TypeId) (base : Nat) (e : TypeId) (i : TypeInfo) (z : Value) (size bytes : Nat) (ht : P.underlying t = some (.slice e)) (hi : P.info? e = some i) (hz : i.zero = some z)
    (hsize : i.size = size) (hby : i.bytes = bytes) (hzs : z.cells.size = size) (hsz : 0 < size)
    (c n cap : Nat) (xs : List Value) (hown : w.ownsRow base e size (.slice (some ⟨c, 0, none⟩) n cap) n xs)
    (ad : Addr) (m k : Nat) (news : List Value) (hl : news.length = m * size) (hnews : ∀ j u, news[j]? = some u → w.cell? (ad.add j) = some u) (h1 : ∀ u ∈ news, u.oneCell' = true)
    (hm : 0 < m) (h63 : n + m ≤ maxLen) (hbytes : (n + m) * bytes ≤ 140737488355328) (hbase : base ≤ w.heap.size) :
    ∃ g cap' w', (Builtin.append_ #[t, t] ty #[.slice (some ⟨c, 0, none⟩) n cap, .slice (some ad) m k]).run P w = .ok (.slice (some ⟨g, 0, none⟩) (n + m) cap') w' ∧
      w'.ownsRow base e size (.slice (some ⟨g, 0, none⟩) (n + m) cap') (n + m) (xs ++ news) ∧ w.grownBy w' (some c) ∧ (g = c ∨ g = w.heap.size) ∧ g < w'.heap.size ∧
      (∀ j u, xs[j]? = some u → w'.cell? ⟨c, j, none⟩ = some u) := by
  obtain ⟨g, cap', w', hr, h2, h3, h4, h5⟩ := run_append_lies (P := P) w t ty base e i z size bytes ht hi hz hsize hby hzs hsz _ n xs hown ad m k news hl hnews h1 hm h63 hbytes hbase _ rfl
  have h4' : g = c ∨ g = w.heap.size := by
    rcases h4 with h4 | h4
    · exact .inl (by simpa [Value.ownBlock] using h4.symm)
    · exact .inr h4
  refine ⟨g, cap', w', hr, h2, h3, h4', h5, fun j u hj => ?_⟩
  have hjx : j < xs.length := (List.getElem?_eq_some_iff.1 hj).1
  rcases h4' with rfl | h4'
  · have := h2.cells (g := g) rfl j u (by rw [List.getElem?_append_left hjx]; exact hj)
    rwa [Addr.add_mid, Nat.zero_add] at this
  · have hold : w.cell? ⟨c, j, none⟩ = some u := by
      have := hown.cells (g := c) rfl j u hj
      rwa [Addr.add_mid, Nat.zero_add] at this
    have hc : c < w.heap.size := World.block_lt_of_cell? w _ hold
    subst hsize
    subst hby
    by_cases hroom : n + m ≤ cap
    · rcases hown.2 with ⟨e0, _⟩ | ⟨g', cap1, cur, e0, hbg, hg, hnc, hcm, hcs, htake⟩
      · cases e0
      · injection e0 with e1 e2 e3
        injection e1 with e1
        injection e1 with e1
        subst e1; subst e3
        have hfit : n * i.size + news.length ≤ cur.size := by rw [hl, hcs, ← Nat.add_mul]; exact Nat.mul_le_mul_right _ hroom
        have hr' := run_append_room (P := P) w t ty e i ht hi c n cap cur hg ad m k news hl hnews h1 hroom hfit
        rw [hr'] at hr
        injection hr with hr1 _
        injection hr1 with hr1 _ _
        injection hr1 with hr1
        injection hr1 with hr1
        omega
    · have holds : ∀ j u, xs[j]? = some u → w.cell? ((⟨c, 0, none⟩ : Addr).add j) = some u := hown.cells (g := c) rfl
      have hr' := run_append_grow (P := P) w t ty e i z ht hi hz ⟨c, 0, none⟩ n cap xs hown.1 holds ad m k news hl hnews (by omega) (by unfold maxLen at h63; omega) (growslice_fits (by omega) hbytes)
      rw [hr'] at hr
      injection hr with _ hr2
      rw [← hr2]
      rw [World.cell?_of_block (w := w.drew) (heap_alloc_old w.drew _ hc)]
      exact hold

theorem wp_append_stays {o : Oper} {a : Act} {K : Act → World → Prop} {Q : Exit → Act → World → Prop} (s x : Operand) (t : TypeId)
    (ho : o.op = .call { callee := .builtin .append, args := #[s, x], argTypes := #[t, t] })
    (base : Nat) (e : TypeId) (i : TypeInfo) (z : Value) (size bytes : Nat) (ht : P.underlying t = some (.slice e)) (hi : P.info? e = some i) (hz : i.zero = some z)
    (hsize : i.size = size) (hby : i.bytes = bytes) (hzs : z.cells.size = size) (hsz : 0 < size)
    (c n cap : Nat) (xs : List Value) (hs : a.eval s = .slice (some ⟨c, 0, none⟩) n cap) (hown : w.ownsRow base e size (.slice (some ⟨c, 0, none⟩) n cap) n xs)
    (ad : Addr) (m k : Nat) (news : List Value) (hx : a.eval x = .slice (some ad) m k) (hl : news.length = m * size) (hnews : ∀ j u, news[j]? = some u → w.cell? (ad.add j) = some u) (h1 : ∀ u ∈ news, u.oneCell' = true)
    (hm : 0 < m) (h63 : n + m ≤ maxLen) (hbytes : (n + m) * bytes ≤ 140737488355328) (hbase : base ≤ w.heap.size)
    (h : ∀ g cap' w', w'.ownsRow base e size (.slice (some ⟨g, 0, none⟩) (n + m) cap') (n + m) (xs ++ news) → w.grownBy w' (some c) → (g = c ∨ g = w.heap.size) → g < w'.heap.size →
      (∀ j u, xs[j]? = some u → w'.cell? ⟨c, j, none⟩ = some u) → K (a.put o.dst (.slice (some ⟨g, 0, none⟩) (n + m) cap')) w') : o.wp P a w K Q := by
  obtain ⟨g, cap', w', hr, h2, h3, h4, h5, h6⟩ := run_append_stays (P := P) w t o.type base e i z size bytes ht hi hz hsize hby hzs hsz c n cap xs hown ad m k news hl hnews h1 hm h63 hbytes hbase
  unfold Oper.wp execOp
  simp only [ho, resolve, invoke, builtin, Sem.run_bind, Sem.run_pure, Result.andThen_ok, List.map_toArray, List.map_cons, List.map_nil, hs, hx, hr]
  exact h g cap' w' h2 h3 h4 h5 h6
end

/-- 'append' that must grow, at a step of a region that draws: the new row is the call's own. -/
theorem step_append_new {P : Program} {ops : Array Oper} {o : Oper} {a : Act} {w : World} {K : Act → World → Prop} {Q : Exit → Act → World → Prop} {X : Prop} (hgd : o.guard = none) (s x : Operand) (t : TypeId)
    (ho : o.op = .call { callee := .builtin .append, args := #[s, x], argTypes := #[t, t] }) (k : IntKind) (E : TypeId) (ht : P.underlying t = some (.slice E))
    (hinfo : (P.info? E).map (fun i => (i.zero, i.size, i.bytes)) = some (some (.int k 0), 1, k.bits / 8)) (hk : 0 < k.bits / 8)
    (b : Addr) (n cap : Nat) (olds : List Int) (hs : a.eval s = .slice (some b) n cap) (hlo : olds.length = n) (holds : ∀ j, j < n → w.cell? (b.add j) = some (.int k (nth olds j)))
    (ad : Addr) (m c : Nat) (ns : List Int) (hx : a.eval x = .slice (some ad) m c) (hm : ns.length = m) (hns : ∀ j, j < m → w.cell? (ad.add j) = some (.int k (nth ns j)))
    (hfull : cap < n + m) (hlim : (n + m) * (k.bits / 8) ≤ 140737488355328)
    (h : ∀ g c' w', Own k w.heap.size E w' (.slice (some ⟨g, 0, none⟩) (n + m) c') (olds ++ ns) → w.heap.size ≤ g → Below w.heap.size w w' → K (a.put o.dst (.slice (some ⟨g, 0, none⟩) (n + m) c')) w') :
    if Region.wanted o (yielded ops a.tmps) = true then Oper.wp P o a w K Q else X := by
  have hw : Region.wanted o (yielded ops a.tmps) = true := by simp [Region.wanted, hgd]
  rw [if_pos hw]
  obtain ⟨i0, hi, hz0, hz1, hz2⟩ := info_parts hinfo
  have hle : n + m ≤ (n + m) * (k.bits / 8) := Nat.le_mul_of_pos_right _ hk
  obtain ⟨v', w', hrun, r1, r2⟩ := run_append_arg_grows (P := P) w t o.type E i0 _ 1 (k.bits / 8) ht hi hz0 hz1 hz2 rfl (by decide) b n cap (olds.map (Value.int k)) (by simp [hlo])
    (fun j u hj => by
      simp only [List.getElem?_map, Option.map_eq_some_iff] at hj
      obtain ⟨z, hz, rfl⟩ := hj
      obtain ⟨hj, rfl⟩ := List.getElem?_eq_some_iff.1 hz
      rw [holds j (by omega), nth_of hj])
    ad m c (ns.map (Value.int k)) (by simp [hm])
    (fun j u hj => by
      simp only [List.getElem?_map, Option.map_eq_some_iff] at hj
      obtain ⟨z, hz, rfl⟩ := hj
      obtain ⟨hj, rfl⟩ := List.getElem?_eq_some_iff.1 hz
      rw [hns j (by omega), nth_of hj])
    hfull (by unfold maxLen; omega) hlim
  obtain ⟨g, c', rfl, hg, _⟩ := r1.form (by omega)
  unfold Oper.wp
  simp [execOp, ho, resolve, invoke, builtin, hs, hx, hrun, Result.andThen]
  refine h g c' w' ?_ hg ((Below.refl _ _).grown r2 (Nat.le_refl _) (fun _ h => by cases h))
  unfold Own
  rw [List.length_append, List.map_append, hlo, hm]
  exact r1

/-! ### lists of rows of bytes, owned by the call -/
/-- The values of the first m rows: n bytes each, at gs i from os i on, of capacity cs i. -/
def vs (m n : Nat) (gs os cs : Nat → Nat) : List Value := (List.range m).map fun i => .slice (some ⟨gs i, os i, none⟩) n (cs i)
theorem vs_len (m n : Nat) (gs os cs : Nat → Nat) : (vs m n gs os cs).length = m := by simp [vs]
theorem vs_at {m : Nat} (n : Nat) (gs os cs : Nat → Nat) {i : Nat} (h : i < m) : (vs m n gs os cs)[i]? = some (.slice (some ⟨gs i, os i, none⟩) n (cs i)) := by simp [vs, h]
theorem vs_ext {m n : Nat} {gs os cs gs' os' cs' : Nat → Nat} (h : ∀ i, i < m → gs i = gs' i ∧ os i = os' i ∧ cs i = cs' i) : vs m n gs os cs = vs m n gs' os' cs' :=
  List.map_congr_left fun i hi => by obtain ⟨h1, h2, h3⟩ := h i (List.mem_range.1 hi); rw [h1, h2, h3]
theorem vs_snoc (m n : Nat) (gs os cs : Nat → Nat) (g o c : Nat) : vs m n gs os cs ++ [.slice (some ⟨g, o, none⟩) n c] = vs (m + 1) n (upd gs m g) (upd os m o) (upd cs m c) := by
  unfold vs
  rw [List.range_succ, List.map_append]
  congr 1
  · exact List.map_congr_left fun i hi => by
      have := List.mem_range.1 hi
      rw [upd_other _ _ _ _ (by omega), upd_other _ _ _ _ (by omega), upd_other _ _ _ _ (by omega)]
  · simp [upd_same]

/-- Block c is a list of m rows of n bytes each; what the rows hold is F; none of them lies in c. -/
structure LW (w : World) (B : Nat) (E : TypeId) (c m cap n : Nat) (gs os cs : Nat → Nat) (F : Nat → Nat → Nat) : Prop where
  own : w.ownsRow B E 1 (.slice (some ⟨c, 0, none⟩) m cap) m (vs m n gs os cs)
  each : ∀ i, i < m → Wd w n (gs i) (os i) (F i)
  apart : ∀ i, i < m → gs i ≠ c
/-- A row F of rows, with one more. -/
def updR (F : Nat → Nat → Nat) (m : Nat) (f : Nat → Nat) : Nat → Nat → Nat := fun i => if i = m then f else F i
section
variable {w w' : World} {B c m cap n b : Nat} {E : TypeId} {gs os cs : Nat → Nat} {F : Nat → Nat → Nat}
theorem LW.form (h : LW w B E c m cap n gs os cs F) : B ≤ c ∧ c < w.heap.size ∧ m ≤ cap ∧ cap ≤ maxLen := by
  rcases h.own.2 with ⟨e, _⟩ | ⟨g, cap', cur, e, h1, h2, h3, h4, _⟩
  · cases e
  · injection e with e1 e2 e3
    injection e1 with e1
    injection e1 with e1
    subst e1; subst e3
    exact ⟨h1, (Array.getElem?_eq_some_iff.1 h2).1, h3, h4⟩
theorem LW.lt (h : LW w B E c m cap n gs os cs F) : c < w.heap.size := h.form.2.1
theorem LW.cell (h : LW w B E c m cap n gs os cs F) {i : Nat} (hi : i < m) : w.cell? ⟨c, i, none⟩ = some (.slice (some ⟨gs i, os i, none⟩) n (cs i)) := by
  have := h.own.cells (g := c) rfl i _ (vs_at n gs os cs hi)
  rwa [Addr.add_mid, Nat.zero_add] at this
theorem LW.same (h : LW w B E c m cap n gs os cs F) (hs : w.heap.size ≤ w'.heap.size) (hc : w'.heap[c]? = w.heap[c]?) (hg : ∀ i, i < m → w'.heap[gs i]? = w.heap[gs i]?) : LW w' B E c m cap n gs os cs F := by
  refine ⟨⟨h.own.1, ?_⟩, fun i hi => (h.each i hi).same hs (hg i hi), h.apart⟩
  rcases h.own.2 with ⟨e, _⟩ | ⟨g, cap', cur, e, h1, h2, h3⟩
  · cases e
  · refine .inr ⟨g, cap', cur, e, h1, ?_, h3⟩
    injection e with e1 e2 e3
    injection e1 with e1
    injection e1 with e1
    subst e1
    rw [hc, h2]
theorem LW.only (h : LW w B E c m cap n gs os cs F) (o : Only b w w') (hc : c ≠ b) (hg : ∀ i, i < m → gs i ≠ b) : LW w' B E c m cap n gs os cs F :=
  h.same o.size (o.block c h.lt hc) (fun i hi => o.block _ (h.each i hi).lt (hg i hi))
theorem LW.self (h : LW w B E c m cap n gs os cs F) (hb : Below w.heap.size w w') : LW w' B E c m cap n gs os cs F :=
  h.same hb.size (hb.block c h.lt) (fun i hi => hb.block _ (h.each i hi).lt)
theorem LW.drew (h : LW w B E c m cap n gs os cs F) : LW w.drew B E c m cap n gs os cs F := ⟨h.own, fun i hi => (h.each i hi).drew, h.apart⟩
theorem LW.alloc (h : LW w B E c m cap n gs os cs F) (o : Obj) : LW (w.alloc o) B E c m cap n gs os cs F :=
  h.same (by simp) (heap_alloc_old w o h.lt) (fun i hi => heap_alloc_old w o (h.each i hi).lt)
theorem LW.ext {F' : Nat → Nat → Nat} (h : LW w B E c m cap n gs os cs F) (e : ∀ i, i < m → ∀ j, j < n → F i j = F' i j) : LW w B E c m cap n gs os cs F' :=
  ⟨h.own, fun i hi => (h.each i hi).ext (e i hi), h.apart⟩
/-- One row behind the others. -/
theorem LW.more (h : LW w B E c m cap n gs os cs F) {g o k c' cap' : Nat} {f : Nat → Nat} (hg : Wd w n g o f) (hn : g ≠ c) (hown : w'.ownsRow B E 1 (.slice (some ⟨c', 0, none⟩) (m + 1) cap') (m + 1) (vs m n gs os cs ++ [.slice (some ⟨g, o, none⟩) n k]))
    (hgr : w.grownBy w' (some c)) (hc : c' = c ∨ c' = w.heap.size) : LW w' B E c' (m + 1) cap' n (upd gs m g) (upd os m o) (upd cs m k) (updR F m f) := by
  have far : ∀ {x : Nat}, x < w.heap.size → x ≠ c → w'.heap[x]? = w.heap[x]? := fun {x} hx hxc => hgr.block x hx (by simpa using hxc)
  have hap : ∀ {x : Nat}, x < w.heap.size → x ≠ c → x ≠ c' := fun {x} hx hxc => by rcases hc with rfl | rfl <;> omega
  refine ⟨by rw [← vs_snoc]; exact hown, fun i hi => ?_, fun i hi => ?_⟩
  · by_cases e : i = m
    · subst e; simp only [upd_same, updR, if_pos]; exact hg.same hgr.size (far hg.lt hn)
    · have hi' : i < m := by omega
      simp only [updR, if_neg e, upd_other _ _ _ _ e]
      exact (h.each i hi').same hgr.size (far (h.each i hi').lt (h.apart i hi'))
  · by_cases e : i = m
    · subst e; rw [upd_same]; exact hap hg.lt hn
    · have hi' : i < m := by omega
      rw [upd_other _ _ _ _ e]
      exact hap (h.each i hi').lt (h.apart i hi')
end

theorem below_drewN (w : World) (n : Nat) : Below w.heap.size w (w.drewN n) := ⟨rfl, rfl, rfl, Nat.le_refl _, fun _ _ => rfl⟩
theorem cell_new0 (w : World) (v : Value) (E : TypeId) : (w.alloc (.cells #[v] E)).cell? ⟨w.heap.size, 0, none⟩ = some v := by
  have e := heap_alloc_new w (.cells #[v] E)
  simp only [World.cell?, e]
  rfl

/-! ### append of one value to a row of values -/
section
variable {P : Program} {w : World} {o : Oper} {a : Act}
theorem wp_append_val {K : Act → World → Prop} {Q : Exit → Act → World → Prop} (s x : Operand) (t : TypeId)
    (ho : o.op = .call { callee := .builtin .append, args := #[s, x], argTypes := #[t, t] }) (z : Value) (bytes B : Nat) (E : TypeId) (ht : P.underlying t = some (.slice E))
    (hinfo : (P.info? E).map (fun i => (i.zero, i.size, i.bytes)) = some (some z, 1, bytes)) (hz : z.cells.size = 1) (hk : bytes ≤ 65536)
    (v : Value) (n : Nat) (xs : List Value) (hs : a.eval s = v) (hown : w.ownsRow B E 1 v n xs) (ad : Addr) (c : Nat) (u : Value) (hx : a.eval x = .slice (some ad) 1 c) (hu : w.cell? ad = some u) (h1 : u.oneCell' = true)
    (hlim : n ≤ 1048576) (hB : B ≤ w.heap.size) (B0 : Nat) (w0 : World) (hb : Below B0 w0 w) (hBB : B0 ≤ B)
    (h : ∀ v' w', w'.ownsRow B E 1 v' (n + 1) (xs ++ [u]) → Below B0 w0 w' → w.heap.size ≤ w'.heap.size → K (a.put o.dst v') w') : o.wp P a w K Q := by
  obtain ⟨i0, hi, hz0, hz1, hz2⟩ := info_parts hinfo
  refine wp_append_own w s x t ho B E i0 z 1 bytes ht hi hz0 hz1 hz2 hz (by decide) v n xs hs hown ad 1 c [u] hx rfl ?_ (by intro y hy; rw [List.mem_singleton] at hy; subst hy; exact h1) (by unfold maxLen; omega) ?_ hB ?_
  · intro j y hj
    have hj0 : j = 0 := by have := (List.getElem?_eq_some_iff.1 hj).1; simp at this; exact this
    subst hj0
    simp only [List.getElem?_cons_zero, Option.some.injEq] at hj
    subst hj
    have e : ad.add 0 = ad := by unfold Addr.add; split <;> simp_all
    rw [e]; exact hu
  · have : (n + 1) * bytes ≤ 1048577 * 65536 := Nat.mul_le_mul (by omega) hk
    omega
  · intro v' w' h2 h3 _
    exact h v' w' h2 (hb.grown h3 (by omega) (fun j hj => by have := (World.ownsRow.lt hown j hj).1; omega)) h3.size
theorem wpList_append_val {ops : Array Oper} {rest : List Oper} {Q : Exit → Act → World → Prop} (hgd : o.guard = none) (s x : Operand) (t : TypeId)
    (ho : o.op = .call { callee := .builtin .append, args := #[s, x], argTypes := #[t, t] }) (z : Value) (bytes B : Nat) (E : TypeId) (ht : P.underlying t = some (.slice E))
    (hinfo : (P.info? E).map (fun i => (i.zero, i.size, i.bytes)) = some (some z, 1, bytes)) (hz : z.cells.size = 1) (hk : bytes ≤ 65536)
    (v : Value) (n : Nat) (xs : List Value) (hs : a.eval s = v) (hown : w.ownsRow B E 1 v n xs) (ad : Addr) (c : Nat) (u : Value) (hx : a.eval x = .slice (some ad) 1 c) (hu : w.cell? ad = some u) (h1 : u.oneCell' = true)
    (hlim : n ≤ 1048576) (hB : B ≤ w.heap.size) (B0 : Nat) (w0 : World) (hb : Below B0 w0 w) (hBB : B0 ≤ B)
    (h : ∀ v' w', w'.ownsRow B E 1 v' (n + 1) (xs ++ [u]) → Below B0 w0 w' → w.heap.size ≤ w'.heap.size → wpList P ops Q rest (a.put o.dst v') w') : wpList P ops Q (o :: rest) a w :=
  wpList_plain hgd fun _ hK => wp_append_val s x t ho z bytes B E ht hinfo hz hk v n xs hs hown ad c u hx hu h1 hlim hB B0 w0 hb hBB fun v' w' h2 h3 h4 => hK _ _ (h v' w' h2 h3 h4)

/-- One row of bytes behind a list, at a step of a region that draws. -/
theorem step_append_lw {ops : Array Oper} {K : Act → World → Prop} {Q : Exit → Act → World → Prop} {X : Prop} (hgd : o.guard = none) (s x : Operand) (t : TypeId)
    (ho : o.op = .call { callee := .builtin .append, args := #[s, x], argTypes := #[t, t] }) {B c m cap n : Nat} {E : TypeId} {gs os cs : Nat → Nat} {F : Nat → Nat → Nat} (ht : P.underlying t = some (.slice E))
    (hinfo : (P.info? E).map (fun i => (i.zero, i.size, i.bytes)) = some (some (.slice none 0 0), 1, 24))
    (hl : LW w B E c m cap n gs os cs F) (hs : a.eval s = .slice (some ⟨c, 0, none⟩) m cap) (ad : Addr) (k : Nat) (hx : a.eval x = .slice (some ad) 1 k)
    (g o' kk : Nat) (f : Nat → Nat) (hu : w.cell? ad = some (.slice (some ⟨g, o', none⟩) n kk)) (hg : Wd w n g o' f) (hn : g ≠ c) (hm : m ≤ 65536) (hB : B ≤ w.heap.size)
    (h : ∀ c' cap' w', LW w' B E c' (m + 1) cap' n (upd gs m g) (upd os m o') (upd cs m kk) (updR F m f) → w.grownBy w' (some c) → (c' = c ∨ c' = w.heap.size) →
      (∀ i, i < m → w'.cell? ⟨c, i, none⟩ = some (.slice (some ⟨gs i, os i, none⟩) n (cs i))) → K (a.put o.dst (.slice (some ⟨c', 0, none⟩) (m + 1) cap')) w') :
    if Region.wanted o (yielded ops a.tmps) = true then Oper.wp P o a w K Q else X := by
  have hw : Region.wanted o (yielded ops a.tmps) = true := by simp [Region.wanted, hgd]
  rw [if_pos hw]
  obtain ⟨i0, hi, hz0, hz1, hz2⟩ := info_parts hinfo
  refine wp_append_stays w s x t ho B E i0 _ 1 24 ht hi hz0 hz1 hz2 rfl (by decide) c m cap _ hs hl.own ad 1 k [.slice (some ⟨g, o', none⟩) n kk] hx rfl ?_ (by intro y hy; rw [List.mem_singleton] at hy; subst hy; rfl) (by decide) (by unfold maxLen; omega) (by omega) hB ?_
  · intro j y hj
    have hj0 : j = 0 := by have := (List.getElem?_eq_some_iff.1 hj).1; simp at this; exact this
    subst hj0
    simp only [List.getElem?_cons_zero, Option.some.injEq] at hj
    subst hj
    have e : ad.add 0 = ad := by unfold Addr.add; split <;> simp_all
    rw [e]; exact hu
  · intro c' cap' w' h2 h3 h4 h5 h6
    exact h c' cap' w' (hl.more hg hn h2 h3 h4) h3 h4 (fun i hi => h6 i _ (vs_at n gs os cs hi))
/-- .. and at a plain list. -/
theorem wpList_append_lw {ops : Array Oper} {rest : List Oper} {Q : Exit → Act → World → Prop} (hgd : o.guard = none) (s x : Operand) (t : TypeId)
    (ho : o.op = .call { callee := .builtin .append, args := #[s, x], argTypes := #[t, t] }) {B c m cap n : Nat} {E : TypeId} {gs os cs : Nat → Nat} {F : Nat → Nat → Nat} (ht : P.underlying t = some (.slice E))
    (hinfo : (P.info? E).map (fun i => (i.zero, i.size, i.bytes)) = some (some (.slice none 0 0), 1, 24))
    (hl : LW w B E c m cap n gs os cs F) (hs : a.eval s = .slice (some ⟨c, 0, none⟩) m cap) (ad : Addr) (k : Nat) (hx : a.eval x = .slice (some ad) 1 k)
    (g o' kk : Nat) (f : Nat → Nat) (hu : w.cell? ad = some (.slice (some ⟨g, o', none⟩) n kk)) (hg : Wd w n g o' f) (hn : g ≠ c) (hm : m ≤ 65536) (hB : B ≤ w.heap.size)
    (h : ∀ c' cap' w', LW w' B E c' (m + 1) cap' n (upd gs m g) (upd os m o') (upd cs m kk) (updR F m f) → w.grownBy w' (some c) → (c' = c ∨ c' = w.heap.size) →
      wpList P ops Q rest (a.put o.dst (.slice (some ⟨c', 0, none⟩) (m + 1) cap')) w') : wpList P ops Q (o :: rest) a w :=
  wpList_plain hgd fun K hK => by
    obtain ⟨i0, hi, hz0, hz1, hz2⟩ := info_parts hinfo
    refine wp_append_stays w s x t ho B E i0 _ 1 24 ht hi hz0 hz1 hz2 rfl (by decide) c m cap _ hs hl.own ad 1 k [.slice (some ⟨g, o', none⟩) n kk] hx rfl ?_ (by intro y hy; rw [List.mem_singleton] at hy; subst hy; rfl) (by decide) (by unfold maxLen; omega) (by omega) hB ?_
    · intro j y hj
      have hj0 : j = 0 := by have := (List.getElem?_eq_some_iff.1 hj).1; simp at this; exact this
      subst hj0
      simp only [List.getElem?_cons_zero, Option.some.injEq] at hj
      subst hj
      have e : ad.add 0 = ad := by unfold Addr.add; split <;> simp_all
      rw [e]; exact hu
    · intro c' cap' w' h2 h3 h4 h5 h6
      exact hK _ _ (h c' cap' w' (hl.more hg hn h2 h3 h4) h3 h4)
end

/-- A list of rows that is only read. -/
structure RL (w : World) (c m n : Nat) (gs os cs : Nat → Nat) (F : Nat → Nat → Nat) : Prop where
  lt : c < w.heap.size
  cell : ∀ i, i < m → w.cell? ⟨c, i, none⟩ = some (.slice (some ⟨gs i, os i, none⟩) n (cs i))
  each : ∀ i, i < m → Wd w n (gs i) (os i) (F i)
theorem RL.self {w w' : World} {c m n : Nat} {gs os cs : Nat → Nat} {F : Nat → Nat → Nat} (h : RL w c m n gs os cs F) (hb : Below w.heap.size w w') : RL w' c m n gs os cs F :=
  ⟨Nat.lt_of_lt_of_le h.lt hb.size, fun i hi => (World.cell?_of_block (w := w) (hb.block c h.lt)).trans (h.cell i hi), fun i hi => (h.each i hi).self hb⟩
theorem RL.drew {w : World} {c m n : Nat} {gs os cs : Nat → Nat} {F : Nat → Nat → Nat} (h : RL w c m n gs os cs F) : RL w.drew c m n gs os cs F := ⟨h.lt, h.cell, fun i hi => (h.each i hi).drew⟩
theorem LW.rl {w : World} {B c m cap n : Nat} {E : TypeId} {gs os cs : Nat → Nat} {F : Nat → Nat → Nat} (h : LW w B E c m cap n gs os cs F) : RL w c m n gs os cs F := ⟨h.lt, fun _ hi => h.cell hi, h.each⟩
end Go.Proofs.Ytnklljlgghenpaa
