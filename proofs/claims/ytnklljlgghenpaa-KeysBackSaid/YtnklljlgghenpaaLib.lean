/- General words and lemmas for the laws of this seat: byte slices read and owned, and a law's row from its contract. No program is named. -/
import Derived.WalkKit
import Derived.ProofKit
import Derived.OpenShut
import Derived.SizedLaws
import Derived.BigQuiet
import Derived.Deep.QuietTactic
import Derived.Deep.RegionLaw
import Derived.Laws.CopyOwn
import GoSem.ClaimJoined
namespace Go.Proofs.Ytnklljlgghenpaa
open Go.ChangeShapes Go.WideShapes Go.ChangeAt Go.RowKit

/-- An act's slots laid out: one name for simp, so that no linter asks which of them a step used. -/
theorem lay_out {α : Type} : (∀ (l : List α) (i : Nat) (h : i < l.toArray.size), l.toArray[i]'h = l[i]'(by simpa using h)) ∧ (∀ (a : α) (l : List α) (h : 0 < (a :: l).length), (a :: l)[0]'h = a) ∧
    (∀ (a : α) (l : List α) (i : Nat) (h : i + 1 < (a :: l).length), (a :: l)[i + 1]'h = l[i]'(by simpa using h)) ∧ (∀ (l : List α) (i : Nat) (v : α), l.toArray.setIfInBounds i v = (l.set i v).toArray) ∧
    (∀ (a : α) (l : List α) (v : α), (a :: l).set 0 v = v :: l) ∧ (∀ (a : α) (l : List α) (i : Nat) (v : α), (a :: l).set (i + 1) v = a :: l.set i v) :=
  ⟨fun _ _ _ => by simp, fun _ _ _ => rfl, fun _ _ _ _ => rfl, fun _ _ _ => by simp, fun _ _ _ => rfl, fun _ _ _ _ => rfl⟩

theorem hid {p : Prop} (h : p) : Hid p := h
theorem ret_int {k : IntKind} {a b : Int} (h : a = b) : Ending.returned (.int k a) = .returned (.int k b) := by rw [h]
theorem ret_bool {a b : Bool} (h : a = b) : Ending.returned (.bool a) = .returned (.bool b) := by rw [h]

section row
variable {H : Type} {enc : TypeId × Value → H} {P : Program}

theorem trodAll_len {W : World} {base : Nat} {sp : Nat → Bool} {held : Bool} : ∀ {ts : List TypeId} {vs : List Value} {ds : List (DataW H)} {p : List MemPlace},
    DataW.TrodAll enc P W base sp held ts vs ds p → ds.length = ts.length
  | [], [], [], _, _ => rfl
  | _ :: _, _ :: _, _ :: _, _, ⟨_, _, _, h, _⟩ => by simp [trodAll_len h]
  | [], [], _ :: _, _, h => h.elim
  | [], _ :: _, _, _, h => by cases h
  | _ :: _, [], _, _, h => by cases h
  | _ :: _, _ :: _, [], _, h => by cases h

theorem trodAll_stays {W W' : World} (hl : laidOutB P = true) (hb : Below W.heap.size W W') :
    ∀ {ts : List TypeId} {vs : List Value} {ds : List (DataW H)} {p : List MemPlace}, (∀ t ∈ ts, P.readableRec t = true ∧ t < P.types.size) →
    DataW.TrodAll enc P W 0 (fun _ => true) true ts vs ds p → (∀ x ∈ p, x.block < W.heap.size) →
    DataW.TrodAll enc P W' 0 (fun b => decide (b < W.heap.size)) true ts vs ds p
  | [], [], [], _, _, h, _ => h
  | t :: ts, v :: vs, d :: ds, p, hts, ⟨a, b, h1, h2, e⟩, hlt => by
    subst e
    exact ⟨a, b, Below.trod hl (hts t (by simp)).1 (hts t (by simp)).2 h1 hb (fun x hx => hlt x (List.mem_append.2 (.inl hx))),
      trodAll_stays hl hb (fun t' ht => hts t' (by simp [ht])) h2 (fun x hx => hlt x (List.mem_append.2 (.inr hx))), rfl⟩
  | [], [], _ :: _, _, _, h, _ => h.elim
  | [], _ :: _, _, _, _, h, _ => by cases h
  | _ :: _, [], _, _, _, h, _ => by cases h
  | _ :: _, _ :: _, [], _, _, h, _ => by cases h

/-- What a law owes: from any world, with any arguments that can be read, it returns true, and nothing that was there has turned. -/
def LawCore (H : Type) (enc : TypeId × Value → H) (P : Program) (f : FuncId) (ts : List TypeId) : Prop :=
  ∀ (W : World) (base : Nat) (args : Array Value) (ds : List (DataW H)) (p : List MemPlace),
    (∀ (j : Nat) t v, ts[j]? = some t → args[j]? = some v → Value.okWide P W .any base t v) →
    DataW.TrodAll enc P W 0 (fun _ => true) true ts args.toList ds p → (∀ x ∈ p, x.block < W.heap.size) → W.noneFrozen p →
    (DataW.weightsEach P ts ds).all (· ≤ reachBytes) = true →
    Calls P f args W fun e W' => e = .returned (.bool true) ∧ Below W.heap.size W W'

theorem law_lifted {C : Checked} {os : Os} {f : FuncId} {fn : Func} {s : ChangeSpec} {conds : List PathCond} {bt : TypeId}
    (own : ownKnob C.prog.godebug = none) (started : os.Started) (noInit : C.prog.inits.idxOf? f = none) (hfn : C.prog.funcs[f]? = some fn)
    (witness : ∃ (w : World) (tape : Tape) (i : Input), w.os = os ∧ (w.forCall tape i).Shaped C.prog ∧ i.vars = [] ∧ Input.okWide C.prog (w.forCall tape i) .any w.heap.size f i ∧
      s.pre6 enc C.prog fn conds false (w.forCall tape i).memory i.args ∧ ({} : Assume).holds C.prog (lone (Frame.enter C.prog f i.args .normal) [] (w.forCall tape i)))
    (hl : laidOutB C.prog = true) (hts : ∀ t ∈ fn.params.toList, C.prog.readableRec t = true ∧ t < C.prog.types.size)
    (hr : fn.resultTypes = #[bt]) (hbt : C.prog.underlying bt = some .bool) (hv : s.vars = [])
    (hs : ∀ ds : List (DataW H), ds.length = fn.params.size → s.fn H ds = { results := [.lit (.bool true)], args := ds })
    (core : LawCore H enc C.prog f fn.params.toList) :
    ReturnsInHanded {} C os f .any (s.pre6 enc C.prog fn conds false) (s.post enc C.prog fn false true false false) := by
  refine returnsInHanded_of_change_sized own started noInit hfn witness ?_
  intro W base args ds gs before hval hW hcnd hsz _
  have hW' := hW
  obtain ⟨p, q, hA, hV, rfl, hfz, hnd⟩ := hW
  rw [hv] at hV
  obtain ⟨rfl, rfl⟩ := trodVars_none hV
  have hvt : DataSpec.varTypes C.prog s.plain = [] := by simp [ChangeSpec.plain, DataSpec.varTypes, hv]
  rw [hvt, List.append_nil, List.append_nil] at hsz
  have hlt : ∀ x ∈ p, x.block < W.heap.size := fun x hx => by
    have := hW'.lt x (by simpa using hx); simpa using this
  have hlen : ds.length = fn.params.size := by simpa using trodAll_len hA
  refine (core W base args ds p (fun j t v h1 h2 => hval j t v (by simpa using h1) h2) hA hlt (by simpa using hfz) hsz).mono fun e W' ⟨he, hb⟩ => ?_
  refine ⟨_, he, ds, [], p ++ [], [], p, [], hW', ?_, ?_, ?_, hb.frame _, fun h => by cases h⟩
  · simp only [List.append_nil, hs ds hlen, hr]
    exact trodAll_cons_mk (shut_bool hbt true) rfl
  · simp only [List.append_nil, hs ds hlen]
    exact trodAll_stays hl hb hts hA hlt
  · simp only [List.append_nil, hs ds hlen, hv]
    rfl
end row

/-! ### slices of numbers that are read -/
/-- The number at a place, kept whole from the walk's simp. -/
def nth (zs : List Int) (j : Nat) : Int := zs.getD j 0
/-- v reads, in w, as the numbers zs of kind k. -/
def Rd (k : IntKind) (w : World) (v : Value) (zs : List Int) : Prop :=
  ∃ a cap, v = .slice a zs.length cap ∧ zs.length * (k.bits / 8) ≤ 140737488351232 ∧ (∀ z ∈ zs, (Lit.int k z).wf = true) ∧
    (0 < zs.length → ∃ b off, a = some ⟨b, off, none⟩ ∧ b < w.heap.size ∧ ∀ j, j < zs.length → w.cell? ⟨b, off + j, none⟩ = some (.int k (nth zs j)))

theorem Rd.below {k : IntKind} {w w' : World} {v : Value} {zs : List Int} {B : Nat} (h : Rd k w v zs) (hb : Below B w w') (hB : w.heap.size ≤ B) : Rd k w' v zs := by
  obtain ⟨a, cap, h1, h2, h3, h4⟩ := h
  refine ⟨a, cap, h1, h2, h3, fun hp => ?_⟩
  obtain ⟨b, off, e, hbw, hc⟩ := h4 hp
  exact ⟨b, off, e, Nat.lt_of_lt_of_le hbw hb.size, fun j hj => (hb.cell (p := ⟨b, off + j, none⟩) (Nat.lt_of_lt_of_le hbw hB)).trans (hc j hj)⟩

theorem Rd.self {k : IntKind} {w w' : World} {v : Value} {zs : List Int} (h : Rd k w v zs) (hb : Below w.heap.size w w') : Rd k w' v zs := h.below hb (Nat.le_refl _)

theorem rd_open {H : Type} {enc : TypeId × Value → H} {P : Program} {W : World} {held : Bool} {k : IntKind} {t e : TypeId} {base : Nat} {v : Value} {d : DataW H} {p : List MemPlace} {ts : List TypeId} {ds : List (DataW H)} {j : Nat}
    (ht : P.underlying t = some (.slice e)) (he : P.underlying e = some (.int k)) (hc : P.cellsOf e = 1) (hb : P.bytesOf e = k.bits / 8)
    (hv : Value.okWide P W .any base t v) (h : DataW.Trod enc P W 0 (fun _ => true) held t v d p) (hlt : ∀ x ∈ p, x.block < W.heap.size)
    (hsz : (DataW.weightsEach P ts ds).all (· ≤ reachBytes) = true) (hj : ts[j]? = some t) (hd : ds[j]? = some d) :
    ∃ zs, Rd k W v zs := by
  obtain ⟨a0, len, cap, rfl⟩ := okWide_slice ht hv
  obtain ⟨fuel, hf⟩ := h
  rcases open_ints ht he hc hf with ⟨hcs, hx⟩ | ⟨a, len', cap', zs, hcs, _, hl, hm, hz, hx, hcell, hwz⟩
  · simp [Value.cells] at hcs
    obtain ⟨rfl, rfl, rfl⟩ := hcs
    exact ⟨[], none, 0, rfl, by simp, by simp, by simp⟩
  · simp [Value.cells] at hcs
    obtain ⟨rfl, rfl, rfl⟩ := hcs
    simp only [Prod.mk.injEq] at hx
    obtain ⟨rfl, rfl⟩ := hx
    simp only [if_true] at hz
    have hreach := sized_slice hsz hj hd ht
    rw [hb] at hreach
    simp only [lits, List.length_map, List.length_take, List.length_drop, reachBytes] at hreach
    have hle : (zs.take len).length = len := by simp; omega
    refine ⟨zs.take len, some a, cap, by rw [hle], ?_, fun z hz' => hwz z (List.mem_of_mem_take hz'), fun hp => ?_⟩
    · rw [hle]
      refine Nat.le_trans (Nat.mul_le_mul_right _ ?_) hreach
      omega
    · rw [hle] at hp ⊢
      obtain ⟨b, off, spot⟩ := a
      have hspot : spot = none := by simpa [Addr.add] using World.cell?_spot (hcell 0 (by omega))
      subst hspot
      refine ⟨b, off, rfl, hlt (.cell b off) (MemPlace.mem_row.2 ⟨0, by omega, by simp⟩), fun j hj => ?_⟩
      have := hcell j (by omega)
      rw [add_plain] at this
      rw [this]
      simp [nth, List.getD, hj]

/-! ### slices of numbers that the call owns -/
def Own (k : IntKind) (B : Nat) (E : TypeId) (w : World) (v : Value) (zs : List Int) : Prop := w.ownsRow B E 1 v zs.length (zs.map (Value.int k))

theorem nth_of {zs : List Int} {j : Nat} (h : j < zs.length) : nth zs j = zs[j] := by simp [nth, List.getD, h]

theorem Own.part {k : IntKind} {B : Nat} {E : TypeId} {w : World} {v : Value} {zs : List Int} (h : Own k B E w v zs) (hp : 0 < zs.length) :
    ∃ g cap, v = .slice (some ⟨g, 0, none⟩) zs.length cap ∧ B ≤ g ∧ g < w.heap.size ∧ (∀ j, j < zs.length → w.cell? ⟨g, j, none⟩ = some (.int k (nth zs j))) ∧
      (∀ o, w.frozen? ⟨g, o, none⟩ = false) ∧ (∀ j z, j < zs.length → Own k B E (w.setCell ⟨g, j, none⟩ (.int k z)) v (zs.set j z)) := by
  obtain ⟨h1, h2⟩ := h
  rcases h2 with ⟨_, h0⟩ | ⟨g, cap, cur, rfl, hb, hg, hn, hcap, hsz, htake⟩
  · omega
  · have hlt : g < w.heap.size := (Array.getElem?_eq_some_iff.1 hg).1
    have hcell : ∀ j, j < zs.length → cur[j]? = some (.int k (nth zs j)) := fun j hj => by
      have e := congrArg (fun l => l[j]?) htake
      simp only [Nat.mul_one, List.getElem?_take, hj, if_true, List.getElem?_map, List.getElem?_eq_getElem hj, Option.map_some] at e
      rw [nth_of hj, ← e]; simp
    refine ⟨g, cap, rfl, hb, hlt, fun j hj => ?_, fun o => ?_, fun j z hj => ?_⟩
    · simp [World.cell?, hg, hcell j hj]
    · simp [World.frozen?, hg]
    · refine ⟨by simp, .inr ⟨g, cap, cur.setIfInBounds j (.int k z), by simp, hb, ?_, by simpa using hn, hcap, by simpa using hsz, ?_⟩⟩
      · simp [World.setCell, Array.getElem?_modify, hg]
      · simp only [Nat.mul_one, List.length_set, Array.toList_setIfInBounds, List.map_set] at htake ⊢
        rw [List.take_set, htake]

theorem Own.rd {k : IntKind} {B : Nat} {E : TypeId} {w : World} {v : Value} {zs : List Int} (h : Own k B E w v zs) (hb : zs.length * (k.bits / 8) ≤ 140737488351232) (hw : ∀ z ∈ zs, (Lit.int k z).wf = true) : Rd k w v zs := by
  by_cases hp : 0 < zs.length
  · obtain ⟨g, cap, rfl, _, hg, hc, _⟩ := h.part hp
    exact ⟨_, cap, rfl, hb, hw, fun _ => ⟨g, 0, rfl, hg, fun j hj => by rw [Nat.zero_add]; exact hc j hj⟩⟩
  · obtain ⟨h1, h2⟩ := h
    rcases h2 with ⟨rfl, h0⟩ | ⟨g, cap, cur, rfl, _⟩
    · exact ⟨none, 0, by rw [h0], hb, hw, fun h => absurd h hp⟩
    · exact ⟨_, cap, rfl, hb, hw, fun h => absurd h hp⟩

theorem Own.alloc {k : IntKind} {B : Nat} {E : TypeId} {w : World} {v : Value} {zs : List Int} (h : Own k B E w v zs) (o : Obj) : Own k B E (w.alloc o) v zs := World.ownsRow.alloc h o
theorem Own.drew {k : IntKind} {B : Nat} {E : TypeId} {w : World} {v : Value} {zs : List Int} (h : Own k B E w v zs) : Own k B E w.drew v zs := h
theorem own_nil (k : IntKind) (B : Nat) (E : TypeId) (w : World) : Own k B E w (.slice none 0 0) [] := World.ownsRow_nil w B E 1

theorem own_made {k : IntKind} {B : Nat} {E : TypeId} (w : World) (n : Nat) (hB : B ≤ w.heap.size) (hn : n ≤ maxLen) :
    Own k B E (w.alloc (.cells (madeCells #[.int k 0] n) E)) (.slice (some ⟨w.heap.size, 0, none⟩) n n) (List.replicate n 0) := by
  refine ⟨by simp, .inr ⟨w.heap.size, n, madeCells #[.int k 0] n, by simp, hB, heap_alloc_new w _, by simp, hn, by simp [size_madeCells], ?_⟩⟩
  apply List.ext_getElem
  · simp [size_madeCells]
  · intro i h1 h2
    simp [madeCells, Nat.mod_one]

/-- 'copy(dst, src)' where both are as long, dst being the call's own: it holds what src reads. -/
theorem wpList_copy_whole {P : Program} {w : World} {ops : Array Oper} {rest : List Oper} {o : Oper} {a : Act} {Q : Exit → Act → World → Prop} (hgd : o.guard = none) (d s : Operand) (dT sT : TypeId)
    (ho : o.op = .call { callee := .builtin .copy, args := #[d, s], argTypes := #[dT, sT] }) (E : TypeId) (hu : P.underlying dT = some (.slice E)) (hsz : (P.info? E).map (·.size) = some 1)
    (dv sv : Value) (hd : a.eval d = dv) (hs : a.eval s = sv) (k : IntKind) (B : Nat) (zd zs : List Int) (hown : Own k B E w dv zd) (hsrc : Rd k w sv zs) (hlen : zs.length = zd.length)
    (B0 : Nat) (w0 : World) (hb : Below B0 w0 w) (hBB : B0 ≤ B)
    (h : ∀ w', Own k B E w' dv zs → Below B0 w0 w' → wpList P ops Q rest (a.put o.dst (goInt zs.length)) w') : wpList P ops Q (o :: rest) a w := by
  obtain ⟨sa, scap, rfl, hlim, hwf, hc⟩ := hsrc
  by_cases hp : 0 < zs.length
  · obtain ⟨b, off, rfl, hbw, hc⟩ := hc hp
    obtain ⟨h1, h2⟩ := hown
    rcases h2 with ⟨_, h0⟩ | ⟨g, cap, cur, rfl, hgB, hg, hn, hcap, hcs, htake⟩
    · omega
    · simp only [Nat.mul_one] at hcs htake
      refine wpList_copy_splice hgd d s dT sT ho E hu hsz _ _ _ _ _ _ hd hs g 0 cur.toList E (by simpa using hg) (zs.map (Value.int k)) (by rw [List.length_map, ← hlen]; exact (Nat.min_self _).symm)
        (fun _ => ⟨rfl, ⟨b, off, none⟩, rfl, fun j v hj => ?_⟩) (by simp; omega) (by intro v hv; obtain ⟨z, _, rfl⟩ := List.mem_map.1 hv; rfl) B0 w0 hb (by omega) (fun w' hg' hb' => ?_)
      · simp only [List.getElem?_map, Option.map_eq_some_iff] at hj
        obtain ⟨z, hz, rfl⟩ := hj
        obtain ⟨hj, rfl⟩ := List.getElem?_eq_some_iff.1 hz
        rw [add_plain, hc j hj, nth_of hj]
      · rw [List.length_map]
        refine h w' ⟨by simp, .inr ⟨g, cap, (splice cur.toList 0 (zs.map (Value.int k))).toArray, by rw [hlen], hgB, hg'.out, by omega, hcap, ?_, ?_⟩⟩ hb'
        · rw [List.size_toArray, length_splice _ _ _ (by simp; omega)]; simp [hcs]
        · simp [splice]
  · obtain rfl : zs = [] := List.eq_nil_of_length_eq_zero (by omega)
    obtain rfl : zd = [] := List.eq_nil_of_length_eq_zero (by simpa using hlen.symm)
    have hdv : ∃ p n c, dv = .slice p n c := by
      obtain ⟨_, h2⟩ := hown
      rcases h2 with ⟨rfl, _⟩ | ⟨g, cap, cur, rfl, _⟩
      · exact ⟨_, _, _, rfl⟩
      · exact ⟨_, _, _, rfl⟩
    obtain ⟨p, n, c, rfl⟩ := hdv
    refine wpList_copy_nothing hgd d s dT sT ho E hu hsz _ _ _ _ _ _ hd hs (by simp) ?_
    exact h w hown hb

theorem run_make_ints {P : Program} (w : World) (k kl : IntKind) (t e : TypeId) (n : Nat) (ht : P.underlying t = some (.slice e))
    (hinfo : (P.info? e).map (fun i => (i.zero, i.size, i.bytes)) = some (some (.int k 0), 1, k.bits / 8)) (hn : n * (k.bits / 8) ≤ 140737488355328) (hk : 0 < k.bits / 8) :
    (Instr.makeSlice t (.int kl n) (.int kl n)).run P w = .ok (.slice (some ⟨w.heap.size, 0, none⟩) n n) (w.alloc (.cells (madeCells #[.int k 0] n) e)) := by
  obtain ⟨i0, hi, hz0, hz1, hz2⟩ := info_parts hinfo
  have hle : n ≤ n * (k.bits / 8) := Nat.le_mul_of_pos_right _ hk
  have := run_make (P := P) w t e i0 _ ht hi hz0 kl kl n n (by omega) (by omega) (by
    rw [hz2]
    have h1 : ((k.bits / 8 : Nat) : Int) * (n : Int) = ((n * (k.bits / 8) : Nat) : Int) := by rw [Int.natCast_mul, Int.mul_comm]
    rw [h1]; omega) (by omega)
  rw [this]
  simp [hz1, Value.cells]

/-! ### 'append' onto a slice that the call owns -/
theorem Own.lt {k : IntKind} {B : Nat} {E : TypeId} {w : World} {v : Value} {zs : List Int} (h : Own k B E w v zs) : ∀ j, v.ownBlock = some j → B ≤ j ∧ j < w.heap.size := World.ownsRow.lt h

theorem wp_append_ints {P : Program} {w : World} {o : Oper} {a : Act} {K : Act → World → Prop} {Q : Exit → Act → World → Prop} (s x : Operand) (t : TypeId)
    (ho : o.op = .call { callee := .builtin .append, args := #[s, x], argTypes := #[t, t] }) (k : IntKind) (B : Nat) (E : TypeId) (ht : P.underlying t = some (.slice E))
    (hinfo : (P.info? E).map (fun i => (i.zero, i.size, i.bytes)) = some (some (.int k 0), 1, k.bits / 8)) (hk : 0 < k.bits / 8)
    (sv : Value) (zs : List Int) (hs : a.eval s = sv) (hown : Own k B E w sv zs) (ad : Addr) (m c : Nat) (ns : List Int) (hx : a.eval x = .slice (some ad) m c) (hm : ns.length = m) (hns : ∀ j, j < m → w.cell? (ad.add j) = some (.int k (nth ns j)))
    (hlim : (zs.length + m) * (k.bits / 8) ≤ 140737488355328) (hB : B ≤ w.heap.size) (B0 : Nat) (w0 : World) (hb : Below B0 w0 w) (hBB : B0 ≤ B)
    (h : ∀ v' w', Own k B E w' v' (zs ++ ns) → Below B0 w0 w' → w.heap.size ≤ w'.heap.size → K (a.put o.dst v') w') : o.wp P a w K Q := by
  obtain ⟨i0, hi, hz0, hz1, hz2⟩ := info_parts hinfo
  have hle : zs.length + m ≤ (zs.length + m) * (k.bits / 8) := Nat.le_mul_of_pos_right _ hk
  refine wp_append_own w s x t ho B E i0 _ 1 (k.bits / 8) ht hi hz0 hz1 hz2 rfl (by decide) sv zs.length (zs.map (Value.int k)) hs hown ad m c (ns.map (Value.int k)) hx (by simp [hm]) ?_ (by intro u hu; obtain ⟨z, _, rfl⟩ := List.mem_map.1 hu; rfl) (by unfold maxLen; omega) hlim hB ?_
  · intro j u hj
    simp only [List.getElem?_map, Option.map_eq_some_iff] at hj
    obtain ⟨z, hz, rfl⟩ := hj
    obtain ⟨hj, rfl⟩ := List.getElem?_eq_some_iff.1 hz
    rw [hns j (by omega), nth_of hj]
  · intro v' w' h2 h3 _
    refine h v' w' ?_ (hb.grown h3 (by omega) (fun j hj => by have := (hown.lt j hj).1; omega)) h3.size
    unfold Own
    rw [List.length_append, List.map_append, hm]
    exact h2

theorem wpList_append_ints {P : Program} {w : World} {ops : Array Oper} {rest : List Oper} {o : Oper} {a : Act} {Q : Exit → Act → World → Prop} (hgd : o.guard = none) (s x : Operand) (t : TypeId)
    (ho : o.op = .call { callee := .builtin .append, args := #[s, x], argTypes := #[t, t] }) (k : IntKind) (B : Nat) (E : TypeId) (ht : P.underlying t = some (.slice E))
    (hinfo : (P.info? E).map (fun i => (i.zero, i.size, i.bytes)) = some (some (.int k 0), 1, k.bits / 8)) (hk : 0 < k.bits / 8)
    (sv : Value) (zs : List Int) (hs : a.eval s = sv) (hown : Own k B E w sv zs) (ad : Addr) (m c : Nat) (ns : List Int) (hx : a.eval x = .slice (some ad) m c) (hm : ns.length = m) (hns : ∀ j, j < m → w.cell? (ad.add j) = some (.int k (nth ns j)))
    (hlim : (zs.length + m) * (k.bits / 8) ≤ 140737488355328) (hB : B ≤ w.heap.size) (B0 : Nat) (w0 : World) (hb : Below B0 w0 w) (hBB : B0 ≤ B)
    (h : ∀ v' w', Own k B E w' v' (zs ++ ns) → Below B0 w0 w' → w.heap.size ≤ w'.heap.size → wpList P ops Q rest (a.put o.dst v') w') : wpList P ops Q (o :: rest) a w :=
  wpList_plain hgd fun _ hK => wp_append_ints s x t ho k B E ht hinfo hk sv zs hs hown ad m c ns hx hm hns hlim hB B0 w0 hb hBB fun v' w' h2 h3 h4 => hK _ _ (h v' w' h2 h3 h4)

theorem step_append_ints {P : Program} {ops : Array Oper} {o : Oper} {a : Act} {w : World} {K : Act → World → Prop} {Q : Exit → Act → World → Prop} {X : Prop} (hgd : o.guard = none) (s x : Operand) (t : TypeId)
    (ho : o.op = .call { callee := .builtin .append, args := #[s, x], argTypes := #[t, t] }) (k : IntKind) (B : Nat) (E : TypeId) (ht : P.underlying t = some (.slice E))
    (hinfo : (P.info? E).map (fun i => (i.zero, i.size, i.bytes)) = some (some (.int k 0), 1, k.bits / 8)) (hk : 0 < k.bits / 8)
    (sv : Value) (zs : List Int) (hs : a.eval s = sv) (hown : Own k B E w sv zs) (ad : Addr) (m c : Nat) (ns : List Int) (hx : a.eval x = .slice (some ad) m c) (hm : ns.length = m) (hns : ∀ j, j < m → w.cell? (ad.add j) = some (.int k (nth ns j)))
    (hlim : (zs.length + m) * (k.bits / 8) ≤ 140737488355328) (hB : B ≤ w.heap.size) (B0 : Nat) (w0 : World) (hb : Below B0 w0 w) (hBB : B0 ≤ B)
    (h : ∀ v' w', Own k B E w' v' (zs ++ ns) → Below B0 w0 w' → w.heap.size ≤ w'.heap.size → K (a.put o.dst v') w') :
    if Region.wanted o (yielded ops a.tmps) = true then Oper.wp P o a w K Q else X := by
  have hw : Region.wanted o (yielded ops a.tmps) = true := by simp [Region.wanted, hgd]
  rw [if_pos hw]
  exact wp_append_ints s x t ho k B E ht hinfo hk sv zs hs hown ad m c ns hx hm hns hlim hB B0 w0 hb hBB h

theorem own_empty {k : IntKind} {B : Nat} {E : TypeId} (w : World) (hB : B ≤ w.heap.size) :
    Own k B E (w.alloc (.cells #[] E)) (.slice (some ⟨w.heap.size, 0, none⟩) 0 0) [] :=
  World.ownsRow_made w #[] 0 hB (Nat.zero_le _) rfl
theorem nth_one (z : Int) : nth [z] 0 = z := rfl
theorem cell_new (w : World) (v : Value) (E : TypeId) : ∀ j, j < 1 → (w.alloc (.cells #[v] E)).cell? (Addr.add ⟨w.heap.size, 0, none⟩ j) = some v := by
  intro j hj
  obtain rfl : j = 0 := by omega
  have e := heap_alloc_new w (.cells #[v] E)
  simp only [World.cell?, Addr.add, if_true, e]
  rfl
theorem cell_new_int (w : World) (k : IntKind) (z : Int) (E : TypeId) : ∀ j, j < 1 → (w.alloc (.cells #[.int k z] E)).cell? (Addr.add ⟨w.heap.size, 0, none⟩ j) = some (.int k (nth [z] j)) := by
  intro j hj
  obtain rfl : j = 0 := by omega
  exact cell_new w _ E 0 hj

theorem run_append_zero {P : Program} (w : World) (t r : TypeId) (k : IntKind) (B : Nat) (E : TypeId) (ht : P.underlying t = some (.slice E)) (hsz : (P.info? E).map (·.size) = some 1)
    (sv : Value) (zs : List Int) (hown : Own k B E w sv zs) (p : Option Addr) (c : Nat) :
    (Builtin.append_ #[t, t] r #[sv, .slice p 0 c]).run P w = .ok sv w := by
  obtain ⟨i0, hi, _⟩ : ∃ i, P.info? E = some i ∧ i.size = 1 := by
    cases h : P.info? E with
    | none => simp [h] at hsz
    | some i => exact ⟨i, rfl, by simpa [h] using hsz⟩
  have key : ∀ (b : Option Addr) (n cap : Nat), n ≤ cap → (Builtin.append_ #[t, t] r #[.slice b n cap, .slice p 0 c]).run P w = .ok (.slice b n cap) w := by
    intro b n cap hn
    cases b <;> cases p <;> simp [Builtin.append_, run_underlying ht, sizeOf, typeInfo, hi, Builtin.lenOf, hn, Builtin.firstCells, loadCells, loadCellsFrom, storeCells]
  obtain ⟨_, h2⟩ := hown
  rcases h2 with ⟨rfl, _⟩ | ⟨g, cap, cur, rfl, _, _, hn, _⟩
  · exact key _ _ _ (Nat.le_refl _)
  · exact key _ _ _ (by simpa using hn)

theorem wp_append_rd {P : Program} {w : World} {o : Oper} {a : Act} {K : Act → World → Prop} {Q : Exit → Act → World → Prop} (s x : Operand) (t : TypeId)
    (ho : o.op = .call { callee := .builtin .append, args := #[s, x], argTypes := #[t, t] }) (k : IntKind) (B : Nat) (E : TypeId) (ht : P.underlying t = some (.slice E))
    (hinfo : (P.info? E).map (fun i => (i.zero, i.size, i.bytes)) = some (some (.int k 0), 1, k.bits / 8)) (hk : 0 < k.bits / 8)
    (sv : Value) (zs : List Int) (hs : a.eval s = sv) (hown : Own k B E w sv zs) (xv : Value) (ns : List Int) (hx : a.eval x = xv) (hrd : Rd k w xv ns)
    (hlim : (zs.length + ns.length) * (k.bits / 8) ≤ 140737488355328) (hB : B ≤ w.heap.size) (B0 : Nat) (w0 : World) (hb : Below B0 w0 w) (hBB : B0 ≤ B)
    (h : ∀ v' w', Own k B E w' v' (zs ++ ns) → Below B0 w0 w' → w.heap.size ≤ w'.heap.size → K (a.put o.dst v') w') : o.wp P a w K Q := by
  obtain ⟨sa, scap, rfl, hl, hwf, hc⟩ := hrd
  by_cases hp : 0 < ns.length
  · obtain ⟨b, off, rfl, hbw, hc⟩ := hc hp
    exact wp_append_ints s x t ho k B E ht hinfo hk sv zs hs hown ⟨b, off, none⟩ ns.length scap ns hx rfl (fun j hj => by rw [add_plain]; exact hc j hj) hlim hB B0 w0 hb hBB h
  · obtain rfl : ns = [] := List.eq_nil_of_length_eq_zero (by omega)
    obtain ⟨i0, hi, hz0, hz1, hz2⟩ := info_parts hinfo
    have hrun := run_append_zero (P := P) w t o.type k B E ht (by rw [hi]; simp [hz1]) sv zs hown sa scap
    unfold Oper.wp
    simp only [List.length_nil] at hx
    simp [execOp, ho, resolve, invoke, builtin, hs, hx, hrun, Result.andThen]
    exact h sv w (by simpa using hown) hb (Nat.le_refl _)

theorem wpList_append_rd {P : Program} {w : World} {ops : Array Oper} {rest : List Oper} {o : Oper} {a : Act} {Q : Exit → Act → World → Prop} (hgd : o.guard = none) (s x : Operand) (t : TypeId)
    (ho : o.op = .call { callee := .builtin .append, args := #[s, x], argTypes := #[t, t] }) (k : IntKind) (B : Nat) (E : TypeId) (ht : P.underlying t = some (.slice E))
    (hinfo : (P.info? E).map (fun i => (i.zero, i.size, i.bytes)) = some (some (.int k 0), 1, k.bits / 8)) (hk : 0 < k.bits / 8)
    (sv : Value) (zs : List Int) (hs : a.eval s = sv) (hown : Own k B E w sv zs) (xv : Value) (ns : List Int) (hx : a.eval x = xv) (hrd : Rd k w xv ns)
    (hlim : (zs.length + ns.length) * (k.bits / 8) ≤ 140737488355328) (hB : B ≤ w.heap.size) (B0 : Nat) (w0 : World) (hb : Below B0 w0 w) (hBB : B0 ≤ B)
    (h : ∀ v' w', Own k B E w' v' (zs ++ ns) → Below B0 w0 w' → w.heap.size ≤ w'.heap.size → wpList P ops Q rest (a.put o.dst v') w') : wpList P ops Q (o :: rest) a w :=
  wpList_plain hgd fun _ hK => wp_append_rd s x t ho k B E ht hinfo hk sv zs hs hown xv ns hx hrd hlim hB B0 w0 hb hBB fun v' w' h2 h3 h4 => hK _ _ (h v' w' h2 h3 h4)

theorem Own.noRow {k : IntKind} {B : Nat} {E : TypeId} {w : World} {v : Value} {zs : List Int} (h : Own k B E w v zs) : ∃ p cap, v = .slice p zs.length cap := by
  obtain ⟨_, h2⟩ := h
  rcases h2 with ⟨rfl, h0⟩ | ⟨g, cap, cur, rfl, _⟩
  · exact ⟨none, 0, by rw [h0]⟩
  · exact ⟨_, _, rfl⟩

theorem set_fill {l : List Int} {n j : Nat} (hl : l.length = j) (hj : j < n) (z : Int) : (l ++ List.replicate (n - j) 0).set j z = (l ++ [z]) ++ List.replicate (n - (j + 1)) 0 := by
  obtain ⟨m, hm⟩ : ∃ m, n - j = m + 1 := ⟨n - j - 1, by omega⟩
  rw [hm, show n - (j + 1) = m by omega, List.replicate_succ, List.set_append_right _ _ (by omega)]
  simp [hl]

theorem cell_new_int_drew (w : World) (k : IntKind) (z : Int) (E : TypeId) : ∀ j, j < 1 → (w.alloc (.cells #[.int k z] E)).drew.cell? (Addr.add ⟨w.heap.size, 0, none⟩ j) = some (.int k (nth [z] j)) :=
  cell_new_int w k z E

theorem Own.slice {k : IntKind} {B : Nat} {E : TypeId} {w : World} {v : Value} {zs : List Int} (h : Own k B E w v zs) :
    ∃ p cap, v = .slice p zs.length cap ∧ zs.length ≤ cap ∧ (0 < zs.length → ∃ g, p = some ⟨g, 0, none⟩ ∧ B ≤ g ∧ g < w.heap.size) := by
  have hlt := h.lt
  obtain ⟨_, h2⟩ := h
  rcases h2 with ⟨rfl, h0⟩ | ⟨g, cap, cur, rfl, hg, _, hc, _⟩
  · exact ⟨none, 0, by rw [h0], by omega, by omega⟩
  · exact ⟨_, _, rfl, hc, fun _ => ⟨g, rfl, hg, (hlt g rfl).2⟩⟩

theorem rd_new {k : IntKind} (w : World) (E : TypeId) (zs : List Int) (cs : Array Value) (n : Nat) (hcs : cs = (zs.map (Value.int k)).toArray) (hn : n = zs.length) (hlim : zs.length * (k.bits / 8) ≤ 140737488351232) (hw : ∀ z ∈ zs, (Lit.int k z).wf = true) :
    Rd k (w.alloc (.cells cs E)) (.slice (some ⟨w.heap.size, 0, none⟩) n n) zs := by
  subst hcs; subst hn
  refine ⟨_, zs.length, rfl, hlim, hw, fun _ => ⟨w.heap.size, 0, rfl, by simp, fun j hj => ?_⟩⟩
  have e := heap_alloc_new w (.cells (zs.map (Value.int k)).toArray E)
  simp only [World.cell?, e, Nat.zero_add]
  simp [nth_of hj, hj]

theorem wfs_of {k : IntKind} {w : World} {v : Value} {zs : List Int} (h : Rd k w v zs) : ∀ z ∈ zs, (Lit.int k z).wf = true := by
  obtain ⟨_, _, _, _, h, _⟩ := h
  exact h

theorem run_conv_rd {P : Program} {w : World} {v : Value} {zs : List Int} {src e : TypeId} (h : Rd .u8 w v zs) (hs : P.underlying src = some (.slice e)) (he : P.underlying e = some (.int .u8)) (dst : TypeId) (hd : P.underlying dst = some .string) :
    (convert src dst v).run P w = .ok (.string (strOfNums zs)) w := by
  obtain ⟨a, cap, rfl, _, _, hc⟩ := h
  by_cases hp : 0 < zs.length
  · obtain ⟨b, off, rfl, _, hc⟩ := hc hp
    exact run_convert_bytes_arg w src e hs he b off zs.length cap zs rfl (fun i hi => hc i hi) dst hd
  · obtain rfl : zs = [] := List.eq_nil_of_length_eq_zero (by omega)
    rw [run_convert_bytes_string w src dst e _ _ _ hs he hd]
    cases a with
    | none => simp [Conv.bytesToString, strOfNums]; rfl
    | some a =>
      have hl : (loadCells a 0).run P w = .ok (([] : List Int).map (Value.int .u8)).toArray w := by simp [loadCells, loadCellsFrom]
      exact run_bytesToString w a 0 cap [] hl

theorem toList_loop (b : ByteArray) : ∀ (n i : Nat) (r : List UInt8), b.size - i = n → ByteArray.toList.loop b i r = r.reverse ++ b.data.toList.drop i := by
  intro n
  induction n with
  | zero =>
    intro i r h
    unfold ByteArray.toList.loop
    rw [if_neg (by omega)]
    rw [List.drop_eq_nil_of_le (by have : b.data.toList.length = b.size := rfl; omega)]
    simp
  | succ n ih =>
    intro i r h
    unfold ByteArray.toList.loop
    have hi : i < b.data.toList.length := by have : b.data.toList.length = b.size := rfl; omega
    rw [if_pos (by omega), ih _ _ (by omega), List.drop_eq_getElem_cons hi]
    simp [ByteArray.get!]
    rw [getElem!_pos _ _ (by simpa using hi)]
theorem toList_data (b : ByteArray) : b.toList = b.data.toList := by
  unfold ByteArray.toList
  rw [toList_loop b _ 0 [] rfl]
  simp

theorem strOfNums_eq {xs ys : List Int} (hx : ∀ z ∈ xs, (Lit.int .u8 z).wf = true) (hy : ∀ z ∈ ys, (Lit.int .u8 z).wf = true) :
    ((strOfNums xs).toList == (strOfNums ys).toList) = decide (xs = ys) := by
  have key : strOfNums xs = strOfNums ys ↔ xs = ys := by
    constructor
    · intro h
      have h1 : xs.map (fun n => UInt8.ofNat n.toNat) = ys.map (fun n => UInt8.ofNat n.toNat) := by
        have := congrArg (fun s : ByteArray => s.data.toList) h
        simpa [strOfNums_data] using this
      have h2 : ∀ (zs : List Int), (∀ z ∈ zs, (Lit.int .u8 z).wf = true) → (zs.map (fun n => UInt8.ofNat n.toNat)).map (fun b => (b.toNat : Int)) = zs := by
        intro zs hz
        rw [List.map_map]
        conv => rhs; rw [← List.map_id zs]
        refine List.map_congr_left fun z hm => ?_
        have := bounds_u8 (hz z hm)
        simp only [Function.comp, UInt8.toNat_ofNat', id]
        omega
      rw [← h2 xs hx, ← h2 ys hy, h1]
    · rintro rfl; rfl
  have key2 : (strOfNums xs).toList = (strOfNums ys).toList ↔ xs = ys := by
    rw [toList_data, toList_data, ← key]
    exact ⟨fun h => WideShapes.bytes_inj h, fun h => by rw [h]⟩
  rw [Bool.eq_iff_iff]
  simp only [beq_iff_eq, decide_eq_true_eq, key2]
end Go.Proofs.Ytnklljlgghenpaa
