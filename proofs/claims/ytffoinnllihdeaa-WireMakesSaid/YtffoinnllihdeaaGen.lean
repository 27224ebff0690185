import Derived.WalkKit
import Derived.ProofKit
import Derived.OpenShut
import Derived.SizedLaws
import Derived.BigQuiet
import Derived.Deep.QuietTactic
import Derived.Deep.RegionLaw
import Derived.Laws.CopyOwn
import GoSem.ClaimJoined
import Derived.Deep.Slices
import Derived.Deep.Fields
import Derived.Laws.Rows
import Derived.Laws.Tables
import Derived.Laws.StructEq
import Derived.ChangeKeysEq
import Derived.Deep.WholeRow
import Derived.Deep.RegionHeld3
import Derived.BigRegion
import Derived.StillTailTactics
import Derived.ArgAppend
import Derived.Deep.AppendLies
import Derived.Deep.MidRow
import Derived.Lib.AppendZerosOnto
import Derived.Deep.Matrix
import Derived.Laws.IdiomArrays
import Derived.Deep.RegionHeld
/- General words and lemmas for the laws of this seat: byte slices read and owned, and a law's row from its contract. No program is named. -/
namespace Go.Proofs.Ytffoinnllihdeaa
open Go.ChangeShapes Go.WideShapes Go.ChangeAt Go.RowKit

/-- An act's slots laid out: one name for simp, so that no linter asks which of them a step used. -/
theorem lay_out {α : Type} : (∀ (l : List α) (i : Nat) (h : i < l.toArray.size), l.toArray[i]'h = l[i]'(by simpa using h)) ∧ (∀ (a : α) (l : List α) (h : 0 < (a :: l).length), (a :: l)[0]'h = a) ∧
    (∀ (a : α) (l : List α) (i : Nat) (h : i + 1 < (a :: l).length), (a :: l)[i + 1]'h = l[i]'(by simpa using h)) ∧ (∀ (l : List α) (i : Nat) (v : α), l.toArray.setIfInBounds i v = (l.set i v).toArray) ∧
    (∀ (a : α) (l : List α) (v : α), (a :: l).set 0 v = v :: l) ∧ (∀ (a : α) (l : List α) (i : Nat) (v : α), (a :: l).set (i + 1) v = a :: l.set i v) :=
  ⟨fun _ _ _ => by simp, fun _ _ _ => rfl, fun _ _ _ _ => rfl, fun _ _ _ => by simp, fun _ _ _ => rfl, fun _ _ _ _ => rfl⟩

theorem hid {p : Prop} (h : p) : Hid p := h
theorem ret_int {k : IntKind} {a b : Int} (h : a = b) : Ending.returned (.int k a) = .returned (.int k b) := by rw [h]
theorem ret_bool {a b : Bool} (h : a = b) : Ending.returned (.bool a) = .returned (.bool b) := by rw [h]

section row
variable {H : Type} {enc : TypeId × Value → H} {P : Program}

theorem trodAll_len {W : World} {base : Nat} {sp : Nat → Bool} {held : Bool} : ∀ {ts : List TypeId} {vs : List Value} {ds : List (DataW H)} {p : List MemPlace},
    DataW.TrodAll enc P W base sp held ts vs ds p → ds.length = ts.length
  | [], [], [], _, _ => rfl
  | _ :: _, _ :: _, _ :: _, _, ⟨_, _, _, h, _⟩ => by simp [trodAll_len h]
  | [], [], _ :: _, _, h => h.elim
  | [], _ :: _, _, _, h => by cases h
  | _ :: _, [], _, _, h => by cases h
  | _ :: _, _ :: _, [], _, h => by cases h

theorem trodAll_stays {W W' : World} (hl : laidOutB P = true) (hb : Below W.heap.size W W') :
    ∀ {ts : List TypeId} {vs : List Value} {ds : List (DataW H)} {p : List MemPlace}, (∀ t ∈ ts, P.readableRec t = true ∧ t < P.types.size) →
    DataW.TrodAll enc P W 0 (fun _ => true) true ts vs ds p → (∀ x ∈ p, x.block < W.heap.size) →
    DataW.TrodAll enc P W' 0 (fun b => decide (b < W.heap.size)) true ts vs ds p
  | [], [], [], _, _, h, _ => h
  | t :: ts, v :: vs, d :: ds, p, hts, ⟨a, b, h1, h2, e⟩, hlt => by
    subst e
    exact ⟨a, b, Below.trod hl (hts t (by simp)).1 (hts t (by simp)).2 h1 hb (fun x hx => hlt x (List.mem_append.2 (.inl hx))),
      trodAll_stays hl hb (fun t' ht => hts t' (by simp [ht])) h2 (fun x hx => hlt x (List.mem_append.2 (.inr hx))), rfl⟩
  | [], [], _ :: _, _, _, h, _ => h.elim
  | [], _ :: _, _, _, _, h, _ => by cases h
  | _ :: _, [], _, _, _, h, _ => by cases h
  | _ :: _, _ :: _, [], _, _, h, _ => by cases h

/-- What a law owes: from any world, with any arguments that can be read, it returns true, and nothing that was there has turned. -/
def LawCore (H : Type) (enc : TypeId × Value → H) (P : Program) (f : FuncId) (ts : List TypeId) : Prop :=
  ∀ (W : World) (base : Nat) (args : Array Value) (ds : List (DataW H)) (p : List MemPlace),
    (∀ (j : Nat) t v, ts[j]? = some t → args[j]? = some v → Value.okWide P W .any base t v) →
    DataW.TrodAll enc P W 0 (fun _ => true) true ts args.toList ds p → (∀ x ∈ p, x.block < W.heap.size) → W.noneFrozen p →
    (DataW.weightsEach P ts ds).all (· ≤ reachBytes) = true →
    Calls P f args W fun e W' => e = .returned (.bool true) ∧ Below W.heap.size W W'

theorem law_lifted {C : Checked} {os : Os} {f : FuncId} {fn : Func} {s : ChangeSpec} {conds : List PathCond} {bt : TypeId}
    (own : ownKnob C.prog.godebug = none) (started : os.Started) (noInit : C.prog.inits.idxOf? f = none) (hfn : C.prog.funcs[f]? = some fn)
    (witness : ∃ (w : World) (tape : Tape) (i : Input), w.os = os ∧ (w.forCall tape i).Shaped C.prog ∧ i.vars = [] ∧ Input.okWide C.prog (w.forCall tape i) .any w.heap.size f i ∧
      s.pre6 enc C.prog fn conds false (w.forCall tape i).memory i.args ∧ ({} : Assume).holds C.prog (lone (Frame.enter C.prog f i.args .normal) [] (w.forCall tape i)))
    (hl : laidOutB C.prog = true) (hts : ∀ t ∈ fn.params.toList, C.prog.readableRec t = true ∧ t < C.prog.types.size)
    (hr : fn.resultTypes = #[bt]) (hbt : C.prog.underlying bt = some .bool) (hv : s.vars = [])
    (hs : ∀ ds : List (DataW H), ds.length = fn.params.size → s.fn H ds = { results := [.lit (.bool true)], args := ds })
    (core : LawCore H enc C.prog f fn.params.toList) :
    ReturnsInHanded {} C os f .any (s.pre6 enc C.prog fn conds false) (s.post enc C.prog fn false true false false) := by
  refine returnsInHanded_of_change_sized own started noInit hfn witness ?_
  intro W base args ds gs before hval hW hcnd hsz _
  have hW' := hW
  obtain ⟨p, q, hA, hV, rfl, hfz, hnd⟩ := hW
  rw [hv] at hV
  obtain ⟨rfl, rfl⟩ := trodVars_none hV
  have hvt : DataSpec.varTypes C.prog s.plain = [] := by simp [ChangeSpec.plain, DataSpec.varTypes, hv]
  rw [hvt, List.append_nil, List.append_nil] at hsz
  have hlt : ∀ x ∈ p, x.block < W.heap.size := fun x hx => by
    have := hW'.lt x (by simpa using hx); simpa using this
  have hlen : ds.length = fn.params.size := by simpa using trodAll_len hA
  refine (core W base args ds p (fun j t v h1 h2 => hval j t v (by simpa using h1) h2) hA hlt (by simpa using hfz) hsz).mono fun e W' ⟨he, hb⟩ => ?_
  refine ⟨_, he, ds, [], p ++ [], [], p, [], hW', ?_, ?_, ?_, hb.frame _, fun h => by cases h⟩
  · simp only [List.append_nil, hs ds hlen, hr]
    exact trodAll_cons_mk (shut_bool hbt true) rfl
  · simp only [List.append_nil, hs ds hlen]
    exact trodAll_stays hl hb hts hA hlt
  · simp only [List.append_nil, hs ds hlen, hv]
    rfl
end row

/-! ### slices of numbers that are read -/
/-- The number at a place, kept whole from the walk's simp. -/
def nth (zs : List Int) (j : Nat) : Int := zs.getD j 0
/-- v reads, in w, as the numbers zs of kind k. -/
def Rd (k : IntKind) (w : World) (v : Value) (zs : List Int) : Prop :=
  ∃ a cap, v = .slice a zs.length cap ∧ zs.length * (k.bits / 8) ≤ 140737488351232 ∧ (∀ z ∈ zs, (Lit.int k z).wf = true) ∧
    (0 < zs.length → ∃ b off, a = some ⟨b, off, none⟩ ∧ b < w.heap.size ∧ ∀ j, j < zs.length → w.cell? ⟨b, off + j, none⟩ = some (.int k (nth zs j)))

theorem Rd.below {k : IntKind} {w w' : World} {v : Value} {zs : List Int} {B : Nat} (h : Rd k w v zs) (hb : Below B w w') (hB : w.heap.size ≤ B) : Rd k w' v zs := by
  obtain ⟨a, cap, h1, h2, h3, h4⟩ := h
  refine ⟨a, cap, h1, h2, h3, fun hp => ?_⟩
  obtain ⟨b, off, e, hbw, hc⟩ := h4 hp
  exact ⟨b, off, e, Nat.lt_of_lt_of_le hbw hb.size, fun j hj => (hb.cell (p := ⟨b, off + j, none⟩) (Nat.lt_of_lt_of_le hbw hB)).trans (hc j hj)⟩

theorem Rd.self {k : IntKind} {w w' : World} {v : Value} {zs : List Int} (h : Rd k w v zs) (hb : Below w.heap.size w w') : Rd k w' v zs := h.below hb (Nat.le_refl _)

theorem rd_open {H : Type} {enc : TypeId × Value → H} {P : Program} {W : World} {held : Bool} {k : IntKind} {t e : TypeId} {base : Nat} {v : Value} {d : DataW H} {p : List MemPlace} {ts : List TypeId} {ds : List (DataW H)} {j : Nat}
    (ht : P.underlying t = some (.slice e)) (he : P.underlying e = some (.int k)) (hc : P.cellsOf e = 1) (hb : P.bytesOf e = k.bits / 8)
    (hv : Value.okWide P W .any base t v) (h : DataW.Trod enc P W 0 (fun _ => true) held t v d p) (hlt : ∀ x ∈ p, x.block < W.heap.size)
    (hsz : (DataW.weightsEach P ts ds).all (· ≤ reachBytes) = true) (hj : ts[j]? = some t) (hd : ds[j]? = some d) :
    ∃ zs, Rd k W v zs := by
  obtain ⟨a0, len, cap, rfl⟩ := okWide_slice ht hv
  obtain ⟨fuel, hf⟩ := h
  rcases open_ints ht he hc hf with ⟨hcs, hx⟩ | ⟨a, len', cap', zs, hcs, _, hl, hm, hz, hx, hcell, hwz⟩
  · simp [Value.cells] at hcs
    obtain ⟨rfl, rfl, rfl⟩ := hcs
    exact ⟨[], none, 0, rfl, by simp, by simp, by simp⟩
  · simp [Value.cells] at hcs
    obtain ⟨rfl, rfl, rfl⟩ := hcs
    simp only [Prod.mk.injEq] at hx
    obtain ⟨rfl, rfl⟩ := hx
    simp only [if_true] at hz
    have hreach := sized_slice hsz hj hd ht
    rw [hb] at hreach
    simp only [lits, List.length_map, List.length_take, List.length_drop, reachBytes] at hreach
    have hle : (zs.take len).length = len := by simp; omega
    refine ⟨zs.take len, some a, cap, by rw [hle], ?_, fun z hz' => hwz z (List.mem_of_mem_take hz'), fun hp => ?_⟩
    · rw [hle]
      refine Nat.le_trans (Nat.mul_le_mul_right _ ?_) hreach
      omega
    · rw [hle] at hp ⊢
      obtain ⟨b, off, spot⟩ := a
      have hspot : spot = none := by simpa [Addr.add] using World.cell?_spot (hcell 0 (by omega))
      subst hspot
      refine ⟨b, off, rfl, hlt (.cell b off) (MemPlace.mem_row.2 ⟨0, by omega, by simp⟩), fun j hj => ?_⟩
      have := hcell j (by omega)
      rw [add_plain] at this
      rw [this]
      simp [nth, List.getD, hj]

/-! ### slices of numbers that the call owns -/
def Own (k : IntKind) (B : Nat) (E : TypeId) (w : World) (v : Value) (zs : List Int) : Prop := w.ownsRow B E 1 v zs.length (zs.map (Value.int k))

theorem nth_of {zs : List Int} {j : Nat} (h : j < zs.length) : nth zs j = zs[j] := by simp [nth, List.getD, h]

theorem Own.part {k : IntKind} {B : Nat} {E : TypeId} {w : World} {v : Value} {zs : List Int} (h : Own k B E w v zs) (hp : 0 < zs.length) :
    ∃ g cap, v = .slice (some ⟨g, 0, none⟩) zs.length cap ∧ B ≤ g ∧ g < w.heap.size ∧ (∀ j, j < zs.length → w.cell? ⟨g, j, none⟩ = some (.int k (nth zs j))) ∧
      (∀ o, w.frozen? ⟨g, o, none⟩ = false) ∧ (∀ j z, j < zs.length → Own k B E (w.setCell ⟨g, j, none⟩ (.int k z)) v (zs.set j z)) := by
  obtain ⟨h1, h2⟩ := h
  rcases h2 with ⟨_, h0⟩ | ⟨g, cap, cur, rfl, hb, hg, hn, hcap, hsz, htake⟩
  · omega
  · have hlt : g < w.heap.size := (Array.getElem?_eq_some_iff.1 hg).1
    have hcell : ∀ j, j < zs.length → cur[j]? = some (.int k (nth zs j)) := fun j hj => by
      have e := congrArg (fun l => l[j]?) htake
      simp only [Nat.mul_one, List.getElem?_take, hj, if_true, List.getElem?_map, List.getElem?_eq_getElem hj, Option.map_some] at e
      rw [nth_of hj, ← e]; simp
    refine ⟨g, cap, rfl, hb, hlt, fun j hj => ?_, fun o => ?_, fun j z hj => ?_⟩
    · simp [World.cell?, hg, hcell j hj]
    · simp [World.frozen?, hg]
    · refine ⟨by simp, .inr ⟨g, cap, cur.setIfInBounds j (.int k z), by simp, hb, ?_, by simpa using hn, hcap, by simpa using hsz, ?_⟩⟩
      · simp [World.setCell, Array.getElem?_modify, hg]
      · simp only [Nat.mul_one, List.length_set, Array.toList_setIfInBounds, List.map_set] at htake ⊢
        rw [List.take_set, htake]

theorem Own.rd {k : IntKind} {B : Nat} {E : TypeId} {w : World} {v : Value} {zs : List Int} (h : Own k B E w v zs) (hb : zs.length * (k.bits / 8) ≤ 140737488351232) (hw : ∀ z ∈ zs, (Lit.int k z).wf = true) : Rd k w v zs := by
  by_cases hp : 0 < zs.length
  · obtain ⟨g, cap, rfl, _, hg, hc, _⟩ := h.part hp
    exact ⟨_, cap, rfl, hb, hw, fun _ => ⟨g, 0, rfl, hg, fun j hj => by rw [Nat.zero_add]; exact hc j hj⟩⟩
  · obtain ⟨h1, h2⟩ := h
    rcases h2 with ⟨rfl, h0⟩ | ⟨g, cap, cur, rfl, _⟩
    · exact ⟨none, 0, by rw [h0], hb, hw, fun h => absurd h hp⟩
    · exact ⟨_, cap, rfl, hb, hw, fun h => absurd h hp⟩

theorem Own.alloc {k : IntKind} {B : Nat} {E : TypeId} {w : World} {v : Value} {zs : List Int} (h : Own k B E w v zs) (o : Obj) : Own k B E (w.alloc o) v zs := World.ownsRow.alloc h o
theorem Own.drew {k : IntKind} {B : Nat} {E : TypeId} {w : World} {v : Value} {zs : List Int} (h : Own k B E w v zs) : Own k B E w.drew v zs := h
theorem own_nil (k : IntKind) (B : Nat) (E : TypeId) (w : World) : Own k B E w (.slice none 0 0) [] := World.ownsRow_nil w B E 1

theorem own_made {k : IntKind} {B : Nat} {E : TypeId} (w : World) (n : Nat) (hB : B ≤ w.heap.size) (hn : n ≤ maxLen) :
    Own k B E (w.alloc (.cells (madeCells #[.int k 0] n) E)) (.slice (some ⟨w.heap.size, 0, none⟩) n n) (List.replicate n 0) := by
  refine ⟨by simp, .inr ⟨w.heap.size, n, madeCells #[.int k 0] n, by simp, hB, heap_alloc_new w _, by simp, hn, by simp [size_madeCells], ?_⟩⟩
  apply List.ext_getElem
  · simp [size_madeCells]
  · intro i h1 h2
    simp [madeCells, Nat.mod_one]

/-- 'copy(dst, src)' where both are as long, dst being the call's own: it holds what src reads. -/
theorem wpList_copy_whole {P : Program} {w : World} {ops : Array Oper} {rest : List Oper} {o : Oper} {a : Act} {Q : Exit → Act → World → Prop} (hgd : o.guard = none) (d s : Operand) (dT sT : TypeId)
    (ho : o.op = .call { callee := .builtin .copy, args := #[d, s], argTypes := #[dT, sT] }) (E : TypeId) (hu : P.underlying dT = some (.slice E)) (hsz : (P.info? E).map (·.size) = some 1)
    (dv sv : Value) (hd : a.eval d = dv) (hs : a.eval s = sv) (k : IntKind) (B : Nat) (zd zs : List Int) (hown : Own k B E w dv zd) (hsrc : Rd k w sv zs) (hlen : zs.length = zd.length)
    (B0 : Nat) (w0 : World) (hb : Below B0 w0 w) (hBB : B0 ≤ B)
    (h : ∀ w', Own k B E w' dv zs → Below B0 w0 w' → wpList P ops Q rest (a.put o.dst (goInt zs.length)) w') : wpList P ops Q (o :: rest) a w := by
  obtain ⟨sa, scap, rfl, hlim, hwf, hc⟩ := hsrc
  by_cases hp : 0 < zs.length
  · obtain ⟨b, off, rfl, hbw, hc⟩ := hc hp
    obtain ⟨h1, h2⟩ := hown
    rcases h2 with ⟨_, h0⟩ | ⟨g, cap, cur, rfl, hgB, hg, hn, hcap, hcs, htake⟩
    · omega
    · simp only [Nat.mul_one] at hcs htake
      refine wpList_copy_splice hgd d s dT sT ho E hu hsz _ _ _ _ _ _ hd hs g 0 cur.toList E (by simpa using hg) (zs.map (Value.int k)) (by rw [List.length_map, ← hlen]; exact (Nat.min_self _).symm)
        (fun _ => ⟨rfl, ⟨b, off, none⟩, rfl, fun j v hj => ?_⟩) (by simp; omega) (by intro v hv; obtain ⟨z, _, rfl⟩ := List.mem_map.1 hv; rfl) B0 w0 hb (by omega) (fun w' hg' hb' => ?_)
      · simp only [List.getElem?_map, Option.map_eq_some_iff] at hj
        obtain ⟨z, hz, rfl⟩ := hj
        obtain ⟨hj, rfl⟩ := List.getElem?_eq_some_iff.1 hz
        rw [add_plain, hc j hj, nth_of hj]
      · rw [List.length_map]
        refine h w' ⟨by simp, .inr ⟨g, cap, (splice cur.toList 0 (zs.map (Value.int k))).toArray, by rw [hlen], hgB, hg'.out, by omega, hcap, ?_, ?_⟩⟩ hb'
        · rw [List.size_toArray, length_splice _ _ _ (by simp; omega)]; simp [hcs]
        · simp [splice]
  · obtain rfl : zs = [] := List.eq_nil_of_length_eq_zero (by omega)
    obtain rfl : zd = [] := List.eq_nil_of_length_eq_zero (by simpa using hlen.symm)
    have hdv : ∃ p n c, dv = .slice p n c := by
      obtain ⟨_, h2⟩ := hown
      rcases h2 with ⟨rfl, _⟩ | ⟨g, cap, cur, rfl, _⟩
      · exact ⟨_, _, _, rfl⟩
      · exact ⟨_, _, _, rfl⟩
    obtain ⟨p, n, c, rfl⟩ := hdv
    refine wpList_copy_nothing hgd d s dT sT ho E hu hsz _ _ _ _ _ _ hd hs (by simp) ?_
    exact h w hown hb

theorem run_make_ints {P : Program} (w : World) (k kl : IntKind) (t e : TypeId) (n : Nat) (ht : P.underlying t = some (.slice e))
    (hinfo : (P.info? e).map (fun i => (i.zero, i.size, i.bytes)) = some (some (.int k 0), 1, k.bits / 8)) (hn : n * (k.bits / 8) ≤ 140737488355328) (hk : 0 < k.bits / 8) :
    (Instr.makeSlice t (.int kl n) (.int kl n)).run P w = .ok (.slice (some ⟨w.heap.size, 0, none⟩) n n) (w.alloc (.cells (madeCells #[.int k 0] n) e)) := by
  obtain ⟨i0, hi, hz0, hz1, hz2⟩ := info_parts hinfo
  have hle : n ≤ n * (k.bits / 8) := Nat.le_mul_of_pos_right _ hk
  have := run_make (P := P) w t e i0 _ ht hi hz0 kl kl n n (by omega) (by omega) (by
    rw [hz2]
    have h1 : ((k.bits / 8 : Nat) : Int) * (n : Int) = ((n * (k.bits / 8) : Nat) : Int) := by rw [Int.natCast_mul, Int.mul_comm]
    rw [h1]; omega) (by omega)
  rw [this]
  simp [hz1, Value.cells]

/-! ### 'append' onto a slice that the call owns -/
theorem Own.lt {k : IntKind} {B : Nat} {E : TypeId} {w : World} {v : Value} {zs : List Int} (h : Own k B E w v zs) : ∀ j, v.ownBlock = some j → B ≤ j ∧ j < w.heap.size := World.ownsRow.lt h

theorem wp_append_ints {P : Program} {w : World} {o : Oper} {a : Act} {K : Act → World → Prop} {Q : Exit → Act → World → Prop} (s x : Operand) (t : TypeId)
    (ho : o.op = .call { callee := .builtin .append, args := #[s, x], argTypes := #[t, t] }) (k : IntKind) (B : Nat) (E : TypeId) (ht : P.underlying t = some (.slice E))
    (hinfo : (P.info? E).map (fun i => (i.zero, i.size, i.bytes)) = some (some (.int k 0), 1, k.bits / 8)) (hk : 0 < k.bits / 8)
    (sv : Value) (zs : List Int) (hs : a.eval s = sv) (hown : Own k B E w sv zs) (ad : Addr) (m c : Nat) (ns : List Int) (hx : a.eval x = .slice (some ad) m c) (hm : ns.length = m) (hns : ∀ j, j < m → w.cell? (ad.add j) = some (.int k (nth ns j)))
    (hlim : (zs.length + m) * (k.bits / 8) ≤ 140737488355328) (hB : B ≤ w.heap.size) (B0 : Nat) (w0 : World) (hb : Below B0 w0 w) (hBB : B0 ≤ B)
    (h : ∀ v' w', Own k B E w' v' (zs ++ ns) → Below B0 w0 w' → w.heap.size ≤ w'.heap.size → K (a.put o.dst v') w') : o.wp P a w K Q := by
  obtain ⟨i0, hi, hz0, hz1, hz2⟩ := info_parts hinfo
  have hle : zs.length + m ≤ (zs.length + m) * (k.bits / 8) := Nat.le_mul_of_pos_right _ hk
  refine wp_append_own w s x t ho B E i0 _ 1 (k.bits / 8) ht hi hz0 hz1 hz2 rfl (by decide) sv zs.length (zs.map (Value.int k)) hs hown ad m c (ns.map (Value.int k)) hx (by simp [hm]) ?_ (by intro u hu; obtain ⟨z, _, rfl⟩ := List.mem_map.1 hu; rfl) (by unfold maxLen; omega) hlim hB ?_
  · intro j u hj
    simp only [List.getElem?_map, Option.map_eq_some_iff] at hj
    obtain ⟨z, hz, rfl⟩ := hj
    obtain ⟨hj, rfl⟩ := List.getElem?_eq_some_iff.1 hz
    rw [hns j (by omega), nth_of hj]
  · intro v' w' h2 h3 _
    refine h v' w' ?_ (hb.grown h3 (by omega) (fun j hj => by have := (hown.lt j hj).1; omega)) h3.size
    unfold Own
    rw [List.length_append, List.map_append, hm]
    exact h2

theorem wpList_append_ints {P : Program} {w : World} {ops : Array Oper} {rest : List Oper} {o : Oper} {a : Act} {Q : Exit → Act → World → Prop} (hgd : o.guard = none) (s x : Operand) (t : TypeId)
    (ho : o.op = .call { callee := .builtin .append, args := #[s, x], argTypes := #[t, t] }) (k : IntKind) (B : Nat) (E : TypeId) (ht : P.underlying t = some (.slice E))
    (hinfo : (P.info? E).map (fun i => (i.zero, i.size, i.bytes)) = some (some (.int k 0), 1, k.bits / 8)) (hk : 0 < k.bits / 8)
    (sv : Value) (zs : List Int) (hs : a.eval s = sv) (hown : Own k B E w sv zs) (ad : Addr) (m c : Nat) (ns : List Int) (hx : a.eval x = .slice (some ad) m c) (hm : ns.length = m) (hns : ∀ j, j < m → w.cell? (ad.add j) = some (.int k (nth ns j)))
    (hlim : (zs.length + m) * (k.bits / 8) ≤ 140737488355328) (hB : B ≤ w.heap.size) (B0 : Nat) (w0 : World) (hb : Below B0 w0 w) (hBB : B0 ≤ B)
    (h : ∀ v' w', Own k B E w' v' (zs ++ ns) → Below B0 w0 w' → w.heap.size ≤ w'.heap.size → wpList P ops Q rest (a.put o.dst v') w') : wpList P ops Q (o :: rest) a w :=
  wpList_plain hgd fun _ hK => wp_append_ints s x t ho k B E ht hinfo hk sv zs hs hown ad m c ns hx hm hns hlim hB B0 w0 hb hBB fun v' w' h2 h3 h4 => hK _ _ (h v' w' h2 h3 h4)

theorem step_append_ints {P : Program} {ops : Array Oper} {o : Oper} {a : Act} {w : World} {K : Act → World → Prop} {Q : Exit → Act → World → Prop} {X : Prop} (hgd : o.guard = none) (s x : Operand) (t : TypeId)
    (ho : o.op = .call { callee := .builtin .append, args := #[s, x], argTypes := #[t, t] }) (k : IntKind) (B : Nat) (E : TypeId) (ht : P.underlying t = some (.slice E))
    (hinfo : (P.info? E).map (fun i => (i.zero, i.size, i.bytes)) = some (some (.int k 0), 1, k.bits / 8)) (hk : 0 < k.bits / 8)
    (sv : Value) (zs : List Int) (hs : a.eval s = sv) (hown : Own k B E w sv zs) (ad : Addr) (m c : Nat) (ns : List Int) (hx : a.eval x = .slice (some ad) m c) (hm : ns.length = m) (hns : ∀ j, j < m → w.cell? (ad.add j) = some (.int k (nth ns j)))
    (hlim : (zs.length + m) * (k.bits / 8) ≤ 140737488355328) (hB : B ≤ w.heap.size) (B0 : Nat) (w0 : World) (hb : Below B0 w0 w) (hBB : B0 ≤ B)
    (h : ∀ v' w', Own k B E w' v' (zs ++ ns) → Below B0 w0 w' → w.heap.size ≤ w'.heap.size → K (a.put o.dst v') w') :
    if Region.wanted o (yielded ops a.tmps) = true then Oper.wp P o a w K Q else X := by
  have hw : Region.wanted o (yielded ops a.tmps) = true := by simp [Region.wanted, hgd]
  rw [if_pos hw]
  exact wp_append_ints s x t ho k B E ht hinfo hk sv zs hs hown ad m c ns hx hm hns hlim hB B0 w0 hb hBB h

theorem own_empty {k : IntKind} {B : Nat} {E : TypeId} (w : World) (hB : B ≤ w.heap.size) :
    Own k B E (w.alloc (.cells #[] E)) (.slice (some ⟨w.heap.size, 0, none⟩) 0 0) [] :=
  World.ownsRow_made w #[] 0 hB (Nat.zero_le _) rfl
theorem nth_one (z : Int) : nth [z] 0 = z := rfl
theorem cell_new (w : World) (v : Value) (E : TypeId) : ∀ j, j < 1 → (w.alloc (.cells #[v] E)).cell? (Addr.add ⟨w.heap.size, 0, none⟩ j) = some v := by
  intro j hj
  obtain rfl : j = 0 := by omega
  have e := heap_alloc_new w (.cells #[v] E)
  simp only [World.cell?, Addr.add, if_true, e]
  rfl
theorem cell_new_int (w : World) (k : IntKind) (z : Int) (E : TypeId) : ∀ j, j < 1 → (w.alloc (.cells #[.int k z] E)).cell? (Addr.add ⟨w.heap.size, 0, none⟩ j) = some (.int k (nth [z] j)) := by
  intro j hj
  obtain rfl : j = 0 := by omega
  exact cell_new w _ E 0 hj

theorem run_append_zero {P : Program} (w : World) (t r : TypeId) (k : IntKind) (B : Nat) (E : TypeId) (ht : P.underlying t = some (.slice E)) (hsz : (P.info? E).map (·.size) = some 1)
    (sv : Value) (zs : List Int) (hown : Own k B E w sv zs) (p : Option Addr) (c : Nat) :
    (Builtin.append_ #[t, t] r #[sv, .slice p 0 c]).run P w = .ok sv w := by
  obtain ⟨i0, hi, _⟩ : ∃ i, P.info? E = some i ∧ i.size = 1 := by
    cases h : P.info? E with
    | none => simp [h] at hsz
    | some i => exact ⟨i, rfl, by simpa [h] using hsz⟩
  have key : ∀ (b : Option Addr) (n cap : Nat), n ≤ cap → (Builtin.append_ #[t, t] r #[.slice b n cap, .slice p 0 c]).run P w = .ok (.slice b n cap) w := by
    intro b n cap hn
    cases b <;> cases p <;> simp [Builtin.append_, run_underlying ht, sizeOf, typeInfo, hi, Builtin.lenOf, hn, Builtin.firstCells, loadCells, loadCellsFrom, storeCells]
  obtain ⟨_, h2⟩ := hown
  rcases h2 with ⟨rfl, _⟩ | ⟨g, cap, cur, rfl, _, _, hn, _⟩
  · exact key _ _ _ (Nat.le_refl _)
  · exact key _ _ _ (by simpa using hn)

theorem wp_append_rd {P : Program} {w : World} {o : Oper} {a : Act} {K : Act → World → Prop} {Q : Exit → Act → World → Prop} (s x : Operand) (t : TypeId)
    (ho : o.op = .call { callee := .builtin .append, args := #[s, x], argTypes := #[t, t] }) (k : IntKind) (B : Nat) (E : TypeId) (ht : P.underlying t = some (.slice E))
    (hinfo : (P.info? E).map (fun i => (i.zero, i.size, i.bytes)) = some (some (.int k 0), 1, k.bits / 8)) (hk : 0 < k.bits / 8)
    (sv : Value) (zs : List Int) (hs : a.eval s = sv) (hown : Own k B E w sv zs) (xv : Value) (ns : List Int) (hx : a.eval x = xv) (hrd : Rd k w xv ns)
    (hlim : (zs.length + ns.length) * (k.bits / 8) ≤ 140737488355328) (hB : B ≤ w.heap.size) (B0 : Nat) (w0 : World) (hb : Below B0 w0 w) (hBB : B0 ≤ B)
    (h : ∀ v' w', Own k B E w' v' (zs ++ ns) → Below B0 w0 w' → w.heap.size ≤ w'.heap.size → K (a.put o.dst v') w') : o.wp P a w K Q := by
  obtain ⟨sa, scap, rfl, hl, hwf, hc⟩ := hrd
  by_cases hp : 0 < ns.length
  · obtain ⟨b, off, rfl, hbw, hc⟩ := hc hp
    exact wp_append_ints s x t ho k B E ht hinfo hk sv zs hs hown ⟨b, off, none⟩ ns.length scap ns hx rfl (fun j hj => by rw [add_plain]; exact hc j hj) hlim hB B0 w0 hb hBB h
  · obtain rfl : ns = [] := List.eq_nil_of_length_eq_zero (by omega)
    obtain ⟨i0, hi, hz0, hz1, hz2⟩ := info_parts hinfo
    have hrun := run_append_zero (P := P) w t o.type k B E ht (by rw [hi]; simp [hz1]) sv zs hown sa scap
    unfold Oper.wp
    simp only [List.length_nil] at hx
    simp [execOp, ho, resolve, invoke, builtin, hs, hx, hrun, Result.andThen]
    exact h sv w (by simpa using hown) hb (Nat.le_refl _)

theorem wpList_append_rd {P : Program} {w : World} {ops : Array Oper} {rest : List Oper} {o : Oper} {a : Act} {Q : Exit → Act → World → Prop} (hgd : o.guard = none) (s x : Operand) (t : TypeId)
    (ho : o.op = .call { callee := .builtin .append, args := #[s, x], argTypes := #[t, t] }) (k : IntKind) (B : Nat) (E : TypeId) (ht : P.underlying t = some (.slice E))
    (hinfo : (P.info? E).map (fun i => (i.zero, i.size, i.bytes)) = some (some (.int k 0), 1, k.bits / 8)) (hk : 0 < k.bits / 8)
    (sv : Value) (zs : List Int) (hs : a.eval s = sv) (hown : Own k B E w sv zs) (xv : Value) (ns : List Int) (hx : a.eval x = xv) (hrd : Rd k w xv ns)
    (hlim : (zs.length + ns.length) * (k.bits / 8) ≤ 140737488355328) (hB : B ≤ w.heap.size) (B0 : Nat) (w0 : World) (hb : Below B0 w0 w) (hBB : B0 ≤ B)
    (h : ∀ v' w', Own k B E w' v' (zs ++ ns) → Below B0 w0 w' → w.heap.size ≤ w'.heap.size → wpList P ops Q rest (a.put o.dst v') w') : wpList P ops Q (o :: rest) a w :=
  wpList_plain hgd fun _ hK => wp_append_rd s x t ho k B E ht hinfo hk sv zs hs hown xv ns hx hrd hlim hB B0 w0 hb hBB fun v' w' h2 h3 h4 => hK _ _ (h v' w' h2 h3 h4)

theorem Own.noRow {k : IntKind} {B : Nat} {E : TypeId} {w : World} {v : Value} {zs : List Int} (h : Own k B E w v zs) : ∃ p cap, v = .slice p zs.length cap := by
  obtain ⟨_, h2⟩ := h
  rcases h2 with ⟨rfl, h0⟩ | ⟨g, cap, cur, rfl, _⟩
  · exact ⟨none, 0, by rw [h0]⟩
  · exact ⟨_, _, rfl⟩

theorem set_fill {l : List Int} {n j : Nat} (hl : l.length = j) (hj : j < n) (z : Int) : (l ++ List.replicate (n - j) 0).set j z = (l ++ [z]) ++ List.replicate (n - (j + 1)) 0 := by
  obtain ⟨m, hm⟩ : ∃ m, n - j = m + 1 := ⟨n - j - 1, by omega⟩
  rw [hm, show n - (j + 1) = m by omega, List.replicate_succ, List.set_append_right _ _ (by omega)]
  simp [hl]

theorem cell_new_int_drew (w : World) (k : IntKind) (z : Int) (E : TypeId) : ∀ j, j < 1 → (w.alloc (.cells #[.int k z] E)).drew.cell? (Addr.add ⟨w.heap.size, 0, none⟩ j) = some (.int k (nth [z] j)) :=
  cell_new_int w k z E

theorem Own.slice {k : IntKind} {B : Nat} {E : TypeId} {w : World} {v : Value} {zs : List Int} (h : Own k B E w v zs) :
    ∃ p cap, v = .slice p zs.length cap ∧ zs.length ≤ cap ∧ (0 < zs.length → ∃ g, p = some ⟨g, 0, none⟩ ∧ B ≤ g ∧ g < w.heap.size) := by
  have hlt := h.lt
  obtain ⟨_, h2⟩ := h
  rcases h2 with ⟨rfl, h0⟩ | ⟨g, cap, cur, rfl, hg, _, hc, _⟩
  · exact ⟨none, 0, by rw [h0], by omega, by omega⟩
  · exact ⟨_, _, rfl, hc, fun _ => ⟨g, rfl, hg, (hlt g rfl).2⟩⟩

theorem rd_new {k : IntKind} (w : World) (E : TypeId) (zs : List Int) (cs : Array Value) (n : Nat) (hcs : cs = (zs.map (Value.int k)).toArray) (hn : n = zs.length) (hlim : zs.length * (k.bits / 8) ≤ 140737488351232) (hw : ∀ z ∈ zs, (Lit.int k z).wf = true) :
    Rd k (w.alloc (.cells cs E)) (.slice (some ⟨w.heap.size, 0, none⟩) n n) zs := by
  subst hcs; subst hn
  refine ⟨_, zs.length, rfl, hlim, hw, fun _ => ⟨w.heap.size, 0, rfl, by simp, fun j hj => ?_⟩⟩
  have e := heap_alloc_new w (.cells (zs.map (Value.int k)).toArray E)
  simp only [World.cell?, e, Nat.zero_add]
  simp [nth_of hj, hj]

theorem wfs_of {k : IntKind} {w : World} {v : Value} {zs : List Int} (h : Rd k w v zs) : ∀ z ∈ zs, (Lit.int k z).wf = true := by
  obtain ⟨_, _, _, _, h, _⟩ := h
  exact h

theorem run_conv_rd {P : Program} {w : World} {v : Value} {zs : List Int} {src e : TypeId} (h : Rd .u8 w v zs) (hs : P.underlying src = some (.slice e)) (he : P.underlying e = some (.int .u8)) (dst : TypeId) (hd : P.underlying dst = some .string) :
    (convert src dst v).run P w = .ok (.string (strOfNums zs)) w := by
  obtain ⟨a, cap, rfl, _, _, hc⟩ := h
  by_cases hp : 0 < zs.length
  · obtain ⟨b, off, rfl, _, hc⟩ := hc hp
    exact run_convert_bytes_arg w src e hs he b off zs.length cap zs rfl (fun i hi => hc i hi) dst hd
  · obtain rfl : zs = [] := List.eq_nil_of_length_eq_zero (by omega)
    rw [run_convert_bytes_string w src dst e _ _ _ hs he hd]
    cases a with
    | none => simp [Conv.bytesToString, strOfNums]; rfl
    | some a =>
      have hl : (loadCells a 0).run P w = .ok (([] : List Int).map (Value.int .u8)).toArray w := by simp [loadCells, loadCellsFrom]
      exact run_bytesToString w a 0 cap [] hl

theorem toList_loop (b : ByteArray) : ∀ (n i : Nat) (r : List UInt8), b.size - i = n → ByteArray.toList.loop b i r = r.reverse ++ b.data.toList.drop i := by
  intro n
  induction n with
  | zero =>
    intro i r h
    unfold ByteArray.toList.loop
    rw [if_neg (by omega)]
    rw [List.drop_eq_nil_of_le (by have : b.data.toList.length = b.size := rfl; omega)]
    simp
  | succ n ih =>
    intro i r h
    unfold ByteArray.toList.loop
    have hi : i < b.data.toList.length := by have : b.data.toList.length = b.size := rfl; omega
    rw [if_pos (by omega), ih _ _ (by omega), List.drop_eq_getElem_cons hi]
    simp [ByteArray.get!]
    rw [getElem!_pos _ _ (by simpa using hi)]
theorem toList_data (b : ByteArray) : b.toList = b.data.toList := by
  unfold ByteArray.toList
  rw [toList_loop b _ 0 [] rfl]
  simp

theorem strOfNums_eq {xs ys : List Int} (hx : ∀ z ∈ xs, (Lit.int .u8 z).wf = true) (hy : ∀ z ∈ ys, (Lit.int .u8 z).wf = true) :
    ((strOfNums xs).toList == (strOfNums ys).toList) = decide (xs = ys) := by
  have key : strOfNums xs = strOfNums ys ↔ xs = ys := by
    constructor
    · intro h
      have h1 : xs.map (fun n => UInt8.ofNat n.toNat) = ys.map (fun n => UInt8.ofNat n.toNat) := by
        have := congrArg (fun s : ByteArray => s.data.toList) h
        simpa [strOfNums_data] using this
      have h2 : ∀ (zs : List Int), (∀ z ∈ zs, (Lit.int .u8 z).wf = true) → (zs.map (fun n => UInt8.ofNat n.toNat)).map (fun b => (b.toNat : Int)) = zs := by
        intro zs hz
        rw [List.map_map]
        conv => rhs; rw [← List.map_id zs]
        refine List.map_congr_left fun z hm => ?_
        have := bounds_u8 (hz z hm)
        simp only [Function.comp, UInt8.toNat_ofNat', id]
        omega
      rw [← h2 xs hx, ← h2 ys hy, h1]
    · rintro rfl; rfl
  have key2 : (strOfNums xs).toList = (strOfNums ys).toList ↔ xs = ys := by
    rw [toList_data, toList_data, ← key]
    exact ⟨fun h => WideShapes.bytes_inj h, fun h => by rw [h]⟩
  rw [Bool.eq_iff_iff]
  simp only [beq_iff_eq, decide_eq_true_eq, key2]
end Go.Proofs.Ytffoinnllihdeaa

/- Plain facts on the numbers of the language: xor, and, tests ahead of a walk. No program is named. -/
namespace Go.Proofs.Ytffoinnllihdeaa
open Go.RowKit

theorem xor_lt {a b : Nat} (ha : a < 256) (hb : b < 256) : a ^^^ b < 256 := Nat.xor_lt_two_pow (n := 8) ha hb
theorem xor4 (a b c d : Nat) : (a ^^^ b) ^^^ (c ^^^ d) = (a ^^^ c) ^^^ (b ^^^ d) := by
  rw [Nat.xor_assoc, Nat.xor_assoc, ← Nat.xor_assoc b c d, Nat.xor_comm b c, Nat.xor_assoc c b d]
theorem sel_add (p q : Prop) [Decidable p] [Decidable q] [Decidable (¬(p ↔ q))] (a : Nat) :
    (if ¬(p ↔ q) then a else 0) = (if p then a else 0) ^^^ (if q then a else 0) := by
  by_cases hp : p <;> by_cases hq : q <;> simp [hp, hq]
theorem xor8 {a b : Nat} (ha : a < 256) (hb : b < 256) : bits .xor .u8 (a : Int) (b : Int) = ((a ^^^ b : Nat) : Int) := u8_xor_nat a b ha hb
theorem xor64 {a b : Nat} (ha : a < 9223372036854775808) (hb : b < 9223372036854775808) : bits .xor .i64 (a : Int) (b : Int) = ((a ^^^ b : Nat) : Int) := by
  have hx : a ^^^ b < 2 ^ 63 := Nat.xor_lt_two_pow (by omega) (by omega)
  have h1 : ∀ {a : Nat}, a < 9223372036854775808 → (BitVec.ofInt 64 (a : Int)).toNat = a := fun {a} h => by
    rw [BitVec.ofInt_natCast, BitVec.toNat_ofNat]; exact Nat.mod_eq_of_lt (by omega)
  show IntKind.i64.wrap ((BitVec.ofInt 64 (a : Int) ^^^ BitVec.ofInt 64 (b : Int)).toNat : Int) = _
  rw [BitVec.toNat_xor, h1 ha, h1 hb, IntKind.wrap_i64]; omega

theorem and64_one {a : Nat} (ha : a < 9223372036854775808) : bits .and .i64 (a : Int) 1 = ((a % 2 : Nat) : Int) := by
  have h1 : ∀ {a : Nat}, a < 9223372036854775808 → (BitVec.ofInt 64 (a : Int)).toNat = a := fun {a} h => by
    rw [BitVec.ofInt_natCast, BitVec.toNat_ofNat]; exact Nat.mod_eq_of_lt (by omega)
  show IntKind.i64.wrap ((BitVec.ofInt 64 (a : Int) &&& BitVec.ofInt 64 ((1 : Nat) : Int)).toNat : Int) = _
  rw [BitVec.toNat_and, h1 ha, h1 (by decide), Nat.and_one_is_mod, IntKind.wrap_i64]; omega
theorem odd64 {a : Nat} (ha : a < 9223372036854775808) (h : a % 2 = 1) : (bits .and .i64 (a : Int) 1 == 1) = true := by rw [and64_one ha, h]; rfl
theorem even64 {a : Nat} (ha : a < 9223372036854775808) (h : a % 2 ≠ 1) : (bits .and .i64 (a : Int) 1 == 1) = false := by rw [and64_one ha, show a % 2 = 0 by omega]; rfl
theorem and8_one {a : Nat} (ha : a < 256) : bits .and .u8 (a : Int) 1 = ((a % 2 : Nat) : Int) := by
  have := u8_and_nat a 1 ha (by decide)
  rwa [Nat.and_one_is_mod] at this
theorem odd8 {a : Nat} (ha : a < 256) (h : a % 2 = 1) : (bits .and .u8 (a : Int) 1 == 1) = true := by rw [and8_one ha, h]; rfl
theorem even8 {a : Nat} (ha : a < 256) (h : a % 2 ≠ 1) : (bits .and .u8 (a : Int) 1 == 1) = false := by rw [and8_one ha, show a % 2 = 0 by omega]; rfl

theorem bitT {b j : Nat} (h : b / 2 ^ j % 2 = 1) : (((b : Int) / 2 ^ j).tmod 2 == 1) = true := by
  have e : ((b : Int) / 2 ^ j) = ((b / 2 ^ j : Nat) : Int) := by simp
  rw [e, Int.tmod_eq_emod_of_nonneg (Int.natCast_nonneg _), beq_iff_eq]; omega
theorem bitF {b j : Nat} (h : b / 2 ^ j % 2 ≠ 1) : (((b : Int) / 2 ^ j).tmod 2 == 1) = false := by
  have e : ((b : Int) / 2 ^ j) = ((b / 2 ^ j : Nat) : Int) := by simp
  rw [e, Int.tmod_eq_emod_of_nonneg (Int.natCast_nonneg _), beq_eq_false_iff_ne, ne_eq]; omega
theorem pow_le_128 {j : Nat} (h : j < 8) : 2 ^ j ≤ 128 := Nat.le_trans (Nat.pow_le_pow_right (by decide) (show j ≤ 7 by omega)) (by decide)
theorem eqT {x y : Nat} (h : x = y) : ((x : Int) == (y : Int)) = true := by rw [h]; simp
theorem eqF {x y : Nat} (h : x ≠ y) : ((x : Int) == (y : Int)) = false := by rw [beq_eq_false_iff_ne]; omega
theorem neT {x y : Nat} (h : x ≠ y) : ((x : Int) != (y : Int)) = true := by rw [bne, eqF h]; rfl
theorem neF {x y : Nat} (h : x = y) : ((x : Int) != (y : Int)) = false := by rw [bne, eqT h]; rfl

end Go.Proofs.Ytffoinnllihdeaa

/- General: slices of structs of whole numbers that come in. No program is named. -/
namespace Go.Proofs.Ytffoinnllihdeaa
open Go.ChangeShapes Go.WideShapes Go.ChangeAt Go.RowKit Go.Deep

/-- A slice of structs, each field a whole number: each number's cell. -/
theorem recs_open {H : Type} {enc : TypeId × Value → H} {P : Program} {W : World} {held : Bool} {t e : TypeId} {fs : Array Field} {base : Nat} {v : Value} {d : DataW H} {p : List MemPlace} {ts : List TypeId} {ds : List (DataW H)} {j0 : Nat} (ks : Nat → IntKind)
    (ht : P.underlying t = some (.slice e)) (he : P.underlying e = some (.struct fs)) (hone : oneCellFields P fs = true) (hC : P.cellsOf e = fs.size)
    (hk : ∀ j f, fs[j]? = some f → P.underlying f.type = some (.int (ks j)))
    (hv : Value.okWide P W .any base t v) (h : DataW.Trod enc P W 0 (fun _ => true) held t v d p) (hlt : ∀ x ∈ p, x.block < W.heap.size) (h0 : 0 < fs.size)
    (hsz : (DataW.weightsEach P ts ds).all (· ≤ reachBytes) = true) (hj : ts[j0]? = some t) (hd : ds[j0]? = some d) :
    ∃ (a : Option Addr) (L cap : Nat) (Z : Nat → Nat → Int), v = .slice a L cap ∧ L ≤ cap ∧ cap ≤ maxLen ∧ L * P.bytesOf e ≤ 140737488351232 ∧
      (0 < L → ∃ b off, a = some ⟨b, off, none⟩ ∧ b < W.heap.size ∧ ∀ i, i < L → ∀ j, j < fs.size → W.cell? ⟨b, off + (i * fs.size + j), none⟩ = some (.int (ks j) (Z i j)) ∧ (Lit.int (ks j) (Z i j)).wf = true) := by
  obtain ⟨a0, len0, cap0, rfl⟩ := okWide_slice ht hv
  obtain ⟨fuel, hf⟩ := h
  rcases open_slice ht hf with ⟨hcs, hx⟩ | ⟨a, len, cap, m, n, D, Pl, hcs, hb, hl, hm, hmm, hx, hi⟩
  · simp [Value.cells] at hcs
    obtain ⟨rfl, rfl, rfl⟩ := hcs
    exact ⟨none, 0, 0, fun _ _ => 0, rfl, by omega, by unfold maxLen; omega, by simp, by omega⟩
  · simp [Value.cells] at hcs
    obtain ⟨rfl, rfl, rfl⟩ := hcs
    simp only [Prod.mk.injEq] at hx
    obtain ⟨rfl, rfl⟩ := hx
    simp only [if_true] at hmm
    have hreach := sized_slice hsz hj hd ht
    simp only [List.length_map, List.length_range, reachBytes] at hreach
    have each : ∀ i j, i < len0 → j < fs.size → ∃ z, W.cell? (a.add (i * fs.size + j)) = some (.int (ks j) z) ∧ (Lit.int (ks j) z).wf = true := by
      intro i j hi1 hj1
      obtain ⟨cs', hc, ht'⟩ := hi i (by omega)
      rw [hC] at hc
      obtain ⟨ys, n', _, _, _, hyl, hfl⟩ := DataW.trod_struct he ht'
      obtain ⟨_, hcl, hat⟩ := World.cells?_some hc
      have hfj : fs[j]? = some fs[j] := Array.getElem?_eq_getElem hj1
      obtain ⟨ho, hk1⟩ := hone_of hone j _ hfj
      have h1 := hfl j _ hfj
      rw [ho, hk1, List.drop_eq_getElem_cons (by omega), List.take_succ_cons, List.take_zero, List.getElem?_eq_getElem (show j < ys.length by omega)] at h1
      obtain ⟨z, hz, _, hw⟩ := DataW.trod_int (hk j _ hfj) h1
      simp only [List.cons.injEq, and_true] at hz
      refine ⟨z, ?_, hw⟩
      rw [← Go.Deep.add_add, hat j hj1, List.getElem?_eq_getElem (by omega), hz]
    refine ⟨some a, len0, cap0, fun i j => if hh : i < len0 ∧ j < fs.size then Classical.choose (each i j hh.1 hh.2) else 0, rfl, hl, hm, Nat.le_trans (Nat.mul_le_mul_right _ (by omega)) hreach, fun hp => ?_⟩
    obtain ⟨b, off, spot⟩ := a
    have hspot : spot = none := by
      obtain ⟨z, hz, _⟩ := each 0 0 hp h0
      simpa [Addr.add] using World.cell?_spot hz
    subst hspot
    refine ⟨b, off, rfl, hlt (.cell b off) (List.mem_append.2 (.inl (MemPlace.mem_row.2 ⟨0, ?_, by simp⟩))), fun i hi1 j hj1 => ?_⟩
    · rw [hC]; exact Nat.mul_pos (by omega) h0
    · have := Classical.choose_spec (each i j hi1 hj1)
      simp only [hi1, hj1, and_self, dif_pos]
      refine ⟨?_, this.2⟩
      rw [← this.1, add_plain]
end Go.Proofs.Ytffoinnllihdeaa

/- General: what one block's turning leaves, slices that lie in a block of a kind, blocks of three cells. No program is named. -/
namespace Go.Proofs.Ytffoinnllihdeaa
open Go.RowKit

/-! ### a slice whose cells lie in a block of a kind -/
/-- v reads, in w, as zs, and its cells (if there are any) lie in a block that S knows. -/
def RdS (k : IntKind) (w : World) (S : Nat → Prop) (v : Value) (zs : List Int) : Prop :=
  ∃ a cap, v = .slice a zs.length cap ∧ zs.length ≤ cap ∧ cap ≤ maxLen ∧ zs.length * (k.bits / 8) ≤ 140737488351232 ∧ (∀ z ∈ zs, (Lit.int k z).wf = true) ∧
    (0 < zs.length → ∃ g off, a = some ⟨g, off, none⟩ ∧ S g ∧ g < w.heap.size ∧ ∀ j, j < zs.length → w.cell? ⟨g, off + j, none⟩ = some (.int k (nth zs j)))

/-- But for block g (and new ones) w' is as w was. -/
structure Only (g : Nat) (w w' : World) : Prop where
  os : w'.os = w.os
  tape : w'.tape = w.tape
  output : w'.output = w.output
  size : w.heap.size ≤ w'.heap.size
  block : ∀ j, j < w.heap.size → j ≠ g → w'.heap[j]? = w.heap[j]?

theorem Only.below {g B : Nat} {w w' : World} (h : Only g w w') (hg : B ≤ g) (hB : B ≤ w.heap.size) : Below B w w' :=
  ⟨h.os, h.tape, h.output, h.size, fun j hj => h.block j (by omega) (by omega)⟩
theorem Only.of_below {g : Nat} {w w' : World} (h : Below w.heap.size w w') : Only g w w' := ⟨h.os, h.tape, h.output, h.size, fun j hj _ => h.block j hj⟩
theorem Only.refl (g : Nat) (w : World) : Only g w w := Only.of_below (Below.refl _ _)
theorem Only.trans {g : Nat} {a b c : World} (h : Only g a b) (k : Only g b c) : Only g a c :=
  ⟨k.os.trans h.os, k.tape.trans h.tape, k.output.trans h.output, Nat.le_trans h.size k.size, fun j hj hn => (k.block j (Nat.lt_of_lt_of_le hj h.size) hn).trans (h.block j hj hn)⟩
theorem Only.set {g : Nat} (w : World) {p : Addr} (hp : p.block = g) (u : Value) : Only g w (w.setCell p u) :=
  ⟨rfl, rfl, rfl, by simp [World.setCell], fun j _ hj => Below.heap_setCell _ _ _ _ (by omega)⟩
theorem Only.drew {g : Nat} {a w : World} (h : Only g a w) : Only g a w.drew := ⟨h.os, h.tape, h.output, h.size, h.block⟩
theorem Only.drewN (g : Nat) (w : World) (n : Nat) : Only g w (w.drewN n) := ⟨rfl, rfl, rfl, Nat.le_refl _, fun _ _ _ => rfl⟩
theorem Only.undrewN {g : Nat} {a w : World} {n : Nat} (h : Only g (a.drewN n) w) : Only g a w := ⟨h.os, h.tape, h.output, h.size, h.block⟩
theorem Only.cell {g : Nat} {w w' : World} (h : Only g w w') {p : Addr} (hp : p.block < w.heap.size) (hn : p.block ≠ g) : w'.cell? p = w.cell? p := World.cell?_of_block (w := w) (h.block p.block hp hn)
theorem Only.undrew {g : Nat} {a w : World} (h : Only g a.drew w) : Only g a w := ⟨h.os, h.tape, h.output, h.size, h.block⟩

theorem RdS.same {k : IntKind} {w w' : World} {S : Nat → Prop} {v : Value} {zs : List Int} (h : RdS k w S v zs) (hs : w.heap.size ≤ w'.heap.size) (hg : ∀ g, S g → g < w.heap.size → w'.heap[g]? = w.heap[g]?) : RdS k w' S v zs := by
  obtain ⟨a, cap, h1, h2, h3, h4, h5, h7⟩ := h
  refine ⟨a, cap, h1, h2, h3, h4, h5, fun hp => ?_⟩
  obtain ⟨g, off, e, hS, hlt, hc⟩ := h7 hp
  exact ⟨g, off, e, hS, Nat.lt_of_lt_of_le hlt hs, fun j hj => (World.cell?_of_block (w := w) (hg g hS hlt)).trans (hc j hj)⟩
theorem RdS.imp {k : IntKind} {w : World} {S T : Nat → Prop} {v : Value} {zs : List Int} (h : RdS k w S v zs) (hT : ∀ g, S g → g < w.heap.size → T g) : RdS k w T v zs := by
  obtain ⟨a, cap, h1, h2, h3, h4, h5, h7⟩ := h
  refine ⟨a, cap, h1, h2, h3, h4, h5, fun hp => ?_⟩
  obtain ⟨g, off, e, hS, hlt, hc⟩ := h7 hp
  exact ⟨g, off, e, hT g hS hlt, hlt, hc⟩
theorem RdS.only {k : IntKind} {w w' : World} {S : Nat → Prop} {c : Nat} {v : Value} {zs : List Int} (h : RdS k w S v zs) (o : Only c w w') (hn : ∀ g, S g → g ≠ c) : RdS k w' S v zs :=
  h.same o.size fun g hg hlt => o.block g hlt (hn g hg)
theorem RdS.below {k : IntKind} {w w' : World} {S : Nat → Prop} {v : Value} {zs : List Int} (h : RdS k w S v zs) (o : Below w.heap.size w w') : RdS k w' S v zs :=
  h.same o.size fun g _ hlt => o.block g hlt
theorem RdS.rd {k : IntKind} {w : World} {S : Nat → Prop} {v : Value} {zs : List Int} (h : RdS k w S v zs) : Rd k w v zs := by
  obtain ⟨a, cap, h1, h2, h3, h4, h5, h7⟩ := h
  exact ⟨a, cap, h1, h4, h5, fun hp => by obtain ⟨g, off, e, _, h6, hc⟩ := h7 hp; exact ⟨g, off, e, h6, hc⟩⟩

/-- What the call owns. -/
theorem Own.rds {k : IntKind} {B : Nat} {E : TypeId} {w : World} {v : Value} {zs : List Int} (h : Own k B E w v zs) (hb : zs.length * (k.bits / 8) ≤ 140737488351232) (hw : ∀ z ∈ zs, (Lit.int k z).wf = true) :
    RdS k w (fun g => B ≤ g ∧ g < w.heap.size) v zs := by
  obtain ⟨p, c, e, hlc, _⟩ := h.slice
  have hcap : c ≤ maxLen := by
    obtain ⟨_, h2⟩ := h
    rcases h2 with ⟨h2, _⟩ | ⟨g, cap, cur, h2, _, _, _, hc, _⟩
    · rw [h2] at e; injection e with e1 e2 e3; subst e3; unfold maxLen; omega
    · rw [h2] at e; injection e with e1 e2 e3; subst e3; exact hc
  refine ⟨p, c, e, hlc, hcap, hb, hw, fun hp => ?_⟩
  obtain ⟨g, cap, e', hgB, hg, hcell, _⟩ := h.part hp
  rw [e] at e'
  injection e' with e1 e2 e3; subst e1
  exact ⟨g, 0, rfl, ⟨hgB, hg⟩, hg, fun j hj => by rw [Nat.zero_add]; exact hcell j hj⟩

theorem cells3 {w : World} {b : Nat} {x y z : Value} {t : TypeId} (h : w.heap[b]? = some (.cells #[x, y, z] t (0, 0))) :
    w.cell? ⟨b, 0, none⟩ = some x ∧ w.cell? ⟨b, 1, none⟩ = some y ∧ w.cell? ⟨b, 2, none⟩ = some z ∧ ∀ o, w.frozen? ⟨b, o, none⟩ = false := by
  refine ⟨?_, ?_, ?_, fun o => ?_⟩ <;> simp [World.cell?, World.frozen?, h]
theorem set3_1 {w : World} {b : Nat} {x y z u : Value} {t : TypeId} (h : w.heap[b]? = some (.cells #[x, y, z] t (0, 0))) : (w.setCell ⟨b, 1, none⟩ u).heap[b]? = some (.cells #[x, u, z] t (0, 0)) := by
  simp [World.setCell, Array.getElem?_modify, h]
theorem set3_2 {w : World} {b : Nat} {x y z u : Value} {t : TypeId} (h : w.heap[b]? = some (.cells #[x, y, z] t (0, 0))) : (w.setCell ⟨b, 2, none⟩ u).heap[b]? = some (.cells #[x, y, u] t (0, 0)) := by
  simp [World.setCell, Array.getElem?_modify, h]
theorem set3_0 {w : World} {b : Nat} {x y z u : Value} {t : TypeId} (h : w.heap[b]? = some (.cells #[x, y, z] t (0, 0))) : (w.setCell ⟨b, 0, none⟩ u).heap[b]? = some (.cells #[u, y, z] t (0, 0)) := by
  simp [World.setCell, Array.getElem?_modify, h]

theorem below_undrewN {B n : Nat} {a w : World} (h : Below B (a.drewN n) w) : Below B a w := ⟨h.os, h.tape, h.output, h.size, h.block⟩
theorem Only.belowN {N b : Nat} {w0 w w' : World} (hB : Below N w0 w) (o : Only b w w') (h : N ≤ b) (hN : N ≤ w.heap.size) : Below N w0 w' := hB.trans (o.below h hN)
end Go.Proofs.Ytffoinnllihdeaa

/- General: arrays of bytes by value and in a block. No program is named. -/
namespace Go.Proofs.Ytffoinnllihdeaa
open Go.ChangeShapes Go.WideShapes Go.ChangeAt Go.RowKit

/-- The n cells of an array of bytes. -/
def ba (n : Nat) (f : Nat → Nat) : Array Value := ((List.range n).map fun i => Value.int .u8 (f i : Int)).toArray
/-- One row turned. -/
def upd (f : Nat → Nat) (j z : Nat) : Nat → Nat := fun i => if i = j then z else f i
/-- The first j rows of f, and 0 behind. -/
def upTo (f : Nat → Nat) (j : Nat) : Nat → Nat := fun i => if i < j then f i else 0
theorem upd_same (f : Nat → Nat) (j z : Nat) : upd f j z j = z := if_pos rfl
theorem upd_other (f : Nat → Nat) (j z i : Nat) (h : i ≠ j) : upd f j z i = f i := if_neg h

theorem ba_size (n : Nat) (f : Nat → Nat) : (ba n f).size = n := by simp [ba]
theorem ba_get {n : Nat} (f : Nat → Nat) {j : Nat} (h : j < n) : (ba n f)[j]? = some (.int .u8 (f j : Int)) := by simp [ba, h]
theorem ba_ext {n : Nat} {f g : Nat → Nat} (h : ∀ i, i < n → f i = g i) : ba n f = ba n g := by
  unfold ba
  congr 1
  refine List.map_congr_left fun i hi => ?_
  rw [h i (List.mem_range.1 hi)]
theorem ba_inj {n : Nat} {f g : Nat → Nat} (h : ba n f = ba n g) : ∀ i, i < n → f i = g i := by
  intro i hi
  have := congrArg (fun a => a[i]?) h
  simp only [ba_get f hi, ba_get g hi, Option.some.injEq, Value.int.injEq, true_and] at this
  omega
theorem ba_set {n : Nat} (f : Nat → Nat) (j z : Nat) : (ba n f).setIfInBounds j (.int .u8 (z : Int)) = ba n (upd f j z) := by
  apply Array.ext_getElem?
  intro i
  rw [Array.getElem?_setIfInBounds, ba_size]
  by_cases hi : i < n
  · rw [ba_get _ hi, ba_get _ hi]
    by_cases e : j = i
    · subst e; rw [if_pos rfl, if_pos hi, upd_same]
    · rw [if_neg e, upd_other _ _ _ _ (fun h => e h.symm)]
  · have h1 : (ba n f)[i]? = none := by simp [ba_size]; omega
    have h2 : (ba n (upd f j z))[i]? = none := by simp [ba_size]; omega
    rw [h1, h2]
    by_cases e : j = i
    · rw [if_pos e, if_neg (by omega)]
    · rw [if_neg e]
theorem ba_one (n : Nat) (f : Nat → Nat) : (ba n f).all (·.oneCell') = true := by
  refine Array.all_eq_true_iff_forall_mem.2 (fun v hv => ?_)
  simp [ba] at hv
  obtain ⟨i, _, rfl⟩ := hv
  rfl

section prog
variable {P : Program}

theorem run_index_ba (w : World) (t e : TypeId) (n : Nat) (f : Nat → Nat) (j : Nat) (hu : P.underlying t = some (.array n e)) (he : P.underlying e = some (.int .u8)) (hs : (P.info? e).map (·.size) = some 1) (hj : j < n) :
    (Instr.index t (.agg (ba n f)) (.int .i64 (j : Int))).run P w = .ok (.int .u8 (f j : Int)) w := by
  obtain ⟨i, hi, h1⟩ : ∃ i, P.info? e = some i ∧ i.size = 1 := by
    cases hq : P.info? e with
    | none => simp [hq] at hs
    | some i => exact ⟨i, rfl, by simpa [hq] using hs⟩
  have hb : 0 ≤ (j : Int) ∧ (j : Int) < (n : Int) := ⟨by omega, by omega⟩
  have hg := ba_get f hj
  simp [Instr.index, asIntOf, run_underlying hu, run_underlying he, hj, isAgg, sizeOf, typeInfo, hi, h1, part, hg, go_sem]

theorem run_eqItems_ba (w : World) (d : Nat) (e : TypeId) (n : Nat) (f g : Nat → Nat) (he : P.underlying e = some (.int .u8)) (hi : (P.info? e).map (·.size) = some 1) : ∀ (is : List Nat), (∀ i ∈ is, i < n) →
    (Op.eqItems (d + 1) e 1 (ba n f) (ba n g) is).run P w = .ok (decide (∀ i ∈ is, f i = g i)) w
  | [], _ => by simp [Op.eqItems]
  | i :: is, h => by
    obtain ⟨k, hk, h1⟩ : ∃ i, P.info? e = some i ∧ i.size = 1 := by
      cases hq : P.info? e with
      | none => simp [hq] at hi
      | some i => exact ⟨i, rfl, by simpa [hq] using hi⟩
    have hf := ba_get f (h i (by simp))
    have hg := ba_get g (h i (by simp))
    have ih := run_eqItems_ba w d e n f g he hi is (fun j hj => h j (by simp [hj]))
    have p1 : (part e (ba n f) (i * 1)).run P w = .ok (.int .u8 (f i : Int)) w := by simp [part, hf, run_underlying he, isAgg, go_sem]
    have p2 : (part e (ba n g) (i * 1)).run P w = .ok (.int .u8 (g i : Int)) w := by simp [part, hg, run_underlying he, isAgg, go_sem]
    simp only [Op.eqItems, Sem.run_bind, p1, p2, Result.andThen_ok, run_equalIn_int w d e .u8 .u8 _ _ he]
    by_cases hh : f i = g i
    · simp [hh, ih]
    · have : ((f i : Int) == (g i : Int)) = false := eqF hh
      simp [this, hh]

theorem run_eq_ba (w : World) (d : Nat) (t e : TypeId) (n : Nat) (f g : Nat → Nat) (hu : P.underlying t = some (.array n e)) (he : P.underlying e = some (.int .u8)) (hi : (P.info? e).map (·.size) = some 1) :
    (Op.equalIn (d + 2) t (.agg (ba n f)) (.agg (ba n g))).run P w = .ok (decide (∀ i, i < n → f i = g i)) w := by
  obtain ⟨k, hk, h1⟩ : ∃ i, P.info? e = some i ∧ i.size = 1 := by
    cases hq : P.info? e with
    | none => simp [hq] at hi
    | some i => exact ⟨i, rfl, by simpa [hq] using hi⟩
  have hc : P.cellsOf e = 1 := by simp [Program.cellsOf, hk, h1]
  rw [run_equalIn_array w (d + 1) _ _ hu hk, hc, run_eqItems_ba w d e n f g he hi _ (fun i hi => List.mem_range.1 hi)]
  congr 1
  simp [List.mem_range]
end prog
/-! ### an array in a block of its own -/
/-- Block b holds, whole, the n bytes of f, as a variable of type t. -/
def At (w : World) (b n : Nat) (t : TypeId) (f : Nat → Nat) : Prop := w.heap[b]? = some (.cells (ba n f) t (0, 0))
theorem At.lt {w : World} {b n : Nat} {t : TypeId} {f : Nat → Nat} (h : At w b n t f) : b < w.heap.size := (Array.getElem?_eq_some_iff.1 h).1
theorem At.cell {w : World} {b n : Nat} {t : TypeId} {f : Nat → Nat} (h : At w b n t f) {j : Nat} (hj : j < n) : w.cell? ⟨b, j, none⟩ = some (.int .u8 (f j : Int)) := by
  rw [cell_of_row w b j _ t (0, 0) h, ba_get f hj]
theorem At.free {w : World} {b n : Nat} {t : TypeId} {f : Nat → Nat} (h : At w b n t f) (o : Nat) : w.frozen? ⟨b, o, none⟩ = false := frozen_of_row w b o _ t h
theorem At.set {w : World} {b n : Nat} {t : TypeId} {f : Nat → Nat} (h : At w b n t f) (j z : Nat) : At (w.setCell ⟨b, j, none⟩ (.int .u8 (z : Int))) b n t (upd f j z) := by
  unfold At
  rw [heap_setCell_same w b j _ t _ h, ba_set]
theorem At.apart {w : World} {b n : Nat} {t : TypeId} {f : Nat → Nat} (h : At w b n t f) {a : Addr} (ha : b ≠ a.block) (v : Value) : At (w.setCell a v) b n t f := (heap_setCell_other w a b v ha).trans h
theorem At.row {w : World} {b n : Nat} {t : TypeId} {f : Nat → Nat} (h : At w b n t f) (g : Nat → Nat) : At (w.setRow b (ba n g)) b n t g := setRow_heap w b _ _ t _ h
theorem At.rowApart {w : World} {b n c : Nat} {t : TypeId} {f : Nat → Nat} (h : At w b n t f) (hc : b ≠ c) (cs : Array Value) : At (w.setRow c cs) b n t f := (setRow_other w c b cs hc).trans h
theorem At.alloc {w : World} {b n : Nat} {t : TypeId} {f : Nat → Nat} (h : At w b n t f) (o : Obj) : At (w.alloc o) b n t f := (heap_alloc_old w o h.lt).trans h
theorem At.new (w : World) (n : Nat) (t : TypeId) (f : Nat → Nat) : At (w.alloc (.cells (ba n f) t)) w.heap.size n t f := heap_alloc_new w _
theorem At.drew {w : World} {b n : Nat} {t : TypeId} {f : Nat → Nat} (h : At w b n t f) : At w.drew b n t f := h
theorem At.below {w w' : World} {b n B : Nat} {t : TypeId} {f : Nat → Nat} (h : At w b n t f) (hb : Below B w w') (hB : b < B) : At w' b n t f := (hb.block b hB).trans h
theorem At.self {w w' : World} {b n : Nat} {t : TypeId} {f : Nat → Nat} (h : At w b n t f) (hb : Below w.heap.size w w') : At w' b n t f := h.below hb h.lt
theorem At.ext {w : World} {b n : Nat} {t : TypeId} {f g : Nat → Nat} (h : At w b n t f) (e : ∀ i, i < n → f i = g i) : At w b n t g := by
  unfold At at h ⊢; rw [h, ba_ext e]
theorem below_setRow {B b : Nat} {w0 w : World} (h : Below B w0 w) (hb : B ≤ b) (cs : Array Value) : Below B w0 (w.setRow b cs) :=
  ⟨h.os, h.tape, h.output, by simpa using h.size, fun j hj => (setRow_other w b j cs (by omega)).trans (h.block j hj)⟩

section prog2
variable {P : Program}
theorem At.load {w : World} {b n : Nat} {t : TypeId} {f : Nat → Nat} {e : TypeId} (h : At w b n t f) (ty : TypeId) (hu : P.underlying ty = some (.array n e)) (hi : (P.info? ty).map (·.size) = some n) :
    (loadVar ty ⟨b, 0, none⟩).run P w = .ok (.agg (ba n f)) w :=
  run_loadVar_row w b t ty _ (0, 0) _ h hu rfl (by rw [ba_size]; exact hi)
theorem At.store {w : World} {b n : Nat} {t : TypeId} {f : Nat → Nat} (h : At w b n t f) (ty : TypeId) (g : Nat → Nat) (hi : (P.info? ty).map (·.size) = some n) :
    (storeVar ty ⟨b, 0, none⟩ (.agg (ba n g))).run P w = .ok () (w.setRow b (ba n g)) :=
  run_storeVar_row w b t ty _ _ h (by rw [ba_size]; exact hi) (by rw [ba_size, ba_size]) (ba_one n g)
end prog2

/-! ### returns of arrays -/
theorem ret_ba {P : Program} {fn : Func} {p : Tmp} {ty : TypeId} {R : Ending → World → Prop} {a : Act} {w : World} {b n : Nat} {t e : TypeId} {f : Nat → Nat} (h : fn.results = #[.cell p ty])
    (hp : a.tmps.getD p undef = .pointer (some ⟨b, 0, none⟩)) (hu : P.underlying ty = some (.array n e)) (hi : (P.info? ty).map (·.size) = some n) (hd : a.defers = [])
    (hA : At w b n t f) (k : R (.returned (.agg (ba n f))) w) : bodyPost P fn R .ret a w :=
  bodyPost_ret (results_cell_row h a.tmps w b t _ (0, 0) _ hp hA hu rfl (by rw [ba_size]; exact hi)) hd k
theorem ret_ba_tmp {P : Program} {fn : Func} {p u : Tmp} {ty : TypeId} {R : Ending → World → Prop} {a : Act} {w : World} {b n : Nat} {t e : TypeId} {f : Nat → Nat} (h : fn.results = #[.cell p ty, .tmp u])
    (hp : a.tmps.getD p undef = .pointer (some ⟨b, 0, none⟩)) (hu : P.underlying ty = some (.array n e)) (hi : (P.info? ty).map (·.size) = some n) (hd : a.defers = [])
    (hA : At w b n t f) (k : R (.returned (.tuple #[.agg (ba n f), a.tmps.getD u undef])) w) : bodyPost P fn R .ret a w := by
  refine bodyPost_ret ?_ hd k
  rw [results_cell_tmp h, hp]
  simp only [asAddr, Sem.run_pure, Result.andThen_ok, hA.load ty hu hi]
theorem ret_ba_ba {P : Program} {fn : Func} {p q : Tmp} {ty ty' : TypeId} {R : Ending → World → Prop} {a : Act} {w : World} {b n b' n' : Nat} {t e t' e' : TypeId} {f g : Nat → Nat} (h : fn.results = #[.cell p ty, .cell q ty'])
    (hp : a.tmps.getD p undef = .pointer (some ⟨b, 0, none⟩)) (hu : P.underlying ty = some (.array n e)) (hi : (P.info? ty).map (·.size) = some n)
    (hp' : a.tmps.getD q undef = .pointer (some ⟨b', 0, none⟩)) (hu' : P.underlying ty' = some (.array n' e')) (hi' : (P.info? ty').map (·.size) = some n') (hd : a.defers = [])
    (hA : At w b n t f) (hB : At w b' n' t' g) (k : R (.returned (.tuple #[.agg (ba n f), .agg (ba n' g)])) w) : bodyPost P fn R .ret a w := by
  refine bodyPost_ret ?_ hd k
  have hp1 : a.tmps[p]?.getD undef = .pointer (some ⟨b, 0, none⟩) := by simpa using hp
  have hp2 : a.tmps[q]?.getD undef = .pointer (some ⟨b', 0, none⟩) := by simpa using hp'
  simp [results, h, hp1, hp2, asAddr, hA.load ty hu hi, hB.load ty' hu' hi']

/-! ### whole loads and stores, as arms of a walk -/
theorem step_load_ba {P : Program} {w : World} {ops : Array Oper} {rest : List Oper} {o : Oper} {a : Act} {Q : Exit → Act → World → Prop} (hgd : o.guard = none) (ty : TypeId) (x : Operand) (ho : o.op = .load ty x)
    (b n : Nat) (t e : TypeId) (f : Nat → Nat) (hx : a.eval x = .pointer (some ⟨b, 0, none⟩)) (hA : At w b n t f) (hu : P.underlying ty = some (.array n e)) (hi : (P.info? ty).map (·.size) = some n)
    (k : wpList P ops Q rest (a.put o.dst (.agg (ba n f))) w) : wpList P ops Q (o :: rest) a w :=
  wpList_load_row hgd ty x ho b hx t _ (0, 0) _ hA hu rfl (by rw [ba_size]; exact hi) k
theorem step_store_ba {P : Program} {w : World} {ops : Array Oper} {rest : List Oper} {o : Oper} {a : Act} {Q : Exit → Act → World → Prop} (hgd : o.guard = none) (ty : TypeId) (x y : Operand) (ho : o.op = .store ty x y)
    (b n : Nat) (t : TypeId) (f g : Nat → Nat) (hx : a.eval x = .pointer (some ⟨b, 0, none⟩)) (hy : a.eval y = .agg (ba n g)) (hA : At w b n t f) (hi : (P.info? ty).map (·.size) = some n)
    (k : wpList P ops Q rest (a.put o.dst undef) (w.setRow b (ba n g))) : wpList P ops Q (o :: rest) a w :=
  wpList_plain hgd fun _ hK => wp_store_row ty x y ho b _ hx hy t _ hA (by rw [ba_size]; exact hi) (by rw [ba_size, ba_size]) (ba_one n g) (hK _ _ k)
end Go.Proofs.Ytffoinnllihdeaa

/- General: a region that draws its order, one operation after another by hand: what may be taken first, guarded operations that are passed over among it. No program is named. -/
namespace Go.Proofs.Ytffoinnllihdeaa
open Go.RowKit

section
variable {P : Program} {ops : Array Oper} {S : World → Prop} {o : Oper} {a : Act}
theorem y_skip (hw : Region.wanted o (yielded ops a.tmps) = false) : YieldsIf P ops S o undef a := .inr ⟨hw, rfl⟩
theorem y_move (hw : Region.wanted o (yielded ops a.tmps) = true) (x : Operand) (h : o.op = .move x) : YieldsIf P ops S o (a.eval x) a := .inl ⟨hw, fun w _ => BigFrame.run_move x h w⟩
theorem y_assign (hw : Region.wanted o (yielded ops a.tmps) = true) (x : Operand) (h : o.op = .assign x) : YieldsIf P ops S o (a.eval x) a := .inl ⟨hw, fun w _ => BigFrame.run_assign x h w⟩
theorem run_not {ρ : Operand → Value} (t : TypeId) (x : Operand) (b : Bool) (h : o.op = .unOp .not t x) (hx : ρ x = .bool b) (w : World) : (execOp ρ o).run P w = .ok (.value (.bool (!b))) w := by
  unfold execOp; rw [h]; simp [hx, go_sem]
theorem run_pick {ρ : Operand → Value} (c x y : Operand) (b : Bool) (h : o.op = .pick c x y) (hc : ρ c = .bool b) (w : World) : (execOp ρ o).run P w = .ok (.value (if b then ρ x else ρ y)) w := by
  unfold execOp; rw [h]; cases b <;> simp [hc, go_sem]
theorem y_not (hw : Region.wanted o (yielded ops a.tmps) = true) (t : TypeId) (x : Operand) (b : Bool) (h : o.op = .unOp .not t x) (hx : a.eval x = .bool b) : YieldsIf P ops S o (.bool (!b)) a :=
  .inl ⟨hw, fun w _ => run_not t x b h hx w⟩
theorem y_pick (hw : Region.wanted o (yielded ops a.tmps) = true) (c x y : Operand) (b : Bool) (v : Value) (h : o.op = .pick c x y) (hc : a.eval c = .bool b) (hv : (if b then a.eval x else a.eval y) = v) : YieldsIf P ops S o v a :=
  .inl ⟨hw, fun w _ => by rw [← hv]; exact run_pick c x y b h hc w⟩
end

/-- A region that draws, whose first n operations read or call quietly, the others standing in one order behind them. -/
theorem region_tail {P : Program} {id : Nat} {Q : Exit → Act → World → Prop} {a : Act} {w : World} {l : List Oper} (n : Nat) (hm : P.follows .mixedOrders = true) (hB : Region.lexTailB .any l.toArray n = true)
    (h : wpStill P l.toArray w.drew (fun a' => wpList P l.toArray Q (l.drop n) a' w.drew) (l.take n) a) : (Code.region id l.toArray true).wp P Q a w :=
  wp_region_still_tail n hm hB h

theorem wrap_two {d : Nat} (hd : d ≤ 8) : IntKind.i64.wrap ((2 : Int) ^ d) = 2 ^ d := by
  have : ∀ d < 9, IntKind.i64.wrap ((2 : Int) ^ d) = 2 ^ d := by decide +kernel
  exact this d (by omega)
/-- 1 shifted by a number that is known to be small. -/
theorem step_shl_one {P : Program} {w : World} {ops : Array Oper} {rest : List Oper} {o : Oper} {a : Act} {Q : Exit → Act → World → Prop} (hgd : o.guard = none) (t t' : TypeId) (x y : Operand) (ho : o.op = .binOp .shl t x y t')
    (d N : Nat) (hx : a.eval x = .int .i64 1) (hy : a.eval y = .int .u64 (d : Int)) (hd : d ≤ 8) (hN : N = 2 ^ d)
    (k : wpList P ops Q rest (a.put o.dst (.int .i64 (N : Int))) w) : wpList P ops Q (o :: rest) a w :=
  wpList_plain hgd fun _ hK => by
    have e : (execOp a.eval o).run P w = .ok (.value (.int .i64 (N : Int))) w := by
      unfold execOp
      rw [ho]
      simp only [hx, hy, binOp_shl, Sem.run_bind, hN, Sem.run_pure]
      simp [eqGuard, wrap_two hd]
    unfold Oper.wp
    rw [e]
    exact hK _ _ k
theorem wrap_bit {z d : Nat} (hz : z ≤ 1) (hd : d ≤ 8) : IntKind.i64.wrap ((z : Int) * 2 ^ d) = ((z * 2 ^ d : Nat) : Int) := by
  have : ∀ z : Nat, z < 2 → ∀ d : Nat, d < 9 → IntKind.i64.wrap ((z : Int) * 2 ^ d) = ((z * 2 ^ d : Nat) : Int) := by decide +kernel
  exact this z (by omega) d (by omega)
/-- A bit shifted by a number that is known to be small. -/
theorem step_shl_nat {P : Program} {w : World} {ops : Array Oper} {rest : List Oper} {o : Oper} {a : Act} {Q : Exit → Act → World → Prop} (hgd : o.guard = none) (t t' : TypeId) (x y : Operand) (ho : o.op = .binOp .shl t x y t')
    (z d N : Nat) (hx : a.eval x = .int .i64 (z : Int)) (hy : a.eval y = .int .u64 (d : Int)) (hz : z ≤ 1) (hd : d ≤ 8) (hN : N = z * 2 ^ d)
    (k : wpList P ops Q rest (a.put o.dst (.int .i64 (N : Int))) w) : wpList P ops Q (o :: rest) a w :=
  wpList_plain hgd fun _ hK => by
    have e : (execOp a.eval o).run P w = .ok (.value (.int .i64 (N : Int))) w := by
      unfold execOp
      rw [ho]
      simp only [hx, hy, binOp_shl, Sem.run_bind, hN, Sem.run_pure]
      simp [eqGuard, wrap_bit hz hd]
    unfold Oper.wp
    rw [e]
    exact hK _ _ k
/-- A whole load that its guard lets by. -/
theorem step_load_ba_want {P : Program} {w : World} {ops : Array Oper} {rest : List Oper} {o : Oper} {a : Act} {Q : Exit → Act → World → Prop} (hw : Region.wanted o (yielded ops a.tmps) = true) (ty : TypeId) (x : Operand) (ho : o.op = .load ty x)
    (b n : Nat) (t e : TypeId) (f : Nat → Nat) (hx : a.eval x = .pointer (some ⟨b, 0, none⟩)) (hA : At w b n t f) (hu : P.underlying ty = some (.array n e)) (hi : (P.info? ty).map (·.size) = some n)
    (k : wpList P ops Q rest (a.put o.dst (.agg (ba n f))) w) : wpList P ops Q (o :: rest) a w :=
  BigFrame.wpList_want hw fun _ hK => wp_load_row ty x ho b hx t _ (0, 0) _ hA hu rfl (by rw [ba_size]; exact hi) (hK _ _ k)
end Go.Proofs.Ytffoinnllihdeaa

/- General: an array of bytes that comes in by value, read as numbers. No program is named. -/
namespace Go.Proofs.Ytffoinnllihdeaa
open Go.ChangeShapes Go.WideShapes Go.ChangeAt Go.RowKit

theorem arr_open {H : Type} {enc : TypeId × Value → H} {P : Program} {W : World} {sp : Nat → Bool} {held : Bool} {k : IntKind} {n : Nat} {t e : TypeId} {base : Nat} {v : Value} {d : DataW H} {p : List MemPlace} {b0 : Nat}
    (ht : P.underlying t = some (.array n e)) (he : P.underlying e = some (.int k)) (hc : P.cellsOf e = 1) (hct : P.cellsOf t = n)
    (hv : Value.okWide P W .any b0 t v) (h : DataW.Trod enc P W base sp held t v d p) :
    ∃ zs : List Int, v = .agg (zs.map (Value.int k)).toArray ∧ zs.length = n ∧ ∀ z ∈ zs, (Lit.int k z).wf = true := by
  have hv' : ∃ cs, v = .agg cs ∧ cs.size = P.cellsOf t := by
    unfold Value.okWide at hv
    rw [ht] at hv
    obtain ⟨cs, h1, h2, _⟩ := hv
    exact ⟨cs, h1, h2⟩
  obtain ⟨cs, rfl, hcs⟩ := hv'
  obtain ⟨fuel, hf⟩ := h
  obtain ⟨xs, m, rfl, _, hl, hxl, hel⟩ := DataW.trod_array ht hf
  simp only [Value.cells, hc, Nat.mul_one, hct] at hl hel
  have each : ∀ i (h : i < cs.toList.length), ∃ z, cs.toList[i] = .int k z ∧ (Lit.int k z).wf = true := by
    intro i hi
    have h1 := hel i (by omega)
    rw [List.drop_eq_getElem_cons hi, List.take_succ_cons, List.take_zero, List.getElem?_eq_getElem (by omega)] at h1
    obtain ⟨z, hz, _, hw⟩ := DataW.trod_int he h1
    simp only [List.cons.injEq, and_true] at hz
    exact ⟨z, hz, hw⟩
  have lst : ∀ l : List Value, (∀ i (h : i < l.length), ∃ z, l[i] = .int k z ∧ (Lit.int k z).wf = true) → ∃ zs : List Int, l = zs.map (Value.int k) ∧ ∀ z ∈ zs, (Lit.int k z).wf = true := by
    intro l
    induction l with
    | nil => intro _; exact ⟨[], rfl, by simp⟩
    | cons a r ih =>
      intro h
      obtain ⟨z, hz, hw⟩ := h 0 (by simp)
      obtain ⟨zs, hr, hws⟩ := ih (fun i hi => h (i + 1) (by simp; omega))
      simp only [List.getElem_cons_zero] at hz
      exact ⟨z :: zs, by rw [hz, hr]; rfl, by intro y hy; rcases List.mem_cons.1 hy with rfl | hy; exact hw; exact hws y hy⟩
  obtain ⟨zs, hz, hws⟩ := lst _ each
  refine ⟨zs, by rw [← hz], ?_, hws⟩
  have := congrArg List.length hz
  simp at this hl; omega


/-- .. of n bytes. -/
theorem ba_open {H : Type} {enc : TypeId × Value → H} {P : Program} {W : World} {sp : Nat → Bool} {held : Bool} {n : Nat} {t e : TypeId} {base : Nat} {v : Value} {d : DataW H} {p : List MemPlace} {b0 : Nat}
    (ht : P.underlying t = some (.array n e)) (he : P.underlying e = some (.int .u8)) (hc : P.cellsOf e = 1) (hct : P.cellsOf t = n)
    (hv : Value.okWide P W .any b0 t v) (h : DataW.Trod enc P W base sp held t v d p) :
    ∃ f : Nat → Nat, v = .agg (ba n f) ∧ ∀ i, i < n → f i < 256 := by
  obtain ⟨zs, rfl, hl, hw⟩ := arr_open ht he hc hct hv h
  have hb : ∀ i, i < n → 0 ≤ nth zs i ∧ nth zs i ≤ 255 := fun i hi => by
    rw [nth_of (show i < zs.length by omega)]; exact bounds_u8 (hw _ (List.getElem_mem _))
  refine ⟨fun i => (nth zs i).toNat, ?_, fun i hi => by have := hb i hi; show (nth zs i).toNat < 256; omega⟩
  congr 1
  apply Array.ext_getElem?
  intro i
  by_cases hi : i < n
  · rw [ba_get _ hi]
    have := hb i hi
    simp only [List.getElem?_toArray, List.getElem?_map, List.getElem?_eq_getElem (show i < zs.length by omega), Option.map_some]
    rw [nth_of (show i < zs.length by omega)] at this ⊢
    congr 2; omega
  · have h2 : (ba n (fun i => (nth zs i).toNat))[i]? = none := by simp [ba_size]; omega
    rw [h2]
    simp; omega
end Go.Proofs.Ytffoinnllihdeaa

/- General: rows of bytes as functions, words in blocks, lists of words that the call owns, append that leaves the old row. No program is named. -/
namespace Go.Proofs.Ytffoinnllihdeaa
open Go.ChangeShapes Go.WideShapes Go.ChangeAt Go.RowKit

/-- The first n bytes of f as numbers. -/
def ns (n : Nat) (f : Nat → Nat) : List Int := (List.range n).map fun j => (f j : Int)
theorem ns_len (n : Nat) (f : Nat → Nat) : (ns n f).length = n := by simp [ns]
theorem ns_at {n : Nat} (f : Nat → Nat) {j : Nat} (h : j < n) : (ns n f)[j]? = some (f j : Int) := by simp [ns, h]
theorem ns_nth {n : Nat} (f : Nat → Nat) {j : Nat} (h : j < n) : nth (ns n f) j = (f j : Int) := by simp [nth, List.getD, ns_at f h]
theorem ns_ext {n : Nat} {f g : Nat → Nat} (h : ∀ j, j < n → f j = g j) : ns n f = ns n g :=
  List.map_congr_left fun i hi => by rw [h i (List.mem_range.1 hi)]
theorem ns_inj {n : Nat} {f g : Nat → Nat} (h : ns n f = ns n g) : ∀ j, j < n → f j = g j := fun j hj => by
  have := congrArg (fun l => l[j]?) h
  simp only [ns_at f hj, ns_at g hj, Option.some.injEq] at this
  omega
theorem ns_set (n : Nat) (f : Nat → Nat) (j z : Nat) : (ns n f).set j (z : Int) = ns n (upd f j z) := by
  apply List.ext_getElem?
  intro i
  rw [List.getElem?_set, ns_len]
  by_cases hi : i < n
  · rw [ns_at _ hi, ns_at _ hi]
    by_cases e : j = i
    · subst e; rw [if_pos rfl, if_pos hi, upd_same]
    · rw [if_neg e, upd_other _ _ _ _ (fun h => e h.symm)]
  · have h1 : (ns n f)[i]? = none := by rw [List.getElem?_eq_none_iff, ns_len]; omega
    have h2 : (ns n (upd f j z))[i]? = none := by rw [List.getElem?_eq_none_iff, ns_len]; omega
    rw [h1, h2]
    by_cases e : j = i
    · rw [if_pos e, if_neg (by omega)]
    · rw [if_neg e]
theorem ns_snoc (n : Nat) (f : Nat → Nat) : ns n f ++ [(f n : Int)] = ns (n + 1) f := by simp [ns, List.range_succ]
theorem ns_app (n m : Nat) (f : Nat → Nat) : ns n f ++ ns m (fun j => f (n + j)) = ns (n + m) f := by
  unfold ns
  rw [List.range_add, List.map_append, List.map_map]
  rfl
theorem ns_zero (n : Nat) : List.replicate n (0 : Int) = ns n (fun _ => 0) := by
  apply List.ext_getElem?
  intro i
  by_cases hi : i < n
  · rw [ns_at _ hi]; simp [hi]
  · rw [List.getElem?_eq_none (by simp; omega), List.getElem?_eq_none (by rw [ns_len]; omega)]
theorem wf_byte {z : Nat} (h : z < 256) : (Lit.int .u8 (z : Int)).wf = true := WalkArith.wf_u8 (by omega)
theorem ns_wf {n : Nat} {f : Nat → Nat} (h : ∀ j, j < n → f j < 256) : ∀ z ∈ ns n f, (Lit.int .u8 z).wf = true := by
  intro z hz
  obtain ⟨j, hj, rfl⟩ := List.mem_map.1 hz
  exact wf_byte (h j (List.mem_range.1 hj))
theorem ns_ba (n : Nat) (f : Nat → Nat) : (ns n f).map (Value.int .u8) = (ba n f).toList := by simp [ns, ba]

/-! ### bytes that lie in a block -/
/-- n bytes of block g, from off on, are f's. -/
structure Wd (w : World) (n g off : Nat) (f : Nat → Nat) : Prop where
  lt : g < w.heap.size
  cell : ∀ j, j < n → w.cell? ⟨g, off + j, none⟩ = some (.int .u8 (f j : Int))
  byte : ∀ j, j < n → f j < 256
section
variable {w w' : World} {n g off b B : Nat} {f : Nat → Nat}
theorem Wd.same (h : Wd w n g off f) (hs : w.heap.size ≤ w'.heap.size) (hb : w'.heap[g]? = w.heap[g]?) : Wd w' n g off f :=
  ⟨Nat.lt_of_lt_of_le h.lt hs, fun j hj => (World.cell?_of_block (w := w) hb).trans (h.cell j hj), h.byte⟩
theorem Wd.only (h : Wd w n g off f) (o : Only b w w') (hn : g ≠ b) : Wd w' n g off f := h.same o.size (o.block g h.lt hn)
theorem Wd.below (h : Wd w n g off f) (hb : Below B w w') (hB : g < B) : Wd w' n g off f := h.same hb.size (hb.block g hB)
theorem Wd.self (h : Wd w n g off f) (hb : Below w.heap.size w w') : Wd w' n g off f := h.below hb h.lt
theorem Wd.drew (h : Wd w n g off f) : Wd w.drew n g off f := ⟨h.lt, h.cell, h.byte⟩
theorem Wd.alloc (h : Wd w n g off f) (o : Obj) : Wd (w.alloc o) n g off f := h.same (by simp) (heap_alloc_old w o h.lt)
theorem Wd.ext {f' : Nat → Nat} (h : Wd w n g off f) (e : ∀ j, j < n → f j = f' j) : Wd w n g off f' :=
  ⟨h.lt, fun j hj => by rw [h.cell j hj, e j hj], fun j hj => by rw [← e j hj]; exact h.byte j hj⟩
theorem Wd.part (h : Wd w n g off f) {k m : Nat} (hk : k + m ≤ n) : Wd w m g (off + k) (fun j => f (k + j)) :=
  ⟨h.lt, fun j hj => by rw [Nat.add_assoc]; exact h.cell (k + j) (by omega), fun j hj => h.byte (k + j) (by omega)⟩
theorem Wd.rd (h : Wd w n g off f) (c : Nat) (hn : n ≤ 65536) : Rd .u8 w (.slice (some ⟨g, off, none⟩) n c) (ns n f) :=
  ⟨some ⟨g, off, none⟩, c, by rw [ns_len], by rw [ns_len]; show n * 1 ≤ _; omega, ns_wf h.byte, fun _ => ⟨g, off, rfl, h.lt, fun j hj => by rw [ns_len] at hj; rw [h.cell j hj, ns_nth f hj]⟩⟩
theorem Wd.of_at {t : TypeId} (h : At w b n t f) (hf : ∀ j, j < n → f j < 256) : Wd w n b 0 f :=
  ⟨h.lt, fun j hj => by rw [Nat.zero_add]; exact h.cell hj, hf⟩
theorem Wd.of_own {E : TypeId} {c m : Nat} (h : Own .u8 B E w (.slice (some ⟨g, 0, none⟩) m c) (ns n f)) (hn : 0 < n) (hf : ∀ j, j < n → f j < 256) : Wd w n g 0 f := by
  obtain ⟨g', cap, e, hB, hlt, hc, _⟩ := h.part (by rw [ns_len]; exact hn)
  injection e with e1 e2 e3
  injection e1 with e1
  injection e1 with e1
  subst e1
  exact ⟨hlt, fun j hj => by rw [Nat.zero_add, hc j (by rw [ns_len]; exact hj), ns_nth f hj], hf⟩
theorem Wd.of_rd {v : Value} {zs : List Int} (h : Rd .u8 w v zs) (h0 : 0 < zs.length) :
    ∃ g off c, v = .slice (some ⟨g, off, none⟩) zs.length c ∧ Wd w zs.length g off (fun j => (nth zs j).toNat) := by
  obtain ⟨a, c, rfl, _, hw, hc⟩ := h
  obtain ⟨g, off, rfl, hlt, hcell⟩ := hc h0
  refine ⟨g, off, c, rfl, hlt, fun j hj => ?_, fun j hj => ?_⟩
  · have hb := bounds_u8 (hw _ (List.getElem_mem (h := hj)))
    rw [← nth_of hj] at hb
    rw [hcell j hj]; congr 2; omega
  · have hb := bounds_u8 (hw _ (List.getElem_mem (h := hj)))
    rw [← nth_of hj] at hb
    show (nth zs j).toNat < 256
    omega
end

/-- A slice of numbers that comes in, with its capacity. -/
theorem rd_open2 {H : Type} {enc : TypeId × Value → H} {P : Program} {W : World} {held : Bool} {k : IntKind} {t e : TypeId} {base : Nat} {v : Value} {d : DataW H} {p : List MemPlace} {ts : List TypeId} {ds : List (DataW H)} {j : Nat}
    (ht : P.underlying t = some (.slice e)) (he : P.underlying e = some (.int k)) (hc : P.cellsOf e = 1) (hb : P.bytesOf e = k.bits / 8)
    (hv : Value.okWide P W .any base t v) (h : DataW.Trod enc P W 0 (fun _ => true) held t v d p) (hlt : ∀ x ∈ p, x.block < W.heap.size)
    (hsz : (DataW.weightsEach P ts ds).all (· ≤ reachBytes) = true) (hj : ts[j]? = some t) (hd : ds[j]? = some d) :
    ∃ zs, Rd k W v zs ∧ ∀ a n c, v = .slice a n c → n ≤ c ∧ c ≤ maxLen := by
  obtain ⟨a0, len, cap, rfl⟩ := okWide_slice ht hv
  obtain ⟨fuel, hf⟩ := h
  rcases open_ints ht he hc hf with ⟨hcs, hx⟩ | ⟨a, len', cap', zs, hcs, _, hl, hm, hz, hx, hcell, hwz⟩
  · simp [Value.cells] at hcs
    obtain ⟨rfl, rfl, rfl⟩ := hcs
    exact ⟨[], ⟨none, 0, rfl, by simp, by simp, by simp⟩, fun a n c e => by injection e with e1 e2 e3; subst e2; subst e3; unfold maxLen; omega⟩
  · simp [Value.cells] at hcs
    obtain ⟨rfl, rfl, rfl⟩ := hcs
    simp only [Prod.mk.injEq] at hx
    obtain ⟨rfl, rfl⟩ := hx
    simp only [if_true] at hz
    have hreach := sized_slice hsz hj hd ht
    rw [hb] at hreach
    simp only [lits, List.length_map, List.length_take, List.length_drop, reachBytes] at hreach
    have hle : (zs.take len).length = len := by simp; omega
    refine ⟨zs.take len, ⟨some a, cap, by rw [hle], ?_, fun z hz' => hwz z (List.mem_of_mem_take hz'), fun hp => ?_⟩, fun a n c e => by injection e with e1 e2 e3; subst e2; subst e3; exact ⟨hl, hm⟩⟩
    · rw [hle]
      refine Nat.le_trans (Nat.mul_le_mul_right _ ?_) hreach
      omega
    · rw [hle] at hp ⊢
      obtain ⟨b, off, spot⟩ := a
      have hspot : spot = none := by simpa [Addr.add] using World.cell?_spot (hcell 0 (by omega))
      subst hspot
      refine ⟨b, off, rfl, hlt (.cell b off) (MemPlace.mem_row.2 ⟨0, by omega, by simp⟩), fun j hj => ?_⟩
      have := hcell j (by omega)
      rw [add_plain] at this
      rw [this]
      simp [nth, List.getD, hj]

/-! ### append onto a row that the call owns: the old row's cells stand, wherever the new one lies -/
section
variable {P : Program} (w : World)
theorem run_append_stays (t ty : TypeId) (base : Nat) (e : TypeId) (i : TypeInfo) (z : Value) (size bytes : Nat) (ht : P.underlying t = some (.slice e)) (hi : P.info? e = some i) (hz : i.zero = some z)
    (hsize : i.size = size) (hby : i.bytes = bytes) (hzs : z.cells.size = size) (hsz : 0 < size)
    (c n cap : Nat) (xs : List Value) (hown : w.ownsRow base e size (.slice (some ⟨c, 0, none⟩) n cap) n xs)
    (ad : Addr) (m k : Nat) (news : List Value) (hl : news.length = m * size) (hnews : ∀ j u, news[j]? = some u → w.cell? (ad.add j) = some u) (h1 : ∀ u ∈ news, u.oneCell' = true)
    (hm : 0 < m) (h63 : n + m ≤ maxLen) (hbytes : (n + m) * bytes ≤ 140737488355328) (hbase : base ≤ w.heap.size) :
    ∃ g cap' w', (Builtin.append_ #[t, t] ty #[.slice (some ⟨c, 0, none⟩) n cap, .slice (some ad) m k]).run P w = .ok (.slice (some ⟨g, 0, none⟩) (n + m) cap') w' ∧
      w'.ownsRow base e size (.slice (some ⟨g, 0, none⟩) (n + m) cap') (n + m) (xs ++ news) ∧ w.grownBy w' (some c) ∧ (g = c ∨ g = w.heap.size) ∧ g < w'.heap.size ∧
      (∀ j u, xs[j]? = some u → w'.cell? ⟨c, j, none⟩ = some u) := by
  obtain ⟨g, cap', w', hr, h2, h3, h4, h5⟩ := run_append_lies (P := P) w t ty base e i z size bytes ht hi hz hsize hby hzs hsz _ n xs hown ad m k news hl hnews h1 hm h63 hbytes hbase _ rfl
  have h4' : g = c ∨ g = w.heap.size := by
    rcases h4 with h4 | h4
    · exact .inl (by simpa [Value.ownBlock] using h4.symm)
    · exact .inr h4
  refine ⟨g, cap', w', hr, h2, h3, h4', h5, fun j u hj => ?_⟩
  have hjx : j < xs.length := (List.getElem?_eq_some_iff.1 hj).1
  rcases h4' with rfl | h4'
  · have := h2.cells (g := g) rfl j u (by rw [List.getElem?_append_left hjx]; exact hj)
    rwa [Addr.add_mid, Nat.zero_add] at this
  · have hold : w.cell? ⟨c, j, none⟩ = some u := by
      have := hown.cells (g := c) rfl j u hj
      rwa [Addr.add_mid, Nat.zero_add] at this
    have hc : c < w.heap.size := World.block_lt_of_cell? w _ hold
    subst hsize
    subst hby
    by_cases hroom : n + m ≤ cap
    · rcases hown.2 with ⟨e0, _⟩ | ⟨g', cap1, cur, e0, hbg, hg, hnc, hcm, hcs, htake⟩
      · cases e0
      · injection e0 with e1 e2 e3
        injection e1 with e1
        injection e1 with e1
        subst e1; subst e3
        have hfit : n * i.size + news.length ≤ cur.size := by rw [hl, hcs, ← Nat.add_mul]; exact Nat.mul_le_mul_right _ hroom
        have hr' := run_append_room (P := P) w t ty e i ht hi c n cap cur hg ad m k news hl hnews h1 hroom hfit
        rw [hr'] at hr
        injection hr with hr1 _
        injection hr1 with hr1 _ _
        injection hr1 with hr1
        injection hr1 with hr1
        omega
    · have holds : ∀ j u, xs[j]? = some u → w.cell? ((⟨c, 0, none⟩ : Addr).add j) = some u := hown.cells (g := c) rfl
      have hr' := run_append_grow (P := P) w t ty e i z ht hi hz ⟨c, 0, none⟩ n cap xs hown.1 holds ad m k news hl hnews (by omega) (by unfold maxLen at h63; omega) (growslice_fits (by omega) hbytes)
      rw [hr'] at hr
      injection hr with _ hr2
      rw [← hr2]
      rw [World.cell?_of_block (w := w.drew) (heap_alloc_old w.drew _ hc)]
      exact hold

theorem wp_append_stays {o : Oper} {a : Act} {K : Act → World → Prop} {Q : Exit → Act → World → Prop} (s x : Operand) (t : TypeId)
    (ho : o.op = .call { callee := .builtin .append, args := #[s, x], argTypes := #[t, t] })
    (base : Nat) (e : TypeId) (i : TypeInfo) (z : Value) (size bytes : Nat) (ht : P.underlying t = some (.slice e)) (hi : P.info? e = some i) (hz : i.zero = some z)
    (hsize : i.size = size) (hby : i.bytes = bytes) (hzs : z.cells.size = size) (hsz : 0 < size)
    (c n cap : Nat) (xs : List Value) (hs : a.eval s = .slice (some ⟨c, 0, none⟩) n cap) (hown : w.ownsRow base e size (.slice (some ⟨c, 0, none⟩) n cap) n xs)
    (ad : Addr) (m k : Nat) (news : List Value) (hx : a.eval x = .slice (some ad) m k) (hl : news.length = m * size) (hnews : ∀ j u, news[j]? = some u → w.cell? (ad.add j) = some u) (h1 : ∀ u ∈ news, u.oneCell' = true)
    (hm : 0 < m) (h63 : n + m ≤ maxLen) (hbytes : (n + m) * bytes ≤ 140737488355328) (hbase : base ≤ w.heap.size)
    (h : ∀ g cap' w', w'.ownsRow base e size (.slice (some ⟨g, 0, none⟩) (n + m) cap') (n + m) (xs ++ news) → w.grownBy w' (some c) → (g = c ∨ g = w.heap.size) → g < w'.heap.size →
      (∀ j u, xs[j]? = some u → w'.cell? ⟨c, j, none⟩ = some u) → K (a.put o.dst (.slice (some ⟨g, 0, none⟩) (n + m) cap')) w') : o.wp P a w K Q := by
  obtain ⟨g, cap', w', hr, h2, h3, h4, h5, h6⟩ := run_append_stays (P := P) w t o.type base e i z size bytes ht hi hz hsize hby hzs hsz c n cap xs hown ad m k news hl hnews h1 hm h63 hbytes hbase
  unfold Oper.wp execOp
  simp only [ho, resolve, invoke, builtin, Sem.run_bind, Sem.run_pure, Result.andThen_ok, List.map_toArray, List.map_cons, List.map_nil, hs, hx, hr]
  exact h g cap' w' h2 h3 h4 h5 h6
end

/-- 'append' that must grow, at a step of a region that draws: the new row is the call's own. -/
theorem step_append_new {P : Program} {ops : Array Oper} {o : Oper} {a : Act} {w : World} {K : Act → World → Prop} {Q : Exit → Act → World → Prop} {X : Prop} (hgd : o.guard = none) (s x : Operand) (t : TypeId)
    (ho : o.op = .call { callee := .builtin .append, args := #[s, x], argTypes := #[t, t] }) (k : IntKind) (E : TypeId) (ht : P.underlying t = some (.slice E))
    (hinfo : (P.info? E).map (fun i => (i.zero, i.size, i.bytes)) = some (some (.int k 0), 1, k.bits / 8)) (hk : 0 < k.bits / 8)
    (b : Addr) (n cap : Nat) (olds : List Int) (hs : a.eval s = .slice (some b) n cap) (hlo : olds.length = n) (holds : ∀ j, j < n → w.cell? (b.add j) = some (.int k (nth olds j)))
    (ad : Addr) (m c : Nat) (ns : List Int) (hx : a.eval x = .slice (some ad) m c) (hm : ns.length = m) (hns : ∀ j, j < m → w.cell? (ad.add j) = some (.int k (nth ns j)))
    (hfull : cap < n + m) (hlim : (n + m) * (k.bits / 8) ≤ 140737488355328)
    (h : ∀ g c' w', Own k w.heap.size E w' (.slice (some ⟨g, 0, none⟩) (n + m) c') (olds ++ ns) → w.heap.size ≤ g → Below w.heap.size w w' → K (a.put o.dst (.slice (some ⟨g, 0, none⟩) (n + m) c')) w') :
    if Region.wanted o (yielded ops a.tmps) = true then Oper.wp P o a w K Q else X := by
  have hw : Region.wanted o (yielded ops a.tmps) = true := by simp [Region.wanted, hgd]
  rw [if_pos hw]
  obtain ⟨i0, hi, hz0, hz1, hz2⟩ := info_parts hinfo
  have hle : n + m ≤ (n + m) * (k.bits / 8) := Nat.le_mul_of_pos_right _ hk
  obtain ⟨v', w', hrun, r1, r2⟩ := run_append_arg_grows (P := P) w t o.type E i0 _ 1 (k.bits / 8) ht hi hz0 hz1 hz2 rfl (by decide) b n cap (olds.map (Value.int k)) (by simp [hlo])
    (fun j u hj => by
      simp only [List.getElem?_map, Option.map_eq_some_iff] at hj
      obtain ⟨z, hz, rfl⟩ := hj
      obtain ⟨hj, rfl⟩ := List.getElem?_eq_some_iff.1 hz
      rw [holds j (by omega), nth_of hj])
    ad m c (ns.map (Value.int k)) (by simp [hm])
    (fun j u hj => by
      simp only [List.getElem?_map, Option.map_eq_some_iff] at hj
      obtain ⟨z, hz, rfl⟩ := hj
      obtain ⟨hj, rfl⟩ := List.getElem?_eq_some_iff.1 hz
      rw [hns j (by omega), nth_of hj])
    hfull (by unfold maxLen; omega) hlim
  obtain ⟨g, c', rfl, hg, _⟩ := r1.form (by omega)
  unfold Oper.wp
  simp [execOp, ho, resolve, invoke, builtin, hs, hx, hrun, Result.andThen]
  refine h g c' w' ?_ hg ((Below.refl _ _).grown r2 (Nat.le_refl _) (fun _ h => by cases h))
  unfold Own
  rw [List.length_append, List.map_append, hlo, hm]
  exact r1

/-! ### lists of rows of bytes, owned by the call -/
/-- The values of the first m rows: n bytes each, at gs i from os i on, of capacity cs i. -/
def vs (m n : Nat) (gs os cs : Nat → Nat) : List Value := (List.range m).map fun i => .slice (some ⟨gs i, os i, none⟩) n (cs i)
theorem vs_len (m n : Nat) (gs os cs : Nat → Nat) : (vs m n gs os cs).length = m := by simp [vs]
theorem vs_at {m : Nat} (n : Nat) (gs os cs : Nat → Nat) {i : Nat} (h : i < m) : (vs m n gs os cs)[i]? = some (.slice (some ⟨gs i, os i, none⟩) n (cs i)) := by simp [vs, h]
theorem vs_ext {m n : Nat} {gs os cs gs' os' cs' : Nat → Nat} (h : ∀ i, i < m → gs i = gs' i ∧ os i = os' i ∧ cs i = cs' i) : vs m n gs os cs = vs m n gs' os' cs' :=
  List.map_congr_left fun i hi => by obtain ⟨h1, h2, h3⟩ := h i (List.mem_range.1 hi); rw [h1, h2, h3]
theorem vs_snoc (m n : Nat) (gs os cs : Nat → Nat) (g o c : Nat) : vs m n gs os cs ++ [.slice (some ⟨g, o, none⟩) n c] = vs (m + 1) n (upd gs m g) (upd os m o) (upd cs m c) := by
  unfold vs
  rw [List.range_succ, List.map_append]
  congr 1
  · exact List.map_congr_left fun i hi => by
      have := List.mem_range.1 hi
      rw [upd_other _ _ _ _ (by omega), upd_other _ _ _ _ (by omega), upd_other _ _ _ _ (by omega)]
  · simp [upd_same]

/-- Block c is a list of m rows of n bytes each; what the rows hold is F; none of them lies in c. -/
structure LW (w : World) (B : Nat) (E : TypeId) (c m cap n : Nat) (gs os cs : Nat → Nat) (F : Nat → Nat → Nat) : Prop where
  own : w.ownsRow B E 1 (.slice (some ⟨c, 0, none⟩) m cap) m (vs m n gs os cs)
  each : ∀ i, i < m → Wd w n (gs i) (os i) (F i)
  apart : ∀ i, i < m → gs i ≠ c
/-- A row F of rows, with one more. -/
def updR (F : Nat → Nat → Nat) (m : Nat) (f : Nat → Nat) : Nat → Nat → Nat := fun i => if i = m then f else F i
section
variable {w w' : World} {B c m cap n b : Nat} {E : TypeId} {gs os cs : Nat → Nat} {F : Nat → Nat → Nat}
theorem LW.form (h : LW w B E c m cap n gs os cs F) : B ≤ c ∧ c < w.heap.size ∧ m ≤ cap ∧ cap ≤ maxLen := by
  rcases h.own.2 with ⟨e, _⟩ | ⟨g, cap', cur, e, h1, h2, h3, h4, _⟩
  · cases e
  · injection e with e1 e2 e3
    injection e1 with e1
    injection e1 with e1
    subst e1; subst e3
    exact ⟨h1, (Array.getElem?_eq_some_iff.1 h2).1, h3, h4⟩
theorem LW.lt (h : LW w B E c m cap n gs os cs F) : c < w.heap.size := h.form.2.1
theorem LW.cell (h : LW w B E c m cap n gs os cs F) {i : Nat} (hi : i < m) : w.cell? ⟨c, i, none⟩ = some (.slice (some ⟨gs i, os i, none⟩) n (cs i)) := by
  have := h.own.cells (g := c) rfl i _ (vs_at n gs os cs hi)
  rwa [Addr.add_mid, Nat.zero_add] at this
theorem LW.same (h : LW w B E c m cap n gs os cs F) (hs : w.heap.size ≤ w'.heap.size) (hc : w'.heap[c]? = w.heap[c]?) (hg : ∀ i, i < m → w'.heap[gs i]? = w.heap[gs i]?) : LW w' B E c m cap n gs os cs F := by
  refine ⟨⟨h.own.1, ?_⟩, fun i hi => (h.each i hi).same hs (hg i hi), h.apart⟩
  rcases h.own.2 with ⟨e, _⟩ | ⟨g, cap', cur, e, h1, h2, h3⟩
  · cases e
  · refine .inr ⟨g, cap', cur, e, h1, ?_, h3⟩
    injection e with e1 e2 e3
    injection e1 with e1
    injection e1 with e1
    subst e1
    rw [hc, h2]
theorem LW.only (h : LW w B E c m cap n gs os cs F) (o : Only b w w') (hc : c ≠ b) (hg : ∀ i, i < m → gs i ≠ b) : LW w' B E c m cap n gs os cs F :=
  h.same o.size (o.block c h.lt hc) (fun i hi => o.block _ (h.each i hi).lt (hg i hi))
theorem LW.self (h : LW w B E c m cap n gs os cs F) (hb : Below w.heap.size w w') : LW w' B E c m cap n gs os cs F :=
  h.same hb.size (hb.block c h.lt) (fun i hi => hb.block _ (h.each i hi).lt)
theorem LW.drew (h : LW w B E c m cap n gs os cs F) : LW w.drew B E c m cap n gs os cs F := ⟨h.own, fun i hi => (h.each i hi).drew, h.apart⟩
theorem LW.alloc (h : LW w B E c m cap n gs os cs F) (o : Obj) : LW (w.alloc o) B E c m cap n gs os cs F :=
  h.same (by simp) (heap_alloc_old w o h.lt) (fun i hi => heap_alloc_old w o (h.each i hi).lt)
theorem LW.ext {F' : Nat → Nat → Nat} (h : LW w B E c m cap n gs os cs F) (e : ∀ i, i < m → ∀ j, j < n → F i j = F' i j) : LW w B E c m cap n gs os cs F' :=
  ⟨h.own, fun i hi => (h.each i hi).ext (e i hi), h.apart⟩
/-- One row behind the others. -/
theorem LW.more (h : LW w B E c m cap n gs os cs F) {g o k c' cap' : Nat} {f : Nat → Nat} (hg : Wd w n g o f) (hn : g ≠ c) (hown : w'.ownsRow B E 1 (.slice (some ⟨c', 0, none⟩) (m + 1) cap') (m + 1) (vs m n gs os cs ++ [.slice (some ⟨g, o, none⟩) n k]))
    (hgr : w.grownBy w' (some c)) (hc : c' = c ∨ c' = w.heap.size) : LW w' B E c' (m + 1) cap' n (upd gs m g) (upd os m o) (upd cs m k) (updR F m f) := by
  have far : ∀ {x : Nat}, x < w.heap.size → x ≠ c → w'.heap[x]? = w.heap[x]? := fun {x} hx hxc => hgr.block x hx (by simpa using hxc)
  have hap : ∀ {x : Nat}, x < w.heap.size → x ≠ c → x ≠ c' := fun {x} hx hxc => by rcases hc with rfl | rfl <;> omega
  refine ⟨by rw [← vs_snoc]; exact hown, fun i hi => ?_, fun i hi => ?_⟩
  · by_cases e : i = m
    · subst e; simp only [upd_same, updR, if_pos]; exact hg.same hgr.size (far hg.lt hn)
    · have hi' : i < m := by omega
      simp only [updR, if_neg e, upd_other _ _ _ _ e]
      exact (h.each i hi').same hgr.size (far (h.each i hi').lt (h.apart i hi'))
  · by_cases e : i = m
    · subst e; rw [upd_same]; exact hap hg.lt hn
    · have hi' : i < m := by omega
      rw [upd_other _ _ _ _ e]
      exact hap (h.each i hi').lt (h.apart i hi')
end

theorem below_drewN (w : World) (n : Nat) : Below w.heap.size w (w.drewN n) := ⟨rfl, rfl, rfl, Nat.le_refl _, fun _ _ => rfl⟩
theorem cell_new0 (w : World) (v : Value) (E : TypeId) : (w.alloc (.cells #[v] E)).cell? ⟨w.heap.size, 0, none⟩ = some v := by
  have e := heap_alloc_new w (.cells #[v] E)
  simp only [World.cell?, e]
  rfl

/-! ### append of one value to a row of values -/
section
variable {P : Program} {w : World} {o : Oper} {a : Act}
theorem wp_append_val {K : Act → World → Prop} {Q : Exit → Act → World → Prop} (s x : Operand) (t : TypeId)
    (ho : o.op = .call { callee := .builtin .append, args := #[s, x], argTypes := #[t, t] }) (z : Value) (bytes B : Nat) (E : TypeId) (ht : P.underlying t = some (.slice E))
    (hinfo : (P.info? E).map (fun i => (i.zero, i.size, i.bytes)) = some (some z, 1, bytes)) (hz : z.cells.size = 1) (hk : bytes ≤ 65536)
    (v : Value) (n : Nat) (xs : List Value) (hs : a.eval s = v) (hown : w.ownsRow B E 1 v n xs) (ad : Addr) (c : Nat) (u : Value) (hx : a.eval x = .slice (some ad) 1 c) (hu : w.cell? ad = some u) (h1 : u.oneCell' = true)
    (hlim : n ≤ 1048576) (hB : B ≤ w.heap.size) (B0 : Nat) (w0 : World) (hb : Below B0 w0 w) (hBB : B0 ≤ B)
    (h : ∀ v' w', w'.ownsRow B E 1 v' (n + 1) (xs ++ [u]) → Below B0 w0 w' → w.heap.size ≤ w'.heap.size → K (a.put o.dst v') w') : o.wp P a w K Q := by
  obtain ⟨i0, hi, hz0, hz1, hz2⟩ := info_parts hinfo
  refine wp_append_own w s x t ho B E i0 z 1 bytes ht hi hz0 hz1 hz2 hz (by decide) v n xs hs hown ad 1 c [u] hx rfl ?_ (by intro y hy; rw [List.mem_singleton] at hy; subst hy; exact h1) (by unfold maxLen; omega) ?_ hB ?_
  · intro j y hj
    have hj0 : j = 0 := by have := (List.getElem?_eq_some_iff.1 hj).1; simp at this; exact this
    subst hj0
    simp only [List.getElem?_cons_zero, Option.some.injEq] at hj
    subst hj
    have e : ad.add 0 = ad := by unfold Addr.add; split <;> simp_all
    rw [e]; exact hu
  · have : (n + 1) * bytes ≤ 1048577 * 65536 := Nat.mul_le_mul (by omega) hk
    omega
  · intro v' w' h2 h3 _
    exact h v' w' h2 (hb.grown h3 (by omega) (fun j hj => by have := (World.ownsRow.lt hown j hj).1; omega)) h3.size
theorem wpList_append_val {ops : Array Oper} {rest : List Oper} {Q : Exit → Act → World → Prop} (hgd : o.guard = none) (s x : Operand) (t : TypeId)
    (ho : o.op = .call { callee := .builtin .append, args := #[s, x], argTypes := #[t, t] }) (z : Value) (bytes B : Nat) (E : TypeId) (ht : P.underlying t = some (.slice E))
    (hinfo : (P.info? E).map (fun i => (i.zero, i.size, i.bytes)) = some (some z, 1, bytes)) (hz : z.cells.size = 1) (hk : bytes ≤ 65536)
    (v : Value) (n : Nat) (xs : List Value) (hs : a.eval s = v) (hown : w.ownsRow B E 1 v n xs) (ad : Addr) (c : Nat) (u : Value) (hx : a.eval x = .slice (some ad) 1 c) (hu : w.cell? ad = some u) (h1 : u.oneCell' = true)
    (hlim : n ≤ 1048576) (hB : B ≤ w.heap.size) (B0 : Nat) (w0 : World) (hb : Below B0 w0 w) (hBB : B0 ≤ B)
    (h : ∀ v' w', w'.ownsRow B E 1 v' (n + 1) (xs ++ [u]) → Below B0 w0 w' → w.heap.size ≤ w'.heap.size → wpList P ops Q rest (a.put o.dst v') w') : wpList P ops Q (o :: rest) a w :=
  wpList_plain hgd fun _ hK => wp_append_val s x t ho z bytes B E ht hinfo hz hk v n xs hs hown ad c u hx hu h1 hlim hB B0 w0 hb hBB fun v' w' h2 h3 h4 => hK _ _ (h v' w' h2 h3 h4)

/-- One row of bytes behind a list, at a step of a region that draws. -/
theorem step_append_lw {ops : Array Oper} {K : Act → World → Prop} {Q : Exit → Act → World → Prop} {X : Prop} (hgd : o.guard = none) (s x : Operand) (t : TypeId)
    (ho : o.op = .call { callee := .builtin .append, args := #[s, x], argTypes := #[t, t] }) {B c m cap n : Nat} {E : TypeId} {gs os cs : Nat → Nat} {F : Nat → Nat → Nat} (ht : P.underlying t = some (.slice E))
    (hinfo : (P.info? E).map (fun i => (i.zero, i.size, i.bytes)) = some (some (.slice none 0 0), 1, 24))
    (hl : LW w B E c m cap n gs os cs F) (hs : a.eval s = .slice (some ⟨c, 0, none⟩) m cap) (ad : Addr) (k : Nat) (hx : a.eval x = .slice (some ad) 1 k)
    (g o' kk : Nat) (f : Nat → Nat) (hu : w.cell? ad = some (.slice (some ⟨g, o', none⟩) n kk)) (hg : Wd w n g o' f) (hn : g ≠ c) (hm : m ≤ 65536) (hB : B ≤ w.heap.size)
    (h : ∀ c' cap' w', LW w' B E c' (m + 1) cap' n (upd gs m g) (upd os m o') (upd cs m kk) (updR F m f) → w.grownBy w' (some c) → (c' = c ∨ c' = w.heap.size) →
      (∀ i, i < m → w'.cell? ⟨c, i, none⟩ = some (.slice (some ⟨gs i, os i, none⟩) n (cs i))) → K (a.put o.dst (.slice (some ⟨c', 0, none⟩) (m + 1) cap')) w') :
    if Region.wanted o (yielded ops a.tmps) = true then Oper.wp P o a w K Q else X := by
  have hw : Region.wanted o (yielded ops a.tmps) = true := by simp [Region.wanted, hgd]
  rw [if_pos hw]
  obtain ⟨i0, hi, hz0, hz1, hz2⟩ := info_parts hinfo
  refine wp_append_stays w s x t ho B E i0 _ 1 24 ht hi hz0 hz1 hz2 rfl (by decide) c m cap _ hs hl.own ad 1 k [.slice (some ⟨g, o', none⟩) n kk] hx rfl ?_ (by intro y hy; rw [List.mem_singleton] at hy; subst hy; rfl) (by decide) (by unfold maxLen; omega) (by omega) hB ?_
  · intro j y hj
    have hj0 : j = 0 := by have := (List.getElem?_eq_some_iff.1 hj).1; simp at this; exact this
    subst hj0
    simp only [List.getElem?_cons_zero, Option.some.injEq] at hj
    subst hj
    have e : ad.add 0 = ad := by unfold Addr.add; split <;> simp_all
    rw [e]; exact hu
  · intro c' cap' w' h2 h3 h4 h5 h6
    exact h c' cap' w' (hl.more hg hn h2 h3 h4) h3 h4 (fun i hi => h6 i _ (vs_at n gs os cs hi))
/-- .. and at a plain list. -/
theorem wpList_append_lw {ops : Array Oper} {rest : List Oper} {Q : Exit → Act → World → Prop} (hgd : o.guard = none) (s x : Operand) (t : TypeId)
    (ho : o.op = .call { callee := .builtin .append, args := #[s, x], argTypes := #[t, t] }) {B c m cap n : Nat} {E : TypeId} {gs os cs : Nat → Nat} {F : Nat → Nat → Nat} (ht : P.underlying t = some (.slice E))
    (hinfo : (P.info? E).map (fun i => (i.zero, i.size, i.bytes)) = some (some (.slice none 0 0), 1, 24))
    (hl : LW w B E c m cap n gs os cs F) (hs : a.eval s = .slice (some ⟨c, 0, none⟩) m cap) (ad : Addr) (k : Nat) (hx : a.eval x = .slice (some ad) 1 k)
    (g o' kk : Nat) (f : Nat → Nat) (hu : w.cell? ad = some (.slice (some ⟨g, o', none⟩) n kk)) (hg : Wd w n g o' f) (hn : g ≠ c) (hm : m ≤ 65536) (hB : B ≤ w.heap.size)
    (h : ∀ c' cap' w', LW w' B E c' (m + 1) cap' n (upd gs m g) (upd os m o') (upd cs m kk) (updR F m f) → w.grownBy w' (some c) → (c' = c ∨ c' = w.heap.size) →
      wpList P ops Q rest (a.put o.dst (.slice (some ⟨c', 0, none⟩) (m + 1) cap')) w') : wpList P ops Q (o :: rest) a w :=
  wpList_plain hgd fun K hK => by
    obtain ⟨i0, hi, hz0, hz1, hz2⟩ := info_parts hinfo
    refine wp_append_stays w s x t ho B E i0 _ 1 24 ht hi hz0 hz1 hz2 rfl (by decide) c m cap _ hs hl.own ad 1 k [.slice (some ⟨g, o', none⟩) n kk] hx rfl ?_ (by intro y hy; rw [List.mem_singleton] at hy; subst hy; rfl) (by decide) (by unfold maxLen; omega) (by omega) hB ?_
    · intro j y hj
      have hj0 : j = 0 := by have := (List.getElem?_eq_some_iff.1 hj).1; simp at this; exact this
      subst hj0
      simp only [List.getElem?_cons_zero, Option.some.injEq] at hj
      subst hj
      have e : ad.add 0 = ad := by unfold Addr.add; split <;> simp_all
      rw [e]; exact hu
    · intro c' cap' w' h2 h3 h4 h5 h6
      exact hK _ _ (h c' cap' w' (hl.more hg hn h2 h3 h4) h3 h4)
end

/-- A list of rows that is only read. -/
structure RL (w : World) (c m n : Nat) (gs os cs : Nat → Nat) (F : Nat → Nat → Nat) : Prop where
  lt : c < w.heap.size
  cell : ∀ i, i < m → w.cell? ⟨c, i, none⟩ = some (.slice (some ⟨gs i, os i, none⟩) n (cs i))
  each : ∀ i, i < m → Wd w n (gs i) (os i) (F i)
theorem RL.self {w w' : World} {c m n : Nat} {gs os cs : Nat → Nat} {F : Nat → Nat → Nat} (h : RL w c m n gs os cs F) (hb : Below w.heap.size w w') : RL w' c m n gs os cs F :=
  ⟨Nat.lt_of_lt_of_le h.lt hb.size, fun i hi => (World.cell?_of_block (w := w) (hb.block c h.lt)).trans (h.cell i hi), fun i hi => (h.each i hi).self hb⟩
theorem RL.drew {w : World} {c m n : Nat} {gs os cs : Nat → Nat} {F : Nat → Nat → Nat} (h : RL w c m n gs os cs F) : RL w.drew c m n gs os cs F := ⟨h.lt, h.cell, fun i hi => (h.each i hi).drew⟩
theorem LW.rl {w : World} {B c m cap n : Nat} {E : TypeId} {gs os cs : Nat → Nat} {F : Nat → Nat → Nat} (h : LW w B E c m cap n gs os cs F) : RL w c m n gs os cs F := ⟨h.lt, fun _ hi => h.cell hi, h.each⟩
end Go.Proofs.Ytffoinnllihdeaa

/- General: rows that read the same whatever is done apart from them; a law's world behind a box. No program is named. -/
namespace Go.Proofs.Ytffoinnllihdeaa
open Go.RowKit
set_option maxRecDepth 100000
theorem own_same {B : Nat} {E : TypeId} {w w' : World} {g n c : Nat} {zs : List Int} (h : Own .u8 B E w (.slice (some ⟨g, 0, none⟩) n c) zs) (hg : w'.heap[g]? = w.heap[g]?) : Own .u8 B E w' (.slice (some ⟨g, 0, none⟩) n c) zs := by
  obtain ⟨h1, h2⟩ := h
  rcases h2 with ⟨h0, _⟩ | ⟨g', cap, cur, hv, hb, hc, hn, hcap, hsz, ht⟩
  · cases h0
  · injection hv with e1 e2 e3
    injection e1 with e1
    injection e1 with e1
    subst e1
    exact ⟨h1, .inr ⟨g, cap, cur, by rw [e2, e3], hb, hg.trans hc, hn, hcap, hsz, ht⟩⟩
theorem wd_own {B n g c : Nat} {E : TypeId} {w : World} {F : Nat → Nat} (h : Own .u8 B E w (.slice (some ⟨g, 0, none⟩) n c) (ns n F)) (hF : ∀ j, j < n → F j < 256) : Wd w n g 0 F ∧ B ≤ g := by
  have hl := h.lt g rfl
  refine ⟨?_, hl.1⟩
  by_cases hn : 0 < n
  · exact Wd.of_own h hn hF
  · exact ⟨hl.2, fun j hj => absurd hj (by omega), fun j hj => absurd hj (by omega)⟩
theorem rd_zero (a : Option Addr) (c : Nat) (f : Nat → Nat) (w : World) : Rd .u8 w (.slice a 0 c) (ns 0 f) := by
  show Rd .u8 w (.slice a 0 c) []
  exact ⟨a, c, rfl, by decide, fun z hz => (by cases hz), fun h => absurd h (by decide)⟩
theorem own_base {B B' : Nat} {E : TypeId} {w : World} {v : Value} {zs : List Int} (h : Own .u8 B E w v zs) (hB : B' ≤ B) : Own .u8 B' E w v zs := by
  obtain ⟨h1, h2⟩ := h
  exact ⟨h1, h2.imp id (fun ⟨g, c, cur, a1, a2, a3⟩ => ⟨g, c, cur, a1, by omega, a3⟩)⟩
theorem ns_min (M : Nat) : min M M = M := by omega
/-- Bytes that are read, as a row of numbers. -/
theorem ns_of {w : World} {v : Value} {zs : List Int} (h : Rd .u8 w v zs) : zs = ns zs.length (fun j => (nth zs j).toNat) := by
  obtain ⟨_, _, _, _, hz, _⟩ := h
  refine List.ext_getElem (by rw [ns_len]) fun j h1 h2 => ?_
  have hb := bounds_u8 (hz _ (List.getElem_mem (h := h1)))
  have h3 := ns_at (n := zs.length) (fun j => (nth zs j).toNat) h1
  rw [List.getElem?_eq_getElem h2] at h3
  injection h3 with h3
  rw [h3, nth_of h1]; omega
/-- v reads as xs, whatever is done that turns block b alone. -/
def Kept (b : Nat) (w : World) (v : Value) (xs : List Int) : Prop := ∀ W, Only b w W → Rd .u8 W v xs
section
variable {b : Nat} {w w' : World} {v : Value} {xs : List Int}
theorem Kept.rd (h : Kept b w v xs) : Rd .u8 w v xs := h w (Only.refl b w)
theorem Kept.later (h : Kept b w v xs) (o : Only b w w') : Kept b w' v xs := fun W hW => h W (o.trans hW)
theorem Kept.self (h : Kept b w v xs) (hb : Below w.heap.size w w') : Kept b w' v xs := h.later (Only.of_below hb)
theorem kept_wd {n g off c : Nat} {f : Nat → Nat} (h : Wd w n g off f) (hg : g ≠ b) (hn : n ≤ 65536) : Kept b w (.slice (some ⟨g, off, none⟩) n c) (ns n f) := fun _ hW => (h.only hW hg).rd c hn
theorem kept_zero (a : Option Addr) (c : Nat) (f : Nat → Nat) : Kept b w (.slice a 0 c) (ns 0 f) := fun W _ => rd_zero a c f W
theorem kept_own {B n : Nat} {E : TypeId} {f : Nat → Nat} (h : Own .u8 B E w v (ns n f)) (hb : b < B) (hn : n ≤ 65536) (hf : ∀ j, j < n → f j < 256) : Kept b w v (ns n f) := by
  by_cases h0 : 0 < n
  · obtain ⟨g, cap, rfl, hg, _⟩ := h.part (by rw [ns_len]; exact h0)
    rw [ns_len] at h ⊢
    exact kept_wd (wd_own h hf).1 (by omega) hn
  · obtain rfl : n = 0 := by omega
    obtain ⟨p, cap, rfl⟩ := h.noRow
    exact kept_zero p cap f
theorem kept_rd (h : Rd .u8 w v xs) (hb : w.heap.size ≤ b) : Kept b w v xs := fun _ hW => h.self (hW.below hb (Nat.le_refl _))
end
/-- Several such rows. -/
def KL (b : Nat) (w : World) (l : List (Value × List Int)) : Prop := ∀ p ∈ l, Kept b w p.1 p.2
section
variable {b : Nat} {w w' : World} {v : Value} {xs : List Int} {l : List (Value × List Int)}
theorem KL.nil : KL b w [] := fun _ h => by cases h
theorem KL.cons (h : Kept b w v xs) (hl : KL b w l) : KL b w ((v, xs) :: l) := fun p hp => by
  rcases List.mem_cons.1 hp with rfl | hp
  · exact h
  · exact hl p hp
theorem KL.later (h : KL b w l) (o : Only b w w') : KL b w' l := fun p hp => (h p hp).later o
theorem KL.self (h : KL b w l) (hb : Below w.heap.size w w') : KL b w' l := h.later (Only.of_below hb)
theorem KL.all (h : KL b w l) (hp : (v, xs) ∈ l) : ∀ W, Only b w W → Rd .u8 W v xs := h (v, xs) hp
theorem KL.get (h : KL b w l) (hp : (v, xs) ∈ l) : Rd .u8 w v xs := (h (v, xs) hp).rd
end
section
variable {α : Type} {a b c d e f g x : α} {l : List α}
theorem m0 : x ∈ x :: l := .head _
theorem m1 : x ∈ a :: x :: l := .tail _ (.head _)
theorem m2 : x ∈ a :: b :: x :: l := .tail _ m1
theorem m3 : x ∈ a :: b :: c :: x :: l := .tail _ m2
theorem m4 : x ∈ a :: b :: c :: d :: x :: l := .tail _ m3
theorem m5 : x ∈ a :: b :: c :: d :: e :: x :: l := .tail _ m4
theorem m6 : x ∈ a :: b :: c :: d :: e :: f :: x :: l := .tail _ m5
theorem m7 : x ∈ a :: b :: c :: d :: e :: f :: g :: x :: l := .tail _ m6
end
/-- A law's world, behind New. -/
structure Lw (b : Nat) (w wr : World) : Prop where
  low : Below w.heap.size w wr
  le : w.heap.size ≤ b
  lt : b < wr.heap.size
theorem Lw.later {b : Nat} {w wr w' : World} (h : Lw b w wr) (o : Only b wr w') : Lw b w w' := ⟨h.low.trans (o.below h.le h.low.size), h.le, Nat.lt_of_lt_of_le h.lt o.size⟩
theorem Lw.self {b : Nat} {w wr w' : World} (h : Lw b w wr) (hb : Below wr.heap.size wr w') : Lw b w w' := h.later (Only.of_below hb)
theorem rd_prefix {w : World} {a : Option Addr} {N c m : Nat} {δ : Nat → Nat} (h : Rd .u8 w (.slice a N c) (ns N δ)) (hm : m ≤ N) (h0 : 0 < m) : Rd .u8 w (.slice a m c) (ns m δ) := by
  obtain ⟨a', c', e, hl, hw, hc⟩ := h
  injection e with e1 e2 e3
  subst e1; subst e3
  rw [ns_len] at hl hc
  have hb : ∀ j, j < N → δ j < 256 := fun j hj => by
    have hz := bounds_u8 (hw (δ j : Int) (List.mem_of_getElem? (ns_at δ hj)))
    omega
  refine ⟨a, c, by rw [ns_len], by rw [ns_len]; exact Nat.le_trans (Nat.mul_le_mul_right _ hm) hl, ns_wf fun j hj => hb j (by omega), fun _ => ?_⟩
  obtain ⟨b, off, rfl, hlt, hcell⟩ := hc (by omega)
  exact ⟨b, off, rfl, hlt, fun j hj => by rw [ns_len] at hj; rw [hcell j (by omega), ns_nth δ (show j < N by omega), ns_nth δ hj]⟩
theorem kept_prefix {b : Nat} {w : World} {a : Option Addr} {N c m : Nat} {δ : Nat → Nat} (h : Kept b w (.slice a N c) (ns N δ)) (hm : m ≤ N) : Kept b w (.slice a m c) (ns m δ) := fun W hW => by
  by_cases h0 : 0 < m
  · exact rd_prefix (h W hW) hm h0
  · obtain rfl : m = 0 := by omega
    exact rd_zero _ _ _ _
theorem rd_suffix {w : World} {g off N c k cc : Nat} {δ : Nat → Nat} (h : Rd .u8 w (.slice (some ⟨g, off, none⟩) N c) (ns N δ)) (hk : k ≤ N) : Rd .u8 w (.slice (some ⟨g, off + k, none⟩) (N - k) cc) (ns (N - k) (fun j => δ (k + j))) := by
  by_cases h0 : 0 < N - k
  · obtain ⟨a', c', e, hl, hw, hc⟩ := h
    injection e with e1 e2 e3
    subst e1
    rw [ns_len] at hl hc
    have hb : ∀ j, j < N → δ j < 256 := fun j hj => by
      have hz := bounds_u8 (hw (δ j : Int) (List.mem_of_getElem? (ns_at δ hj)))
      omega
    refine ⟨_, cc, by rw [ns_len], by rw [ns_len]; exact Nat.le_trans (Nat.mul_le_mul_right _ (Nat.sub_le N k)) hl, ns_wf fun j hj => hb _ (by omega), fun _ => ?_⟩
    obtain ⟨b, o, e, hlt, hcell⟩ := hc (by omega)
    injection e with e
    injection e with e1 e2
    subst e1; subst e2
    refine ⟨g, off + k, rfl, hlt, fun j hj => ?_⟩
    rw [ns_len] at hj
    rw [Nat.add_assoc, hcell (k + j) (by omega), ns_nth δ (show k + j < N by omega), ns_nth (fun j => δ (k + j)) hj]
  · rw [show N - k = 0 by omega]
    exact rd_zero _ _ _ _
theorem kept_suffix {b : Nat} {w : World} {g off N c k cc : Nat} {δ : Nat → Nat} (h : Kept b w (.slice (some ⟨g, off, none⟩) N c) (ns N δ)) (hk : k ≤ N) : Kept b w (.slice (some ⟨g, off + k, none⟩) (N - k) cc) (ns (N - k) (fun j => δ (k + j))) := fun W hW => rd_suffix (h W hW) hk
theorem part_kept {b n g off c m a : Nat} {f : Nat → Nat} {w : World} (h : Wd w n g off f) (hg : g ≠ b) (hm : m ≤ 65536) (hn : a + m ≤ n) : Kept b w (.slice (some ⟨g, off + a, none⟩) m c) (ns m (fun j => f (a + j))) := kept_wd (h.part hn) hg hm
end Go.Proofs.Ytffoinnllihdeaa

/- General: zeros behind a row of bytes that is the call's own; numbers behind a row that is full and another's. No program is named. -/
namespace Go.Proofs.Ytffoinnllihdeaa
open Go.ChangeShapes Go.WideShapes Go.ChangeAt Go.RowKit

theorem rep_toList (k : Nat) : (Builtin.zeroCells #[Value.int .u8 0] k).toList = (List.replicate k (0 : Int)).map (Value.int .u8) := by
  apply List.ext_getElem
  · simp [Builtin.zeroCells]
  · intro i h1 h2
    simp [Builtin.zeroCells, Nat.mod_one]
section
variable {P : Program} (w : World)
/-- k zeros behind a row of numbers that is the call's own. -/
theorem run_append_own_zeros (B : Nat) (t tn ty E : TypeId) (kn kq : IntKind) (ht : P.underlying t = some (.slice E)) (htn : P.underlying tn = some (.int kn))
    (hinfo : (P.info? E).map (fun i => (i.zero, i.size, i.bytes)) = some (some (.int .u8 0), 1, 1)) (g n c : Nat) (zs : List Int) (hn : zs.length = n) (hown : Own .u8 B E w (.slice (some ⟨g, 0, none⟩) n c) zs) (k : Nat) (hk : n + k ≤ 1073741824) (hB : B ≤ w.heap.size) :
    ∃ g' c' w', (Builtin.append_ #[t, tn] ty #[.slice (some ⟨g, 0, none⟩) n c, .int kq k]).run P w = .ok (.slice (some ⟨g', 0, none⟩) (n + k) c') w' ∧
      Own .u8 B E w' (.slice (some ⟨g', 0, none⟩) (n + k) c') (zs ++ List.replicate k 0) ∧ w.grownBy w' (some g) := by
  obtain ⟨i, hi, hz0, hz1, hz2⟩ := info_parts hinfo
  subst hn
  have hcells := World.ownsRow.cells hown (g := g) rfl
  obtain ⟨hl, h0 | ⟨g', cap, cur, e, hbg, hg, hnc, hcm, hcs, htake⟩⟩ := hown
  · cases h0.1
  · injection e with e1 e2 e3
    injection e1 with e1
    injection e1 with e1
    subst e1; subst e3
    have hw : IntKind.i64.wrap (k : Int) = k := by rw [IntKind.wrap_i64]; omega
    have hneg : ¬ ((k : Int) < 0) := by omega
    have h48 : ¬ (281474976710656 < (k : Int) * (i.bytes : Int)) := by rw [hz2]; omega
    have hlen : (zs ++ List.replicate k (0 : Int)).length = zs.length + k := by simp
    by_cases hroom : zs.length + k ≤ c
    · have hst : ∀ news : List Value, news.length = k → (∀ u ∈ news, u.oneCell' = true) → (storeCells ((⟨g, 0, none⟩ : Addr).add zs.length) news).run P w =
          .ok () (w.setRow g (cur.toList.take zs.length ++ news ++ cur.toList.drop (zs.length + news.length)).toArray) := by
        intro news hkn h1
        have := run_storeCells_at P g (zs.length * i.size) E news 0 cur w hg (by rw [hz1, hkn]; omega) h1
        simp only [Nat.add_zero, hz1, Nat.mul_one] at this
        rw [add_plain, Nat.zero_add]; exact this
      have key : ∀ news : List Value, news.length = k → (∀ u ∈ news, u.oneCell' = true) → news = (List.replicate k (0 : Int)).map (Value.int .u8) →
          Own .u8 B E (w.setRow g (cur.toList.take zs.length ++ news ++ cur.toList.drop (zs.length + news.length)).toArray) (.slice (some ⟨g, 0, none⟩) (zs.length + k) c) (zs ++ List.replicate k 0) ∧
          w.grownBy (w.setRow g (cur.toList.take zs.length ++ news ++ cur.toList.drop (zs.length + news.length)).toArray) (some g) := by
        intro news hkn _ he
        refine ⟨⟨by simp, .inr ⟨g, c, _, by rw [hlen], hbg, setRow_heap w g cur _ E _ hg, by rw [hlen]; exact hroom, hcm, ?_, ?_⟩⟩, ⟨rfl, rfl, rfl, by simp, fun j _ hj => setRow_other w g j _ (fun e => hj (by rw [e]))⟩⟩
        · simp only [List.size_toArray, List.length_append, List.length_take, List.length_drop, Array.length_toList]
          omega
        · rw [Nat.mul_one] at htake
          rw [htake, he, Nat.mul_one, List.map_append, hlen]
          have : zs.length + k = (zs.map (Value.int .u8) ++ (List.replicate k (0 : Int)).map (Value.int .u8)).length := by simp
          rw [this]
          exact List.take_left
      have h1 : ∀ u ∈ (List.replicate k (0 : Int)).map (Value.int .u8), u.oneCell' = true := fun u hu => by obtain ⟨z, _, rfl⟩ := List.mem_map.1 hu; rfl
      have hst1 := hst _ (by simp) h1
      have hk1 := key _ (by simp) h1 rfl
      generalize w.setRow g _ = W at hst1 hk1
      rw [← rep_toList] at hst1
      refine ⟨g, c, W, ?_, hk1.1, hk1.2⟩
      by_cases hk0 : k = 0
      · subst hk0
        have hw0 : IntKind.i64.wrap 0 = 0 := by decide
        have hz : (Builtin.zeroCells #[Value.int .u8 0] 0).toList = [] := rep_toList 0
        rw [hz] at hst1
        simp [Builtin.append_, run_underlying ht, run_underlying htn, sizeOf, typeInfo, zeroValue, hi, hz0, asInt, asIntOf, hw0, hnc, hz1, hst1]
      · have hz : (Value.int .u8 0).cells = #[Value.int .u8 0] := rfl
        simp [Builtin.append_, run_underlying ht, run_underlying htn, sizeOf, typeInfo, zeroValue, hi, hz0, asInt, asIntOf, hw, hneg, h48, hroom, hk0, hz, hz1, hst1]
    · have hold : (Builtin.firstCells i.size zs.length (.slice (some ⟨g, 0, none⟩) zs.length c)).run P w.drew = .ok (zs.map (Value.int .u8)).toArray w.drew := by
        exact run_firstCells_some (P := P) (w := w.drew) i.size zs.length ⟨g, 0, none⟩ zs.length c (zs.map (Value.int .u8)) (by rw [List.length_map, hz1, Nat.mul_one]) hcells
      have hr := Lib.run_append_grow_zeros (P := P) w t tn ty E i _ kq kn ht htn hi hz0 (some ⟨g, 0, none⟩) zs.length c (zs.map (Value.int .u8)) hold k (by omega) (by omega) (by omega) (by omega) (by rw [hz2]; omega) (by rw [hz2]; exact growslice_fits (by omega) (by omega))
      have hge := grownCap_ge w (zs.length + k) c E
      have hle := grownCap_le_maxLen w (zs.length + k) c E (by unfold maxLen; omega)
      refine ⟨_, _, _, hr, ⟨by simp, .inr ⟨w.heap.size, _, _, by rw [hlen], hB, heap_alloc_new w.drew _, by rw [hlen]; exact hge, hle, ?_, ?_⟩⟩, ⟨rfl, rfl, rfl, by simp, fun j hj _ => heap_alloc_old w.drew _ hj⟩⟩
      · simp only [Array.size_append, List.size_toArray, size_zeroCells, List.length_map]
        show zs.length + k * 1 + (_ - _) * 1 = _
        omega
      · rw [Nat.mul_one, List.map_append, Array.toList_append, Array.toList_append, List.toList_toArray]
        have e : (Builtin.zeroCells (Value.int .u8 0).cells k).toList = (List.replicate k (0 : Int)).map (Value.int .u8) := rep_toList k
        have e2 : (zs ++ List.replicate k (0 : Int)).length = (zs.map (Value.int .u8) ++ (List.replicate k (0 : Int)).map (Value.int .u8)).length := by simp
        rw [e, e2]
        exact List.take_left
/-- Numbers behind a row that is full, and another's: a new row. -/
theorem run_append_full (k : IntKind) (t ty E : TypeId) (ht : P.underlying t = some (.slice E)) (hinfo : (P.info? E).map (fun i => (i.zero, i.size, i.bytes)) = some (some (.int k 0), 1, k.bits / 8)) (hk : 0 < k.bits / 8)
    (a : Option Addr) (zs : List Int) (h : Rd k w (.slice a zs.length zs.length) zs) (ad : Addr) (m c : Nat) (ns : List Int) (hm : ns.length = m) (hns : ∀ j, j < m → w.cell? (ad.add j) = some (.int k (nth ns j))) (h0 : 0 < m) (hlim : (zs.length + m) * (k.bits / 8) ≤ 140737488355328) :
    ∃ g c' w', (Builtin.append_ #[t, t] ty #[.slice a zs.length zs.length, .slice (some ad) m c]).run P w = .ok (.slice (some ⟨g, 0, none⟩) (zs.length + m) c') w' ∧
      Own k w.heap.size E w' (.slice (some ⟨g, 0, none⟩) (zs.length + m) c') (zs ++ ns) ∧ Below w.heap.size w w' := by
  obtain ⟨i0, hi, hz0, hz1, hz2⟩ := info_parts hinfo
  have hle : zs.length + m ≤ (zs.length + m) * (k.bits / 8) := Nat.le_mul_of_pos_right _ hk
  have hnews : ∀ j u, (ns.map (Value.int k))[j]? = some u → w.cell? (ad.add j) = some u := fun j u hj => by
    simp only [List.getElem?_map, Option.map_eq_some_iff] at hj
    obtain ⟨z, hz, rfl⟩ := hj
    obtain ⟨hj, rfl⟩ := List.getElem?_eq_some_iff.1 hz
    rw [hns j (by omega), nth_of hj]
  have fin : ∀ v' w', w'.ownsRow w.heap.size E 1 v' (zs.length + m) (zs.map (Value.int k) ++ ns.map (Value.int k)) → w.grownBy w' none →
      ∃ g c', v' = .slice (some ⟨g, 0, none⟩) (zs.length + m) c' ∧ Own k w.heap.size E w' (.slice (some ⟨g, 0, none⟩) (zs.length + m) c') (zs ++ ns) ∧ Below w.heap.size w w' := fun v' w' r1 r2 => by
    obtain ⟨g, c', rfl, _⟩ := r1.form (by omega)
    refine ⟨g, c', rfl, ?_, (Below.refl _ _).grown r2 (Nat.le_refl _) (fun _ h => by cases h)⟩
    unfold Own
    rw [List.length_append, List.map_append, hm]
    exact r1
  cases a with
  | none =>
    have hz : zs = [] := by
      obtain ⟨a', c', e, _, _, hc⟩ := h
      by_cases hp : 0 < zs.length
      · obtain ⟨b, off, e2, _⟩ := hc hp
        injection e with e1 _ _
        rw [← e1] at e2
        cases e2
      · exact List.eq_nil_of_length_eq_zero (by omega)
    subst hz
    obtain ⟨v', w', hr, h2, h3, _⟩ := run_append_own (P := P) w w.heap.size t ty E i0 _ 1 (k.bits / 8) ht hi hz0 hz1 hz2 rfl (by decide) (.slice none 0 0) 0 [] (World.ownsRow_nil w _ _ _) ad m c (ns.map (Value.int k)) (by simp [hm]) hnews (fun u hu => by obtain ⟨z, _, rfl⟩ := List.mem_map.1 hu; rfl)
      (by unfold maxLen; simp at hle hlim ⊢; omega) (by simpa using hlim) (Nat.le_refl _)
    obtain ⟨g, c', rfl, ho, hb⟩ := fin v' w' (by simpa using h2) ⟨h3.os, h3.tape, h3.output, h3.size, fun j hj hn => h3.block j hj (by cases hn' : Value.ownBlock (.slice none 0 0) <;> simp [Value.ownBlock] at hn' ⊢)⟩
    exact ⟨g, c', w', hr, ho, hb⟩
  | some b =>
    have holds : ∀ j u, (zs.map (Value.int k))[j]? = some u → w.cell? (b.add j) = some u := fun j u hj => by
      simp only [List.getElem?_map, Option.map_eq_some_iff] at hj
      obtain ⟨z, hz, rfl⟩ := hj
      obtain ⟨hj, rfl⟩ := List.getElem?_eq_some_iff.1 hz
      obtain ⟨a', c', e, _, _, hc⟩ := h
      obtain ⟨b', off, rfl, _, hcell⟩ := hc (by omega)
      injection e with e1 _ _
      injection e1 with e1
      subst e1
      rw [add_plain, hcell j hj, nth_of hj]
    obtain ⟨v', w', hrun, r1, r2⟩ := run_append_arg_grows (P := P) w t ty E i0 _ 1 (k.bits / 8) ht hi hz0 hz1 hz2 rfl (by decide) b zs.length zs.length (zs.map (Value.int k)) (by simp) holds ad m c (ns.map (Value.int k)) (by simp [hm]) hnews
      (by omega) (by unfold maxLen; omega) hlim
    obtain ⟨g, c', rfl, ho, hb⟩ := fin v' w' r1 r2
    exact ⟨g, c', w', hrun, ho, hb⟩
theorem run_append_full_at (k : IntKind) (t ty E : TypeId) (ht : P.underlying t = some (.slice E)) (hinfo : (P.info? E).map (fun i => (i.zero, i.size, i.bytes)) = some (some (.int k 0), 1, k.bits / 8)) (hk : 0 < k.bits / 8)
    (a : Option Addr) (zs : List Int) (n : Nat) (hn : zs.length = n) (h : Rd k w (.slice a n n) zs) (ad : Addr) (m c : Nat) (ns : List Int) (hm : ns.length = m) (hns : ∀ j, j < m → w.cell? (ad.add j) = some (.int k (nth ns j))) (h0 : 0 < m) (hlim : (n + m) * (k.bits / 8) ≤ 140737488355328) :
    ∃ g c' w', (Builtin.append_ #[t, t] ty #[.slice a n n, .slice (some ad) m c]).run P w = .ok (.slice (some ⟨g, 0, none⟩) (n + m) c') w' ∧
      Own k w.heap.size E w' (.slice (some ⟨g, 0, none⟩) (n + m) c') (zs ++ ns) ∧ Below w.heap.size w w' := by
  subst hn
  exact run_append_full w k t ty E ht hinfo hk a zs h ad m c ns hm hns h0 hlim
end
end Go.Proofs.Ytffoinnllihdeaa

/- General: a slice of slices of bytes that comes in. No program is named. -/
namespace Go.Proofs.Ytffoinnllihdeaa
open Go.ChangeShapes Go.WideShapes Go.ChangeAt Go.RowKit Go.Deep

/-- n rows of bytes, at a: row i has Ls i bytes, Fs i. -/
structure Rws (w : World) (a : Option Addr) (n : Nat) (As : Nat → Option Addr) (Ls Cs : Nat → Nat) (Fs : Nat → Nat → Nat) : Prop where
  out : 0 < n → ∃ g off, a = some ⟨g, off, none⟩ ∧ g < w.heap.size ∧ ∀ i, i < n → w.cell? ⟨g, off + i, none⟩ = some (.slice (As i) (Ls i) (Cs i))
  row : ∀ i, i < n → (Ls i ≤ Cs i ∧ Ls i ≤ 140737488351232) ∧ (Ls i ≤ 60000 → Rd .u8 w (.slice (As i) (Ls i) (Cs i)) (ns (Ls i) (Fs i)) ∧ ∀ j, j < Ls i → Fs i j < 256)
theorem Rws.self {w w' : World} {a : Option Addr} {n : Nat} {As : Nat → Option Addr} {Ls Cs : Nat → Nat} {Fs : Nat → Nat → Nat} (h : Rws w a n As Ls Cs Fs) (hb : Below w.heap.size w w') : Rws w' a n As Ls Cs Fs := by
  refine ⟨fun h0 => ?_, fun i hi => ⟨(h.row i hi).1, fun hl => ⟨((h.row i hi).2 hl).1.self hb, ((h.row i hi).2 hl).2⟩⟩⟩
  obtain ⟨g, off, e, hg, hc⟩ := h.out h0
  exact ⟨g, off, e, Nat.lt_of_lt_of_le hg hb.size, fun i hi => (World.cell?_of_block (w := w) (hb.block g hg)).trans (hc i hi)⟩
theorem weightsAll_has {H : Type} {P : Program} {e : TypeId} : ∀ {l : List (DataW H)} {d : DataW H}, d ∈ l → ∀ n ∈ d.weights P e, n ∈ DataW.weightsAll P e l
  | x :: r, d, h, n, hn => by
    simp only [DataW.weightsAll, List.mem_append]
    rcases List.mem_cons.1 h with rfl | h
    · exact Or.inl hn
    · exact Or.inr (weightsAll_has h n hn)
theorem rows_open {H : Type} {enc : TypeId × Value → H} {P : Program} {W : World} {held : Bool} {t e q : TypeId} {base : Nat} {v : Value} {d : DataW H} {p : List MemPlace} {ts : List TypeId} {ds : List (DataW H)} {j0 : Nat}
    (ht : P.underlying t = some (.slice e)) (he : P.underlying e = some (.slice q)) (hq : P.underlying q = some (.int .u8)) (ce : P.cellsOf e = 1) (cq : P.cellsOf q = 1) (bq : P.bytesOf q = 1)
    (hv : Value.okWide P W .any base t v) (h : DataW.Trod enc P W 0 (fun _ => true) held t v d p)
    (hsz : (DataW.weightsEach P ts ds).all (· ≤ reachBytes) = true) (hj : ts[j0]? = some t) (hd : ds[j0]? = some d) :
    ∃ a n c As Ls Cs Fs, v = .slice a n c ∧ (n ≤ c ∧ c ≤ maxLen) ∧ Rws W a n As Ls Cs Fs := by
  obtain ⟨a0, len, cap, rfl⟩ := okWide_slice ht hv
  obtain ⟨fuel, hf⟩ := h
  rcases open_int_rows ht he hq ce cq hf with ⟨hcs, _⟩ | ⟨a, len', cap', A, L, C, Z, hcs, _, hl, hmx, hx, hrow⟩
  · simp [Value.cells] at hcs
    obtain ⟨rfl, rfl, rfl⟩ := hcs
    exact ⟨none, 0, 0, fun _ => none, fun _ => 0, fun _ => 0, fun _ _ => 0, rfl, ⟨Nat.le_refl _, by unfold maxLen; omega⟩, ⟨fun h => absurd h (by decide), fun i hi => absurd hi (by omega)⟩⟩
  · simp [Value.cells] at hcs
    obtain ⟨rfl, rfl, rfl⟩ := hcs
    simp only [Prod.mk.injEq] at hx
    obtain ⟨rfl, -⟩ := hx
    have hsmall : ∀ i, i < len → L i ≤ 140737488351232 := fun i hi => by
      obtain ⟨_, h1, _, h3, _, h5, _⟩ := hrow i (by omega)
      cases hA : A i with
      | none => have := h5 hA; omega
      | some a' =>
        have hm : intRow (H := H) .u8 (A i) (L i) (Z i) ∈ (List.range len).map fun r => intRow .u8 (A r) (L r) (Z r) := List.mem_map.2 ⟨i, List.mem_range.2 hi, rfl⟩
        have hw : (Z i).length ∈ (intRow (H := H) .u8 (A i) (L i) (Z i)).weights P e := by
          have : (Z i).length = ((lits (H := H) .u8 ((Z i).take (L i))).length + (lits (H := H) .u8 ((Z i).drop (L i))).length) * P.bytesOf q := by
            rw [bq, Nat.mul_one]; simp [lits]; omega
          rw [this]
          simp only [intRow, hA, DataW.weights, he]
          exact .head _
        have h7 : (Z i).length ∈ DataW.weightsEach P ts ds := DataW.weights_mem_each hj hd _ (by simp only [DataW.weights, ht]; exact .tail _ (List.mem_append.2 (.inl (weightsAll_has hm _ hw))))
        have h8 := List.all_eq_true.1 hsz _ h7
        have h9 := of_decide_eq_true h8
        unfold reachBytes at h9
        omega
    refine ⟨some a, len, cap, A, L, C, fun i j => (nth (Z i) j).toNat, rfl, ⟨hl, hmx⟩, ⟨fun h0 => ?_, fun i hi => ?_⟩⟩
    · obtain ⟨b, off, spot⟩ := a
      have hspot : spot = none := by simpa [Addr.add] using World.cell?_spot (hrow 0 (by omega)).1
      subst hspot
      have h1 := (hrow 0 (by omega)).1
      have hlt := World.block_lt_of_cell? W _ h1
      exact ⟨b, off, rfl, by simpa [Addr.add] using hlt, fun i hi => by have := (hrow i (by omega)).1; rwa [add_plain] at this⟩
    · obtain ⟨_, h1, _, h3, h4, h5, h6⟩ := hrow i (by omega)
      refine ⟨⟨h1, hsmall i hi⟩, fun hL => ?_⟩
      have hb : ∀ j, j < L i → (nth (Z i) j).toNat < 256 ∧ nth (Z i) j = ((nth (Z i) j).toNat : Int) := fun j hj => by
        have hz : nth (Z i) j ∈ Z i := by rw [nth_of (show j < (Z i).length by omega)]; exact List.getElem_mem _
        have := bounds_u8 (h4 _ hz)
        omega
      refine ⟨⟨A i, C i, by rw [ns_len], by rw [ns_len]; show _ * 1 ≤ _; omega, ns_wf fun j hj => (hb j hj).1, fun hp => ?_⟩, fun j hj => (hb j hj).1⟩
      rw [ns_len] at hp ⊢
      cases hA : A i with
      | none => have := h5 hA; omega
      | some a' =>
        obtain ⟨_, hc⟩ := h6 a' hA
        obtain ⟨b, off, spot⟩ := a'
        have hspot : spot = none := by simpa [Addr.add] using World.cell?_spot (hc 0 (by omega))
        subst hspot
        have hlt := World.block_lt_of_cell? W _ (hc 0 (by omega))
        refine ⟨b, off, rfl, by simpa [Addr.add] using hlt, fun j hj => ?_⟩
        have := hc j (by omega)
        rw [add_plain] at this
        rw [this, ns_nth _ hj, ← (hb j hj).2]
        rfl
end Go.Proofs.Ytffoinnllihdeaa

/- General: blocks of a stretch that are turned; 'append' that says which block it turned. No program is named. -/
namespace Go.Proofs.Ytffoinnllihdeaa
open Go.ChangeAt Go.RowKit
set_option maxRecDepth 100000

/-- But for blocks from B up to N (and new ones) w' is as w was. -/
structure Tn (B N : Nat) (w w' : World) : Prop where
  os : w'.os = w.os
  tape : w'.tape = w.tape
  output : w'.output = w.output
  size : w.heap.size ≤ w'.heap.size
  block : ∀ j, j < w.heap.size → (j < B ∨ N ≤ j) → w'.heap[j]? = w.heap[j]?
theorem Tn.trans {B N : Nat} {w w' w2 : World} (h : Tn B N w w') (k : Tn B N w' w2) : Tn B N w w2 :=
  ⟨k.os.trans h.os, k.tape.trans h.tape, k.output.trans h.output, Nat.le_trans h.size k.size, fun j hj hn => (k.block j (Nat.lt_of_lt_of_le hj h.size) hn).trans (h.block j hj hn)⟩
theorem Tn.mono {B B' N : Nat} {w w' : World} (h : Tn B N w w') (hB : B' ≤ B) : Tn B' N w w' := ⟨h.os, h.tape, h.output, h.size, fun j hj hn => h.block j hj (by omega)⟩
theorem Tn.refl (B N : Nat) (w : World) : Tn B N w w := ⟨rfl, rfl, rfl, Nat.le_refl _, fun _ _ _ => rfl⟩
theorem Tn.set {B N : Nat} (w : World) {p : Addr} (h1 : B ≤ p.block) (h2 : p.block < N) (u : Value) : Tn B N w (w.setCell p u) :=
  ⟨rfl, rfl, rfl, by simp [World.setCell], fun j _ hj => Below.heap_setCell _ _ _ _ (by omega)⟩
theorem own_frame {k : IntKind} {B : Nat} {E : TypeId} {w w' : World} {v : Value} {zs : List Int} (h : Own k B E w v zs) (hb : ∀ j, B ≤ j → j < w.heap.size → w'.heap[j]? = w.heap[j]?) : Own k B E w' v zs := by
  obtain ⟨h1, h2⟩ := h
  refine ⟨h1, h2.imp id fun ⟨g, cap, cur, e, hg, hc, hr⟩ => ⟨g, cap, cur, e, hg, (hb g hg (Array.getElem?_eq_some_iff.1 hc).1).trans hc, hr⟩⟩
theorem own_block {k : IntKind} {B : Nat} {E : TypeId} {w : World} {v : Value} {zs : List Int} (h : Own k B E w v zs) {g : Nat} (e : v.ownBlock = some g) : B ≤ g ∧ g < w.heap.size := by
  obtain ⟨_, h2⟩ := h
  rcases h2 with ⟨rfl, _⟩ | ⟨g', cap, cur, rfl, hg, hc, _⟩
  · simp [Value.ownBlock] at e
  · simp only [Value.ownBlock, Option.some.injEq] at e
    subst e
    exact ⟨hg, (Array.getElem?_eq_some_iff.1 hc).1⟩
theorem tn_grown {B N : Nat} {w w' : World} {v : Value} (hg : w.grownBy w' v.ownBlock) (h : ∀ g, v.ownBlock = some g → B ≤ g ∧ g < N) : Tn B N w w' :=
  ⟨hg.os, hg.tape, hg.output, hg.size, fun j hj hn => hg.block j hj (fun e => by have := h j e.symm; omega)⟩
theorem wpList_append_grow_rd {P : Program} {w : World} {ops : Array Oper} {rest : List Oper} {o : Oper} {a : Act} {Q : Exit → Act → World → Prop} (hgd : o.guard = none) (s x : Operand) (t : TypeId)
    (ho : o.op = .call { callee := .builtin .append, args := #[s, x], argTypes := #[t, t] }) (k : IntKind) (B : Nat) (E : TypeId) (ht : P.underlying t = some (.slice E))
    (hinfo : (P.info? E).map (fun i => (i.zero, i.size, i.bytes)) = some (some (.int k 0), 1, k.bits / 8)) (hk : 0 < k.bits / 8)
    (sv : Value) (zs : List Int) (hs : a.eval s = sv) (hown : Own k B E w sv zs) (xv : Value) (ns : List Int) (hx : a.eval x = xv) (hrd : Rd k w xv ns)
    (hlim : (zs.length + ns.length) * (k.bits / 8) ≤ 140737488355328) (hB : B ≤ w.heap.size)
    (h : ∀ v' w', Own k B E w' v' (zs ++ ns) → w.grownBy w' sv.ownBlock → wpList P ops Q rest (a.put o.dst v') w') : wpList P ops Q (o :: rest) a w := by
  obtain ⟨sa, scap, rfl, hl, hwf, hc⟩ := hrd
  obtain ⟨i0, hi, hz0, hz1, hz2⟩ := info_parts hinfo
  by_cases hp : 0 < ns.length
  · obtain ⟨b, off, rfl, hbw, hc⟩ := hc hp
    have hle : zs.length + ns.length ≤ (zs.length + ns.length) * (k.bits / 8) := Nat.le_mul_of_pos_right _ hk
    refine wpList_plain hgd fun _ hK => wp_append_own w s x t ho B E i0 _ 1 (k.bits / 8) ht hi hz0 hz1 hz2 rfl (by decide) sv zs.length _ hs hown ⟨b, off, none⟩ ns.length scap (ns.map (Value.int k)) hx (by simp)
      (fun j u hj => ?_) (fun u hu => by obtain ⟨z, _, rfl⟩ := List.mem_map.1 hu; rfl) (by unfold maxLen; omega) hlim hB (fun v' w' h2 h3 _ => hK _ _ (h v' w' ?_ h3))
    · simp only [List.getElem?_map, Option.map_eq_some_iff] at hj
      obtain ⟨z, hz, rfl⟩ := hj
      obtain ⟨hj, rfl⟩ := List.getElem?_eq_some_iff.1 hz
      rw [Addr.add_mid, hc j hj, nth_of hj]
    · unfold Own
      rw [List.length_append, List.map_append]
      exact h2
  · obtain rfl : ns = [] := List.eq_nil_of_length_eq_zero (by omega)
    have hrun := run_append_zero (P := P) w t o.type k B E ht (by rw [hi]; simp [hz1]) sv zs hown sa scap
    refine wpList_plain hgd fun _ hK => ?_
    unfold Oper.wp
    simp only [List.length_nil] at hx
    simp [execOp, ho, resolve, invoke, builtin, hs, hx, hrun, Result.andThen]
    exact hK _ _ (h sv w (by simpa using hown) ⟨rfl, rfl, rfl, Nat.le_refl _, fun _ _ _ => rfl⟩)

end Go.Proofs.Ytffoinnllihdeaa

/- General: an array of three slices of bytes that comes in. No program is named. -/
namespace Go.Proofs.Ytffoinnllihdeaa
open Go.ChangeShapes Go.WideShapes Go.ChangeAt Go.RowKit Go.Deep

theorem rd_of_part {H : Type} {enc : TypeId × Value → H} {P : Program} {W : World} {held : Bool} {k : IntKind} {t e : TypeId} {d : DataW H} {p : List MemPlace} {v : Value} {fuel : Nat}
    (ht : P.underlying t = some (.slice e)) (he : P.underlying e = some (.int k)) (hc : P.cellsOf e = 1) (hb : P.bytesOf e = k.bits / 8)
    (hf : DataW.trod enc P W 0 (fun _ => true) held fuel t [v] = some (d, p)) (hlt : ∀ x ∈ p, x.block < W.heap.size) (hw : ∀ m ∈ d.weights P t, m ≤ reachBytes) :
    ∃ zs, Rd k W v zs ∧ ∀ a n c, v = .slice a n c → n ≤ c ∧ c ≤ maxLen := by
  rcases open_ints ht he hc hf with ⟨hcs, hx⟩ | ⟨a, len, cap, zs, hcs, _, hl, hm, hz, hx, hcell, hwz⟩
  · simp at hcs
    subst hcs
    exact ⟨[], ⟨none, 0, rfl, by simp, by simp, by simp⟩, fun a n c e => by injection e with e1 e2 e3; subst e2; subst e3; unfold maxLen; omega⟩
  · simp at hcs
    subst hcs
    simp only [Prod.mk.injEq] at hx
    obtain ⟨rfl, rfl⟩ := hx
    simp only [if_true] at hz
    have hreach := hw _ (by simp only [DataW.weights, ht]; exact .head _)
    rw [hb] at hreach
    simp only [lits, List.length_map, List.length_take, List.length_drop, reachBytes] at hreach
    have hle : (zs.take len).length = len := by simp; omega
    refine ⟨zs.take len, ⟨some a, cap, by rw [hle], ?_, fun z hz' => hwz z (List.mem_of_mem_take hz'), fun hp => ?_⟩, fun a n c e => by injection e with e1 e2 e3; subst e2; subst e3; exact ⟨hl, hm⟩⟩
    · rw [hle]
      refine Nat.le_trans (Nat.mul_le_mul_right _ ?_) hreach
      omega
    · rw [hle] at hp ⊢
      obtain ⟨b, off, spot⟩ := a
      have hspot : spot = none := by simpa [Addr.add] using World.cell?_spot (hcell 0 (by omega))
      subst hspot
      refine ⟨b, off, rfl, hlt (.cell b off) (MemPlace.mem_row.2 ⟨0, by omega, by simp⟩), fun j hj => ?_⟩
      have := hcell j (by omega)
      rw [add_plain] at this
      rw [this]
      simp [nth, List.getD, hj]
theorem three_open {H : Type} {enc : TypeId × Value → H} {P : Program} {W : World} {held : Bool} {t s e : TypeId} {base : Nat} {v : Value} {d : DataW H} {p : List MemPlace} {ts : List TypeId} {ds : List (DataW H)} {j : Nat}
    (ht : P.underlying t = some (.array 3 s)) (hs : P.underlying s = some (.slice e)) (he : P.underlying e = some (.int .u8)) (cs : P.cellsOf s = 1) (ct : P.cellsOf t = 3) (ce : P.cellsOf e = 1) (be : P.bytesOf e = 1)
    (hv : Value.okWide P W .any base t v) (h : DataW.Trod enc P W 0 (fun _ => true) held t v d p) (hlt : ∀ x ∈ p, x.block < W.heap.size)
    (hsz : (DataW.weightsEach P ts ds).all (· ≤ reachBytes) = true) (hj : ts[j]? = some t) (hd : ds[j]? = some d) :
    ∃ v0 v1 v2 z0 z1 z2, v = .agg #[v0, v1, v2] ∧ (Rd .u8 W v0 z0 ∧ ∀ a n c, v0 = .slice a n c → n ≤ c ∧ c ≤ maxLen) ∧ (Rd .u8 W v1 z1 ∧ ∀ a n c, v1 = .slice a n c → n ≤ c ∧ c ≤ maxLen) ∧ (Rd .u8 W v2 z2 ∧ ∀ a n c, v2 = .slice a n c → n ≤ c ∧ c ≤ maxLen) := by
  obtain ⟨cells, rfl, hcs⟩ : ∃ cs, v = .agg cs ∧ cs.size = P.cellsOf t := by
    unfold Value.okWide at hv
    rw [ht] at hv
    obtain ⟨cs, h1, h2, _⟩ := hv
    exact ⟨cs, h1, h2⟩
  rw [ct] at hcs
  obtain ⟨l⟩ := cells
  match l, hcs with
  | [c0, c1, c2], _ =>
    obtain ⟨fuel, hf⟩ := h
    obtain ⟨y0, y1, y2, n, hx, h0, h1, h2⟩ := trod_array3 (c0 := c0) (c1 := c1) (c2 := c2) ht cs hf
    simp only [Prod.mk.injEq] at hx
    obtain ⟨rfl, rfl⟩ := hx
    have hall : ∀ y ∈ [y0.1, y1.1, y2.1], ∀ m ∈ y.weights P s, m ≤ reachBytes := fun y hy m hm => by
      have h8 := List.all_eq_true.1 hsz m (DataW.weights_mem_each hj hd m (by simp only [DataW.weights, ht]; exact weightsAll_has hy m hm))
      exact of_decide_eq_true h8
    obtain ⟨z0, a0⟩ := rd_of_part (k := .u8) hs he ce be h0 (fun x hx => hlt x (by simp [hx])) (hall _ (by simp))
    obtain ⟨z1, a1⟩ := rd_of_part (k := .u8) hs he ce be h1 (fun x hx => hlt x (by simp [hx])) (hall _ (by simp))
    obtain ⟨z2, a2⟩ := rd_of_part (k := .u8) hs he ce be h2 (fun x hx => hlt x (by simp [hx])) (hall _ (by simp))
    exact ⟨c0, c1, c2, z0, z1, z2, rfl, a0, a1, a2⟩
end Go.Proofs.Ytffoinnllihdeaa

/- General: a string out of an array of strings. No program is named. -/
namespace Go.Proofs.Ytffoinnllihdeaa
open Go.RowKit
section
variable {P : Program}
theorem run_index_str (w : World) (t e : TypeId) (n : Nat) (cs : Array Value) (j : Nat) (s : ByteArray) (hu : P.underlying t = some (.array n e)) (he : P.underlying e = some .string) (hs : (P.info? e).map (·.size) = some 1) (hj : j < n) (hg : cs[j]? = some (.string s)) :
    (Instr.index t (.agg cs) (.int .i64 (j : Int))).run P w = .ok (.string s) w := by
  obtain ⟨i, hi, h1⟩ : ∃ i, P.info? e = some i ∧ i.size = 1 := by
    cases hq : P.info? e with
    | none => simp [hq] at hs
    | some i => exact ⟨i, rfl, by simpa [hq] using hs⟩
  have hb : 0 ≤ (j : Int) ∧ (j : Int) < (n : Int) := ⟨by omega, by omega⟩
  simp [Instr.index, asIntOf, run_underlying hu, run_underlying he, hj, isAgg, sizeOf, typeInfo, hi, h1, part, hg, go_sem]
theorem run_index_num (w : World) (t e : TypeId) (n : Nat) (cs : Array Value) (j : Nat) (z : Int) (hu : P.underlying t = some (.array n e)) (he : P.underlying e = some (.int .i64)) (hs : (P.info? e).map (·.size) = some 1) (hj : j < n) (hg : cs[j]? = some (.int .i64 z)) :
    (Instr.index t (.agg cs) (.int .i64 (j : Int))).run P w = .ok (.int .i64 z) w := by
  obtain ⟨i, hi, h1⟩ : ∃ i, P.info? e = some i ∧ i.size = 1 := by
    cases hq : P.info? e with
    | none => simp [hq] at hs
    | some i => exact ⟨i, rfl, by simpa [hq] using hs⟩
  have hb : 0 ≤ (j : Int) ∧ (j : Int) < (n : Int) := ⟨by omega, by omega⟩
  simp [Instr.index, asIntOf, run_underlying hu, run_underlying he, hj, isAgg, sizeOf, typeInfo, hi, h1, part, hg, go_sem]
end
end Go.Proofs.Ytffoinnllihdeaa

/- General: rows of any lengths: a list of them that is read, a list that the call owns and puts behind. No program is named. -/
namespace Go.Proofs.Ytffoinnllihdeaa
open Go.ChangeShapes Go.WideShapes Go.ChangeAt Go.RowKit

/-- A row of something lies in no block c. -/
def Apart (u : Value) (c : Nat) : Prop := ∀ b off s n cap, u = .slice (some ⟨b, off, s⟩) n cap → 0 < n → b ≠ c
theorem rd_block {k : IntKind} {w : World} {u : Value} {z : List Int} (h : Rd k w u z) : ∀ b off s n cap, u = .slice (some ⟨b, off, s⟩) n cap → 0 < n → b < w.heap.size := by
  rintro b off s n cap rfl hn
  obtain ⟨a, c, e, _, _, hc⟩ := h
  injection e with e1 e2 e3
  obtain ⟨b', off', e', hlt, _⟩ := hc (by omega)
  rw [e'] at e1
  injection e1 with e1
  injection e1 with e1
  subst e1
  exact hlt
theorem rd_same {k : IntKind} {w w' : World} {u : Value} {z : List Int} {o : Option Nat} (h : Rd k w u z) (hg : w.grownBy w' o) (ha : ∀ c, o = some c → Apart u c) : Rd k w' u z := by
  obtain ⟨a, cap, rfl, h2, h3, h4⟩ := h
  refine ⟨a, cap, rfl, h2, h3, fun hp => ?_⟩
  obtain ⟨b, off, rfl, hbw, hc⟩ := h4 hp
  exact ⟨b, off, rfl, Nat.lt_of_lt_of_le hbw hg.size, fun j hj => (hg.cell_far ⟨b, off + j, none⟩ hbw (fun e => ha b e.symm b off none _ cap rfl hp rfl)).trans (hc j hj)⟩
theorem apart_new {k : IntKind} {w : World} {u : Value} {z : List Int} (h : Rd k w u z) {c : Nat} (hc : w.heap.size ≤ c) : Apart u c :=
  fun b off s n cap e hn => by have := rd_block h b off s n cap e hn; omega
theorem apart_own {k : IntKind} {B : Nat} {E : TypeId} {w : World} {v : Value} {z : List Int} (h : Own k B E w v z) {c : Nat} (hc : c < B) : Apart v c :=
  fun b off s n cap e hn => by
    subst e
    have := (h.lt b rfl).1
    omega
/-- Rows, the call's own list of them. -/
structure RwL (k : IntKind) (w : World) (B : Nat) (E : TypeId) (v : Value) (us : List Value) (Z : List (List Int)) : Prop where
  own : w.ownsRow B E 1 v us.length us
  len : us.length = Z.length
  each : ∀ (i : Nat) (u : Value) (z : List Int), us[i]? = some u → Z[i]? = some z → Rd k w u z ∧ ∀ c, v.ownBlock = some c → Apart u c
section
variable {k : IntKind} {w w' : World} {B : Nat} {E : TypeId} {v v' : Value} {us : List Value} {Z : List (List Int)}
theorem RwL.nil (k : IntKind) (w : World) (B : Nat) (E : TypeId) : RwL k w B E (.slice none 0 0) [] [] :=
  ⟨World.ownsRow_nil w B E 1, rfl, fun i u z h => by cases h⟩
theorem RwL.self (h : RwL k w B E v us Z) (hb : Below w.heap.size w w') : RwL k w' B E v us Z := by
  refine ⟨⟨h.own.1, ?_⟩, h.len, fun i u z h1 h2 => ⟨(h.each i u z h1 h2).1.self hb, (h.each i u z h1 h2).2⟩⟩
  rcases h.own.2 with ⟨e, e0⟩ | ⟨g, cap', cur, e, h1, h2, h3⟩
  · exact .inl ⟨e, e0⟩
  · exact .inr ⟨g, cap', cur, e, h1, (hb.block g (Array.getElem?_eq_some_iff.1 h2).1).trans h2, h3⟩
theorem RwL.lt (h : RwL k w B E v us Z) : ∀ j, v.ownBlock = some j → B ≤ j ∧ j < w.heap.size := World.ownsRow.lt h.own
/-- Rows behind the others. -/
theorem RwL.more {g cap n : Nat} (h : RwL k w B E v us Z) {xs : List Value} {Y : List (List Int)} (hl : xs.length = Y.length) (hn : us.length + xs.length = n)
    (he : ∀ (i : Nat) (u : Value) (z : List Int), xs[i]? = some u → Y[i]? = some z → Rd k w u z ∧ ∀ c, v.ownBlock = some c → Apart u c)
    (ho : w'.ownsRow B E 1 (.slice (some ⟨g, 0, none⟩) n cap) n (us ++ xs)) (hg : w.grownBy w' v.ownBlock) (hc : v.ownBlock = some g ∨ g = w.heap.size) :
    RwL k w' B E (.slice (some ⟨g, 0, none⟩) n cap) (us ++ xs) (Z ++ Y) := by
  refine ⟨by rw [List.length_append, hn]; exact ho, by rw [List.length_append, List.length_append, h.len, hl], fun i u z h1 h2 => ?_⟩
  have key : Rd k w u z ∧ ∀ c, v.ownBlock = some c → Apart u c := by
    by_cases hi : i < us.length
    · rw [List.getElem?_append_left hi] at h1
      rw [List.getElem?_append_left (by rw [← h.len]; exact hi)] at h2
      exact h.each i u z h1 h2
    · rw [List.getElem?_append_right (by omega)] at h1
      rw [List.getElem?_append_right (by rw [← h.len]; omega), ← h.len] at h2
      exact he _ u z h1 h2
  refine ⟨rd_same key.1 hg key.2, fun c e => ?_⟩
  simp only [Value.ownBlock, Option.some.injEq] at e
  subst e
  rcases hc with hc | hc
  · exact key.2 _ hc
  · exact apart_new key.1 (by omega)
end

/-- Rows that are read: m of them, from a on. -/
structure RdL (k : IntKind) (w : World) (a : Option Addr) (m : Nat) (us : Nat → Value) (zs : Nat → List Int) : Prop where
  out : 0 < m → ∃ g off, a = some ⟨g, off, none⟩ ∧ g < w.heap.size ∧ ∀ i, i < m → w.cell? ⟨g, off + i, none⟩ = some (us i)
  each : ∀ i, i < m → Rd k w (us i) (zs i)
theorem RdL.self {k : IntKind} {w w' : World} {a : Option Addr} {m : Nat} {us : Nat → Value} {zs : Nat → List Int} (h : RdL k w a m us zs) (hb : Below w.heap.size w w') : RdL k w' a m us zs := by
  refine ⟨fun h0 => ?_, fun i hi => (h.each i hi).self hb⟩
  obtain ⟨g, off, e, hg, hc⟩ := h.out h0
  exact ⟨g, off, e, Nat.lt_of_lt_of_le hg hb.size, fun i hi => (World.cell?_of_block (w := w) (hb.block g hg)).trans (hc i hi)⟩
/-- A list that is owned is read. -/
theorem RwL.rdl {k : IntKind} {w : World} {B : Nat} {E : TypeId} {v : Value} {us : List Value} {Z : List (List Int)} (h : RwL k w B E v us Z) :
    ∃ a cap, v = .slice a us.length cap ∧ us.length ≤ cap ∧ RdL k w a us.length (fun i => us.getD i default) (fun i => Z.getD i []) := by
  have he : ∀ i, i < us.length → Rd k w (us.getD i default) (Z.getD i []) := fun i hi => by
    have hz : i < Z.length := by rw [← h.len]; exact hi
    have := (h.each i _ _ (List.getElem?_eq_getElem hi) (List.getElem?_eq_getElem hz)).1
    simpa [List.getD, hi, hz] using this
  rcases h.own.2 with ⟨rfl, e0⟩ | ⟨g, cap, cur, rfl, h1, h2, h3, _⟩
  · exact ⟨none, 0, by rw [e0], by omega, fun h0 => absurd e0 (by omega), he⟩
  · refine ⟨_, cap, rfl, h3, fun _ => ⟨g, 0, rfl, (Array.getElem?_eq_some_iff.1 h2).1, fun i hi => ?_⟩, he⟩
    have := h.own.cells (g := g) rfl i _ (List.getElem?_eq_getElem hi)
    rw [Addr.add_mid, Nat.zero_add] at this
    rw [Nat.zero_add, this]
    simp [List.getD, hi]
/-- 'append(list, rows ..)'. -/
theorem wpList_append_rwl {P : Program} {w : World} {ops : Array Oper} {rest : List Oper} {o : Oper} {a : Act} {Q : Exit → Act → World → Prop} (hgd : o.guard = none) (s x : Operand) (t : TypeId)
    (ho : o.op = .call { callee := .builtin .append, args := #[s, x], argTypes := #[t, t] }) {k : IntKind} {B : Nat} {E : TypeId} {v : Value} {us : List Value} {Z : List (List Int)} (ht : P.underlying t = some (.slice E))
    (hinfo : (P.info? E).map (fun i => (i.zero, i.size, i.bytes)) = some (some (.slice none 0 0), 1, 24)) (h : RwL k w B E v us Z) (hs : a.eval s = v)
    (ad : Addr) (m c : Nat) (hx : a.eval x = .slice (some ad) m c) (xs : List Value) (Y : List (List Int)) (hm : xs.length = m) (hl : xs.length = Y.length) (hm0 : 0 < m) (hcs : ∀ (j : Nat) (u : Value), xs[j]? = some u → w.cell? (ad.add j) = some u)
    (he : ∀ (i : Nat) (u : Value) (z : List Int), xs[i]? = some u → Y[i]? = some z → Rd k w u z ∧ ∀ c, v.ownBlock = some c → Apart u c) (hlim : us.length + m ≤ 5864062014805) (hB : B ≤ w.heap.size) (n : Nat) (hn : us.length + m = n)
    (hK : ∀ g cap w', RwL k w' B E (.slice (some ⟨g, 0, none⟩) n cap) (us ++ xs) (Z ++ Y) → w.grownBy w' v.ownBlock → wpList P ops Q rest (a.put o.dst (.slice (some ⟨g, 0, none⟩) n cap)) w') : wpList P ops Q (o :: rest) a w := by
  obtain ⟨i0, hi, hz0, hz1, hz2⟩ := info_parts hinfo
  subst hn
  refine wpList_append_lies w hgd s x t ho B E i0 _ 1 24 ht hi hz0 hz1 hz2 rfl (by decide) v us.length us hs h.own ad m c xs hx (by omega) hcs (fun u hu => ?_) hm0 (by unfold maxLen; omega) (by omega) hB _ rfl (fun g cap w' h2 h3 h4 _ => hK g cap w' (h.more hl (by omega) he h2 h3 h4) h3)
  obtain ⟨j, hj⟩ := List.getElem?_of_mem hu
  have hj2 : j < Y.length := by rw [← hl]; exact (List.getElem?_eq_some_iff.1 hj).1
  obtain ⟨a', c', rfl, _⟩ := (he j u _ hj (List.getElem?_eq_getElem hj2)).1
  rfl
end Go.Proofs.Ytffoinnllihdeaa

/- General: rows as strings, in regions that draw: the condition that every world meets is made stronger on the way. No program is named. -/
namespace Go.Proofs.Ytffoinnllihdeaa
open Go.ChangeShapes Go.WideShapes Go.ChangeAt Go.RowKit

/-- A row of bytes that is read, however long. -/
def Rw (w : World) (v : Value) (zs : List Int) : Prop := ∃ a cap, v = .slice a zs.length cap ∧ (0 < zs.length → ∃ b off, a = some ⟨b, off, none⟩ ∧ b < w.heap.size ∧ ∀ j, j < zs.length → w.cell? ⟨b, off + j, none⟩ = some (.int .u8 (nth zs j)))
theorem Rw.of_rd {w : World} {v : Value} {zs : List Int} (h : Rd .u8 w v zs) : Rw w v zs := by
  obtain ⟨a, cap, h1, _, _, h2⟩ := h
  exact ⟨a, cap, h1, h2⟩
theorem Rw.self {w w' : World} {v : Value} {zs : List Int} (h : Rw w v zs) (hb : Below w.heap.size w w') : Rw w' v zs := by
  obtain ⟨a, cap, h1, h2⟩ := h
  refine ⟨a, cap, h1, fun h0 => ?_⟩
  obtain ⟨b, off, e, hlt, hc⟩ := h2 h0
  exact ⟨b, off, e, Nat.lt_of_lt_of_le hlt hb.size, fun j hj => (World.cell?_of_block (w := w) (hb.block b hlt)).trans (hc j hj)⟩
theorem Rw.of_own {B : Nat} {E : TypeId} {w : World} {v : Value} {zs : List Int} (h : Own .u8 B E w v zs) : Rw w v zs := by
  by_cases h0 : 0 < zs.length
  · obtain ⟨g, cap, e, _, h2, hc, _⟩ := h.part h0
    exact ⟨_, cap, e, fun _ => ⟨g, 0, rfl, h2, fun j hj => by rw [Nat.zero_add]; exact hc j hj⟩⟩
  · obtain ⟨p, cap, e, _⟩ := h.slice
    exact ⟨p, cap, e, fun h => absurd h h0⟩
theorem rw_nil (w : World) : Rw w (.slice none 0 0) [] := ⟨none, 0, rfl, fun h => absurd h (by decide)⟩
theorem run_conv_rw {P : Program} {w : World} {v : Value} {zs : List Int} {src e : TypeId} (h : Rw w v zs) (hs : P.underlying src = some (.slice e)) (he : P.underlying e = some (.int .u8)) (dst : TypeId) (hd : P.underlying dst = some .string) :
    (convert src dst v).run P w = .ok (.string (strOfNums zs)) w := by
  obtain ⟨a, cap, rfl, hc⟩ := h
  by_cases hp : 0 < zs.length
  · obtain ⟨b, off, rfl, _, hc⟩ := hc hp
    exact run_convert_bytes_arg w src e hs he b off zs.length cap zs rfl (fun i hi => hc i hi) dst hd
  · obtain rfl : zs = [] := List.eq_nil_of_length_eq_zero (by omega)
    rw [run_convert_bytes_string w src dst e _ _ _ hs he hd]
    cases a with
    | none => simp [Conv.bytesToString, strOfNums]; rfl
    | some a =>
      have hl : (loadCells a 0).run P w = .ok (([] : List Int).map (Value.int .u8)).toArray w := by simp [loadCells, loadCellsFrom]
      exact run_bytesToString w a 0 cap [] hl

section
variable {P : Program} {md : Region.Mode} {ops : Array Oper} {Q : Exit → Act → World → Prop} {S S' : World → Prop}
/-- On the way the condition may be made stronger. -/
theorem wpAnyH_mono (hs : ∀ w, S' w → S w) : ∀ (fuel : Nat) (listed : Array Bool) (a : Act) (w : World), wpAnyH P md ops Q S' fuel listed a w → wpAnyH P md ops Q S fuel listed a w
  | 0, _, _, _, h => h
  | fuel + 1, _, _, _, h => ⟨h.1, fun i hi => wpOp_mono (fun a' w' h' => ⟨hs w' h'.1, wpAnyH_mono hs fuel _ a' w' h'.2⟩) (h.2 i hi)⟩
/-- .. from here on: what lies there stays. -/
theorem wpAnyH_from {fuel : Nat} {listed : Array Bool} {a : Act} {w0 w : World} (hb : Below w0.heap.size w0 w) (h : Below w.heap.size w w → wpAnyH P md ops Q (fun w' => Below w.heap.size w w') fuel listed a w) :
    wpAnyH P md ops Q (fun w' => Below w0.heap.size w0 w') fuel listed a w :=
  wpAnyH_mono (fun _ h' => hb.trans (h'.mono hb.size)) _ _ _ _ (h (Below.refl _ _))
theorem yields_conv {o : Oper} {a : Act} {v : Value} {zs : List Int} {src e dst : TypeId} (hw : Region.wanted o (yielded ops a.tmps) = true) (x : Operand) (ho : o.op = .convert src dst x) (hx : a.eval x = v) (hS : ∀ w, S w → Rw w v zs)
    (hs : P.underlying src = some (.slice e)) (he : P.underlying e = some (.int .u8)) (hd : P.underlying dst = some .string) : YieldsIf P ops S o (.string (strOfNums zs)) a :=
  .inl ⟨hw, fun w h => by
    have := run_conv_rw (P := P) (hS w h) hs he dst hd
    unfold execOp
    simp only [ho, hx, Sem.run_bind, this, Result.andThen_ok, Sem.run_pure]⟩
end
end Go.Proofs.Ytffoinnllihdeaa
