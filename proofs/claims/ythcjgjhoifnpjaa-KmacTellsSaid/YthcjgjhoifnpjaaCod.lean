import Derived.Test.YthcjgjhoifnpjaaProg
import Derived.Test.YthcjgjhoifnpjaaGen
import Derived.Lib.AppendZerosOnto
import Derived.Lib.BitFns
import Derived.Lib.Walk
import Derived.OwnWalk
set_option maxRecDepth 100000
/- Numbers as bytes, strings that are put (stage 14): lists of numbers. No program is named. -/
namespace Go.Proofs.Ythcjgjhoifnpjaa

/-- A number's bytes, the highest one first. -/
def dg (n : Nat) : List Int := if n < 256 then [(n : Int)] else dg (n / 256) ++ [((n % 256 : Nat) : Int)]
termination_by n
decreasing_by exact Nat.div_lt_self (by omega) (by decide)
theorem dg_one {n : Nat} (h : n < 256) : dg n = [(n : Int)] := by unfold dg; rw [if_pos h]
theorem dg_more {n : Nat} (h : ¬ n < 256) : dg n = dg (n / 256) ++ [((n % 256 : Nat) : Int)] := by rw [dg]; rw [if_neg h]
theorem dg_ind {p : Nat → Prop} (h1 : ∀ n, n < 256 → p n) (h2 : ∀ n, ¬ n < 256 → p (n / 256) → p n) (n : Nat) : p n := by
  induction n using Nat.strongRecOn with
  | ind n ih =>
    by_cases h : n < 256
    · exact h1 n h
    · exact h2 n h (ih _ (Nat.div_lt_self (by omega) (by decide)))
theorem dg_pos (n : Nat) : 0 < (dg n).length := by
  by_cases h : n < 256
  · rw [dg_one h]; simp
  · rw [dg_more h]; simp
theorem dg_bytes : ∀ n : Nat, ∀ z ∈ dg n, 0 ≤ z ∧ z ≤ 255 := dg_ind
  (fun n h z hz => by rw [dg_one h, List.mem_singleton] at hz; omega)
  (fun n h ih z hz => by
    rw [dg_more h, List.mem_append, List.mem_singleton] at hz
    rcases hz with hz | rfl
    · exact ih z hz
    · omega)
/-- The number that bytes stand for. -/
def vl (zs : List Int) : Int := zs.foldl (fun a z => a * 256 + z) 0
theorem vl_snoc (zs : List Int) (z : Int) : vl (zs ++ [z]) = vl zs * 256 + z := by unfold vl; rw [List.foldl_append]; rfl
theorem vl_dg : ∀ n : Nat, vl (dg n) = n := dg_ind
  (fun n h => by rw [dg_one h]; simp [vl])
  (fun n h ih => by rw [dg_more h, vl_snoc, ih]; omega)
theorem dg_inj {a b : Nat} (h : dg a = dg b) : a = b := by
  have := congrArg vl h
  rw [vl_dg, vl_dg] at this
  omega
theorem dg_len : ∀ (k n : Nat), n < 256 ^ (k + 1) → (dg n).length ≤ k + 1
  | 0, n, h => by rw [dg_one (by simpa using h)]; simp
  | k + 1, n, h => by
    by_cases h1 : n < 256
    · rw [dg_one h1]; simp
    · rw [dg_more h1, List.length_append]
      have : n / 256 < 256 ^ (k + 1) := Nat.div_lt_of_lt_mul (by rw [Nat.pow_succ, Nat.mul_comm] at h; exact h)
      have := dg_len k _ this
      simp; omega
theorem dg_long : ∀ (k n : Nat), 256 ^ k ≤ n → k + 1 ≤ (dg n).length
  | 0, n, _ => dg_pos n
  | k + 1, n, h => by
    have h1 : ¬ n < 256 := by
      have : 256 ^ 1 ≤ 256 ^ (k + 1) := Nat.pow_le_pow_right (by decide) (by omega)
      omega
    rw [dg_more h1, List.length_append]
    have := dg_long k (n / 256) ((Nat.le_div_iff_mul_le (by decide)).2 (by rw [Nat.pow_succ] at h; exact h))
    simp; omega
/-- Left of a number, and right of it. -/
def lef (n : Nat) : List Int := ((dg n).length : Int) :: dg n
def rig (n : Nat) : List Int := dg n ++ [((dg n).length : Int)]
theorem lef_len (n : Nat) : (lef n).length = (dg n).length + 1 := by simp [lef]
/-- In front of one row stands one number. -/
theorem lef_inj {a b : Nat} {r s : List Int} (h : lef a ++ r = lef b ++ s) : a = b ∧ r = s := by
  unfold lef at h
  simp only [List.cons_append, List.cons.injEq] at h
  obtain ⟨h1, h2⟩ := h
  have h3 := List.append_inj h2 (by omega)
  exact ⟨dg_inj h3.1, h3.2⟩
/-- A string, put. -/
def sto (zs : List Int) : List Int := lef (8 * zs.length) ++ zs
theorem sto_len (zs : List Int) : (sto zs).length = (lef (8 * zs.length)).length + zs.length := by simp [sto]
theorem sto_inj {a b r s : List Int} (h : sto a ++ r = sto b ++ s) : a = b ∧ r = s := by
  unfold sto at h
  rw [List.append_assoc, List.append_assoc] at h
  have h1 := lef_inj h
  exact List.append_inj h1.2 (by omega)
theorem sto_two {a b c d : List Int} : sto a ++ sto b = sto c ++ sto d ↔ a = c ∧ b = d := by
  constructor
  · intro h
    have h1 := sto_inj h
    have h2 := sto_inj (r := []) (s := []) (by simpa using h1.2)
    exact ⟨h1.1, h2.1⟩
  · rintro ⟨rfl, rfl⟩; rfl
/-! ### what a row begins with -/
/-- Bytes are a number's bytes if they are as few as hold it. -/
theorem vl_pos {zs : List Int} (h : ∀ z ∈ zs, 0 ≤ z ∧ z ≤ 255) : ∀ a : Int, 0 ≤ a → 0 ≤ zs.foldl (fun a z => a * 256 + z) a := by
  induction zs with
  | nil => intro a ha; exact ha
  | cons z zs ih =>
    intro a ha
    have := h z (by simp)
    exact ih (fun y hy => h y (by simp [hy])) _ (show 0 ≤ a * 256 + z by omega)
theorem vl_nonneg {zs : List Int} (h : ∀ z ∈ zs, 0 ≤ z ∧ z ≤ 255) : 0 ≤ vl zs := vl_pos h 0 (by decide)
theorem dg_vl : ∀ (k : Nat) (zs : List Int), zs.length = k + 1 → (∀ z ∈ zs, 0 ≤ z ∧ z ≤ 255) → (k = 0 ∨ zs.head? ≠ some 0) → dg (vl zs).toNat = zs
  | 0, zs, hl, hb, _ => by
    obtain ⟨z, rfl⟩ := List.length_eq_one_iff.1 hl
    have := hb z (by simp)
    have e : vl [z] = z := by simp [vl]
    rw [e, dg_one (by omega)]
    congr 1; omega
  | k + 1, zs, hl, hb, hh => by
    obtain ⟨ys, z, rfl⟩ : ∃ ys z, zs = ys ++ [z] := ⟨zs.dropLast, zs.getLast (by intro e; rw [e] at hl; simp at hl), (List.dropLast_concat_getLast _).symm⟩
    have hly : ys.length = k + 1 := by simpa using hl
    obtain ⟨y, ys', rfl⟩ : ∃ y ys', ys = y :: ys' := by
      cases ys with
      | nil => simp at hly
      | cons y ys' => exact ⟨y, ys', rfl⟩
    have hne : y ≠ 0 := by
      rcases hh with h | h
      · omega
      · simpa using h
    have hby : ∀ x ∈ y :: ys', 0 ≤ x ∧ x ≤ 255 := fun x hx => hb x (List.mem_append.2 (.inl hx))
    have ih := dg_vl k (y :: ys') hly hby (.inr (by simpa using hne))
    have hz := hb z (by simp)
    have h0 := vl_nonneg hby
    have h1 : 1 ≤ vl (y :: ys') := by
      by_cases e : vl (y :: ys') = 0
      · rw [e] at ih
        have : dg (0 : Int).toNat = [0] := dg_one (n := 0) (by decide)
        rw [this] at ih
        exact absurd (List.cons.inj ih).1.symm hne
      · omega
    rw [vl_snoc, dg_more (by omega)]
    have e1 : (vl (y :: ys') * 256 + z).toNat / 256 = (vl (y :: ys')).toNat := by omega
    have e2 : (((vl (y :: ys') * 256 + z).toNat % 256 : Nat) : Int) = z := by omega
    rw [e1, e2, ih]
/-- A row begins with a string of n bytes, put, of at most four bytes' number. -/
def Beg (L : List Int) (n : Nat) : Prop := (lef (8 * n)).length ≤ 5 ∧ n + (lef (8 * n)).length ≤ L.length ∧ L.take (lef (8 * n)).length = lef (8 * n)
theorem beg_one {L : List Int} {a b : Nat} (ha : Beg L a) (hb : Beg L b) : a = b := by
  have h1 := List.take_append_drop (lef (8 * a)).length L
  have h2 := List.take_append_drop (lef (8 * b)).length L
  rw [ha.2.2] at h1
  rw [hb.2.2] at h2
  have := (lef_inj (h1.trans h2.symm)).1
  omega
theorem beg_sto {z r : List Int} (h : (lef (8 * z.length)).length ≤ 5) : Beg (sto z ++ r) z.length := by
  refine ⟨h, by simp [sto]; omega, ?_⟩
  unfold sto
  rw [List.append_assoc, List.take_left']
  rfl
/-- .. and then this is the string. -/
theorem sto_beg {L : List Int} {n : Nat} (h : Beg L n) : sto ((L.drop (lef (8 * n)).length).take n) ++ (L.drop (lef (8 * n)).length).drop n = L := by
  have hl : ((L.drop (lef (8 * n)).length).take n).length = n := by
    rw [List.length_take, List.length_drop]; have := h.2.1; omega
  unfold sto
  rw [hl, List.append_assoc, List.take_append_drop]
  conv => rhs; rw [← List.take_append_drop (lef (8 * n)).length L, h.2.2]
end Go.Proofs.Ythcjgjhoifnpjaa

/- Code: math/bits' Len; slices' Grow and Concat of any rows; behind. -/
namespace Go.Proofs.Ythcjgjhoifnpjaa
open Go.RowKit

theorem cinfob : (Try.prog.info? 5).map (fun i => (i.zero, i.size, i.bytes)) = some (some (.int .u8 0), 1, IntKind.u8.bits / 8) := by kernel_rfl
theorem cinfor : (Try.prog.info? 22).map (fun i => (i.zero, i.size, i.bytes)) = some (some (.slice none 0 0), 1, 24) := by kernel_rfl
theorem ccell_self {w w' : World} {a : Addr} {v : Value} (h : w.cell? a = some v) (hb : Below w.heap.size w w') : w'.cell? a = some v :=
  (hb.cell (World.block_lt_of_cell? w _ h)).trans h

set_option maxRecDepth 100000 in
theorem tabSize : Lib.len8tab.size = 256 := by decide
theorem tabGet (y : Int) (h0 : 0 ≤ y) (h1 : y ≤ 255) (h : y.toNat < Lib.len8tab.size) : ((Lib.len8tab[y.toNat]'h).toNat : Int) = (Lib.bitLen y.toNat : Int) := by
  rw [← Lib.len8_of y h0 h1]
  unfold Lib.len8
  rw [getElem?_pos Lib.len8tab y.toNat h]
  rfl
theorem lenWay (k : Nat) (x y : Int) (hx : 2 ^ k ≤ x.toNat) (hx2 : x.toNat < 2 ^ 64) (h0 : 0 ≤ y) (h1 : y ≤ 255) (hy : y.toNat = x.toNat / 2 ^ k) (h : y.toNat < Lib.len8tab.size) (hk : k ≤ 56) :
    wrap64 ((k : Int) + wrap64 ((Lib.len8tab[y.toNat]'h).toNat : Int)) = (Lib.bitLen x.toNat : Int) := by
  have l := Lib.bitLen_le8' y h0 h1
  rw [tabGet y h0 h1, Lib.bitLen_shift k x.toNat hx hx2, ← hy]
  unfold wrap64
  omega
theorem lenWay0 (x : Int) (h0 : 0 ≤ x) (h1 : x ≤ 255) (h : x.toNat < Lib.len8tab.size) : wrap64 (wrap64 ((Lib.len8tab[x.toNat]'h).toNat : Int)) = (Lib.bitLen x.toNat : Int) := by
  have l := Lib.bitLen_le8' x h0 h1
  rw [tabGet x h0 h1]
  unfold wrap64
  omega
theorem lenWay1 (x : Int) (h0 : 0 ≤ x) (h1 : x ≤ 255) (h : x.toNat < Lib.len8tab.size) : wrap64 ((Lib.len8tab[x.toNat]'h).toNat : Int) = (Lib.bitLen x.toNat : Int) := by
  have l := Lib.bitLen_le8' x h0 h1
  rw [tabGet x h0 h1]
  unfold wrap64
  omega

set_option maxHeartbeats 4000000 in
set_option maxRecDepth 100000 in
theorem len64_any (x : Int) (w : World) (h0 : 0 ≤ x) (h1 : x ≤ 18446744073709551615) :
    Calls Try.prog 55 #[.int .u64 x] w fun e w' => e = .returned (.int .i64 (Lib.bitLen x.toNat)) ∧ w' = w := by
  have hs := tabSize
  go_enter Try.func55, Try.ntmps55
  go_wp2
  all_goals first
    | (go_ret; refine ⟨ret_int ?_, rfl⟩)
    | (exfalso; omega)
  all_goals first
    | exact lenWay 56 x (x / 4294967296 / 65536 / 256) (by show 72057594037927936 ≤ _; omega) (by show _ < 18446744073709551616; omega) (by omega) (by omega) (by show _ = _ / 72057594037927936; omega) _ (by decide)
    | exact lenWay 48 x (x / 4294967296 / 65536) (by show 281474976710656 ≤ _; omega) (by show _ < 18446744073709551616; omega) (by omega) (by omega) (by show _ = _ / 281474976710656; omega) _ (by decide)
    | exact lenWay 40 x (x / 4294967296 / 256) (by show 1099511627776 ≤ _; omega) (by show _ < 18446744073709551616; omega) (by omega) (by omega) (by show _ = _ / 1099511627776; omega) _ (by decide)
    | exact lenWay 32 x (x / 4294967296) (by show 4294967296 ≤ _; omega) (by show _ < 18446744073709551616; omega) (by omega) (by omega) (by show _ = _ / 4294967296; omega) _ (by decide)
    | exact lenWay 24 x (x / 65536 / 256) (by show 16777216 ≤ _; omega) (by show _ < 18446744073709551616; omega) (by omega) (by omega) (by show _ = _ / 16777216; omega) _ (by decide)
    | exact lenWay 16 x (x / 65536) (by show 65536 ≤ _; omega) (by show _ < 18446744073709551616; omega) (by omega) (by omega) (by show _ = _ / 65536; omega) _ (by decide)
    | exact lenWay 8 x (x / 256) (by show 256 ≤ _; omega) (by show _ < 18446744073709551616; omega) (by omega) (by omega) (by show _ = _ / 256; omega) _ (by decide)
    | exact lenWay0 x h0 (by omega) _
    | exact lenWay1 x h0 (by omega) _
theorem len_any (x : Int) (w : World) (h0 : 0 ≤ x) (h1 : x ≤ 18446744073709551615) :
    Calls Try.prog 44 #[.int .u64 x] w fun e w' => e = .returned (.int .i64 (Lib.bitLen x.toNat)) ∧ w' = w := by
  have H := hid (len64_any x w h0 h1)
  go_enter Try.func44, Try.ntmps44
  go_wp2_with (first | (go_at_call 55; (with_reducible refine (H.out).mono ?_); rintro e w1 ⟨rfl, rfl⟩))
  go_ret
  exact ⟨rfl, rfl⟩

/-- The first j lists, one behind the other. -/
def ccat (zs : Nat → List Int) : Nat → List Int
  | 0 => []
  | j + 1 => ccat zs j ++ zs j
theorem ccat_le (zs : Nat → List Int) {j m : Nat} (h : j ≤ m) : (ccat zs j).length ≤ (ccat zs m).length := by
  induction m with
  | zero => obtain rfl : j = 0 := by omega
            exact Nat.le_refl _
  | succ m ih =>
    by_cases e : j = m + 1
    · subst e; exact Nat.le_refl _
    · exact Nat.le_trans (ih (by omega)) (by simp [ccat])

theorem cappend_run {P : Program} {w w' : World} {ops : Array Oper} {rest : List Oper} {o : Oper} {a : Act} {Q : Exit → Act → World → Prop} (hgd : o.guard = none) (s x : Operand) (t t' r : TypeId)
    (ho : o.op = .call { callee := .builtin .append, args := #[s, x], argTypes := #[t, t'] }) (hr : o.type = r) (sv xv v : Value) (hs : a.eval s = sv) (hx : a.eval x = xv) (hrun : (Builtin.append_ #[t, t'] r #[sv, xv]).run P w = .ok v w')
    (h : wpList P ops Q rest (a.put o.dst v) w') : wpList P ops Q (o :: rest) a w :=
  wpList_plain hgd fun _ hK => by
    subst hr; subst hs; subst hx
    unfold Oper.wp execOp
    simp only [ho, resolve, invoke, builtin, Sem.run_bind, Sem.run_pure, Result.andThen_ok, List.map_toArray, List.map_cons, List.map_nil, hrun]
    exact hK _ _ h

theorem cinfo5b : ∃ i, Try.prog.info? 5 = some i ∧ i.zero = some (.int .u8 0) ∧ i.size = 1 ∧ i.bytes = 1 := by
  obtain ⟨i, h1, h2, h3, h4⟩ := info_parts cinfob
  exact ⟨i, h1, h2, h3, h4⟩

/-- What Grow promises of nil. -/
def CgrowP (w : World) (e : Ending) (w' : World) : Prop := ∃ v, e = .returned v ∧ Own .u8 w.heap.size 5 w' v [] ∧ Below w.heap.size w w'

set_option maxRecDepth 100000 in
theorem cgrow_any (n : Nat) (w : World) (hn : n ≤ 140737488355328) :
    Calls Try.prog 39 #[.slice none 0 0, .int .i64 (n : Int)] w fun e w' => CgrowP w e w' := by
  by_cases h0 : n = 0
  · subst h0
    go_enter Try.func39, Try.ntmps39
    go_wp2
    go_ret
    exact ⟨_, rfl, own_nil .u8 w.heap.size 5 w, Below.refl _ _⟩
  · obtain ⟨i, hi, hz, hs, hb⟩ := cinfo5b
    have hold : (Builtin.firstCells i.size 0 (.slice none 0 0)).run Try.prog w.drew = .ok ([] : List Value).toArray w.drew := run_firstCells_none w.drew i.size 0 0 0
    have hfit : Builtin.nextslicecap (0 + n) 0 * i.bytes ≤ 281474976710656 := by rw [hb]; exact growslice_fits (by omega) (by omega)
    have hg : (Builtin.append_ #[22, 3] 22 #[.slice none 0 0, .int .i64 (n : Int)]).run Try.prog w = .ok (.slice (some ⟨w.heap.size, 0, none⟩) n (grownCap w n 0 5)) (w.drew.alloc (.cells ((Builtin.zeroCells (Value.int .u8 0).cells n) ++ Builtin.zeroCells (Value.int .u8 0).cells (grownCap w n 0 5 - n)) 5)) := by
      have h := Lib.run_append_grow_zeros (P := Try.prog) w 22 3 22 5 i _ .i64 .i64 Try.underlying22 Try.underlying3 hi hz none 0 0 [] hold n (by omega) (by omega) (by omega) (by omega) (by rw [hb]; omega) hfit
      simpa using h
    have hge := grownCap_ge w n 0 5
    have hle := grownCap_le_maxLen w n 0 5 (by unfold maxLen; omega)
    have hsz : ((Builtin.zeroCells (Value.int .u8 0).cells n) ++ Builtin.zeroCells (Value.int .u8 0).cells (grownCap w n 0 5 - n)).size = grownCap w n 0 5 := by
      simp only [Array.size_append, size_zeroCells]
      show n * 1 + (grownCap w n 0 5 - n) * 1 = _
      omega
    generalize grownCap w n 0 5 = G at *
    generalize (Builtin.zeroCells (Value.int .u8 0).cells n) ++ Builtin.zeroCells (Value.int .u8 0).cells (G - n) = cs at *
    have HO : Hid (Own .u8 w.heap.size 5 (w.drew.alloc (.cells cs 5)) (.slice (some ⟨w.heap.size, 0, none⟩) 0 G) []) :=
      hid ⟨rfl, .inr ⟨w.heap.size, G, cs, rfl, Nat.le_refl _, heap_alloc_new w.drew _, Nat.zero_le _, hle, by omega, rfl⟩⟩
    have hG := hid hle
    unfold maxLen at hle
    have h1 : ¬ ((n : Int) < 0) := by omega
    have h2 : (0 : Int) < (n : Int) := by omega
    have h3 : IntKind.i64.wrap (n : Int) = n := by rw [IntKind.wrap_i64]; omega
    have h4 : (0 : Int) ≤ (G : Int) := by omega
    have HG := hid hg
    have HL : Hid (Below w.heap.size w (w.drew.alloc (.cells cs 5))) := hid ((Below.refl w.heap.size w).drew.alloc (Nat.le_refl _) _)
    clear hold hfit hi hz hs hb hsz hn hg
    go_enter Try.func39, Try.ntmps39
    go_wp2_with (first
      | (refine cappend_run rfl (.tmp 20) (.tmp 21) 22 3 22 rfl rfl _ _ _ rfl rfl HG.out ?_; generalize w.drew.alloc (.cells cs 5) = w1 at *))
    go_ret
    exact ⟨_, rfl, HO.out, HL.out⟩

/-- What Concat promises. -/
def CatP (w : World) (zs : List Int) (e : Ending) (w' : World) : Prop := ∃ v, e = .returned v ∧ Own .u8 w.heap.size 5 w' v zs ∧ Below w.heap.size w w'

/-- Lists put behind one another. -/
structure CcatInv (w wr : World) (v : Value) (zs : Nat → List Int) (j : Nat) : Prop where
  own : Own .u8 w.heap.size 5 wr v (ccat zs j)
  low : Below w.heap.size w wr

set_option maxRecDepth 100000 in
set_option maxHeartbeats 3200000 in
theorem cconcat_any (c o m cap : Nat) (us : Nat → Value) (zs : Nat → List Int) (w : World) (hm : m ≤ 1073741824) (hc : ∀ i, i < m → w.cell? ⟨c, o + i, none⟩ = some (us i)) (hr : ∀ i, i < m → Rd .u8 w (us i) (zs i)) (hlim : (ccat zs m).length ≤ 140737488355328) :
    Calls Try.prog 30 #[.slice (some ⟨c, o, none⟩) m cap] w fun e w' => CatP w (ccat zs m) e w' := by
  have HC := hid hc
  have HR := hid hr
  have HG := hid (cgrow_any (ccat zs m).length w hlim)
  have HM := hid (fun j (h : j ≤ m) => ccat_le zs h)
  clear hc hr
  go_enter Try.func30, Try.ntmps30
  go_wp2
  go_loop [3, 11] (fun s i => ∃ j : Nat, j ≤ m ∧ i = .int .i64 j ∧ s = .int .i64 ((ccat zs j).length : Nat)) (fun _ i => m - (intOf i).toNat)
  case atStart => exact ⟨0, by omega, rfl, rfl⟩
  case round =>
    obtain ⟨j, hj, rfl, rfl⟩ := hrel
    by_cases hlt : j < m
    · have hc1 := HC.out j hlt
      obtain ⟨ad, cp, hu, hl1, _, _⟩ := HR.out j hlt
      rw [hu] at hc1
      have HJ := hid (HM.out (j + 1) hlt)
      have e1 : (ccat zs (j + 1)).length = (ccat zs j).length + (zs j).length := by simp [ccat]
      have hle := HJ.out
      have h0 : (0 : Int) ≤ (j : Int) := by omega
      have h1 : (j : Int) < (m : Int) := by omega
      have h2 : ((ccat zs j).length : Int) + ((zs j).length : Int) = ((ccat zs (j + 1)).length : Int) := by omega
      have h3 : IntKind.i64.wrap (((ccat zs (j + 1)).length : Nat) : Int) = ((ccat zs (j + 1)).length : Nat) := by rw [IntKind.wrap_i64]; omega
      have h4 : ¬ (((ccat zs (j + 1)).length : Nat) : Int) < 0 := by omega
      clear e1 hle hl1
      obtain ⟨L1, hL1⟩ : ∃ L1, (ccat zs (j + 1)).length = L1 := ⟨_, rfl⟩
      rw [hL1] at h2 h3 h4
      have HL1 := hid hL1
      clear hL1
      generalize (ccat zs j).length = L0 at *
      generalize (zs j).length = Lz at *
      clear hu
      go_wp2
      go_round
      case rel => exact ⟨j + 1, by omega, by go_num, by rw [HL1.out]⟩
      case measure => simp [intOf]; omega
    · obtain rfl : j = m := by omega
      have hn0 : ¬ (((ccat zs j).length : Nat) : Int) < 0 := by omega
      have HLen : Hid ((ccat zs j).length ≤ 140737488355328) := hid hlim
      clear hlim
      go_wp2_with (first
        | (go_at_call 39; (with_reducible refine (HG.out).mono ?_); rintro e w1 ⟨v1, rfl, ho1, hl1⟩; have HI1 : Hid (CcatInv w w1 v1 zs 0) := hid ⟨ho1, hl1⟩; clear ho1 hl1))
      go_loopw [6, 27] (fun v i wr => ∃ p : Nat, p ≤ j ∧ i = .int .i64 p ∧ CcatInv w wr v zs p) (fun _ i _ => j - (intOf i).toNat)
      case atStart => exact ⟨0, by omega, rfl, HI1.out⟩
      case round =>
        obtain ⟨p, hp, rfl, hI⟩ := hrel
        have HI := hid hI
        clear hI
        by_cases hlt : p < j
        · have hc1 := ccell_self (HC.out p hlt) (HI.out.low)
          have HR1 := hid ((HR.out p hlt).self HI.out.low)
          have HJ := hid (Nat.le_trans (HM.out (p + 1) hlt) HLen.out)
          have h0 : (0 : Int) ≤ (p : Int) := by omega
          have h1 : (p : Int) < (j : Int) := by omega
          generalize us p = u at hc1 HR1
          go_wp2_with (first
            | (refine wpList_append_rd rfl (.tmp 31) (.tmp 32) 22 rfl .u8 w.heap.size 5 Try.underlying22 cinfob (by decide) _ _ rfl HI.out.own _ _ rfl HR1.out ?_ HI.out.low.size w.heap.size w HI.out.low (Nat.le_refl _) ?_; (have := HJ.out; simp [ccat] at this; show (_ + _) * 1 ≤ _; omega); intro v' w' hown' hlow' hsz'; have HN : Hid (CcatInv w w' v' zs (p + 1)) := hid ⟨hown', hlow'⟩; clear hown' hlow' hsz'))
          go_roundw
          case rel => exact ⟨p + 1, by omega, by go_num, HN.out⟩
          case measure => simp [intOf]; omega
        · obtain rfl : p = j := by omega
          go_wp2
          go_ret
          exact ⟨_, rfl, HI.out.own, HI.out.low⟩

theorem behind_any (c o m cap : Nat) (us : Nat → Value) (zs : Nat → List Int) (w : World) (hm : m ≤ 1073741824) (hc : ∀ i, i < m → w.cell? ⟨c, o + i, none⟩ = some (us i)) (hr : ∀ i, i < m → Rd .u8 w (us i) (zs i)) (hlim : (ccat zs m).length ≤ 140737488355328) :
    Calls Try.prog 27 #[.slice (some ⟨c, o, none⟩) m cap] w fun e w' => CatP w (ccat zs m) e w' := by
  have H := hid (cconcat_any c o m cap us zs w hm hc hr hlim)
  clear hc hr hlim
  go_enter Try.func27, Try.ntmps27
  go_wp2_with (first | (go_at_call 30; (with_reducible refine (H.out).mono ?_); rintro e w1 ⟨v, rfl, ho, hl⟩; have HO := hid ho; have HL := hid hl; clear ho hl))
  go_ret
  exact ⟨_, rfl, HO.out, HL.out⟩
end Go.Proofs.Ythcjgjhoifnpjaa

/- Code: a number's bytes, by the program. -/
namespace Go.Proofs.Ythcjgjhoifnpjaa
open Go.RowKit

/-- A number without its last k bytes; its last k bytes. -/
def cdn (n : Nat) : Nat → Nat
  | 0 => n
  | k + 1 => cdn n k / 256
def lowb (n : Nat) : Nat → List Int
  | 0 => []
  | k + 1 => ((cdn n k % 256 : Nat) : Int) :: lowb n k
theorem dn_up (n : Nat) : ∀ k, cdn n (k + 1) = cdn (n / 256) k
  | 0 => rfl
  | k + 1 => by show cdn n (k + 1) / 256 = cdn (n / 256) k / 256; rw [dn_up n k]
theorem lowb_up (n : Nat) : ∀ k, lowb n (k + 1) = lowb (n / 256) k ++ [((n % 256 : Nat) : Int)]
  | 0 => rfl
  | k + 1 => by
    show ((cdn n (k + 1) % 256 : Nat) : Int) :: lowb n (k + 1) = (((cdn (n / 256) k % 256 : Nat) : Int) :: lowb (n / 256) k) ++ _
    rw [lowb_up n k, dn_up]
    rfl
theorem lowb_len (n : Nat) : ∀ k, (lowb n k).length = k
  | 0 => rfl
  | k + 1 => by simp [lowb, lowb_len n k]
theorem lowb_dg : ∀ n : Nat, lowb n (dg n).length = dg n := dg_ind
  (fun n h => by rw [dg_one h]; show [((n % 256 : Nat) : Int)] = _; rw [Nat.mod_eq_of_lt h])
  (fun n h ih => by rw [dg_more h, List.length_append]; show lowb n ((dg (n / 256)).length + 1) = _; rw [lowb_up, ih])
theorem dn_le (n : Nat) : ∀ k, cdn n k ≤ n
  | 0 => Nat.le_refl _
  | k + 1 => Nat.le_trans (Nat.div_le_self _ _) (dn_le n k)
/-- How many bytes, by how many bits. -/
theorem bits_dg : ∀ n : Nat, n < 18446744073709551616 → max ((Lib.bitLen n + 7) / 8) 1 = (dg n).length ∧ (n < 256 ∨ 1 ≤ Lib.bitLen n) := dg_ind
  (fun n h _ => by
    have := Lib.bitLen_le n 8 (by decide) h
    rw [dg_one h]
    exact ⟨by show _ = 1; omega, .inl h⟩)
  (fun n h ih hn => by
    have h1 := Lib.bitLen_shift8 n (by omega) hn
    have h2 := ih (by omega)
    have h3 : 1 ≤ Lib.bitLen (n / 256) := by
      have := Lib.bitLen_half (n / 256) (by omega) (by show _ < 18446744073709551616; omega)
      omega
    rw [dg_more h, List.length_append, ← h2.1]
    refine ⟨?_, .inr (by omega)⟩
    show _ = _ + 1
    omega)
theorem dg_len63 {n : Nat} (h : n < 9223372036854775808) : (dg n).length ≤ 8 := dg_len 7 n (by show n < 18446744073709551616; omega)

theorem make_row (n : Nat) (h : n ≤ 140737488355328) (w : World) : (Instr.makeSlice 22 (.int .i64 n) (.int .i64 n)).run Try.prog w = .ok (.slice (some ⟨w.heap.size, 0, none⟩) n n) (w.alloc (.cells (madeCells #[.int .u8 0] n) 5)) :=
  run_make_ints (P := Try.prog) w .u8 .i64 22 5 n Try.underlying22 cinfob (by show n * 1 ≤ _; omega) (by decide)

/-- The last k bytes are written. -/
structure DigInv (w wr : World) (b L n k : Nat) : Prop where
  own : Own .u8 w.heap.size 5 wr (.slice (some ⟨b, 0, none⟩) L L) (List.replicate (L - k) 0 ++ lowb n k)
  low : Below w.heap.size w wr
theorem DigInv.part {w wr : World} {b L n k : Nat} (h : DigInv w wr b L n k) (hk : k < L) :
    (∃ u, wr.cell? ⟨b, L - k - 1, none⟩ = some (.int .u8 u)) ∧ (∀ o, wr.frozen? ⟨b, o, none⟩ = false) ∧ DigInv w (wr.setCell ⟨b, L - k - 1, none⟩ (.int .u8 ((cdn n k % 256 : Nat) : Int))) b L n (k + 1) := by
  have hl : (List.replicate (L - k) (0 : Int) ++ lowb n k).length = L := by simp [lowb_len]; omega
  obtain ⟨g, cap, hv, h1, h2, hc, hf, hs⟩ := h.own.part (by omega)
  rw [hl] at hc hs hv
  injection hv with hv1 _ _
  injection hv1 with hv1
  injection hv1 with hv1
  subst hv1
  refine ⟨⟨_, hc _ (by omega)⟩, hf, ?_, h.low.setCell h1 _⟩
  have := hs (L - k - 1) ((cdn n k % 256 : Nat) : Int) (by omega)
  rw [show (List.replicate (L - k) (0 : Int) ++ lowb n k).set (L - k - 1) ((cdn n k % 256 : Nat) : Int) = List.replicate (L - (k + 1)) 0 ++ lowb n (k + 1) from ?_] at this
  · exact this
  · obtain ⟨m, hm⟩ : ∃ m, L - k = m + 1 := ⟨L - k - 1, by omega⟩
    rw [hm, show L - (k + 1) = m by omega, Nat.add_sub_cancel, List.replicate_succ', List.append_assoc, List.set_append_right _ _ (by simp)]
    simp [lowb]

set_option maxRecDepth 100000 in
set_option maxHeartbeats 800000 in
theorem cdigits_any (n : Nat) (w : World) (hn : n < 9223372036854775808) :
    Calls Try.prog 35 #[.int .i64 (n : Int)] w fun e w' => CatP w (dg n) e w' := by
  obtain ⟨L, hL⟩ : ∃ L, (dg n).length = L := ⟨_, rfl⟩
  have hL8 := dg_len63 hn
  have hbits := (bits_dg n (by omega)).1
  rw [hL] at hbits hL8
  have hlim := lowb_dg n
  rw [hL] at hlim
  obtain ⟨b, hb⟩ : ∃ b, Lib.bitLen n = b := ⟨_, rfl⟩
  have hle := Lib.bitLen_le n 64 (by decide) (by show _ < 18446744073709551616; omega)
  have HLen := hid (len_any (n : Int) · (by omega) (by omega))
  rw [hb] at hbits hle
  have HLen : Hid (∀ w, Calls Try.prog 44 #[.int .u64 (n : Int)] w fun e w' => e = .returned (.int .i64 (b : Int)) ∧ w' = w) := hid fun w => by
    have := HLen.out w
    rw [Int.toNat_natCast, hb] at this
    exact this
  have HLow := hid hlim
  have hmk := make_row L (by omega)
  have HS : Hid (DigInv w (w.alloc (.cells (madeCells #[.int .u8 0] L) 5)) w.heap.size L n 0) := hid ⟨by simpa [lowb] using own_made w L (Nat.le_refl _) (by unfold maxLen; omega), (Below.refl _ _).alloc (Nat.le_refl _) _⟩
  have e1 : IntKind.i64.wrap ((b : Int) + 8) = b + 8 := by rw [IntKind.wrap_i64]; omega
  have hL0 : 1 ≤ L := by omega
  have e2 : max (((b : Int) + 8 - 1) / 8) 1 = (L : Int) := by omega
  clear hle hbits
  clear hb hlim hL
  go_enter Try.func35, Try.ntmps35
  go_wp2_with (first | (go_at_call 44; (with_reducible refine (HLen.out _).mono ?_); rintro e w1 ⟨rfl, rfl⟩))
  go_loopw [0, 5] (fun s i wr => ∃ (k : Nat) (z : Int), k ≤ L ∧ z = (L : Int) - k - 1 ∧ i = .int .i64 z ∧ s = .int .i64 (cdn n k : Nat) ∧ DigInv w1 wr w1.heap.size L n k) (fun _ i _ => (intOf i + 1).toNat)
  case atStart => exact ⟨0, _, by omega, by omega, rfl, rfl, HS.out⟩
  case round =>
    obtain ⟨k, z, hk, hz, rfl, rfl, hI⟩ := hrel
    have HI := hid hI
    clear hI hmk e1 e2
    by_cases hlt : k < L
    · obtain ⟨⟨u, hc⟩, hf, hI2⟩ := HI.out.part hlt
      have HI2 := hid hI2
      obtain ⟨j, hj⟩ : ∃ j, j = L - k - 1 := ⟨_, rfl⟩
      rw [← hj] at hc HI2
      obtain rfl : z = (j : Int) := by omega
      have hf1 := hf j
      have hd := dn_le n k
      have h0 : (0 : Int) ≤ (j : Int) := by omega
      have h1 : (j : Int) < (L : Int) := by omega
      have hs : (cdn n k : Int) / 256 = ((cdn n (k + 1) : Nat) : Int) := by show _ = ((cdn n k / 256 : Nat) : Int); omega
      have hmod : (cdn n k : Int) % 256 = ((cdn n k % 256 : Nat) : Int) := by omega
      have hd2 := dn_le n (k + 1)
      obtain ⟨d2, hd2e⟩ : ∃ d2, d2 = cdn n (k + 1) := ⟨_, rfl⟩
      rw [← hd2e] at hs hd2
      generalize cdn n k % 256 = dm at *
      generalize cdn n k = d1 at *
      have HJ := hid hj
      have HK := hid hlt
      have HD := hid hd2e
      clear hI2 hf hj hz hk hlt hd2e
      go_wp2
      go_roundw
      case rel => exact ⟨k + 1, _, HK.out, by have := HJ.out; have := HK.out; omega, rfl, by rw [HD.out], HI2.out⟩
      case measure => simp [intOf]
    · obtain rfl : k = L := by omega
      have hz0 : z < 0 := by omega
      clear hz
      have HO := hid HI.out.own
      have HL := hid HI.out.low
      rw [Nat.sub_self, HLow.out] at HO
      go_wp2
      go_ret
      exact ⟨_, rfl, HO.out, HL.out⟩
end Go.Proofs.Ythcjgjhoifnpjaa

/- Code: left and right of a number, by the program. -/
namespace Go.Proofs.Ythcjgjhoifnpjaa
open Go.RowKit

theorem behind1 (c cap : Nat) (u0 : Value) (z0 : List Int) (w : World) (h0 : w.cell? ⟨c, 0, none⟩ = some u0) (r0 : Rd .u8 w u0 z0) (hlim : z0.length ≤ 140737488355328) :
    Calls Try.prog 27 #[.slice (some ⟨c, 0, none⟩) 1 cap] w fun e w' => CatP w z0 e w' := by
  have h := behind_any c 0 1 cap (fun _ => u0) (fun _ => z0) w (by decide) (fun i hi => by
    obtain rfl : i = 0 := by omega
    exact h0) (fun _ _ => r0) (by simpa [ccat] using hlim)
  simpa [ccat] using h
theorem behind2 (c cap : Nat) (u0 u1 : Value) (z0 z1 : List Int) (w : World) (h0 : w.cell? ⟨c, 0, none⟩ = some u0) (h1 : w.cell? ⟨c, 1, none⟩ = some u1) (r0 : Rd .u8 w u0 z0) (r1 : Rd .u8 w u1 z1) (hlim : z0.length + z1.length ≤ 140737488355328) :
    Calls Try.prog 27 #[.slice (some ⟨c, 0, none⟩) 2 cap] w fun e w' => CatP w (z0 ++ z1) e w' := by
  have h := behind_any c 0 2 cap (fun i => if i = 0 then u0 else u1) (fun i => if i = 0 then z0 else z1) w (by decide) (fun i hi => by
    rcases (by omega : i = 0 ∨ i = 1) with rfl | rfl
    · exact h0
    · exact h1) (fun i hi => by
    rcases (by omega : i = 0 ∨ i = 1) with rfl | rfl
    · exact r0
    · exact r1) (by simpa [ccat] using hlim)
  simpa [ccat] using h
theorem behind3 (c cap : Nat) (u0 u1 u2 : Value) (z0 z1 z2 : List Int) (w : World) (h0 : w.cell? ⟨c, 0, none⟩ = some u0) (h1 : w.cell? ⟨c, 1, none⟩ = some u1) (h2 : w.cell? ⟨c, 2, none⟩ = some u2) (r0 : Rd .u8 w u0 z0) (r1 : Rd .u8 w u1 z1) (r2 : Rd .u8 w u2 z2)
    (hlim : z0.length + z1.length + z2.length ≤ 140737488355328) :
    Calls Try.prog 27 #[.slice (some ⟨c, 0, none⟩) 3 cap] w fun e w' => CatP w (z0 ++ z1 ++ z2) e w' := by
  have h := behind_any c 0 3 cap (fun i => if i = 0 then u0 else if i = 1 then u1 else u2) (fun i => if i = 0 then z0 else if i = 1 then z1 else z2) w (by decide) (fun i hi => by
    rcases (by omega : i = 0 ∨ i = 1 ∨ i = 2) with rfl | rfl | rfl
    · exact h0
    · exact h1
    · exact h2) (fun i hi => by
    rcases (by omega : i = 0 ∨ i = 1 ∨ i = 2) with rfl | rfl | rfl
    · exact r0
    · exact r1
    · exact r2) (by simpa [ccat] using by omega)
  simpa [ccat] using h

theorem dg_wf (n : Nat) : ∀ z ∈ dg n, (Lit.int .u8 z).wf = true := fun z hz => WalkArith.wf_u8 (dg_bytes n z hz)
/-- A cell of a block just made. -/
theorem cell_made (w : World) (cs : Array Value) (E : TypeId) (j : Nat) : (w.alloc (.cells cs E)).cell? ⟨w.heap.size, j, none⟩ = cs[j]? := by
  have e := heap_alloc_new w (.cells cs E)
  simp only [World.cell?, e]
  cases cs[j]? <;> rfl
theorem rd_one (w : World) (z : Int) (h0 : 0 ≤ z) (h1 : z ≤ 255) : Rd .u8 (w.alloc (.cells #[.int .u8 z] 5)) (.slice (some ⟨w.heap.size, 0, none⟩) 1 1) [z] :=
  rd_new w 5 [z] _ 1 rfl rfl (by show 1 * 1 ≤ _; omega) (fun y hy => by rw [List.mem_singleton] at hy; subst hy; exact WalkArith.wf_u8 ⟨h0, h1⟩)


/-- What stands behind a row's making: one byte's block, and a block of two rows. -/
theorem two_rows {B : Nat} {w : World} {p : Option Addr} {L cap n : Nat} (h : Own .u8 B 5 w (.slice p L cap) (dg n)) (hL : (dg n).length = L) (hL8 : L ≤ 8) :
    Calls Try.prog 27 #[.slice (some ⟨w.heap.size + 1, 0, none⟩) 2 2] ((w.alloc (.cells #[.int .u8 L] 5)).alloc (.cells #[.slice (some ⟨w.heap.size, 0, none⟩) 1 1, .slice p L cap] 22)) (fun e w' => ∃ v, e = .returned v ∧ Own .u8 w.heap.size 5 w' v (lef n) ∧ Below w.heap.size w w') ∧
    Calls Try.prog 27 #[.slice (some ⟨w.heap.size + 1, 0, none⟩) 2 2] ((w.alloc (.cells #[.int .u8 L] 5)).alloc (.cells #[.slice p L cap, .slice (some ⟨w.heap.size, 0, none⟩) 1 1] 22)) (fun e w' => ∃ v, e = .returned v ∧ Own .u8 w.heap.size 5 w' v (rig n) ∧ Below w.heap.size w w') := by
  have r1 := (rd_one w L (by omega) (by omega))
  have b1 : Below w.heap.size w (w.alloc (.cells #[.int .u8 L] 5)) := (Below.refl _ _).alloc (Nat.le_refl _) _
  have r2 : Rd .u8 (w.alloc (.cells #[.int .u8 L] 5)) (.slice p L cap) (dg n) := (h.rd (by rw [hL]; show L * 1 ≤ _; omega) (dg_wf n)).self b1
  have hs : (w.alloc (.cells #[.int .u8 L] 5)).heap.size = w.heap.size + 1 := by simp
  have key : ∀ cs : Array Value, Below (w.heap.size + 1) (w.alloc (.cells #[.int .u8 L] 5)) ((w.alloc (.cells #[.int .u8 L] 5)).alloc (.cells cs 22)) := fun cs => (Below.refl _ _).alloc (by rw [hs]; exact Nat.le_refl _) _
  have c1 := fun cs j => cell_made (w.alloc (.cells #[.int .u8 L] 5)) cs 22 j
  rw [hs] at c1
  refine ⟨(behind2 _ _ _ _ [(L : Int)] (dg n) _ (c1 _ 0) (c1 _ 1) (r1.below (key _) (by rw [hs]; exact Nat.le_refl _)) (r2.below (key _) (by rw [hs]; exact Nat.le_refl _)) (by rw [hL]; simp; omega)).mono ?_,
    (behind2 _ _ _ _ (dg n) [(L : Int)] _ (c1 _ 0) (c1 _ 1) (r2.below (key _) (by rw [hs]; exact Nat.le_refl _)) (r1.below (key _) (by rw [hs]; exact Nat.le_refl _)) (by rw [hL]; simp; omega)).mono ?_⟩
  · rintro e w' ⟨v, rfl, ho, hl⟩
    refine ⟨v, rfl, ?_, (b1.trans ((key _).mono (by omega))).trans (hl.mono (by simp; omega))⟩
    have : lef n = [(L : Int)] ++ dg n := by unfold lef; rw [hL]; rfl
    rw [this]
    exact own_base ho (by simp; omega)
  · rintro e w' ⟨v, rfl, ho, hl⟩
    refine ⟨v, rfl, ?_, (b1.trans ((key _).mono (by omega))).trans (hl.mono (by simp; omega))⟩
    have : rig n = dg n ++ [(L : Int)] := by unfold rig; rw [hL]
    rw [this]
    exact own_base ho (by simp; omega)

/-- What a call tells that makes a row of L numbers. -/
def RowAt (w : World) (L : Nat) (zs : List Int) (e : Ending) (w' : World) : Prop := ∃ p cap, e = .returned (.slice p L cap) ∧ Own .u8 w.heap.size 5 w' (.slice p L cap) zs ∧ Below w.heap.size w w'
theorem CatP.at {w w' : World} {zs : List Int} {e : Ending} {L : Nat} (h : CatP w zs e w') (hL : zs.length = L) : RowAt w L zs e w' := by
  obtain ⟨v, rfl, ho, hl⟩ := h
  obtain ⟨p, cap, rfl, _⟩ := ho.slice
  subst hL
  exact ⟨p, cap, rfl, ho, hl⟩

set_option maxRecDepth 100000 in
theorem cleft_any (n : Nat) (w : World) (hn : n < 9223372036854775808) :
    Calls Try.prog 26 #[.int .i64 (n : Int)] w fun e w' => CatP w (lef n) e w' := by
  obtain ⟨L, hL⟩ : ∃ L, (dg n).length = L := ⟨_, rfl⟩
  have HD := hid ((cdigits_any n w hn).mono fun _ _ h => h.at hL)
  have hL8 := dg_len63 hn
  rw [hL] at hL8
  have HL := hid hL
  have HL8 := hid hL8
  have hm : (L : Int) % 256 = L := by omega
  have h0 : ¬ ((n : Int) < 0) := by omega
  clear hL
  go_enter Try.func26, Try.ntmps26
  go_wp2_with (first
    | (go_at_call 35; (with_reducible refine (HD.out).mono ?_); rintro e w1 ⟨p, cap, rfl, ho, hl⟩; have HT := hid (two_rows ho HL.out HL8.out).1; have HW := hid hl; clear ho hl)
    | (go_at_call 27; (with_reducible refine (HT.out).mono ?_); rintro e w2 ⟨v, rfl, ho, hl⟩; have HO := hid ho; have HW2 := hid hl; clear ho hl))
  go_ret
  exact ⟨_, rfl, own_base HO.out HW.out.size, HW.out.trans (HW2.out.mono HW.out.size)⟩
set_option maxRecDepth 100000 in
theorem left_neg (n : Int) (w : World) (hn : n < 0) : Calls Try.prog 26 #[.int .i64 n] w fun e w' => e = .returned (.slice none 0 0) ∧ w' = w := by
  go_enter Try.func26, Try.ntmps26
  go_wp2
  go_ret
  exact ⟨rfl, rfl⟩
set_option maxRecDepth 100000 in
theorem cright_any (n : Nat) (w : World) (hn : n < 9223372036854775808) :
    Calls Try.prog 31 #[.int .i64 (n : Int)] w fun e w' => CatP w (rig n) e w' := by
  obtain ⟨L, hL⟩ : ∃ L, (dg n).length = L := ⟨_, rfl⟩
  have HD := hid ((cdigits_any n w hn).mono fun _ _ h => h.at hL)
  have hL8 := dg_len63 hn
  rw [hL] at hL8
  have HL := hid hL
  have HL8 := hid hL8
  have hm : (L : Int) % 256 = L := by omega
  have h0 : ¬ ((n : Int) < 0) := by omega
  clear hL
  go_enter Try.func31, Try.ntmps31
  go_wp2_with (first
    | (go_at_call 35; (with_reducible refine (HD.out).mono ?_); rintro e w1 ⟨p, cap, rfl, ho, hl⟩; have HT := hid (two_rows ho HL.out HL8.out).2; have HW := hid hl; clear ho hl)
    | (go_at_call 27; (with_reducible refine (HT.out).mono ?_); rintro e w2 ⟨v, rfl, ho, hl⟩; have HO := hid ho; have HW2 := hid hl; clear ho hl))
  go_ret
  exact ⟨_, rfl, own_base HO.out HW.out.size, HW.out.trans (HW2.out.mono HW.out.size)⟩
set_option maxRecDepth 100000 in
theorem right_neg (n : Int) (w : World) (hn : n < 0) : Calls Try.prog 31 #[.int .i64 n] w fun e w' => e = .returned (.slice none 0 0) ∧ w' = w := by
  go_enter Try.func31, Try.ntmps31
  go_wp2
  go_ret
  exact ⟨rfl, rfl⟩
end Go.Proofs.Ythcjgjhoifnpjaa

/- Code: strings, put one behind the other, by the program. -/
namespace Go.Proofs.Ythcjgjhoifnpjaa
open Go.RowKit

/-- The parts of the first j strings, put. -/
def cjn (zs : Nat → List Int) : Nat → List (List Int)
  | 0 => []
  | j + 1 => cjn zs j ++ [lef (8 * (zs j).length), zs j]
theorem jn_len (zs : Nat → List Int) : ∀ j, (cjn zs j).length = 2 * j
  | 0 => rfl
  | j + 1 => by simp [cjn, jn_len zs j]; omega
theorem jn_flat (zs : Nat → List Int) : ∀ j, (cjn zs j).flatten = ccat (fun i => sto (zs i)) j
  | 0 => rfl
  | j + 1 => by simp [cjn, jn_flat zs j, ccat, sto]
theorem cat_ext {f g : Nat → List Int} : ∀ {m : Nat}, (∀ i, i < m → f i = g i) → ccat f m = ccat g m
  | 0, _ => rfl
  | m + 1, h => by rw [ccat, ccat, cat_ext (fun i hi => h i (by omega)), h m (by omega)]
theorem cat_flat (Z : List (List Int)) : ∀ m, m ≤ Z.length → ccat (fun i => Z.getD i []) m = (Z.take m).flatten
  | 0, _ => by simp [ccat]
  | m + 1, h => by
    rw [ccat, cat_flat Z m (by omega), List.take_succ_eq_append_getElem (show m < Z.length by omega), List.flatten_append]
    simp [List.getD, show m < Z.length by omega]

/-- A list that is empty, with room. -/
theorem make_list (n : Nat) (h : n ≤ 5864062014805) (w : World) : (Instr.makeSlice 46 (.int .i64 0) (.int .i64 n)).run Try.prog w = .ok (.slice (some ⟨w.heap.size, 0, none⟩) 0 n) (w.alloc (.cells (madeCells #[.slice none 0 0] n) 22)) := by
  obtain ⟨i0, hi, hz0, hz1, hz2⟩ := info_parts cinfor
  have := run_make (P := Try.prog) w 46 22 i0 _ Try.underlying46 hi hz0 .i64 .i64 0 n (by omega) (by omega) (by rw [hz2]; simp; omega) (by omega)
  rw [this]
  simp [hz1, Value.cells]
theorem rwl_room (k : IntKind) (w : World) (n : Nat) (h : n ≤ maxLen) : RwL k (w.alloc (.cells (madeCells #[.slice none 0 0] n) 22)) w.heap.size 22 (.slice (some ⟨w.heap.size, 0, none⟩) 0 n) [] [] :=
  ⟨⟨rfl, .inr ⟨w.heap.size, n, madeCells #[.slice none 0 0] n, rfl, Nat.le_refl _, heap_alloc_new w _, Nat.zero_le _, h, by simp [size_madeCells], by simp⟩⟩, rfl, fun i u z h => by cases h⟩

/-- The parts of j strings are laid. -/
def JInv (w wr : World) (zs : Nat → List Int) (j : Nat) (v : Value) : Prop :=
  ∃ g cap us', v = .slice (some ⟨g, 0, none⟩) (2 * j) cap ∧ us'.length = 2 * j ∧ RwL .u8 wr w.heap.size 22 v us' (cjn zs j) ∧ Below w.heap.size w wr
theorem JInv.start (w : World) (zs : Nat → List Int) (n : Nat) (h : n ≤ maxLen) : JInv w (w.alloc (.cells (madeCells #[.slice none 0 0] n) 22)) zs 0 (.slice (some ⟨w.heap.size, 0, none⟩) 0 n) :=
  ⟨_, n, [], rfl, rfl, rwl_room .u8 w n h, (Below.refl _ _).alloc (Nat.le_refl _) _⟩
/-- .. behind them all: what behind gives. -/
theorem JInv.done {w wr : World} {zs : Nat → List Int} {m : Nat} {v : Value} (h : JInv w wr zs m v) (hm : m ≤ 65536) (hlim : (ccat (fun i => sto (zs i)) m).length ≤ 140737488355328) :
    Calls Try.prog 27 #[v] wr fun e w' => CatP w (ccat (fun i => sto (zs i)) m) e w' := by
  obtain ⟨g, cap, us', rfl, hl, hr, hb⟩ := h
  obtain ⟨a, cap', e, _, hd⟩ := hr.rdl
  injection e with e1 e2 e3
  subst e1
  have hcat : ccat (fun i => (cjn zs m).getD i []) (2 * m) = ccat (fun i => sto (zs i)) m := by
    rw [cat_flat _ _ (by rw [jn_len]; exact Nat.le_refl _), List.take_of_length_le (by rw [jn_len]; exact Nat.le_refl _), jn_flat]
  rw [hl] at hd
  refine (behind_any g 0 (2 * m) cap _ (fun i => (cjn zs m).getD i []) wr (by omega) (fun i hi => ?_) hd.each (by rw [hcat]; exact hlim)).mono ?_
  · obtain ⟨g', off, e, _, hc⟩ := hd.out (by omega)
    injection e with e
    injection e with e e'
    subst e; subst e'
    exact hc i hi
  · rintro e w' ⟨v, rfl, ho, hl'⟩
    rw [hcat] at ho
    exact ⟨v, rfl, own_base ho hb.size, hb.trans (hl'.mono hb.size)⟩

theorem lef_wf {n : Nat} (h : n < 9223372036854775808) : ∀ z ∈ lef n, (Lit.int .u8 z).wf = true := by
  intro z hz
  have := dg_len63 h
  rcases List.mem_cons.1 hz with rfl | hz
  · exact WalkArith.wf_u8 (by omega)
  · exact dg_wf n z hz
theorem rig_wf {n : Nat} (h : n < 9223372036854775808) : ∀ z ∈ rig n, (Lit.int .u8 z).wf = true := by
  intro z hz
  have := dg_len63 h
  rcases List.mem_append.1 hz with hz | hz
  · exact dg_wf n z hz
  · rw [List.mem_singleton] at hz; subst hz; exact WalkArith.wf_u8 (by omega)
theorem lef_le {n : Nat} (h : n < 9223372036854775808) : (lef n).length ≤ 9 := by rw [lef_len]; have := dg_len63 h; omega
theorem rig_le {n : Nat} (h : n < 9223372036854775808) : (rig n).length ≤ 9 := by have := dg_len63 h; simp [rig]; omega
theorem len47 {w : World} {u : Value} {z : List Int} (h : Rd .u8 w u z) : z.length ≤ 140737488351232 := by
  obtain ⟨_, _, _, h2, _⟩ := h
  simpa [IntKind.bits] using h2

/-- In a round: what is put behind (xs, in block C) reads as Y. -/
structure PutInv (w W : World) (zs : Nat → List Int) (g j cp : Nat) (us' : List Value) (C : Nat) (xs : List Value) (Y : List (List Int)) : Prop where
  list : RwL .u8 W w.heap.size 22 (.slice (some ⟨g, 0, none⟩) (2 * j) cp) us' (cjn zs j)
  num : us'.length = 2 * j
  cells : ∀ (i : Nat) (x : Value), xs[i]? = some x → W.cell? ((⟨C, 0, none⟩ : Addr).add i) = some x
  each : ∀ (i : Nat) (x : Value) (y : List Int), xs[i]? = some x → Y[i]? = some y → Rd .u8 W x y ∧ ∀ c, (Value.slice (some ⟨g, 0, none⟩) (2 * j) cp).ownBlock = some c → Apart x c
  low : Below w.heap.size w W
  str : cjn zs (j + 1) = cjn zs j ++ Y
  lim : us'.length + 2 ≤ 5864062014805
section
variable {w wr w2 W w3 : World} {zs : Nat → List Int} {g j cp N c1 K C g' cap' : Nat} {us' xs : List Value} {Y : List (List Int)} {p1 : Option Addr} {u : Value} {z : List Int}
theorem PutInv.mk' (hr : RwL .u8 wr w.heap.size 22 (.slice (some ⟨g, 0, none⟩) (2 * j) cp) us' (cjn zs j)) (hn : us'.length = 2 * j) (hj : j ≤ 65536) (hl : Below w.heap.size w wr) (hu : Rd .u8 wr u z) (hap : ∀ c, (Value.slice (some ⟨g, 0, none⟩) (2 * j) cp).ownBlock = some c → Apart u c)
    (hz : zs j = z) (hK : 8 * z.length = K) (ho : Own .u8 wr.heap.size 5 w2 (.slice p1 N c1) (lef K)) (hl2 : Below wr.heap.size wr w2) :
    PutInv w (w2.alloc (.cells #[.slice p1 N c1, u] 22)) zs g j cp us' w2.heap.size [.slice p1 N c1, u] [lef K, z] := by
  have h47 := len47 hu
  have hK63 : K < 9223372036854775808 := by omega
  have b1 : Below w2.heap.size w2 (w2.alloc (.cells #[.slice p1 N c1, u] 22)) := (Below.refl _ _).alloc (Nat.le_refl _) _
  refine ⟨(hr.self hl2).self b1, hn, fun i x hx => ?_, fun i x y hx hy => ?_, (hl.trans (hl2.mono hl.size)).alloc (Nat.le_trans hl.size hl2.size) _, by rw [cjn, hz, hK], by omega⟩
  · have := cell_made w2 #[.slice p1 N c1, u] 22 i
    rw [Addr.add_mid, Nat.zero_add, this]
    simpa using hx
  · match i with
    | 0 =>
      simp only [List.getElem?_cons_zero, Option.some.injEq] at hx hy
      subst hx; subst hy
      refine ⟨(ho.rd (by have := lef_le hK63; show _ * 1 ≤ _; omega) (lef_wf hK63)).self b1, fun c hc => ?_⟩
      have := hr.lt c hc
      exact apart_own ho (by omega)
    | 1 =>
      simp only [List.getElem?_cons_succ, List.getElem?_cons_zero, Option.some.injEq] at hx hy
      subst hx; subst hy
      exact ⟨(hu.self hl2).self b1, hap⟩
    | i + 2 => simp at hx
theorem PutInv.next (h : PutInv w W zs g j cp us' C xs Y) (hl : RwL .u8 w3 w.heap.size 22 (.slice (some ⟨g', 0, none⟩) (2 * (j + 1)) cap') (us' ++ xs) (cjn zs j ++ Y)) (hx : xs.length = 2)
    (hg : W.grownBy w3 (Value.slice (some ⟨g, 0, none⟩) (2 * j) cp).ownBlock) : JInv w w3 zs (j + 1) (.slice (some ⟨g', 0, none⟩) (2 * (j + 1)) cap') :=
  ⟨g', cap', us' ++ xs, rfl, by rw [List.length_append, h.num, hx]; omega, by rw [h.str]; exact hl, h.low.grown hg h.low.size (fun c hc => (h.list.lt c hc).1)⟩
theorem PutInv.len (h : PutInv w W zs g j cp us' C xs Y) : us'.length + 2 = 2 * (j + 1) := by rw [h.num]; omega
end

set_option maxRecDepth 100000 in
set_option maxHeartbeats 1600000 in
theorem cjoin_any (a : Option Addr) (m cap : Nat) (us : Nat → Value) (zs : Nat → List Int) (w : World) (hr : RdL .u8 w a m us zs) (hm : m ≤ 65536) (hlim : (ccat (fun i => sto (zs i)) m).length ≤ 140737488355328) :
    Calls Try.prog 28 #[.slice a m cap] w fun e w' => CatP w (ccat (fun i => sto (zs i)) m) e w' := by
  have HR := hid hr
  have HM := hid hm
  have HLim := hid hlim
  obtain ⟨M, hM⟩ : ∃ M, M = 2 * m := ⟨_, rfl⟩
  have hmk := make_list M (by omega)
  have HS := hid (JInv.start w zs M (by unfold maxLen; omega))
  have e1 : (2 : Int) * (m : Int) = (M : Int) := by omega
  have e2 : IntKind.i64.wrap (M : Int) = M := by rw [IntKind.wrap_i64]; omega
  clear hr hM hlim
  go_enter Try.func28, Try.ntmps28
  go_wp2
  clear hmk e1 e2
  go_loopw [3, 12] (fun v i wr => ∃ j : Nat, j ≤ m ∧ i = .int .i64 j ∧ JInv w wr zs j v) (fun _ i _ => m - (intOf i).toNat)
  case atStart => exact ⟨0, by omega, rfl, HS.out⟩
  case round =>
    obtain ⟨j, hj, rfl, hI⟩ := hrel
    by_cases hlt : j < m
    · obtain ⟨g, cp, us', rfl, hul, hrw, hlow⟩ := hI
      have hR1 := HR.out.self hlow
      obtain ⟨g0, off0, rfl, hg0, hc0⟩ := hR1.out (by omega)
      have hc1 := hc0 j hlt
      have hr1 := hR1.each j hlt
      obtain ⟨ad, cz, hu, hl1, _, _⟩ := id hr1
      obtain ⟨z, hz⟩ : ∃ z, zs j = z := ⟨_, rfl⟩
      rw [hz] at hr1 hu hl1
      rw [hu] at hc1 hr1
      have hl2 : z.length ≤ 140737488351232 := by simpa [IntKind.bits] using hl1
      obtain ⟨L, hL⟩ : ∃ L, z.length = L := ⟨_, rfl⟩
      obtain ⟨K, hK⟩ : ∃ K, 8 * z.length = K := ⟨_, rfl⟩
      obtain ⟨N, hN⟩ : ∃ N, (lef K).length = N := ⟨_, rfl⟩
      have HLeft := hid ((cleft_any K wr (by omega)).mono fun _ _ h => h.at hN)
      clear hN
      have HRW := hid hrw
      have HUL := hid hul
      have HLow := hid hlow
      have HJ0 : Hid (j ≤ 65536) := hid (by omega)
      have HAp : Hid (∀ c, (Value.slice (some ⟨g, 0, none⟩) (2 * j) cp).ownBlock = some c → Apart (.slice ad L cz) c) := hid fun c hc => by
        have h := apart_new (HR.out.each j hlt) (hrw.lt c hc).1
        rwa [hu, hL] at h
      have HR1 := hid hr1
      have HZ := hid hz
      have HK := hid hK
      have h0 : (0 : Int) ≤ (j : Int) := by omega
      have h1 : (j : Int) < (m : Int) := by omega
      have h2 : (8 : Int) * (L : Int) = (K : Int) := by omega
      have h3 : IntKind.i64.wrap (K : Int) = K := by rw [IntKind.wrap_i64]; omega
      rw [hL] at hc1 HR1
      clear hrw hlow hul hr1 hu hl1 hl2 hK hL hz hR1 hc0 hg0
      go_wp2_with (first
        | (go_at_call 26; (with_reducible refine (HLeft.out).mono ?_); rintro e w2 ⟨p1, c1, rfl, ho1, hlow1⟩; have HP := hid (PutInv.mk' HRW.out HUL.out HJ0.out HLow.out HR1.out HAp.out HZ.out HK.out ho1 hlow1); clear ho1 hlow1)
        | (at_builtin; refine wpList_append_rwl rfl (.tmp 16) (.tmp 22) 46 rfl Try.underlying46 cinfor HP.out.list rfl ⟨w2.heap.size, 0, none⟩ 2 2 rfl [.slice p1 N c1, .slice ad L cz] [lef K, z] rfl rfl (by decide) HP.out.cells HP.out.each HP.out.lim HP.out.low.size (2 * (j + 1)) HP.out.len ?_; intro g' cap' w3 hl3 hg3; have HJ := hid (HP.out.next hl3 rfl hg3); clear hl3 hg3))
      go_roundw
      case rel => exact ⟨j + 1, by omega, by go_num, HJ.out⟩
      case measure => simp [intOf]; omega
    · obtain rfl : j = m := by omega
      have HI := hid hI
      have HB := hid (HI.out.done hm HLim.out)
      clear hI
      go_wp2_with (first
        | (go_at_call 27; (with_reducible refine (HB.out).mono ?_); rintro e w2 ⟨v1, rfl, ho1, hlow1⟩; have HO1 := hid ho1; have HLow1 := hid hlow1; clear ho1 hlow1))
      go_ret
      exact ⟨_, rfl, HO1.out, HLow1.out⟩

/-- A list of one row, just made. -/
theorem rdl_one {w : World} {u : Value} {z : List Int} (h : Rd .u8 w u z) : RdL .u8 (w.alloc (.cells #[u] 22)) (some ⟨w.heap.size, 0, none⟩) 1 (fun _ => u) (fun _ => z) :=
  ⟨fun _ => ⟨_, 0, rfl, by simp, fun i hi => by
    obtain rfl : i = 0 := by omega
    exact cell_made w #[u] 22 0⟩, fun _ _ => h.self ((Below.refl _ _).alloc (Nat.le_refl _) _)⟩
theorem str_tail {w : World} {u : Value} {z : List Int} (h : Rd .u8 w u z) :
    Calls Try.prog 28 #[.slice (some ⟨w.heap.size, 0, none⟩) 1 1] (w.alloc (.cells #[u] 22)) fun e w' => CatP w (sto z) e w' := by
  have h47 := len47 h
  have := lef_le (n := 8 * z.length) (by omega)
  refine (cjoin_any _ 1 1 _ _ _ (rdl_one h) (by decide) (by simp [ccat, sto]; omega)).mono ?_
  rintro e w' ⟨v, rfl, ho, hl⟩
  have hb : Below w.heap.size w (w.alloc (.cells #[u] 22)) := (Below.refl _ _).alloc (Nat.le_refl _) _
  exact ⟨v, rfl, own_base (by simpa [ccat] using ho) hb.size, hb.trans (hl.mono hb.size)⟩
set_option maxRecDepth 100000 in
theorem cstr_any (u : Value) (z : List Int) (w : World) (h : Rd .u8 w u z) :
    Calls Try.prog 15 #[u] w fun e w' => CatP w (sto z) e w' := by
  have HT := hid (str_tail h)
  obtain ⟨a, cap, rfl, _⟩ := h
  generalize z.length = L at *
  go_enter Try.func15, Try.ntmps15
  go_wp2_with (first
    | (go_at_call 28; (with_reducible refine (HT.out).mono ?_); rintro e w2 ⟨v1, rfl, ho1, hlow1⟩; have HO1 := hid ho1; have HLow1 := hid hlow1; clear ho1 hlow1))
  go_ret
  exact ⟨_, rfl, HO1.out, HLow1.out⟩
end Go.Proofs.Ythcjgjhoifnpjaa

/- Code: what a row begins with: mathematics. -/
namespace Go.Proofs.Ythcjgjhoifnpjaa
open Go.RowKit

/-- The row's first number's length is c. -/
structure CHd (zs : List Int) (c : Nat) : Prop where
  first : nth zs 0 = c
  pos : 1 ≤ c
  le : c ≤ 4
  lt : c < zs.length
  least : c = 1 ∨ nth zs 1 ≠ 0
theorem CHd.one {zs : List Int} {c d : Nat} (h : CHd zs c) (k : CHd zs d) : c = d := by have := h.first; have := k.first; omega
/-- The number so far. -/
def vj (zs : List Int) (j : Nat) : Int := vl ((zs.drop 1).take j)
theorem vj_zero (zs : List Int) : vj zs 0 = 0 := rfl
theorem vj_succ {zs : List Int} {j : Nat} (h : 1 + j < zs.length) : vj zs (j + 1) = vj zs j * 256 + nth zs (1 + j) := by
  unfold vj
  rw [List.take_succ_eq_append_getElem (show j < (zs.drop 1).length by simp; omega), vl_snoc, nth_of h]
  simp [Nat.add_comm 1 j]
theorem vj_bd {zs : List Int} (hb : ∀ z ∈ zs, 0 ≤ z ∧ z ≤ 255) : ∀ j, 1 + j ≤ zs.length → 0 ≤ vj zs j ∧ vj zs j < ((256 ^ j : Nat) : Int)
  | 0, _ => by simp [vj_zero]
  | j + 1, h => by
    have ih := vj_bd hb j (by omega)
    have hz := hb (nth zs (1 + j)) (by rw [nth_of (by omega)]; exact List.getElem_mem _)
    rw [vj_succ (by omega), Nat.pow_succ]
    omega
theorem dg_head : ∀ n : Nat, 1 < (dg n).length → (dg n).head? ≠ some 0 := dg_ind
  (fun n h hl => by rw [dg_one h] at hl; simp at hl)
  (fun n h ih hl => by
    have hne : dg (n / 256) ≠ [] := List.ne_nil_of_length_pos (dg_pos _)
    rw [dg_more h, List.head?_append]
    obtain ⟨y, ys, hy⟩ : ∃ y ys, dg (n / 256) = y :: ys := by
      cases e : dg (n / 256) with
      | nil => exact absurd e hne
      | cons y ys => exact ⟨y, ys, rfl⟩
    have key : ((dg (n / 256)).head?.or [((n % 256 : Nat) : Int)].head?) = (dg (n / 256)).head? := by rw [hy]; rfl
    rw [key]
    clear key hy
    by_cases h2 : n / 256 < 256
    · rw [dg_one h2]; simp; omega
    · refine ih ?_
      have := dg_long 1 (n / 256) (by omega)
      omega)
theorem head_nth {zs : List Int} (h : 0 < zs.length) : zs.head? = some (nth zs 0) := by
  cases zs with
  | nil => simp at h
  | cons z zs => rfl
theorem hd_of {zs : List Int} {n : Nat} (h : Beg zs n) : CHd zs (dg (8 * n)).length ∧ vj zs (dg (8 * n)).length = ((8 * n : Nat) : Int) ∧ 1 + (dg (8 * n)).length + n ≤ zs.length := by
  obtain ⟨h1, h2, h3⟩ := h
  have hs := (List.take_append_drop (lef (8 * n)).length zs).symm
  rw [h3] at hs
  rw [lef_len] at h1 h2
  have hp := dg_pos (8 * n)
  have hd := dg_head (8 * n)
  have hv := vl_dg (8 * n)
  obtain ⟨R, hR⟩ : ∃ R, zs.drop (lef (8 * n)).length = R := ⟨_, rfl⟩
  rw [hR] at hs
  clear hR h3
  unfold lef at hs
  generalize dg (8 * n) = D at *
  subst hs
  refine ⟨⟨rfl, hp, by omega, by omega, ?_⟩, ?_, by omega⟩
  · by_cases e : D.length = 1
    · exact .inl e
    · right
      have := hd (by omega)
      intro e2
      apply this
      rw [head_nth hp, ← e2]
      simp [nth, List.getD, List.getElem?_append_left hp, hp]
  · unfold vj
    rw [← hv]
    simp
theorem of_hd {zs : List Int} {n c : Nat} (hb : ∀ z ∈ zs, 0 ≤ z ∧ z ≤ 255) (h : CHd zs c) (hv : vj zs c = ((8 * n : Nat) : Int)) (hl : 1 + c + n ≤ zs.length) : Beg zs n ∧ (lef (8 * n)).length = 1 + c := by
  have hp := h.pos
  have hds : ((zs.drop 1).take c).length = c := by simp; have := h.lt; omega
  have hdg := dg_vl (c - 1) ((zs.drop 1).take c) (by omega) (fun z hz => hb z (List.mem_of_mem_drop (List.mem_of_mem_take hz))) (by
    rcases h.least with e | e
    · exact .inl (by omega)
    · right
      rw [head_nth (by omega)]
      intro e2
      apply e
      have := h.lt
      injection e2 with e2
      rw [nth_of (show 1 < zs.length by omega), ← e2, nth_of (by omega)]
      simp)
  have e1 : (vl ((zs.drop 1).take c)).toNat = 8 * n := by
    have : vl ((zs.drop 1).take c) = ((8 * n : Nat) : Int) := hv
    omega
  rw [e1] at hdg
  have hlef : lef (8 * n) = zs.take (1 + c) := by
    unfold lef
    rw [hdg, hds]
    have h0 : 0 < zs.length := by have := h.lt; omega
    cases zs with
    | nil => simp at h0
    | cons z zs =>
      have := h.first
      rw [show nth (z :: zs) 0 = z from rfl] at this
      rw [this, Nat.add_comm 1 c]
      rfl
  have hll : (lef (8 * n)).length = 1 + c := by rw [hlef, List.length_take]; have := h.lt; omega
  refine ⟨⟨by rw [hll]; have := h.le; omega, by rw [hll]; omega, ?_⟩, hll⟩
  rw [hll, hlef]
theorem or_byte {a d : Nat} (ha : a < 4294967296) (hd : d < 256) : bits .or .u64 ((a * 256 : Nat) : Int) (d : Int) = ((a * 256 + d : Nat) : Int) := by
  rw [bits_or_u64_nat _ _ (by omega) (by omega)]
  congr 1
  have := Nat.shiftLeft_add_eq_or_of_lt (i := 8) hd a
  rw [Nat.shiftLeft_eq] at this
  exact this.symm
end Go.Proofs.Ythcjgjhoifnpjaa

/- Code: ahead, by the program. -/
namespace Go.Proofs.Ythcjgjhoifnpjaa
open Go.RowKit

/-- A row with its capacity told. -/
structure RdC (w : World) (v : Value) (zs : List Int) : Prop where
  rd : Rd .u8 w v zs
  cap : ∀ a n c, v = .slice a n c → n ≤ c ∧ c ≤ maxLen
theorem RdC.self {w w' : World} {v : Value} {zs : List Int} (h : RdC w v zs) (hb : Below w.heap.size w w') : RdC w' v zs := ⟨h.rd.self hb, h.cap⟩
theorem rd_bytes {w : World} {v : Value} {zs : List Int} (h : Rd .u8 w v zs) : ∀ z ∈ zs, 0 ≤ z ∧ z ≤ 255 := fun z hz => bounds_u8 (wfs_of h z hz)
theorem RdC.open {w : World} {v : Value} {zs : List Int} (h : RdC w v zs) : ∃ a cap, v = .slice a zs.length cap ∧ zs.length ≤ cap ∧ cap ≤ maxLen ∧ zs.length ≤ 140737488351232 ∧
    (0 < zs.length → ∃ b off, a = some ⟨b, off, none⟩ ∧ b < w.heap.size ∧ ∀ j, j < zs.length → w.cell? ⟨b, off + j, none⟩ = some (.int .u8 (nth zs j))) := by
  obtain ⟨a, cap, rfl, _, _, hc⟩ := id h.rd
  have := h.cap _ _ _ rfl
  exact ⟨a, cap, rfl, this.1, this.2, len47 h.rd, hc⟩

/-- What ahead tells. -/
def CAhP (zs : List Int) (e : Ending) : Prop :=
  (∃ c x : Nat, CHd zs c ∧ vj zs c = (x : Int) ∧ x < 4294967296 ∧ e = .returned (.tuple #[.int .u64 (x : Int), .int .i64 ((1 + c : Nat) : Int), .bool true])) ∨
  ((∀ c, ¬ CHd zs c) ∧ e = .returned (.tuple #[.int .u64 0, .int .i64 0, .bool false]))

end Go.Proofs.Ythcjgjhoifnpjaa

/- Code: Take, by the program. -/
namespace Go.Proofs.Ythcjgjhoifnpjaa
open Go.RowKit

/-- A part of a row. -/
theorem rd_sub {w : World} {b off L : Nat} {p : Option Addr} {q m k c : Nat} {zs : List Int} (h : Rd .u8 w (.slice (some ⟨b, off, none⟩) L c) zs) (hq : q + m ≤ L) (hp : 0 < m → p = some ⟨b, off + q, none⟩) :
    Rd .u8 w (.slice p m k) ((zs.drop q).take m) := by
  obtain ⟨a, cap, e, h2, h3, h4⟩ := h
  injection e with e1 e2 e3
  subst e2
  have hl : ((zs.drop q).take m).length = m := by simp; omega
  refine ⟨p, k, by rw [hl], by rw [hl]; exact Nat.le_trans (Nat.mul_le_mul_right _ (by omega)) h2, fun z hz => h3 z (List.mem_of_mem_drop (List.mem_of_mem_take hz)), fun h0 => ?_⟩
  rw [hl] at h0 ⊢
  obtain ⟨b', off', e', hb, hc⟩ := h4 (by omega)
  rw [← e1] at e'
  injection e' with e'
  injection e' with e5 e6
  subst e5; subst e6
  refine ⟨b, off + q, hp h0, hb, fun j hj => ?_⟩
  have := hc (q + j) (by omega)
  rw [← Nat.add_assoc] at this
  rw [this, nth_of (show q + j < zs.length by omega), nth_of (by omega)]
  simp

/-- What Take tells. -/
def TakeP (w : World) (zs : List Int) (e : Ending) (w' : World) : Prop :=
  Below w.heap.size w w' ∧ ((∃ n v, Beg zs n ∧ e = .returned (.tuple #[v, .int .i64 (((lef (8 * n)).length + n : Nat) : Int), .bool true]) ∧ Own .u8 w.heap.size 5 w' v ((zs.drop (lef (8 * n)).length).take n)) ∨
    ((∀ n, ¬ Beg zs n) ∧ e = .returned (.tuple #[.slice none 0 0, .int .i64 0, .bool false])))

/-- What behind makes of the string. -/
theorem take_tail {w : World} {p : Option Addr} {m k : Nat} {z : List Int} (h : Rd .u8 w (.slice p m k) z) :
    Calls Try.prog 27 #[.slice (some ⟨w.heap.size, 0, none⟩) 1 1] (w.alloc (.cells #[.slice p m k] 22)) fun e w' => CatP w z e w' := by
  have hb : Below w.heap.size w (w.alloc (.cells #[.slice p m k] 22)) := (Below.refl _ _).alloc (Nat.le_refl _) _
  refine (behind1 w.heap.size 1 _ z _ (cell_made w #[.slice p m k] 22 0) (h.self hb) (by have := len47 h; omega)).mono ?_
  rintro e w' ⟨v, rfl, ho, hl⟩
  exact ⟨v, rfl, own_base ho hb.size, hb.trans (hl.mono hb.size)⟩

end Go.Proofs.Ythcjgjhoifnpjaa

/- Code: a number's bytes, left, right, a string, put, by the document. -/
namespace Go.Proofs.Ythcjgjhoifnpjaa
open Go.RowKit

theorem cown_one (w : World) (z : Int) : Own .u8 w.heap.size 5 (w.alloc (.cells #[.int .u8 z] 5)) (.slice (some ⟨w.heap.size, 0, none⟩) 1 1) [z] :=
  ⟨rfl, .inr ⟨w.heap.size, 1, #[.int .u8 z], rfl, Nat.le_refl _, heap_alloc_new w _, Nat.le_refl _, by unfold maxLen; omega, by simp, by simp⟩⟩

set_option maxRecDepth 100000 in
theorem refdigits_any : ∀ n : Nat, n < 9223372036854775808 → ∀ w, Calls Try.prog 34 #[.int .i64 (n : Int)] w fun e w' => CatP w (dg n) e w' := dg_ind
  (fun n h hn w => by
    rw [dg_one h]
    have h1 : (n : Int) < 256 := by omega
    have h2 : (n : Int) % 256 = n := by omega
    have HO := hid (cown_one w n)
    go_enter Try.func34, Try.ntmps34
    go_wp2
    go_ret
    exact ⟨_, rfl, HO.out, (Below.refl _ _).alloc (Nat.le_refl _) _⟩)
  (fun n h ih hn w => by
    have hl := dg_len63 (show n / 256 < 9223372036854775808 by omega)
    have HI := hid (ih (by omega) w)
    rw [dg_more h]
    have h1 : ¬ (n : Int) < 256 := by omega
    obtain ⟨q, hq⟩ : ∃ q, n / 256 = q := ⟨_, rfl⟩
    obtain ⟨r, hr⟩ : ∃ r, n % 256 = r := ⟨_, rfl⟩
    have h2 : (n : Int) / 256 = (q : Int) := by omega
    have h3 : (n : Int) % 256 = (r : Int) := by omega
    have h4 : (r : Int) % 256 = (r : Int) := by omega
    rw [hq] at HI hl ⊢
    rw [hr]
    have HL := hid hl
    clear ih hq hr hl
    go_enter Try.func34, Try.ntmps34
    go_wp2_with (first
      | (go_at_call 34; (with_reducible refine (HI.out).mono ?_); rintro e w1 ⟨v, rfl, ho, hl⟩; have HO := hid ho; have HW := hid hl; clear ho hl)
      | (at_builtin; refine wpList_append_ints rfl (.tmp 10) (.tmp 14) 22 rfl .u8 w.heap.size 5 Try.underlying22 cinfob (by decide) _ _ rfl (HO.out.alloc _) ⟨w1.heap.size, 0, none⟩ 1 1 [(r : Int)] rfl rfl (cell_new_int w1 .u8 r 5) (by have := HL.out; show (_ + 1) * 1 ≤ _; omega) (by have := HW.out.size; simp; omega) w.heap.size w (HW.out.alloc (HW.out.size) _) (Nat.le_refl _) ?_; intro v' w' hown' hlow' _; have HO2 := hid hown'; have HW2 := hid hlow'; clear hown' hlow'))
    go_ret
    exact ⟨_, rfl, HO2.out, HW2.out⟩)

set_option maxRecDepth 100000 in
theorem refleft_any (n : Nat) (w : World) (hn : n < 9223372036854775808) :
    Calls Try.prog 32 #[.int .i64 (n : Int)] w fun e w' => CatP w (lef n) e w' := by
  obtain ⟨L, hL⟩ : ∃ L, (dg n).length = L := ⟨_, rfl⟩
  have HD := hid ((refdigits_any n hn w).mono fun _ _ h => h.at hL)
  have hL8 := dg_len63 hn
  rw [hL] at hL8
  have HL := hid hL
  have HL8 := hid hL8
  have HE : Hid (lef n = [(L : Int)] ++ dg n) := hid (by unfold lef; rw [hL]; rfl)
  have HWf := hid (dg_wf n)
  have hm : (L : Int) % 256 = L := by omega
  have h0 : ¬ ((n : Int) < 0) := by omega
  rw [HE.out]
  clear hL
  go_enter Try.func32, Try.ntmps32
  go_wp2_with (first
    | (go_at_call 34; (with_reducible refine (HD.out).mono ?_); rintro e w1 ⟨p, cap, rfl, ho, hl⟩; have HO := hid ho; have HW := hid hl; clear ho hl)
    | (at_builtin; refine wpList_append_rd rfl (.tmp 11) (.tmp 12) 22 rfl .u8 w1.heap.size 5 Try.underlying22 cinfob (by decide) _ _ rfl (cown_one w1 L) _ _ rfl ((HO.out.rd (by have := HL.out; have := HL8.out; show _ * 1 ≤ _; omega) HWf.out).self ((Below.refl _ _).alloc (Nat.le_refl _) _)) (by have := HL.out; have := HL8.out; show (1 + _) * 1 ≤ _; omega) (by simp) w.heap.size w (HW.out.alloc HW.out.size _) HW.out.size ?_; intro v' w' hown' hlow' _; have HO2 := hid hown'; have HW2 := hid hlow'; clear hown' hlow'))
  go_ret
  exact ⟨_, rfl, own_base HO2.out HW.out.size, HW2.out⟩
set_option maxRecDepth 100000 in
theorem refleft_neg (n : Int) (w : World) (hn : n < 0) : Calls Try.prog 32 #[.int .i64 n] w fun e w' => e = .returned (.slice none 0 0) ∧ w' = w := by
  go_enter Try.func32, Try.ntmps32
  go_wp2
  go_ret
  exact ⟨rfl, rfl⟩
set_option maxRecDepth 100000 in
theorem refright_any (n : Nat) (w : World) (hn : n < 9223372036854775808) :
    Calls Try.prog 24 #[.int .i64 (n : Int)] w fun e w' => CatP w (rig n) e w' := by
  obtain ⟨L, hL⟩ : ∃ L, (dg n).length = L := ⟨_, rfl⟩
  have HD := hid ((refdigits_any n hn w).mono fun _ _ h => h.at hL)
  have hL8 := dg_len63 hn
  rw [hL] at hL8
  have HL := hid hL
  have HL8 := hid hL8
  have HE : Hid (rig n = dg n ++ [(L : Int)]) := hid (by unfold rig; rw [hL])
  have hm : (L : Int) % 256 = L := by omega
  have h0 : ¬ ((n : Int) < 0) := by omega
  rw [HE.out]
  clear hL
  go_enter Try.func24, Try.ntmps24
  go_wp2_with (first
    | (go_at_call 34; (with_reducible refine (HD.out).mono ?_); rintro e w1 ⟨p, cap, rfl, ho, hl⟩; have HO := hid ho; have HW := hid hl; clear ho hl)
    | (at_builtin; refine wpList_append_ints rfl (.tmp 8) (.tmp 12) 22 rfl .u8 w.heap.size 5 Try.underlying22 cinfob (by decide) _ _ rfl (HO.out.alloc _) ⟨w1.heap.size, 0, none⟩ 1 1 [(L : Int)] rfl rfl (cell_new_int w1 .u8 L 5) (by have := HL.out; have := HL8.out; show (_ + 1) * 1 ≤ _; omega) (by have := HW.out.size; simp; omega) w.heap.size w (HW.out.alloc (HW.out.size) _) (Nat.le_refl _) ?_; intro v' w' hown' hlow' _; have HO2 := hid hown'; have HW2 := hid hlow'; clear hown' hlow'))
  go_ret
  exact ⟨_, rfl, HO2.out, HW2.out⟩
set_option maxRecDepth 100000 in
theorem refright_neg (n : Int) (w : World) (hn : n < 0) : Calls Try.prog 24 #[.int .i64 n] w fun e w' => e = .returned (.slice none 0 0) ∧ w' = w := by
  go_enter Try.func24, Try.ntmps24
  go_wp2
  go_ret
  exact ⟨rfl, rfl⟩
set_option maxRecDepth 100000 in
theorem refstr_any (u : Value) (z : List Int) (w : World) (h : Rd .u8 w u z) :
    Calls Try.prog 21 #[u] w fun e w' => CatP w (sto z) e w' := by
  have h47 := len47 h
  obtain ⟨K, hK⟩ : ∃ K, 8 * z.length = K := ⟨_, rfl⟩
  have hK63 : K < 9223372036854775808 := by omega
  have HL := hid (refleft_any K w hK63)
  have HLe := hid (lef_le hK63)
  have HE : Hid (sto z = lef K ++ z) := hid (by unfold sto; rw [hK])
  have HR := hid h
  have H47 := hid h47
  rw [HE.out]
  obtain ⟨a, cap, rfl, _⟩ := h
  obtain ⟨L, hL⟩ : ∃ L, z.length = L := ⟨_, rfl⟩
  rw [hL] at HR h47 hK ⊢
  have h1 : (8 : Int) * (L : Int) = (K : Int) := by omega
  have h2 : IntKind.i64.wrap (K : Int) = K := by rw [IntKind.wrap_i64]; omega
  clear hL hK
  go_enter Try.func21, Try.ntmps21
  go_wp2_with (first
    | (go_at_call 32; (with_reducible refine (HL.out).mono ?_); rintro e w1 ⟨v, rfl, ho, hl⟩; have HO := hid ho; have HW := hid hl; clear ho hl)
    | (at_builtin; refine wpList_append_rd rfl (.tmp 6) (.tmp 7) 22 rfl .u8 w.heap.size 5 Try.underlying22 cinfob (by decide) _ _ rfl HO.out _ _ rfl (HR.out.self HW.out) (by have := HLe.out; have := H47.out; show (_ + _) * 1 ≤ _; omega) HW.out.size w.heap.size w HW.out (Nat.le_refl _) ?_; intro v' w' hown' hlow' _; have HO2 := hid hown'; have HW2 := hid hlow'; clear hown' hlow'))
  go_ret
  exact ⟨_, rfl, HO2.out, HW2.out⟩
end Go.Proofs.Ythcjgjhoifnpjaa

/- Code: Pad, by the program and by the document. -/
namespace Go.Proofs.Ythcjgjhoifnpjaa
open Go.RowKit

/-- What is missing up to a multiple of w. -/
def cmis (n w : Nat) : Nat := (w - n % w) % w
theorem mis_lt {n w : Nat} (h : 0 < w) : cmis n w < w := Nat.mod_lt _ h
theorem mis_at {n w k : Nat} (h : 0 < w) (hk : k ≤ cmis n w) : (n + k) % w = 0 ↔ k = cmis n w := by
  unfold cmis at *
  have h1 := Nat.mod_lt n h
  have h2 : (n + k) % w = (n % w + k) % w := by rw [Nat.add_mod, Nat.add_mod (n % w) k, Nat.mod_mod]
  rw [h2]
  generalize n % w = r at *
  by_cases hr : r = 0
  · subst hr
    rw [Nat.sub_zero, Nat.mod_self] at hk ⊢
    obtain rfl : k = 0 := by omega
    simp
  · rw [Nat.mod_eq_of_lt (show w - r < w by omega)] at hk ⊢
    constructor
    · intro h3
      by_cases h4 : k = w - r
      · exact h4
      · rw [Nat.mod_eq_of_lt (show r + k < w by omega)] at h3; omega
    · rintro rfl
      rw [show r + (w - r) = w by omega, Nat.mod_self]
/-- Bytes, padded. -/
def cpd (zs : List Int) (n : Nat) : List Int := lef n ++ zs ++ List.replicate (cmis ((lef n).length + zs.length) n) 0
/-- What Pad tells. -/
def PadP (w : World) (zs : List Int) (n : Int) (e : Ending) (w' : World) : Prop :=
  Below w.heap.size w w' ∧ ((∃ (m : Nat) (v : Value), n = m ∧ 1 ≤ m ∧ m ≤ 1000 ∧ e = .returned (.tuple #[v, .int .i64 0]) ∧ Own .u8 w.heap.size 5 w' v (cpd zs m)) ∨
    ((n < 1 ∨ 1000 < n) ∧ e = .returned (.tuple #[.slice none 0 0, .int .i64 1])))

set_option maxRecDepth 100000 in
theorem cpad_bad (v : Value) (zs : List Int) (n : Int) (w : World) (_ : Rd .u8 w v zs) (hn : n < 1 ∨ 1000 < n) :
    Calls Try.prog 14 #[v, .int .i64 n] w fun e w' => PadP w zs n e w' := by
  have HN := hid hn
  rcases hn with h | h
  · go_enter Try.func14, Try.ntmps14
    go_wp2
    go_ret2
    exact ⟨Below.refl _ _, .inr ⟨HN.out, rfl⟩⟩
  · have h2 : ¬ n < 1 := by omega
    go_enter Try.func14, Try.ntmps14
    go_wp2
    go_ret2
    exact ⟨Below.refl _ _, .inr ⟨HN.out, rfl⟩⟩
set_option maxRecDepth 100000 in
theorem refpad_bad (v : Value) (zs : List Int) (n : Int) (w : World) (_ : Rd .u8 w v zs) (hn : n < 1 ∨ 1000 < n) :
    Calls Try.prog 20 #[v, .int .i64 n] w fun e w' => PadP w zs n e w' := by
  have HN := hid hn
  rcases hn with h | h
  · go_enter Try.func20, Try.ntmps20
    go_wp2
    go_ret2
    exact ⟨Below.refl _ _, .inr ⟨HN.out, rfl⟩⟩
  · have h2 : ¬ n < 1 := by omega
    go_enter Try.func20, Try.ntmps20
    go_wp2
    go_ret2
    exact ⟨Below.refl _ _, .inr ⟨HN.out, rfl⟩⟩

/-- What behind makes of the three rows. -/
theorem pad_tail {B : Nat} {w : World} {p : Option Addr} {W cap M : Nat} {v : Value} {xs zs : List Int} (h : Own .u8 B 5 w (.slice p W cap) xs) (hx : ∀ z ∈ xs, (Lit.int .u8 z).wf = true) (hxl : xs.length ≤ 9) (hv : Rd .u8 w v zs) (hM : M ≤ 1000) :
    Calls Try.prog 27 #[.slice (some ⟨w.heap.size + 1, 0, none⟩) 3 3] ((w.alloc (.cells (madeCells #[.int .u8 0] M) 5)).alloc (.cells #[.slice p W cap, v, .slice (some ⟨w.heap.size, 0, none⟩) M M] 22)) fun e w' => CatP w (xs ++ zs ++ List.replicate M 0) e w' := by
  have h47 := len47 hv
  have b1 : Below w.heap.size w (w.alloc (.cells (madeCells #[.int .u8 0] M) 5)) := (Below.refl _ _).alloc (Nat.le_refl _) _
  have hs : (w.alloc (.cells (madeCells #[.int .u8 0] M) 5)).heap.size = w.heap.size + 1 := by simp
  have r3 : Rd .u8 (w.alloc (.cells (madeCells #[.int .u8 0] M) 5)) (.slice (some ⟨w.heap.size, 0, none⟩) M M) (List.replicate M 0) :=
    (own_made (E := 5) w M (Nat.le_refl _) (by unfold maxLen; omega)).rd (by simp; show M * 1 ≤ _; omega) (fun z hz => by rw [(List.mem_replicate.1 hz).2]; decide)
  have b2 : ∀ cs : Array Value, Below (w.heap.size + 1) (w.alloc (.cells (madeCells #[.int .u8 0] M) 5)) ((w.alloc (.cells (madeCells #[.int .u8 0] M) 5)).alloc (.cells cs 22)) := fun cs => (Below.refl _ _).alloc (by rw [hs]; exact Nat.le_refl _) _
  have c1 := fun cs j => cell_made (w.alloc (.cells (madeCells #[.int .u8 0] M) 5)) cs 22 j
  rw [hs] at c1
  have r1 : Rd .u8 w (.slice p W cap) xs := h.rd (by show _ * 1 ≤ _; omega) hx
  refine (behind3 _ _ _ _ _ xs zs (List.replicate M 0) _ (c1 _ 0) (c1 _ 1) (c1 _ 2) ((r1.self b1).below (b2 _) (by rw [hs]; exact Nat.le_refl _)) ((hv.self b1).below (b2 _) (by rw [hs]; exact Nat.le_refl _)) (r3.below (b2 _) (by rw [hs]; exact Nat.le_refl _)) (by simp; omega)).mono ?_
  rintro e w' ⟨v, rfl, ho, hl⟩
  exact ⟨v, rfl, own_base ho (by simp; omega), (b1.trans ((b2 _).mono (by omega))).trans (hl.mono (by simp; omega))⟩

set_option maxRecDepth 100000 in
set_option maxHeartbeats 800000 in
theorem cpad_good (v : Value) (zs : List Int) (n : Nat) (w : World) (h : Rd .u8 w v zs) (h1 : 1 ≤ n) (h2 : n ≤ 1000) :
    Calls Try.prog 14 #[v, .int .i64 (n : Int)] w fun e w' => PadP w zs n e w' := by
  have h47 := len47 h
  obtain ⟨W, hW⟩ : ∃ W, (lef n).length = W := ⟨_, rfl⟩
  have HL := hid ((cleft_any n w (by omega)).mono fun _ _ h => h.at hW)
  have hle := lef_le (show n < 9223372036854775808 by omega)
  have HWf := hid (lef_wf (show n < 9223372036854775808 by omega))
  obtain ⟨M, hM⟩ : ∃ M, cmis (W + zs.length) n = M := ⟨_, rfl⟩
  have hMl : M < n := by rw [← hM]; exact mis_lt h1
  have HP : Hid (cpd zs n = lef n ++ zs ++ List.replicate M 0) := hid (by unfold cpd; rw [hW, hM])
  have HLe := hid hle
  have HR := hid h
  have HN : Hid (1 ≤ n ∧ n ≤ 1000 ∧ M ≤ 1000) := hid ⟨h1, h2, by omega⟩
  rw [hW] at hle
  obtain ⟨a, cap, rfl, _⟩ := h
  obtain ⟨L, hL⟩ : ∃ L, zs.length = L := ⟨_, rfl⟩
  rw [hL] at HR h47 hM ⊢
  obtain ⟨S, hS⟩ : ∃ S, W + L = S := ⟨_, rfl⟩
  obtain ⟨r, hr⟩ : ∃ r, S % n = r := ⟨_, rfl⟩
  have hrl : r < n := by rw [← hr]; exact Nat.mod_lt _ h1
  obtain ⟨D, hD⟩ : ∃ D, n - r = D := ⟨_, rfl⟩
  have g1 : ¬ ((n : Int) < 1) := by omega
  have g2 : ¬ (1000 < (n : Int)) := by omega
  have g0 : ¬ ((n : Int) = 0) := by omega
  have e1 : (W : Int) + (L : Int) = (S : Int) := by omega
  have e2 : IntKind.i64.wrap (S : Int) = S := by rw [IntKind.wrap_i64]; omega
  have e3 : (S : Int).tmod (n : Int) = (r : Int) := by rw [← hr]; rfl
  have e4 : (n : Int) - (r : Int) = (D : Int) := by omega
  have e5 : IntKind.i64.wrap (D : Int) = D := by rw [IntKind.wrap_i64]; omega
  have e6 : (D : Int).tmod (n : Int) = (M : Int) := by
    have : D % n = M := by rw [← hD, ← hr, ← hS]; exact hM
    rw [← this]; rfl
  have e7 : (S : Int) % (n : Int) = (r : Int) := by omega
  have e8 : (D : Int) % (n : Int) = (M : Int) := by
    have : D % n = M := by rw [← hD, ← hr, ← hS]; exact hM
    omega
  have hmk := make_row M (by omega)
  clear hM hS hr hD hL hW
  go_enter Try.func14, Try.ntmps14
  go_wp2_with (first
    | (go_at_call 26; (with_reducible refine (HL.out).mono ?_); rintro e w1 ⟨p, c1, rfl, ho, hl⟩; have HT := hid (pad_tail ho HWf.out HLe.out (HR.out.self hl) HN.out.2.2); have HW := hid hl; clear ho hl)
    | (go_at_call 27; (with_reducible refine (HT.out).mono ?_); rintro e w2 ⟨v1, rfl, ho1, hlow1⟩; have HO1 := hid ho1; have HLow1 := hid hlow1; clear ho1 hlow1))
  go_ret2
  refine ⟨HW.out.trans (HLow1.out.mono HW.out.size), .inl ⟨n, _, rfl, HN.out.1, HN.out.2.1, rfl, ?_⟩⟩
  rw [HP.out]
  exact own_base HO1.out HW.out.size
end Go.Proofs.Ythcjgjhoifnpjaa

/- Code: Pad by the document. -/
namespace Go.Proofs.Ythcjgjhoifnpjaa
open Go.RowKit

/-- The length of a slice. -/
def lenV : Value → Nat
  | .slice _ n _ => n
  | _ => 0
/-- k zeros are put behind. -/
structure RpI (w wr : World) (xs : List Int) (v : Value) (k : Nat) : Prop where
  own : Own .u8 w.heap.size 5 wr v (xs ++ List.replicate k 0)
  low : Below w.heap.size w wr
theorem RpI.step {w w' : World} {xs : List Int} {v' : Value} {k : Nat} (ho : Own .u8 w.heap.size 5 w' v' (xs ++ List.replicate k 0 ++ [(0 : Int)])) (hl : Below w.heap.size w w') : RpI w w' xs v' (k + 1) :=
  ⟨by rw [List.replicate_succ', ← List.append_assoc]; exact ho, hl⟩

set_option maxRecDepth 100000 in
set_option maxHeartbeats 800000 in
theorem refpad_good (v : Value) (zs : List Int) (n : Nat) (w : World) (h : Rd .u8 w v zs) (h1 : 1 ≤ n) (h2 : n ≤ 1000) :
    Calls Try.prog 20 #[v, .int .i64 (n : Int)] w fun e w' => PadP w zs n e w' := by
  have h47 := len47 h
  obtain ⟨W, hW⟩ : ∃ W, (lef n).length = W := ⟨_, rfl⟩
  have HL := hid (refleft_any n w (by omega))
  have hle := lef_le (show n < 9223372036854775808 by omega)
  obtain ⟨M, hM⟩ : ∃ M, cmis (W + zs.length) n = M := ⟨_, rfl⟩
  have hMl : M < n := by rw [← hM]; exact mis_lt h1
  have HP : Hid (cpd zs n = lef n ++ zs ++ List.replicate M 0) := hid (by unfold cpd; rw [hW, hM])
  have HMis : Hid (∀ k, k ≤ M → ((W + zs.length + k) % n = 0 ↔ k = M)) := hid fun k hk => by
    have := mis_at (n := W + zs.length) (w := n) (k := k) h1 (by rw [hM]; exact hk)
    rw [hM] at this
    exact this
  have HLe := hid hle
  have HR := hid h
  have HN : Hid (1 ≤ n ∧ n ≤ 1000 ∧ M ≤ 1000) := hid ⟨h1, h2, by omega⟩
  rw [hW] at hle
  have HXL : Hid ((lef n ++ zs).length = W + zs.length) := hid (by rw [List.length_append, hW])
  obtain ⟨a, cap, rfl, _⟩ := h
  obtain ⟨L, hL⟩ : ∃ L, zs.length = L := ⟨_, rfl⟩
  rw [hL] at HR h47 hM HXL HMis ⊢
  have H47 : Hid ((lef n).length + zs.length ≤ 140737488351232 + 9) := hid (by omega)
  obtain ⟨S, hS⟩ : ∃ S, W + L = S := ⟨_, rfl⟩
  rw [hS] at HXL HMis
  have g1 : ¬ ((n : Int) < 1) := by omega
  have g2 : ¬ (1000 < (n : Int)) := by omega
  have g0 : ¬ ((n : Int) = 0) := by omega
  have HS : Hid (S ≤ 140737488351241) := hid (by omega)
  clear hM hS hL hW
  go_enter Try.func20, Try.ntmps20
  go_wp2_with (first
    | (go_at_call 32; (with_reducible refine (HL.out).mono ?_); rintro e w1 ⟨v1, rfl, ho, hl⟩; have HO := hid ho; have HW := hid hl; clear ho hl)
    | (at_builtin; refine wpList_append_rd rfl (.tmp 14) (.tmp 15) 22 rfl .u8 w.heap.size 5 Try.underlying22 cinfob (by decide) _ _ rfl HO.out _ _ rfl (HR.out.self HW.out) (by have := H47.out; show (_ + _) * 1 ≤ _; omega) HW.out.size w.heap.size w HW.out (Nat.le_refl _) ?_; intro v' w' hown' hlow' _; have HI : Hid (RpI w w' (lef n ++ zs) v' 0) := hid ⟨by simpa using hown', hlow'⟩; clear hown' hlow'))
  obtain ⟨X, hX⟩ : ∃ X, X = lef n ++ zs := ⟨_, rfl⟩
  rw [← hX] at HI HP HXL
  clear hX HLe H47
  go_loopw [6] (fun v wr => ∃ k : Nat, k ≤ M ∧ RpI w wr X v k) (fun v _ => S + M - lenV v)
  case atStart => exact ⟨0, by omega, HI.out⟩
  case round =>
    obtain ⟨k, hk, hI⟩ := hrel
    have HI := hid hI
    obtain ⟨p, cp, rfl, _⟩ := hI.own.slice
    have HKM := hid (HMis.out k hk)
    have HLen : Hid ((X ++ List.replicate k 0).length = S + k) := hid (by rw [List.length_append, HXL.out, List.length_replicate])
    obtain ⟨T, hT⟩ : ∃ T, (X ++ List.replicate k (0 : Int)).length = T := ⟨_, rfl⟩
    have hTS : T = S + k := by rw [← hT]; exact HLen.out
    rw [hT] at HI ⊢
    have HTL := hid hT
    clear hI hT
    by_cases hlt : k < M
    · have hne : ¬ (T % n = 0) := by rw [hTS, HKM.out]; omega
      obtain ⟨r, hr⟩ : ∃ r, T % n = r := ⟨_, rfl⟩
      rw [hr] at hne
      have e1 : (T : Int).tmod (n : Int) = (r : Int) := by rw [← hr]; rfl
      have e2 : (T : Int) % (n : Int) = (r : Int) := by rw [← hr]; rfl
      have e3 : ¬ ((r : Int) = 0) := by omega
      have e4 : ((r : Int) != 0) = true := by simpa using e3
      have HT := hid hTS
      have HLim : Hid (((X ++ List.replicate k (0 : Int)).length + 1) * (IntKind.u8.bits / 8) ≤ 140737488355328) := hid (by have := HTL.out; have := HT.out; have := HS.out; have := HN.out; show (_ + 1) * 1 ≤ _; omega)
      have HSz : Hid (w.heap.size ≤ (wr.alloc (.cells #[.int .u8 0] 5)).heap.size) := hid (by have := HI.out.low.size; simp; omega)
      clear hTS hr
      go_wp2_with (first
        | (at_builtin; refine wpList_append_ints rfl (.tmp 22) (.tmp 23) 22 rfl .u8 w.heap.size 5 Try.underlying22 cinfob (by decide) _ _ rfl (HI.out.own.alloc _) ⟨wr.heap.size, 0, none⟩ 1 1 [(0 : Int)] rfl rfl (cell_new_int wr .u8 0 5) HLim.out HSz.out w.heap.size w (HI.out.low.alloc (HI.out.low.size) _) (Nat.le_refl _) ?_; intro v' w' hown' hlow' _; have HI2 := hid (RpI.step hown' hlow'); clear hown' hlow'))
      go_roundw
      case rel => exact ⟨k + 1, hlt, HI2.out⟩
      case measure =>
        obtain ⟨p2, cp2, e, _⟩ := HI2.out.own.slice
        have h3 : (X ++ List.replicate (k + 1) (0 : Int)).length = S + (k + 1) := by rw [List.length_append, HXL.out, List.length_replicate]
        rw [h3] at e
        subst e
        have := HT.out
        simp [lenV]
        omega
    · obtain rfl : k = M := by omega
      have h0 : T % n = 0 := by rw [hTS, HKM.out]
      clear hTS
      have e1 : (T : Int).tmod (n : Int) = 0 := by have : (T : Int).tmod (n : Int) = ((T % n : Nat) : Int) := rfl
                                                   rw [this, h0]; rfl
      have e2 : (T : Int) % (n : Int) = 0 := by omega
      have e3 : ((0 : Int) != 0) = false := rfl
      clear h0
      go_wp2
      go_ret2
      exact ⟨HI.out.low, .inl ⟨n, _, rfl, HN.out.1, HN.out.2.1, rfl, by rw [HP.out]; exact HI.out.own⟩⟩
end Go.Proofs.Ythcjgjhoifnpjaa

/- Code: Split, by the program. -/
namespace Go.Proofs.Ythcjgjhoifnpjaa
open Go.RowKit

/-- Bytes that are strings, put one behind the other. -/
inductive CFit : List Int → Prop
  | nil : CFit []
  | cons {zs : List Int} {n : Nat} : Beg zs n → CFit (zs.drop ((lef (8 * n)).length + n)) → CFit zs
theorem beg_pos {zs : List Int} {n : Nat} (h : Beg zs n) : 2 ≤ (lef (8 * n)).length ∧ (lef (8 * n)).length + n ≤ zs.length := by
  have h1 := h.2.1
  have h2 := dg_pos (8 * n)
  rw [lef_len] at h1 ⊢
  omega
theorem fit_step {zs : List Int} {n : Nat} (h : Beg zs n) : CFit zs ↔ CFit (zs.drop ((lef (8 * n)).length + n)) := by
  constructor
  · intro f
    cases f with
    | nil => have h1 := beg_pos h; have h2 : ([] : List Int).length = 0 := rfl; omega
    | cons h2 f => rw [beg_one h h2]; exact f
  · exact fun f => .cons h f
theorem fit_none {zs : List Int} (h0 : 0 < zs.length) (h : ∀ n, ¬ Beg zs n) : ¬ CFit zs := by
  intro f
  cases f with
  | nil => simp at h0
  | cons h2 _ => exact h _ h2

/-- Of zs the first q bytes are split. -/
structure SpI (w wr : World) (zs : List Int) (b v : Value) (q : Nat) (us : List Value) (Z : List (List Int)) : Prop where
  rd : RdC w b (zs.drop q)
  list : RwL .u8 wr w.heap.size 22 v us Z
  low : Below w.heap.size w wr
  flat : (Z.map sto).flatten = zs.take q
  num : 2 * us.length ≤ q
  le : q ≤ zs.length
  fit : CFit zs ↔ CFit (zs.drop q)
/-- .. and the next string is taken. -/
structure SpP (w W : World) (v : Value) (us : List Value) (Z : List (List Int)) (C : Nat) (u : Value) (z : List Int) : Prop where
  list : RwL .u8 W w.heap.size 22 v us Z
  low : Below w.heap.size w W
  cells : ∀ (i : Nat) (x : Value), [u][i]? = some x → W.cell? ((⟨C, 0, none⟩ : Addr).add i) = some x
  each : ∀ (i : Nat) (x : Value) (y : List Int), [u][i]? = some x → [z][i]? = some y → Rd .u8 W x y ∧ ∀ c, v.ownBlock = some c → Apart x c
section
variable {w wr w1 W w3 : World} {zs : List Int} {b b' v u : Value} {q C g cap n : Nat} {us : List Value} {Z : List (List Int)} {z : List Int}
theorem SpP.mk' (hr : RwL .u8 wr w.heap.size 22 v us Z) (hl : Below w.heap.size w wr) (ho : Own .u8 wr.heap.size 5 w1 u z) (hz : ∀ y ∈ z, (Lit.int .u8 y).wf = true) (hzl : z.length ≤ 140737488351232) (hl2 : Below wr.heap.size wr w1) :
    SpP w (w1.alloc (.cells #[u] 22)) v us Z w1.heap.size u z := by
  have b1 : Below w1.heap.size w1 (w1.alloc (.cells #[u] 22)) := (Below.refl _ _).alloc (Nat.le_refl _) _
  refine ⟨(hr.self hl2).self b1, (hl.trans (hl2.mono hl.size)).alloc (Nat.le_trans hl.size hl2.size) _, fun i x hx => ?_, fun i x y hx hy => ?_⟩
  · have := cell_made w1 #[u] 22 i
    rw [Addr.add_mid, Nat.zero_add, this]
    simpa using hx
  · obtain rfl : i = 0 := by
      have := (List.getElem?_eq_some_iff.1 hx).1
      simp at this
      exact this
    simp only [List.getElem?_cons_zero, Option.some.injEq] at hx hy
    subst hx; subst hy
    refine ⟨(ho.rd (by show _ * 1 ≤ _; omega) hz).self b1, fun c hc => ?_⟩
    have := hr.lt c hc
    exact apart_own ho (by omega)
theorem SpI.next (h : SpI w wr zs b v q us Z) (hn : Beg (zs.drop q) n) (hP : SpP w W v us Z C u (((zs.drop q).drop (lef (8 * n)).length).take n))
    (hl : RwL .u8 w3 w.heap.size 22 (.slice (some ⟨g, 0, none⟩) (us.length + 1) cap) (us ++ [u]) (Z ++ [((zs.drop q).drop (lef (8 * n)).length).take n])) (hg : W.grownBy w3 v.ownBlock)
    (hb : RdC w b' (zs.drop (q + ((lef (8 * n)).length + n)))) : SpI w w3 zs b' (.slice (some ⟨g, 0, none⟩) (us.length + 1) cap) (q + ((lef (8 * n)).length + n)) (us ++ [u]) (Z ++ [((zs.drop q).drop (lef (8 * n)).length).take n]) := by
  have hp := beg_pos hn
  have hd : (zs.drop q).length = zs.length - q := by simp
  have hle := h.le
  refine ⟨hb, hl, hP.low.grown hg hP.low.size (fun c hc => (hP.list.lt c hc).1), ?_, ?_, by omega, ?_⟩
  · have e1 := sto_beg hn
    rw [List.map_append, List.flatten_append, h.flat]
    simp only [List.map_cons, List.map_nil, List.flatten_cons, List.flatten_nil, List.append_nil]
    rw [List.take_add]
    congr 1
    have hl2 : (sto (((zs.drop q).drop (lef (8 * n)).length).take n)).length = (lef (8 * n)).length + n := by
      have : (((zs.drop q).drop (lef (8 * n)).length).take n).length = n := by rw [List.length_take, List.length_drop]; omega
      rw [sto_len, this]
    conv => rhs; rw [← e1, List.take_left' hl2]
  · have := h.num
    rw [List.length_append]
    simp
    omega
  · rw [h.fit, fit_step hn, List.drop_drop]
end
/-- What Split tells. -/
def SplitP (w : World) (zs : List Int) (e : Ending) (w' : World) : Prop :=
  Below w.heap.size w w' ∧ ((∃ v us Z, e = .returned (.tuple #[v, .bool true]) ∧ RwL .u8 w' w.heap.size 22 v us Z ∧ (Z.map sto).flatten = zs ∧ CFit zs ∧ 2 * us.length ≤ zs.length) ∨ (¬ CFit zs ∧ e = .returned (.tuple #[.slice none 0 0, .bool false])))

end Go.Proofs.Ythcjgjhoifnpjaa

/- Code: Take, by the document: length by length. -/
namespace Go.Proofs.Ythcjgjhoifnpjaa
open Go.RowKit

theorem rd_drewN {w : World} {v : Value} {zs : List Int} (h : Rd .u8 w v zs) (m : Nat) : Rd .u8 (w.drewN m) v zs := h.self (below_drewN w m)
theorem below_drewed {B : Nat} {w w1 : World} (h : Below B w w1) (n : Nat) : Below B w (w1.drewN n) := ⟨h.os, h.tape, h.output, h.size, h.block⟩
theorem below_drewed1 {B : Nat} {w w1 : World} (h : Below B w w1) : Below B w w1.drew := h.drew
/-- What the document's Take tells. -/
def RtakeP (w : World) (zs : List Int) (e : Ending) (w' : World) : Prop :=
  Below w.heap.size w w' ∧ ((∃ n v, Beg zs n ∧ e = .returned (.tuple #[v, .int .i64 (((lef (8 * n)).length + n : Nat) : Int), .bool true]) ∧ Rd .u8 w' v ((zs.drop (lef (8 * n)).length).take n)) ∨
    ((∀ n, ¬ Beg zs n) ∧ e = .returned (.tuple #[.slice none 0 0, .int .i64 0, .bool false])))

end Go.Proofs.Ythcjgjhoifnpjaa

/- Code: what program and document both tell; the chapter's examples. -/
namespace Go.Proofs.Ythcjgjhoifnpjaa
open Go.RowKit

/-- A call tells a row that is zs. -/
def RowP (w : World) (zs : List Int) (e : Ending) (w' : World) : Prop := ∃ v, e = .returned v ∧ Rw w' v zs ∧ Below w.heap.size w w'
theorem CatP.row {w w' : World} {zs : List Int} {e : Ending} (h : CatP w zs e w') : RowP w zs e w' := by
  obtain ⟨v, h1, h2, h3⟩ := h
  exact ⟨v, h1, Rw.of_own h2, h3⟩
theorem nil_row {w w' : World} {e : Ending} (h : e = .returned (.slice none 0 0) ∧ w' = w) : RowP w [] e w' := by
  obtain ⟨rfl, rfl⟩ := h
  exact ⟨_, rfl, rw_nil _, Below.refl _ _⟩
def lefI (n : Int) : List Int := if n < 0 then [] else lef n.toNat
def rigI (n : Int) : List Int := if n < 0 then [] else rig n.toNat
theorem int_ways (n : Int) (h : n ≤ 9223372036854775807) : n < 0 ∨ ∃ m : Nat, n = m ∧ m < 9223372036854775808 := by
  by_cases h0 : n < 0
  · exact .inl h0
  · exact .inr ⟨n.toNat, by omega, by omega⟩
theorem left_i (n : Int) (h : n ≤ 9223372036854775807) (w : World) : Calls Try.prog 26 #[.int .i64 n] w fun e w' => RowP w (lefI n) e w' := by
  rcases int_ways n h with h0 | ⟨m, rfl, h0⟩
  · rw [lefI, if_pos h0]; exact (left_neg n w h0).mono fun _ _ => nil_row
  · rw [lefI, if_neg (by omega), Int.toNat_natCast]; exact (cleft_any m w h0).mono fun _ _ => CatP.row
theorem refleft_i (n : Int) (h : n ≤ 9223372036854775807) (w : World) : Calls Try.prog 32 #[.int .i64 n] w fun e w' => RowP w (lefI n) e w' := by
  rcases int_ways n h with h0 | ⟨m, rfl, h0⟩
  · rw [lefI, if_pos h0]; exact (refleft_neg n w h0).mono fun _ _ => nil_row
  · rw [lefI, if_neg (by omega), Int.toNat_natCast]; exact (refleft_any m w h0).mono fun _ _ => CatP.row
theorem right_i (n : Int) (h : n ≤ 9223372036854775807) (w : World) : Calls Try.prog 31 #[.int .i64 n] w fun e w' => RowP w (rigI n) e w' := by
  rcases int_ways n h with h0 | ⟨m, rfl, h0⟩
  · rw [rigI, if_pos h0]; exact (right_neg n w h0).mono fun _ _ => nil_row
  · rw [rigI, if_neg (by omega), Int.toNat_natCast]; exact (cright_any m w h0).mono fun _ _ => CatP.row
theorem refright_i (n : Int) (h : n ≤ 9223372036854775807) (w : World) : Calls Try.prog 24 #[.int .i64 n] w fun e w' => RowP w (rigI n) e w' := by
  rcases int_ways n h with h0 | ⟨m, rfl, h0⟩
  · rw [rigI, if_pos h0]; exact (refright_neg n w h0).mono fun _ _ => nil_row
  · rw [rigI, if_neg (by omega), Int.toNat_natCast]; exact (refright_any m w h0).mono fun _ _ => CatP.row
theorem str_i (u : Value) (z : List Int) (w : World) (h : Rd .u8 w u z) : Calls Try.prog 15 #[u] w fun e w' => RowP w (sto z) e w' := (cstr_any u z w h).mono fun _ _ => CatP.row
theorem refstr_i (u : Value) (z : List Int) (w : World) (h : Rd .u8 w u z) : Calls Try.prog 21 #[u] w fun e w' => RowP w (sto z) e w' := (refstr_any u z w h).mono fun _ _ => CatP.row

/-- A call tells a row, and a number. -/
def RowE (w : World) (zs : List Int) (n : Int) (e : Ending) (w' : World) : Prop := ∃ v, e = .returned (.tuple #[v, .int .i64 n]) ∧ Rw w' v zs ∧ Below w.heap.size w w'
def pdI (zs : List Int) (n : Int) : List Int := if n < 1 ∨ 1000 < n then [] else cpd zs n.toNat
def pdE (n : Int) : Int := if n < 1 ∨ 1000 < n then 1 else 0
theorem PadP.row {w w' : World} {zs : List Int} {n : Int} {e : Ending} (h : PadP w zs n e w') : RowE w (pdI zs n) (pdE n) e w' := by
  obtain ⟨hl, ⟨m, v, rfl, h1, h2, rfl, ho⟩ | ⟨h1, rfl⟩⟩ := h
  · rw [pdI, pdE, if_neg (by omega), if_neg (by omega), Int.toNat_natCast]; exact ⟨v, rfl, Rw.of_own ho, hl⟩
  · rw [pdI, pdE, if_pos h1, if_pos h1]; exact ⟨_, rfl, rw_nil _, hl⟩
theorem pad_ways (n : Int) : (n < 1 ∨ 1000 < n) ∨ ∃ m : Nat, n = m ∧ 1 ≤ m ∧ m ≤ 1000 := by
  by_cases h0 : n < 1 ∨ 1000 < n
  · exact .inl h0
  · exact .inr ⟨n.toNat, by omega, by omega, by omega⟩
theorem pad_i (v : Value) (zs : List Int) (n : Int) (w : World) (h : Rd .u8 w v zs) : Calls Try.prog 14 #[v, .int .i64 n] w fun e w' => RowE w (pdI zs n) (pdE n) e w' := by
  rcases pad_ways n with h0 | ⟨m, rfl, h1, h2⟩
  · exact (cpad_bad v zs n w h h0).mono fun _ _ => PadP.row
  · exact (cpad_good v zs m w h h1 h2).mono fun _ _ => PadP.row
theorem refpad_i (v : Value) (zs : List Int) (n : Int) (w : World) (h : Rd .u8 w v zs) : Calls Try.prog 20 #[v, .int .i64 n] w fun e w' => RowE w (pdI zs n) (pdE n) e w' := by
  rcases pad_ways n with h0 | ⟨m, rfl, h1, h2⟩
  · exact (refpad_bad v zs n w h h0).mono fun _ _ => PadP.row
  · exact (refpad_good v zs m w h h1 h2).mono fun _ _ => PadP.row

/-- With what string a row begins. -/
def TkR (zs z : List Int) (k : Int) (ok : Bool) : Prop :=
  (∃ n, Beg zs n ∧ z = (zs.drop (lef (8 * n)).length).take n ∧ k = (((lef (8 * n)).length + n : Nat) : Int) ∧ ok = true) ∨ ((∀ n, ¬ Beg zs n) ∧ z = [] ∧ k = 0 ∧ ok = false)
theorem tkr_any (zs : List Int) : ∃ z k ok, TkR zs z k ok := by
  by_cases h : ∃ n, Beg zs n
  · obtain ⟨n, h⟩ := h
    exact ⟨_, _, _, .inl ⟨n, h, rfl, rfl, rfl⟩⟩
  · exact ⟨_, _, _, .inr ⟨fun n hn => h ⟨n, hn⟩, rfl, rfl, rfl⟩⟩
/-- A call tells it. -/
def RowT (w : World) (z : List Int) (k : Int) (ok : Bool) (e : Ending) (w' : World) : Prop := ∃ v, e = .returned (.tuple #[v, .int .i64 k, .bool ok]) ∧ Rw w' v z ∧ Below w.heap.size w w'
theorem lef256 : lefI 256 = [2, 1, 0] := by
  show lef 256 = _
  unfold lef
  rw [dg_more (by decide), dg_one (by decide)]
  rfl
theorem rig0 : rigI 0 = [0, 1] := by
  show rig 0 = _
  unfold rig
  rw [dg_one (by decide)]
  rfl
end Go.Proofs.Ythcjgjhoifnpjaa

/- CodeBack. -/
namespace Go.Proofs.Ythcjgjhoifnpjaa
open Go.RowKit

theorem own_self {B : Nat} {w w' : World} {v : Value} {zs : List Int} (h : Own .u8 B 5 w v zs) (hb : Below w.heap.size w w') : Own .u8 B 5 w' v zs :=
  own_frame h fun j _ hj => hb.block j hj
theorem rdc_own {B : Nat} {w : World} {v : Value} {zs : List Int} (h : Own .u8 B 5 w v zs) (hl : zs.length ≤ 65536) (hw : ∀ z ∈ zs, (Lit.int .u8 z).wf = true) : RdC w v zs := by
  refine ⟨h.rd (by show _ * 1 ≤ _; omega) hw, fun a n c e => ?_⟩
  obtain ⟨_, h2⟩ := h
  rcases h2 with ⟨rfl, h0⟩ | ⟨g, cap, cur, rfl, _, _, h3, h4, _⟩
  · injection e with e1 e2 e3
    subst e2; subst e3
    exact ⟨Nat.le_refl _, Nat.zero_le _⟩
  · injection e with e1 e2 e3
    subst e2; subst e3
    exact ⟨h3, h4⟩
theorem sto_wf {z : List Int} (hl : z.length ≤ 140737488351232) (h : ∀ y ∈ z, (Lit.int .u8 y).wf = true) : ∀ y ∈ sto z, (Lit.int .u8 y).wf = true := by
  intro y hy
  rcases List.mem_append.1 hy with hy | hy
  · exact lef_wf (by omega) y hy
  · exact h y hy
theorem sto_le {z : List Int} (hl : z.length ≤ 140737488351232) : (sto z).length ≤ z.length + 9 := by
  have := lef_le (n := 8 * z.length) (by omega)
  rw [sto_len]; omega
theorem lef_le5 {n : Nat} (h : n ≤ 65536) : (lef (8 * n)).length ≤ 5 := by
  rw [lef_len]
  have := dg_len 3 (8 * n) (by show _ < 4294967296; omega)
  omega
theorem tkr_sto {z d : List Int} (h : z.length ≤ 65536) : TkR (sto z ++ d) z ((sto z).length : Nat) true := by
  refine .inl ⟨z.length, beg_sto (lef_le5 h), ?_, by rw [sto_len], rfl⟩
  unfold sto
  rw [List.append_assoc, List.drop_left', List.take_left']
  · rfl
  · rfl

end Go.Proofs.Ythcjgjhoifnpjaa

/- CodeLists: what is wanted. -/
namespace Go.Proofs.Ythcjgjhoifnpjaa
open Go.RowKit

theorem sto_pos (z : List Int) : 2 ≤ (sto z).length := by have := dg_pos (8 * z.length); rw [sto_len, lef_len]; omega
theorem fit_flat : ∀ Z : List (List Int), (∀ z ∈ Z, z.length ≤ 65536) → CFit (Z.map sto).flatten
  | [], _ => .nil
  | z :: Z, h => by
    rw [List.map_cons, List.flatten_cons]
    refine .cons (beg_sto (lef_le5 (h z (by simp)))) ?_
    rw [List.drop_left' (by rw [sto_len])]
    exact fit_flat Z fun y hy => h y (by simp [hy])
theorem flat_inj : ∀ A B : List (List Int), (A.map sto).flatten = (B.map sto).flatten → A = B
  | [], [], _ => rfl
  | [], b :: B, h => by
    have := congrArg List.length h
    have h2 := sto_pos b
    rw [List.map_cons, List.flatten_cons, List.length_append, show (([] : List (List Int)).map sto).flatten.length = 0 from rfl] at this
    omega
  | a :: A, [], h => by
    have := congrArg List.length h
    have h2 := sto_pos a
    rw [List.map_cons, List.flatten_cons, List.length_append, show (([] : List (List Int)).map sto).flatten.length = 0 from rfl] at this
    omega
  | a :: A, b :: B, h => by
    rw [List.map_cons, List.flatten_cons, List.map_cons, List.flatten_cons] at h
    have h1 := sto_inj h
    rw [h1.1, flat_inj A B h1.2]
theorem cat_range (f : Nat → List Int) : ∀ n, ccat f n = ((List.range n).map f).flatten
  | 0 => rfl
  | n + 1 => by rw [ccat, cat_range f n, List.range_succ, List.map_append, List.flatten_append]; simp
theorem cat_sto (f : Nat → List Int) (n : Nat) : ccat (fun i => sto (f i)) n = (((List.range n).map f).map sto).flatten := by
  rw [cat_range, List.map_map]; rfl
theorem cat_sto_le {f : Nat → List Int} : ∀ {n : Nat}, (∀ i, i < n → (f i).length ≤ 400) → (ccat (fun i => sto (f i)) n).length ≤ 409 * n
  | 0, _ => Nat.le_refl _
  | n + 1, h => by
    have h1 := cat_sto_le (n := n) fun i hi => h i (by omega)
    have h2 := h n (by omega)
    have h3 := sto_le (z := f n) (by omega)
    rw [ccat, List.length_append]
    omega
theorem cat_sto_wf {f : Nat → List Int} : ∀ {n : Nat}, (∀ i, i < n → (f i).length ≤ 400 ∧ ∀ z ∈ f i, (Lit.int .u8 z).wf = true) → ∀ z ∈ ccat (fun i => sto (f i)) n, (Lit.int .u8 z).wf = true
  | 0, _ => fun z hz => by cases hz
  | n + 1, h => fun z hz => by
    rw [ccat] at hz
    rcases List.mem_append.1 hz with hz | hz
    · exact cat_sto_wf (fun i hi => h i (by omega)) z hz
    · exact sto_wf (by have := (h n (by omega)).1; omega) (h n (by omega)).2 z hz

/-- What Split tells of strings, put. -/
def ListP (w : World) (n : Nat) (f : Nat → List Int) (e : Ending) (w' : World) : Prop :=
  ∃ a cap us, e = .returned (.tuple #[.slice a n cap, .bool true]) ∧ RdL .u8 w' a n us f ∧ Below w.heap.size w w'
theorem rdl_fun {k : IntKind} {w : World} {a : Option Addr} {m : Nat} {us : Nat → Value} {zs zs' : Nat → List Int} (h : RdL k w a m us zs) (e : ∀ i, i < m → zs i = zs' i) : RdL k w a m us zs' :=
  ⟨h.out, fun i hi => by rw [← e i hi]; exact h.each i hi⟩
/-- .. and of any bytes. -/
def SplL (w : World) (zs : List Int) (ok : Bool) (e : Ending) (w' : World) : Prop :=
  ∃ a m cap us Z, e = .returned (.tuple #[.slice a m cap, .bool ok]) ∧ Below w.heap.size w w' ∧ (ok = true → RdL .u8 w' a m us Z ∧ m ≤ 65536 ∧ ccat (fun i => sto (Z i)) m = zs) ∧ (ok = false → m = 0)
/-- The rest of a row. -/
theorem rdc_rest {w : World} {b off L cap q : Nat} {zs : List Int} (h : RdC w (.slice (some ⟨b, off, none⟩) L cap) zs) (hq : q ≤ L) : RdC w (.slice (some ⟨b, off + q, none⟩) (L - q) (cap - q)) (zs.drop q) := by
  have hc := h.cap _ _ _ rfl
  have hl : zs.length = L := by
    obtain ⟨_, _, e, _⟩ := h.rd
    injection e with e1 e2 e3
    exact e2.symm
  refine ⟨?_, fun a' n' c' e => by injection e with e1 e2 e3; subst e2; subst e3; omega⟩
  have := rd_sub (m := L - q) (k := cap - q) (p := some ⟨b, off + q, none⟩) h.rd (q := q) (by omega) (fun _ => rfl)
  rwa [List.take_of_length_le (by rw [List.length_drop]; omega)] at this
end Go.Proofs.Ythcjgjhoifnpjaa
