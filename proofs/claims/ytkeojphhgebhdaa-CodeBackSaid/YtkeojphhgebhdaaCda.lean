import Derived.Test.YtkeojphhgebhdaaProg
import Derived.Test.YtkeojphhgebhdaaGen
import Derived.Lib.AppendZerosOnto
import Derived.Lib.BitFns
import Derived.Lib.Walk
/- Code: math/bits' Len; slices' Grow and Concat of any rows; behind. -/
namespace Go.Proofs.Ytkeojphhgebhdaa
open Go.RowKit

theorem infob : (Try.prog.info? 5).map (fun i => (i.zero, i.size, i.bytes)) = some (some (.int .u8 0), 1, IntKind.u8.bits / 8) := by kernel_rfl
theorem infor : (Try.prog.info? 22).map (fun i => (i.zero, i.size, i.bytes)) = some (some (.slice none 0 0), 1, 24) := by kernel_rfl
theorem cell_self {w w' : World} {a : Addr} {v : Value} (h : w.cell? a = some v) (hb : Below w.heap.size w w') : w'.cell? a = some v :=
  (hb.cell (World.block_lt_of_cell? w _ h)).trans h

set_option maxRecDepth 100000 in
theorem tabSize : Lib.len8tab.size = 256 := by decide
theorem tabGet (y : Int) (h0 : 0 ≤ y) (h1 : y ≤ 255) (h : y.toNat < Lib.len8tab.size) : ((Lib.len8tab[y.toNat]'h).toNat : Int) = (Lib.bitLen y.toNat : Int) := by
  rw [← Lib.len8_of y h0 h1]
  unfold Lib.len8
  rw [getElem?_pos Lib.len8tab y.toNat h]
  rfl
theorem lenWay (k : Nat) (x y : Int) (hx : 2 ^ k ≤ x.toNat) (hx2 : x.toNat < 2 ^ 64) (h0 : 0 ≤ y) (h1 : y ≤ 255) (hy : y.toNat = x.toNat / 2 ^ k) (h : y.toNat < Lib.len8tab.size) (hk : k ≤ 56) :
    wrap64 ((k : Int) + wrap64 ((Lib.len8tab[y.toNat]'h).toNat : Int)) = (Lib.bitLen x.toNat : Int) := by
  have l := Lib.bitLen_le8' y h0 h1
  rw [tabGet y h0 h1, Lib.bitLen_shift k x.toNat hx hx2, ← hy]
  unfold wrap64
  omega
theorem lenWay0 (x : Int) (h0 : 0 ≤ x) (h1 : x ≤ 255) (h : x.toNat < Lib.len8tab.size) : wrap64 (wrap64 ((Lib.len8tab[x.toNat]'h).toNat : Int)) = (Lib.bitLen x.toNat : Int) := by
  have l := Lib.bitLen_le8' x h0 h1
  rw [tabGet x h0 h1]
  unfold wrap64
  omega
theorem lenWay1 (x : Int) (h0 : 0 ≤ x) (h1 : x ≤ 255) (h : x.toNat < Lib.len8tab.size) : wrap64 ((Lib.len8tab[x.toNat]'h).toNat : Int) = (Lib.bitLen x.toNat : Int) := by
  have l := Lib.bitLen_le8' x h0 h1
  rw [tabGet x h0 h1]
  unfold wrap64
  omega

set_option maxHeartbeats 4000000 in
set_option maxRecDepth 100000 in
theorem len64_any (x : Int) (w : World) (h0 : 0 ≤ x) (h1 : x ≤ 18446744073709551615) :
    Calls Try.prog 27 #[.int .u64 x] w fun e w' => e = .returned (.int .i64 (Lib.bitLen x.toNat)) ∧ w' = w := by
  have hs := tabSize
  go_enter Try.func27, Try.ntmps27
  go_wp2
  all_goals first
    | (go_ret; refine ⟨ret_int ?_, rfl⟩)
    | (exfalso; omega)
  all_goals first
    | exact lenWay 56 x (x / 4294967296 / 65536 / 256) (by show 72057594037927936 ≤ _; omega) (by show _ < 18446744073709551616; omega) (by omega) (by omega) (by show _ = _ / 72057594037927936; omega) _ (by decide)
    | exact lenWay 48 x (x / 4294967296 / 65536) (by show 281474976710656 ≤ _; omega) (by show _ < 18446744073709551616; omega) (by omega) (by omega) (by show _ = _ / 281474976710656; omega) _ (by decide)
    | exact lenWay 40 x (x / 4294967296 / 256) (by show 1099511627776 ≤ _; omega) (by show _ < 18446744073709551616; omega) (by omega) (by omega) (by show _ = _ / 1099511627776; omega) _ (by decide)
    | exact lenWay 32 x (x / 4294967296) (by show 4294967296 ≤ _; omega) (by show _ < 18446744073709551616; omega) (by omega) (by omega) (by show _ = _ / 4294967296; omega) _ (by decide)
    | exact lenWay 24 x (x / 65536 / 256) (by show 16777216 ≤ _; omega) (by show _ < 18446744073709551616; omega) (by omega) (by omega) (by show _ = _ / 16777216; omega) _ (by decide)
    | exact lenWay 16 x (x / 65536) (by show 65536 ≤ _; omega) (by show _ < 18446744073709551616; omega) (by omega) (by omega) (by show _ = _ / 65536; omega) _ (by decide)
    | exact lenWay 8 x (x / 256) (by show 256 ≤ _; omega) (by show _ < 18446744073709551616; omega) (by omega) (by omega) (by show _ = _ / 256; omega) _ (by decide)
    | exact lenWay0 x h0 (by omega) _
    | exact lenWay1 x h0 (by omega) _
theorem len_any (x : Int) (w : World) (h0 : 0 ≤ x) (h1 : x ≤ 18446744073709551615) :
    Calls Try.prog 24 #[.int .u64 x] w fun e w' => e = .returned (.int .i64 (Lib.bitLen x.toNat)) ∧ w' = w := by
  have H := hid (len64_any x w h0 h1)
  go_enter Try.func24, Try.ntmps24
  go_wp2_with (first | (go_at_call 27; (with_reducible refine (H.out).mono ?_); rintro e w1 ⟨rfl, rfl⟩))
  go_ret
  exact ⟨rfl, rfl⟩

/-- The first j lists, one behind the other. -/
def cat (zs : Nat → List Int) : Nat → List Int
  | 0 => []
  | j + 1 => cat zs j ++ zs j
theorem cat_le (zs : Nat → List Int) {j m : Nat} (h : j ≤ m) : (cat zs j).length ≤ (cat zs m).length := by
  induction m with
  | zero => obtain rfl : j = 0 := by omega
            exact Nat.le_refl _
  | succ m ih =>
    by_cases e : j = m + 1
    · subst e; exact Nat.le_refl _
    · exact Nat.le_trans (ih (by omega)) (by simp [cat])

theorem wpList_append_run {P : Program} {w w' : World} {ops : Array Oper} {rest : List Oper} {o : Oper} {a : Act} {Q : Exit → Act → World → Prop} (hgd : o.guard = none) (s x : Operand) (t t' r : TypeId)
    (ho : o.op = .call { callee := .builtin .append, args := #[s, x], argTypes := #[t, t'] }) (hr : o.type = r) (sv xv v : Value) (hs : a.eval s = sv) (hx : a.eval x = xv) (hrun : (Builtin.append_ #[t, t'] r #[sv, xv]).run P w = .ok v w')
    (h : wpList P ops Q rest (a.put o.dst v) w') : wpList P ops Q (o :: rest) a w :=
  wpList_plain hgd fun _ hK => by
    subst hr; subst hs; subst hx
    unfold Oper.wp execOp
    simp only [ho, resolve, invoke, builtin, Sem.run_bind, Sem.run_pure, Result.andThen_ok, List.map_toArray, List.map_cons, List.map_nil, hrun]
    exact hK _ _ h

theorem info5b : ∃ i, Try.prog.info? 5 = some i ∧ i.zero = some (.int .u8 0) ∧ i.size = 1 ∧ i.bytes = 1 := by
  obtain ⟨i, h1, h2, h3, h4⟩ := info_parts infob
  exact ⟨i, h1, h2, h3, h4⟩

/-- What Grow promises of nil. -/
def GrowP (w : World) (e : Ending) (w' : World) : Prop := ∃ v, e = .returned v ∧ Own .u8 w.heap.size 5 w' v [] ∧ Below w.heap.size w w'

set_option maxRecDepth 100000 in
theorem grow_any (n : Nat) (w : World) (hn : n ≤ 140737488355328) :
    Calls Try.prog 25 #[.slice none 0 0, .int .i64 (n : Int)] w fun e w' => GrowP w e w' := by
  by_cases h0 : n = 0
  · subst h0
    go_enter Try.func25, Try.ntmps25
    go_wp2
    go_ret
    exact ⟨_, rfl, own_nil .u8 w.heap.size 5 w, Below.refl _ _⟩
  · obtain ⟨i, hi, hz, hs, hb⟩ := info5b
    have hold : (Builtin.firstCells i.size 0 (.slice none 0 0)).run Try.prog w.drew = .ok ([] : List Value).toArray w.drew := run_firstCells_none w.drew i.size 0 0 0
    have hfit : Builtin.nextslicecap (0 + n) 0 * i.bytes ≤ 281474976710656 := by rw [hb]; exact growslice_fits (by omega) (by omega)
    have hg : (Builtin.append_ #[22, 3] 22 #[.slice none 0 0, .int .i64 (n : Int)]).run Try.prog w = .ok (.slice (some ⟨w.heap.size, 0, none⟩) n (grownCap w n 0 5)) (w.drew.alloc (.cells ((Builtin.zeroCells (Value.int .u8 0).cells n) ++ Builtin.zeroCells (Value.int .u8 0).cells (grownCap w n 0 5 - n)) 5)) := by
      have h := Lib.run_append_grow_zeros (P := Try.prog) w 22 3 22 5 i _ .i64 .i64 Try.underlying22 Try.underlying3 hi hz none 0 0 [] hold n (by omega) (by omega) (by omega) (by omega) (by rw [hb]; omega) hfit
      simpa using h
    have hge := grownCap_ge w n 0 5
    have hle := grownCap_le_maxLen w n 0 5 (by unfold maxLen; omega)
    have hsz : ((Builtin.zeroCells (Value.int .u8 0).cells n) ++ Builtin.zeroCells (Value.int .u8 0).cells (grownCap w n 0 5 - n)).size = grownCap w n 0 5 := by
      simp only [Array.size_append, size_zeroCells]
      show n * 1 + (grownCap w n 0 5 - n) * 1 = _
      omega
    generalize grownCap w n 0 5 = G at *
    generalize (Builtin.zeroCells (Value.int .u8 0).cells n) ++ Builtin.zeroCells (Value.int .u8 0).cells (G - n) = cs at *
    have HO : Hid (Own .u8 w.heap.size 5 (w.drew.alloc (.cells cs 5)) (.slice (some ⟨w.heap.size, 0, none⟩) 0 G) []) :=
      hid ⟨rfl, .inr ⟨w.heap.size, G, cs, rfl, Nat.le_refl _, heap_alloc_new w.drew _, Nat.zero_le _, hle, by omega, rfl⟩⟩
    have hG := hid hle
    unfold maxLen at hle
    have h1 : ¬ ((n : Int) < 0) := by omega
    have h2 : (0 : Int) < (n : Int) := by omega
    have h3 : IntKind.i64.wrap (n : Int) = n := by rw [IntKind.wrap_i64]; omega
    have h4 : (0 : Int) ≤ (G : Int) := by omega
    have HG := hid hg
    have HL : Hid (Below w.heap.size w (w.drew.alloc (.cells cs 5))) := hid ((Below.refl w.heap.size w).drew.alloc (Nat.le_refl _) _)
    clear hold hfit hi hz hs hb hsz hn hg
    go_enter Try.func25, Try.ntmps25
    go_wp2_with (first
      | (refine wpList_append_run rfl (.tmp 20) (.tmp 21) 22 3 22 rfl rfl _ _ _ rfl rfl HG.out ?_; generalize w.drew.alloc (.cells cs 5) = w1 at *))
    go_ret
    exact ⟨_, rfl, HO.out, HL.out⟩

/-- What Concat promises. -/
def ConcatP (w : World) (zs : List Int) (e : Ending) (w' : World) : Prop := ∃ v, e = .returned v ∧ Own .u8 w.heap.size 5 w' v zs ∧ Below w.heap.size w w'

/-- Lists put behind one another. -/
structure CatInv (w wr : World) (v : Value) (zs : Nat → List Int) (j : Nat) : Prop where
  own : Own .u8 w.heap.size 5 wr v (cat zs j)
  low : Below w.heap.size w wr

set_option maxRecDepth 100000 in
set_option maxHeartbeats 3200000 in
theorem concat_any (c o m cap : Nat) (us : Nat → Value) (zs : Nat → List Int) (w : World) (hm : m ≤ 1073741824) (hc : ∀ i, i < m → w.cell? ⟨c, o + i, none⟩ = some (us i)) (hr : ∀ i, i < m → Rd .u8 w (us i) (zs i)) (hlim : (cat zs m).length ≤ 140737488355328) :
    Calls Try.prog 23 #[.slice (some ⟨c, o, none⟩) m cap] w fun e w' => ConcatP w (cat zs m) e w' := by
  have HC := hid hc
  have HR := hid hr
  have HG := hid (grow_any (cat zs m).length w hlim)
  have HM := hid (fun j (h : j ≤ m) => cat_le zs h)
  clear hc hr
  go_enter Try.func23, Try.ntmps23
  go_wp2
  go_loop [3, 11] (fun s i => ∃ j : Nat, j ≤ m ∧ i = .int .i64 j ∧ s = .int .i64 ((cat zs j).length : Nat)) (fun _ i => m - (intOf i).toNat)
  case atStart => exact ⟨0, by omega, rfl, rfl⟩
  case round =>
    obtain ⟨j, hj, rfl, rfl⟩ := hrel
    by_cases hlt : j < m
    · have hc1 := HC.out j hlt
      obtain ⟨ad, cp, hu, hl1, _, _⟩ := HR.out j hlt
      rw [hu] at hc1
      have HJ := hid (HM.out (j + 1) hlt)
      have e1 : (cat zs (j + 1)).length = (cat zs j).length + (zs j).length := by simp [cat]
      have hle := HJ.out
      have h0 : (0 : Int) ≤ (j : Int) := by omega
      have h1 : (j : Int) < (m : Int) := by omega
      have h2 : ((cat zs j).length : Int) + ((zs j).length : Int) = ((cat zs (j + 1)).length : Int) := by omega
      have h3 : IntKind.i64.wrap (((cat zs (j + 1)).length : Nat) : Int) = ((cat zs (j + 1)).length : Nat) := by rw [IntKind.wrap_i64]; omega
      have h4 : ¬ (((cat zs (j + 1)).length : Nat) : Int) < 0 := by omega
      clear e1 hle hl1
      obtain ⟨L1, hL1⟩ : ∃ L1, (cat zs (j + 1)).length = L1 := ⟨_, rfl⟩
      rw [hL1] at h2 h3 h4
      have HL1 := hid hL1
      clear hL1
      generalize (cat zs j).length = L0 at *
      generalize (zs j).length = Lz at *
      clear hu
      go_wp2
      go_round
      case rel => exact ⟨j + 1, by omega, by go_num, by rw [HL1.out]⟩
      case measure => simp [intOf]; omega
    · obtain rfl : j = m := by omega
      have hn0 : ¬ (((cat zs j).length : Nat) : Int) < 0 := by omega
      have HLen : Hid ((cat zs j).length ≤ 140737488355328) := hid hlim
      clear hlim
      go_wp2_with (first
        | (go_at_call 25; (with_reducible refine (HG.out).mono ?_); rintro e w1 ⟨v1, rfl, ho1, hl1⟩; have HI1 : Hid (CatInv w w1 v1 zs 0) := hid ⟨ho1, hl1⟩; clear ho1 hl1))
      go_loopw [6, 27] (fun v i wr => ∃ p : Nat, p ≤ j ∧ i = .int .i64 p ∧ CatInv w wr v zs p) (fun _ i _ => j - (intOf i).toNat)
      case atStart => exact ⟨0, by omega, rfl, HI1.out⟩
      case round =>
        obtain ⟨p, hp, rfl, hI⟩ := hrel
        have HI := hid hI
        clear hI
        by_cases hlt : p < j
        · have hc1 := cell_self (HC.out p hlt) (HI.out.low)
          have HR1 := hid ((HR.out p hlt).self HI.out.low)
          have HJ := hid (Nat.le_trans (HM.out (p + 1) hlt) HLen.out)
          have h0 : (0 : Int) ≤ (p : Int) := by omega
          have h1 : (p : Int) < (j : Int) := by omega
          generalize us p = u at hc1 HR1
          go_wp2_with (first
            | (refine wpList_append_rd rfl (.tmp 31) (.tmp 32) 22 rfl .u8 w.heap.size 5 Try.underlying22 infob (by decide) _ _ rfl HI.out.own _ _ rfl HR1.out ?_ HI.out.low.size w.heap.size w HI.out.low (Nat.le_refl _) ?_; (have := HJ.out; simp [cat] at this; show (_ + _) * 1 ≤ _; omega); intro v' w' hown' hlow' hsz'; have HN : Hid (CatInv w w' v' zs (p + 1)) := hid ⟨hown', hlow'⟩; clear hown' hlow' hsz'))
          go_roundw
          case rel => exact ⟨p + 1, by omega, by go_num, HN.out⟩
          case measure => simp [intOf]; omega
        · obtain rfl : p = j := by omega
          go_wp2
          go_ret
          exact ⟨_, rfl, HI.out.own, HI.out.low⟩

theorem behind_any (c o m cap : Nat) (us : Nat → Value) (zs : Nat → List Int) (w : World) (hm : m ≤ 1073741824) (hc : ∀ i, i < m → w.cell? ⟨c, o + i, none⟩ = some (us i)) (hr : ∀ i, i < m → Rd .u8 w (us i) (zs i)) (hlim : (cat zs m).length ≤ 140737488355328) :
    Calls Try.prog 19 #[.slice (some ⟨c, o, none⟩) m cap] w fun e w' => ConcatP w (cat zs m) e w' := by
  have H := hid (concat_any c o m cap us zs w hm hc hr hlim)
  clear hc hr hlim
  go_enter Try.func19, Try.ntmps19
  go_wp2_with (first | (go_at_call 23; (with_reducible refine (H.out).mono ?_); rintro e w1 ⟨v, rfl, ho, hl⟩; have HO := hid ho; have HL := hid hl; clear ho hl))
  go_ret
  exact ⟨_, rfl, HO.out, HL.out⟩
end Go.Proofs.Ytkeojphhgebhdaa
