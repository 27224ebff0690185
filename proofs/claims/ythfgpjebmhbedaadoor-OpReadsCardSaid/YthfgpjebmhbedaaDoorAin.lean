import Derived.Test.YthfgpjebmhbedaaDoorProg
import Derived.Test.YthfgpjebmhbedaaDoorAui
/- Op: strconv.AppendInt, and both as the program calls them. -/
namespace Go.Proofs.YthfgpjebmhbedaaDoor
open Go.RowKit Go.Sort Go.Lib
theorem itoa_len {i : Int} (h0 : -9223372036854775808 ≤ i) (h1 : i ≤ 9223372036854775807) : (itoa i).length ≤ 21 := by
  unfold itoa
  split
  · have := dec_len i.natAbs (by omega)
    rw [List.length_cons]
    omega
  · have := dec_len i.toNat (by omega)
    omega
/-- A table that stays. -/
def TabB (B : Nat) (w : World) : Prop := ∀ w', Below B w w' → TabIs Tryd.prog w' "internal/strconv.uint64pow10" .u64 pow10Tab
theorem TabB.here {B : Nat} {w : World} (h : TabB B w) : TabIs Tryd.prog w "internal/strconv.uint64pow10" .u64 pow10Tab := h w (Below.refl _ _)
theorem TabB.mono {B B' : Nat} {w : World} (h : TabB B w) (hB : B ≤ B') : TabB B' w := fun w' hb => h w' (hb.mono hB)
theorem TabB.on {B : Nat} {w w' : World} (h : TabB B w) (hb : Below B w w') : TabB B w' := fun w2 h2 => h w2 (hb.trans h2)
set_option maxHeartbeats 6400000 in
set_option maxRecDepth 100000 in
theorem aint_any (B : Nat) (i : Int) (h0 : -9223372036854775808 ≤ i) (h1 : i ≤ 9223372036854775807) (v : Value) (xs : List UInt8) (w : World) (h : Ob B 5 w v xs) (hB : B ≤ w.heap.size) (hl : xs.length ≤ 900000) (htab : TabB B w) :
    Calls Tryd.prog 37 #[v, .int .i64 i, .int .i64 10] w fun e w' => ∃ v', e = .returned v' ∧ Ob B 5 w' v' (xs ++ itoa i) ∧ Below B w w' := by
  by_cases hneg : i < 0
  · obtain ⟨u, rfl⟩ : ∃ u : Nat, i = -(u : Int) := ⟨i.natAbs, by omega⟩
    have hu64 : u < 18446744073709551616 := by omega
    have hwr : IntKind.u64.wrap (-IntKind.u64.wrap (-(u : Int))) = (u : Int) := by rw [IntKind.wrap_u64, IntKind.wrap_u64]; omega
    have e1 : xs ++ itoa (-(u : Int)) = (xs ++ [45]) ++ decDigits u := by
      unfold itoa
      rw [if_pos hneg, show (-(u : Int)).natAbs = u by omega]
      simp
    rw [e1]
    have HO := hid (h.alloc (.cells #[.int .u8 45] 5))
    have HBa : Hid (Below B w (w.alloc (.cells #[.int .u8 45] 5))) := hid ((Below.refl B w).alloc hB _)
    have HC : Hid (∀ j u', (Lib.byteCells [(45 : UInt8)])[j]? = some u' → (w.alloc (.cells #[.int .u8 45] 5)).cell? ((⟨w.heap.size, 0, none⟩ : Addr).add j) = some u') := hid (by
      intro j u' hj
      match j, hj with
      | 0, hj =>
        simp [Lib.byteCells] at hj
        subst hj
        exact cell_new w _ 5 0 (by decide))
    have HL : Hid (xs.length + [(45 : UInt8)].length ≤ 140737488355328) := hid (by simp; omega)
    have HT := hid htab
    have HU := hid (fun v' w' (ho : Ob B 5 w' v' (xs ++ [45])) (hb : Below B w w') => auint_any B u hu64 v' (xs ++ [45]) w' ho (Nat.le_trans hB hb.size) (by simp; omega) (htab.on hb).here)
    have hB2 : B ≤ (w.alloc (.cells #[.int .u8 45] 5)).heap.size := by simp; omega
    clear h htab e1 hl
    go_enter Tryd.func37, Tryd.ntmps37
    go_wp2_with (first
      | (at_builtin; refine wpList_ob_slice (ys := [45]) rfl _ _ 52 rfl rfl HO.out Tryd.underlying52 ob_info5 ⟨w.heap.size, 0, none⟩ 1 rfl HC.out HL.out (by simp) hB2 ?_; intro v' w' ho hg; have HO' := hid ho; have HB' := hid (HBa.out.trans (below_grown HO.out hB2 hg)); clear ho hg)
      | (go_at_call 38; (with_reducible refine (HU.out _ _ HO'.out HB'.out).mono ?_); rintro e w2 ⟨v2, rfl, ho2, hb2⟩; have HO2 := hid ho2; have HB2 := hid (HB'.out.trans hb2); clear ho2 hb2))
    go_ret
    exact ⟨_, rfl, HO2.out, HB2.out⟩
  · obtain ⟨u, rfl⟩ : ∃ u : Nat, i = u := ⟨i.toNat, by omega⟩
    have hu64 : u < 18446744073709551616 := by omega
    have hwr : IntKind.u64.wrap (u : Int) = (u : Int) := by rw [IntKind.wrap_u64]; omega
    have e1 : xs ++ itoa (u : Int) = xs ++ decDigits u := by
      unfold itoa
      rw [if_neg hneg, Int.toNat_natCast]
    rw [e1]
    have HU := hid (auint_any B u hu64 v xs w h hB (by omega) htab.here)
    clear h htab e1 hl
    go_enter Tryd.func37, Tryd.ntmps37
    go_wp2_with (go_at_call 38; (with_reducible refine (HU.out).mono ?_); rintro e w2 ⟨v2, rfl, ho2, hb2⟩; have HO2 := hid ho2; have HB2 := hid hb2; clear ho2 hb2)
    go_ret
    exact ⟨_, rfl, HO2.out, HB2.out⟩
theorem sint_any (B : Nat) (i : Int) (h0 : -9223372036854775808 ≤ i) (h1 : i ≤ 9223372036854775807) (v : Value) (xs : List UInt8) (w : World) (h : Ob B 5 w v xs) (hB : B ≤ w.heap.size) (hl : xs.length ≤ 900000) (htab : TabB B w) :
    Calls Tryd.prog 24 #[v, .int .i64 i, .int .i64 10] w fun e w' => ∃ v', e = .returned v' ∧ Ob B 5 w' v' (xs ++ itoa i) ∧ Below B w w' := by
  have HU := hid (aint_any B i h0 h1 v xs w h hB hl htab)
  clear h htab hl
  go_enter Tryd.func24, Tryd.ntmps24
  go_wp2_with (go_at_call 37; (with_reducible refine (HU.out).mono ?_); rintro e w2 ⟨v2, rfl, ho2, hb2⟩; have HO2 := hid ho2; have HB2 := hid hb2; clear ho2 hb2)
  go_ret
  exact ⟨_, rfl, HO2.out, HB2.out⟩
theorem suint_any (B u : Nat) (hu64 : u < 18446744073709551616) (v : Value) (xs : List UInt8) (w : World) (h : Ob B 5 w v xs) (hB : B ≤ w.heap.size) (hl : xs.length ≤ 1000000) (htab : TabB B w) :
    Calls Tryd.prog 25 #[v, .int .u64 (u : Int), .int .i64 10] w fun e w' => ∃ v', e = .returned v' ∧ Ob B 5 w' v' (xs ++ decDigits u) ∧ Below B w w' := by
  have HU := hid (auint_any B u hu64 v xs w h hB hl htab.here)
  clear h htab hl
  go_enter Tryd.func25, Tryd.ntmps25
  go_wp2_with (go_at_call 38; (with_reducible refine (HU.out).mono ?_); rintro e w2 ⟨v2, rfl, ho2, hb2⟩; have HO2 := hid ho2; have HB2 := hid hb2; clear ho2 hb2)
  go_ret
  exact ⟨_, rfl, HO2.out, HB2.out⟩
end Go.Proofs.YthfgpjebmhbedaaDoor
