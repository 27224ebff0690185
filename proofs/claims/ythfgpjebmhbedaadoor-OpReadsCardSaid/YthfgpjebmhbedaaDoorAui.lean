import Derived.Test.YthfgpjebmhbedaaDoorProg
import Derived.Test.YthfgpjebmhbedaaDoorShf
import Derived.Test.YthfgpjebmhbedaaDoorObw
import Derived.Lib.ItoaWalk
import Derived.Lib.ItoaMem
/- Op: strconv.AppendUint and AppendInt, at a row that the call owns, whatever is frozen behind its end. -/
namespace Go.Proofs.YthfgpjebmhbedaaDoor
open Go.RowKit Go.Sort Go.Lib
theorem ob_info5 : (Tryd.prog.info? 5).map (fun i => (i.zero, i.size, i.bytes)) = some (some (.int .u8 0), 1, 1) := by kernel_rfl
theorem below_grown {B : Nat} {E : TypeId} {w w' : World} {v : Value} {xs : List UInt8} (h : Ob B E w v xs) (hB : B ≤ w.heap.size) (hg : w.grownBy w' v.ownBlock) : Below B w w' := (Below.refl B _).grown hg hB (fun k hk => (h.lt k hk).1)
theorem dec_len (u : Nat) (h : u < 18446744073709551616) : (decDigits u).length ≤ 20 := by
  rw [decDigits_length]
  by_cases h1 : 1 ≤ u
  · have := numDigits_eq u h1 h
    split at this <;> omega
  · obtain rfl : u = 0 := by omega
    rw [nDigits_small (by omega)]; omega
set_option maxHeartbeats 3200000 in
set_option maxRecDepth 100000 in
theorem auint_small (B u : Nat) (hu : u < 100) (v : Value) (xs : List UInt8) (w : World) (h : Ob B 5 w v xs) (hB : B ≤ w.heap.size) (hl : xs.length ≤ 1000000) :
    Calls Tryd.prog 38 #[v, .int .u64 (u : Int), .int .i64 10] w fun e w' => ∃ v', e = .returned v' ∧ Ob B 5 w' v' (xs ++ decDigits u) ∧ Below B w w' := by
  have HS := hid (Tryd.internal_strconv_small u hu)
  have hd := dec_len u (by omega)
  have HO := hid h
  have HF := hid (fun w' (hg : w.grownBy w' v.ownBlock) => below_grown h hB hg)
  have iu : (u : Int) < 100 := by omega
  have iw : IntKind.i64.wrap (u : Int) = (u : Int) := by rw [IntKind.wrap_i64]; omega
  have HL : Hid (xs.length + (sB (decDigits u)).size ≤ 140737488355328) := hid (by rw [sB_size]; omega)
  clear h hd
  go_enter Tryd.func38, Tryd.ntmps38
  go_wp2_with (first
    | (go_at_call 46; (refine (HS.out _).mono ?_); rintro e w' ⟨rfl, rfl⟩)
    | (at_builtin; refine wpList_ob_string rfl _ _ 52 9 rfl rfl HO.out Tryd.underlying52 Tryd.underlying9 ob_info5 (sB (decDigits u)) rfl HL.out hB ?_; intro v' w' ho hg; have HO' := hid ho; have HG := hid hg; clear ho hg))
  go_ret
  exact ⟨_, rfl, HO'.out, HF.out _ HG.out⟩
set_option maxHeartbeats 6400000 in
set_option maxRecDepth 100000 in
theorem auint_big (B u : Nat) (hu : 100 ≤ u) (hu64 : u < 18446744073709551616) (v : Value) (xs : List UInt8) (w : World) (h : Ob B 5 w v xs) (hB : B ≤ w.heap.size) (hl : xs.length ≤ 1000000) (htab : TabIs Tryd.prog w "internal/strconv.uint64pow10" .u64 pow10Tab) :
    Calls Tryd.prog 38 #[v, .int .u64 (u : Int), .int .i64 10] w fun e w' => ∃ v', e = .returned v' ∧ Ob B 5 w' v' (xs ++ decDigits u) ∧ Below B w w' := by
  have hu1 : 1 ≤ u := by omega
  have hd := dec_len u hu64
  have hnd20 : nDigits u ≤ 20 := by rw [← decDigits_length]; exact hd
  have hal : Tryd.prog.arrayLen 71 = 24 := by kernel_rfl
  have hsl : ∀ W, (Instr.sliceAt 71 (.pointer (some ⟨w.heap.size, 0, none⟩)) none (some (.int .i64 (nDigits u : Int))) none).run Tryd.prog W = .ok (.slice (some ⟨w.heap.size, 0, none⟩) (nDigits u) 24) W := fun W => by
    rw [run_sliceAt_array_h W 71 ⟨w.heap.size, 0, none⟩ (by simp [Program.arrayLen, Program.elem, Tryd.underlying71]) .i64 (nDigits u : Int) (by omega) (by rw [hal]; omega)]
    go_simp
  have hH0 := holds_zero0 w 71 (nDigits u) (by omega)
  have hfmt := Tryd.internal_strconv_formatBase10 w.heap.size 0 24 u (Array.replicate (nDigits u) 0) (w.alloc (.cells zeros24 71)) hH0 (by rw [Array.size_replicate]; exact lt_pow_nDigits u) hu64 (by rw [Array.size_replicate]; omega)
  rw [Array.size_replicate] at hfmt
  have HF := hid hfmt
  have HN := hid (Tryd.internal_strconv_numDigits u hu1 hu64 _ (tabIs_alloc htab (.cells zeros24 71)))
  have HH0 := hid hH0
  have iu : (100 : Int) ≤ (u : Int) := by omega
  have HO := hid h
  clear hH0 hal hfmt htab h
  go_enter Tryd.func38, Tryd.ntmps38
  go_wp2_with (first
    | (go_at_call 47; (refine (HN.out).mono ?_); rintro e w' ⟨rfl, rfl⟩)
    | (go_at_call 48; (refine (HF.out).mono ?_); rintro e w' ⟨rfl, k, v', dk, rfl, hF⟩; have HFm := hid hF; clear hF; refine Hid.out ?_))
  refine hid ?_
  have hF := HFm.out
  have hcells : ∀ j u', (Lib.byteCells (decDigits u))[j]? = some u' → ((putRow (fun (b : UInt8) => Value.int .u8 (b.toNat : Int)) (w.alloc (.cells zeros24 71)) w.heap.size 0 dk).drewN k).cell? ((⟨w.heap.size, 0, none⟩ : Addr).add j) = some u' := by
    intro j u' hj
    have hjl : j < (decDigits u).length := by
      have h5 := (List.getElem?_eq_some_iff.1 hj).1
      rwa [Lib.byteCells_length] at h5
    have e5 : (Lib.byteCells (decDigits u))[j]? = some (Value.int .u8 ((decDigits u)[j].toNat : Int)) := by simp [Lib.byteCells, hjl]
    rw [e5] at hj
    cases hj
    rw [row_is_numeral hF j hjl, Addr.add_lit, World.cell?_drewN]
    exact cell?_putRow (fun (b : UInt8) => Value.int .u8 (b.toNat : Int)) _ w.heap.size 0 _ dk HH0.out (by rw [hF.size, Array.size_replicate]) j (by rw [hF.size]; rw [decDigits_length] at hjl; exact hjl)
  obtain ⟨os, eo⟩ := fin_at w (.cells zeros24 71) dk k 0
  have hbw : Below w.heap.size w ((putRow (fun (b : UInt8) => Value.int .u8 (b.toNat : Int)) (w.alloc (.cells zeros24 71)) w.heap.size 0 dk).drewN k) := by rw [eo]; exact below_grow w.heap.size w (Nat.le_refl _) k os
  generalize (putRow (fun (b : UInt8) => Value.int .u8 (b.toNat : Int)) (w.alloc (.cells zeros24 71)) w.heap.size 0 dk).drewN k = W2 at *
  have HO2 := hid (HO.out.self hbw)
  have HB2 := hid hbw
  have hB2 : B ≤ W2.heap.size := Nat.le_trans hB hbw.size
  have HC := hid hcells
  have HL : Hid (xs.length + (decDigits u).length ≤ 140737488355328) := hid (by omega)
  have HE : Hid (decDigits u ≠ []) := hid (dec_ne u)
  have HD : Hid (nDigits u = (decDigits u).length) := hid (decDigits_length u).symm
  clear eo hF hbw hcells HH0 HFm HF HN
  go_wp2_with (at_builtin; refine wpList_ob_slice (ys := decDigits u) rfl _ _ 52 rfl rfl HO2.out Tryd.underlying52 ob_info5 ⟨w.heap.size, 0, none⟩ 24 (by rw [← HD.out]; rfl) HC.out HL.out HE.out hB2 ?_; intro v' w' ho hg; have HO' := hid ho; have HG := hid hg; clear ho hg)

  go_ret
  exact ⟨_, rfl, HO'.out, (HB2.out.mono hB).trans (below_grown HO2.out hB2 HG.out)⟩
theorem auint_any (B u : Nat) (hu64 : u < 18446744073709551616) (v : Value) (xs : List UInt8) (w : World) (h : Ob B 5 w v xs) (hB : B ≤ w.heap.size) (hl : xs.length ≤ 1000000) (htab : TabIs Tryd.prog w "internal/strconv.uint64pow10" .u64 pow10Tab) :
    Calls Tryd.prog 38 #[v, .int .u64 (u : Int), .int .i64 10] w fun e w' => ∃ v', e = .returned v' ∧ Ob B 5 w' v' (xs ++ decDigits u) ∧ Below B w w' := by
  by_cases hu : u < 100
  · exact auint_small B u hu v xs w h hB hl
  · exact auint_big B u (by omega) hu64 v xs w h hB hl htab
end Go.Proofs.YthfgpjebmhbedaaDoor
