import Derived.Test.YtfgbcohmbbjagaaKcd
import Derived.Test.YtfgbcohmbbjagaaOvl
namespace Go.Proofs.Ytfgbcohmbbjagaa
open Go.ChangeShapes Go.WideShapes Go.ChangeAt Go.RowKit

/-- Eight bits of a byte, lowest first. -/
def oct (r : Nat) : List Value := [.bool (lf r 0), .bool (lf r 1), .bool (lf r 2), .bool (lf r 3), .bool (lf r 4), .bool (lf r 5), .bool (lf r 6), .bool (lf r 7)]
def oc8 (a b c d e f g h : Bool) : List Value := [.bool a, .bool b, .bool c, .bool d, .bool e, .bool f, .bool g, .bool h]
theorem info4 : (Try.prog.info? 4).map (fun i => (i.zero, i.size, i.bytes)) = some (some (.bool false), 1, 1) := by kernel_rfl
theorem oct_one : oct 1 = oc8 true false false false false false false false := rfl
theorem oct_next {r : Nat} (h : r < 256) : oct (nxt r) = oc8 (lf r 7) (lf r 0) (lf r 1) (lf r 2) (lf r 3 != lf r 7) (lf r 4 != lf r 7) (lf r 5 != lf r 7) (lf r 6) := by
  obtain ⟨h0, h1, h2, h3, h4, h5, h6, h7⟩ := lf_next r h
  unfold oct oc8
  rw [h0, h1, h2, h3, h4, h5, h6, h7]

/-- The row at work: a slice of eight bits. -/
structure BInv (r : Nat) (v : Value) (w wr : World) : Prop where
  row : ∃ g cap, v = .slice (some ⟨g, 0, none⟩) 8 cap ∧ OV w.heap.size 4 wr g cap (oct r)
  low : Below w.heap.size w wr
theorem BInv.start (w : World) : BInv 1 (.slice (some ⟨w.heap.size, 0, none⟩) 8 8) w (w.alloc (.cells #[.bool true, .bool false, .bool false, .bool false, .bool false, .bool false, .bool false, .bool false] 4)) :=
  ⟨⟨w.heap.size, 8, rfl, OV.new w (Nat.le_refl _) _ 8 rfl (by decide)⟩, (Below.refl _ _).alloc (Nat.le_refl _) _⟩

set_option maxRecDepth 100000 in
set_option maxHeartbeats 3200000 in
theorem bit_any (n : Nat) (w : World) (hn : n < 255) :
    Calls Try.prog 24 #[.int .i64 (n : Int)] w fun e w' => e = .returned (.bool (lf (rwN n) 0)) ∧ Below w.heap.size w w' := by
  have HS := hid (BInv.start w)
  have HR := hid rwN_lt
  have HN : Hid (∀ t, rwN (t + 1) = nxt (rwN t)) := hid (fun _ => rfl)
  have hm : (n : Int) % 255 = (n : Int) := by omega
  go_enter Try.func24, Try.ntmps24
  go_wp2
  go_loopw [3, 4] (fun v i wr => ∃ t : Nat, t ≤ n ∧ i = .int .i64 t ∧ BInv (rwN t) v w wr) (fun _ i _ => n - (intOf i).toNat)
  case atStart => exact ⟨0, by omega, rfl, HS.out⟩
  case round =>
    obtain ⟨t, ht, rfl, hI⟩ := hrel
    obtain ⟨⟨g, cap, rfl, hO⟩, hlow⟩ := hI
    have HO := hid hO
    have HL := hid hlow
    by_cases hlt : t < n
    · have hlt8 : (t : Int) < (n : Int) := by omega
      have hc := hO.lt.2.2
      have hcap : 8 ≤ cap := hc
      have hcap7 : (7 : Int) ≤ (cap : Int) := by omega
      have hg := hO.lt.2.1
      have hgB := hO.lt.1
      have k7 := hO.cell (j := 7) rfl
      have HQ := hid (oct_next (HR.out t))
      rw [← HN.out t] at HQ
      have HO1 : Hid (OV w.heap.size 4 wr g cap (oc8 (lf (rwN t) 0) (lf (rwN t) 1) (lf (rwN t) 2) (lf (rwN t) 3) (lf (rwN t) 4) (lf (rwN t) 5) (lf (rwN t) 6) (lf (rwN t) 7))) := hid hO
      clear hO hlow hc HO
      generalize lf (rwN t) 0 = b0 at *
      generalize lf (rwN t) 1 = b1 at *
      generalize lf (rwN t) 2 = b2 at *
      generalize lf (rwN t) 3 = b3 at *
      generalize lf (rwN t) 4 = b4 at *
      generalize lf (rwN t) 5 = b5 at *
      generalize lf (rwN t) 6 = b6 at *
      generalize lf (rwN t) 7 = b7 at *
      have HN1 : Hid (OV w.heap.size 4 (wr.alloc (.cells #[.bool false] 4)) wr.heap.size 1 [.bool false]) := hid (OV.new wr HL.out.size #[.bool false] 1 rfl (by decide))
      have HNB : Hid (Below w.heap.size w (wr.alloc (.cells #[.bool false] 4))) := hid (HL.out.alloc HL.out.size _)
      have HNC : Hid (∀ (j : Nat) (u : Value), ([.bool b0, .bool b1, .bool b2, .bool b3, .bool b4, .bool b5, .bool b6] : List Value)[j]? = some u → (wr.alloc (.cells #[.bool false] 4)).cell? ((⟨g, 0, none⟩ : Addr).add j) = some u) := hid (fun j u hu => by
        rw [add_plain, Nat.zero_add]
        refine (HO1.out.alloc _).cell (j := j) ?_
        rw [← hu]
        have hj : j < 7 := (List.getElem?_eq_some_iff.1 hu).1
        have : j = 0 ∨ j = 1 ∨ j = 2 ∨ j = 3 ∨ j = 4 ∨ j = 5 ∨ j = 6 := by omega
        rcases this with rfl | rfl | rfl | rfl | rfl | rfl | rfl <;> rfl)
      have HN7 : Hid (∀ u ∈ ([.bool b0, .bool b1, .bool b2, .bool b3, .bool b4, .bool b5, .bool b6] : List Value), u.oneCell' = true) := hid (fun u hu => by
        simp only [List.mem_cons, List.not_mem_nil, or_false] at hu
        rcases hu with rfl | rfl | rfl | rfl | rfl | rfl | rfl <;> rfl)
      go_wp2_with (first
        | (at_builtin; refine wpList_append_ov rfl (.tmp 16) (.tmp 18) 43 rfl (.bool false) 1 w.heap.size 4 Try.underlying43 info4 rfl wr.heap.size 1 [.bool false] 1 rfl rfl HN1.out ⟨g, 0, none⟩ 7 cap [.bool b0, .bool b1, .bool b2, .bool b3, .bool b4, .bool b5, .bool b6] rfl rfl HNC.out HN7.out (by decide) (by decide) (by have := HL.out.size; simp; omega) w.heap.size w HNB.out (Nat.le_refl _) ?_; intro g' cap' w2 ho hb hs; have d0 := ho.cell (j := 0) rfl; have d4 := ho.cell (j := 4) rfl; have d5 := ho.cell (j := 5) rfl; have d6 := ho.cell (j := 6) rfl; have hf := ho.free; have hcap2 := ho.lt.2.2; have hg2 := ho.lt.1; have HO2 := hid ho; have HB2 := hid hb; clear ho hb hs))
      go_roundw
      case rel =>
        refine ⟨t + 1, by omega, by go_num, ⟨g', cap', rfl, ?_⟩, (((HB2.out.setCell hg2 _).setCell hg2 _).setCell hg2 _).setCell hg2 _⟩
        rw [HQ.out]
        exact ((((HO2.out.set 0 (.bool b7)).set 4 (.bool (b3 != b7))).set 5 (.bool (b4 != b7))).set 6 (.bool (b5 != b7)))
      case measure => simp [intOf]; omega
    · obtain rfl : t = n := by omega
      have k0 := hO.cell (j := 0) rfl
      clear hO hlow
      go_wp2
      go_ret
      exact ⟨rfl, HL.out⟩
end Go.Proofs.Ytfgbcohmbbjagaa
