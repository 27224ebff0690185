import Derived.Test.YthhkhcacljgelaaGreatProg
import Derived.Test.YthhkhcacljgelaaGreatMac
import Derived.Test.YthhkhcacljgelaaGreatArd
import Derived.Test.YthhkhcacljgelaaGreatCpy
set_option maxRecDepth 100000
/- The document's Block and Masks. -/
namespace Go.Proofs.YthhkhcacljgelaaGreat
open Go.RowKit
set_option maxRecDepth 100000

theorem Ky.block {w : World} {v : Value} {R R1 : Nat} {Y : Nat → Nat → Nat} (h : Ky w v R R1 Y) (f : Nat → Nat) (hf : B16 f) (W : World) (hb : Below w.heap.size w W) :
    Calls Tryz.prog 35 #[v, .agg (ba 16 f)] W fun e w' => e = .returned (.agg (ba 16 (blkF Y R f))) ∧ Below W.heap.size W w' :=
  refblock_any v R R1 Y f W h.num.1 h.num.2.1 h.num.2.2 hf h.yb (fun w' hw => h.exp w' (hb.trans (hw.mono hb.size)))

/-- What is told by the document's Block. -/
def BlkP (w : World) (z : Nat → Nat) (e : Ending) (w' : World) : Prop := ∃ g, e = .returned (.slice (some ⟨g, 0, none⟩) 16 16) ∧ Wd w' 16 g 0 z ∧ w.heap.size ≤ g ∧ Below w.heap.size w w'
set_option maxHeartbeats 800000 in
theorem refblk_any (kv : Value) (R R1 : Nat) (Y : Nat → Nat → Nat) (g off c : Nat) (f : Nat → Nat) (w : World) (hk : Ky w kv R R1 Y) (hf : Wd w 16 g off f) :
    Calls Tryz.prog 52 #[kv, .slice (some ⟨g, off, none⟩) 16 c] w fun e w' => BlkP w (blkF Y R f) e w' := by
  have HA := hid (at_zero w)
  have HL : Hid (Below w.heap.size w (w.alloc (.cells z16 48))) := hid ((Below.refl _ _).alloc (Nat.le_refl _) _)
  have HW := hid hf
  have HB := hid (fun W (h : Below w.heap.size w W) => hk.block f hf.byte W h)
  have HZ := hid (blkF_b hk.yb hf.byte)
  have HA2 : Hid (At ((w.alloc (.cells z16 48)).setRow w.heap.size (ba 16 (fun _ => 0))) w.heap.size 16 48 (fun _ => 0) ∧ Below w.heap.size w ((w.alloc (.cells z16 48)).setRow w.heap.size (ba 16 (fun _ => 0)))) := hid ⟨HA.out.row _, below_setRow HL.out (Nat.le_refl _) _⟩
  clear hk hf
  go_enter Tryz.func52, Tryz.ntmps52
  go_wp2_with (first
    | (refine step_store_ba rfl 48 (.tmp 5) (.tmp 6) rfl w.heap.size 16 48 (fun _ => 0) (fun _ => 0) rfl rfl HA.out infoa ?_
       generalize (w.alloc (.cells z16 48)).setRow w.heap.size (ba 16 (fun _ => 0)) = w1 at *)
    | (refine wpList_copy16 rfl (.tmp 7) (.tmp 8) rfl Tryz.underlying22 (by kernel_rfl) w.heap.size 16 g off c (fun _ => 0) f rfl rfl HA2.out.1 (HW.out.self HA2.out.2) w HA2.out.2 ?_; intro w2 hA2 hb2; have HA3 := hid hA2; have HB3 := hid hb2; clear hA2 hb2)
    | (refine step_load_ba rfl 48 _ rfl w.heap.size 16 48 5 f rfl HA3.out Tryz.underlying48 infoa ?_)
    | (go_at_call 35; (with_reducible refine (HB.out w2 HB3.out).mono ?_); rintro e w3 ⟨rfl, hlow⟩; have HA4 := hid (HA3.out.self hlow); have HB4 := hid (HB3.out.trans (hlow.mono HB3.out.size)); clear hlow)
    | (refine step_store_ba rfl 48 _ _ rfl w.heap.size 16 48 f (blkF Y R f) rfl rfl HA4.out infoa ?_; have HA5 := hid (HA4.out.row (blkF Y R f)); have HB5 := hid (below_setRow HB4.out (Nat.le_refl _) (ba 16 (blkF Y R f)))))
  go_ret
  exact ⟨w.heap.size, rfl, Wd.of_at HA5.out HZ.out, Nat.le_refl _, HB5.out⟩
set_option maxHeartbeats 800000 in
theorem refblk_nil (kv : Value) (R R1 : Nat) (Y : Nat → Nat → Nat) (w : World) (hk : Ky w kv R R1 Y) :
    Calls Tryz.prog 52 #[kv, .slice none 0 0] w fun e w' => BlkP w (blkF Y R (fun _ => 0)) e w' := by
  have HA := hid (at_zero w)
  have HL : Hid (Below w.heap.size w (w.alloc (.cells z16 48))) := hid ((Below.refl _ _).alloc (Nat.le_refl _) _)
  have HB := hid (fun W (h : Below w.heap.size w W) => hk.block (fun _ => 0) B16.zero W h)
  have HZ := hid (blkF_b hk.yb B16.zero)
  have HA2 : Hid (At ((w.alloc (.cells z16 48)).setRow w.heap.size (ba 16 (fun _ => 0))) w.heap.size 16 48 (fun _ => 0) ∧ Below w.heap.size w ((w.alloc (.cells z16 48)).setRow w.heap.size (ba 16 (fun _ => 0)))) := hid ⟨HA.out.row _, below_setRow HL.out (Nat.le_refl _) _⟩
  clear hk
  generalize blkF Y R (fun _ => 0) = z at *
  go_enter Tryz.func52, Tryz.ntmps52
  go_wp2_with (first
    | (refine step_store_ba rfl 48 (.tmp 5) (.tmp 6) rfl w.heap.size 16 48 (fun _ => 0) (fun _ => 0) rfl rfl HA.out infoa ?_
       generalize (w.alloc (.cells z16 48)).setRow w.heap.size (ba 16 (fun _ => 0)) = w1 at *)
    | (refine wpList_copy_nothing rfl (.tmp 7) (.tmp 8) 22 22 rfl 5 Tryz.underlying22 (by kernel_rfl) _ _ _ _ _ _ rfl rfl (by decide) ?_)
    | (refine step_load_ba rfl 48 _ rfl w.heap.size 16 48 5 (fun _ => 0) rfl HA2.out.1 Tryz.underlying48 infoa ?_)
    | (go_at_call 35; (with_reducible refine (HB.out w1 HA2.out.2).mono ?_); rintro e w3 ⟨rfl, hlow⟩; have HA4 := hid (HA2.out.1.self hlow); have HB4 := hid (HA2.out.2.trans (hlow.mono HA2.out.2.size)); clear hlow)
    | (refine step_store_ba rfl 48 _ _ rfl w.heap.size 16 48 (fun _ => 0) z rfl rfl HA4.out infoa ?_; have HA5 := hid (HA4.out.row z); have HB5 := hid (below_setRow HB4.out (Nat.le_refl _) (ba 16 z))))
  go_ret
  exact ⟨w.heap.size, rfl, Wd.of_at HA5.out HZ.out, Nat.le_refl _, HB5.out⟩

theorem refmasks_any (kv : Value) (R R1 : Nat) (Y : Nat → Nat → Nat) (w : World) (hk : Ky w kv R R1 Y) :
    Calls Tryz.prog 51 #[kv] w fun e w' => ∃ g1 c1 g2 c2, e = .returned (.tuple #[.slice (some ⟨g1, 0, none⟩) 16 c1, .slice (some ⟨g2, 0, none⟩) 16 c2]) ∧ Wd w' 16 g1 0 (m1F Y R) ∧ Wd w' 16 g2 0 (m2F Y R) ∧ w.heap.size ≤ g1 ∧ w.heap.size ≤ g2 ∧ Below w.heap.size w w' := by
  have HC := hid (refblk_nil kv R R1 Y w hk)
  have HZ := hid (blkF_b hk.yb B16.zero)
  have HM1 := hid (m1F_b hk.yb)
  have HM2 := hid (m2F_b hk.yb)
  have HE : Hid (dbF (blkF Y R (fun _ => 0)) = m1F Y R ∧ dbF (m1F Y R) = m2F Y R) := hid ⟨rfl, rfl⟩
  generalize blkF Y R (fun _ => 0) = z at *
  generalize m1F Y R = m1 at *
  generalize m2F Y R = m2 at *
  unfold BlkP at HC
  clear hk
  go_enter Tryz.func51, Tryz.ntmps51
  go_wp2_with (first
    | (go_at_call 52; (with_reducible refine HC.out.mono ?_); rintro e w1 ⟨g, rfl, hw, hg, hlow⟩
       have HR1 := hid (hw.rd 16 (by decide))
       have HL1 := hid hlow
       clear hw hg hlow)
    | (go_at_call 66; (with_reducible refine (refdouble_ns (.slice (some ⟨g, 0, none⟩) 16 16) z w1 HR1.out HZ.out).mono ?_); rintro e w3 ⟨g1, c1, rfl, hown, hlow⟩
       rw [HE.out.1] at hown
       have HW3 := hid (wd_own hown HM1.out)
       have HR3 := hid (HW3.out.1.rd c1 (by decide))
       have HL3 := hid hlow
       clear hown hlow)
    | (go_at_call 66; (with_reducible refine (refdouble_ns (.slice (some ⟨g1, 0, none⟩) 16 c1) m1 w3 HR3.out HM1.out).mono ?_); rintro e w4 ⟨g2, c2, rfl, hown, hlow⟩
       rw [HE.out.2] at hown
       have HW4 := hid (wd_own hown HM2.out)
       have HL4 := hid hlow
       clear hown hlow))
  go_ret2
  have h1 := HL1.out.size
  have h3 := HL3.out.size
  exact ⟨g1, c1, g2, c2, rfl, HW3.out.1.self HL4.out, HW4.out.1, Nat.le_trans h1 HW3.out.2, Nat.le_trans (Nat.le_trans h1 h3) HW4.out.2, (HL1.out.trans (HL3.out.mono h1)).trans (HL4.out.mono (Nat.le_trans h1 h3))⟩
end Go.Proofs.YthhkhcacljgelaaGreat

/- The document's Sum. -/
namespace Go.Proofs.YthhkhcacljgelaaGreat
open Go.RowKit
set_option maxRecDepth 100000

theorem refxor_16 (v v' : Value) (x y : Nat → Nat) (w : World) (h : Rd .u8 w v (ns 16 x)) (h' : Rd .u8 w v' (ns 16 y)) (hx : B16 x) (hy : B16 y) :
    Calls Tryz.prog 22 #[v, v'] w fun e w' => ∃ g c, e = .returned (.slice (some ⟨g, 0, none⟩) 16 c) ∧ Wd w' 16 g 0 (xorF x y) ∧ w.heap.size ≤ g ∧ Below w.heap.size w w' := by
  refine (refxor_ns v v' 16 x y w h h' hx hy).mono ?_
  rintro e w' ⟨u, rfl, hown, hlow⟩
  obtain ⟨g, c, rfl, _⟩ := hown.part (by rw [ns_len]; decide)
  rw [ns_len] at hown ⊢
  have := wd_own hown (xorF_16 hx hy)
  exact ⟨g, c, rfl, this.1, this.2, hlow⟩
/-- The document's Sum at work. -/
structure Rs (w wr : World) (kv : Value) (R R1 : Nat) (Y : Nat → Nat → Nat) (g1 g2 gx : Nat) (x : Nat → Nat) : Prop where
  ky : Ky w kv R R1 Y
  m1 : Wd wr 16 g1 0 (m1F Y R)
  m2 : Wd wr 16 g2 0 (m2F Y R)
  xw : Wd wr 16 gx 0 x
  low : Below w.heap.size w wr
section
variable {w wr w' : World} {kv : Value} {R R1 g1 g2 gx : Nat} {Y : Nat → Nat → Nat} {x : Nat → Nat}
theorem Rs.self (h : Rs w wr kv R R1 Y g1 g2 gx x) (hb : Below wr.heap.size wr w') : Rs w w' kv R R1 Y g1 g2 gx x :=
  ⟨h.ky, h.m1.self hb, h.m2.self hb, h.xw.self hb, h.low.trans (hb.mono h.low.size)⟩
theorem Rs.kyr (h : Rs w wr kv R R1 Y g1 g2 gx x) : Ky wr kv R R1 Y := h.ky.later h.low
theorem Rs.next (h : Rs w wr kv R R1 Y g1 g2 gx x) (hb : Below wr.heap.size wr w') {g : Nat} {y : Nat → Nat} (hy : Wd w' 16 g 0 y) : Rs w w' kv R R1 Y g1 g2 g y :=
  ⟨h.ky, h.m1.self hb, h.m2.self hb, hy, h.low.trans (hb.mono h.low.size)⟩
end
theorem own16 {B g c : Nat} {E : TypeId} {w : World} {l : Nat → Nat} {n k : Nat} (h : Own .u8 B E w (.slice (some ⟨g, 0, none⟩) (n + 1 + k) c) ((ns n l ++ [(128 : Int)]) ++ List.replicate k 0)) (hk : n + 1 + k = 16) (hl : ∀ j, j < n → l j < 256) : Wd w 16 g 0 (padF n l) ∧ B ≤ g := by
  rw [pad_ns l hk, hk] at h
  exact wd_own h (fun j _ => padF_b hl j)

/-- What the document's Sum tells. -/
def SumP (w : World) (z : Nat → Nat) (e : Ending) (w' : World) : Prop := ∃ g, e = .returned (.slice (some ⟨g, 0, none⟩) 16 16) ∧ Wd w' 16 g 0 z ∧ w.heap.size ≤ g ∧ Below w.heap.size w w'
set_option maxHeartbeats 3200000 in
theorem refsum_any (kv : Value) (R R1 M e : Nat) (Y : Nat → Nat → Nat) (δ : Nat → Nat) (a : Option Addr) (w : World) (hk : Ky w kv R R1 Y) (hδ : ∀ j, j < M → δ j < 256) (hM : M ≤ e) (hM2 : M ≤ 60000) (hv : Rd .u8 w (.slice a M e) (ns M δ)) :
    Calls Tryz.prog 34 #[kv, .slice a M e] w fun q w' => SumP w (tagF Y R (fun _ => 0) M δ) q w' := by
  have HM := hid (refmasks_any kv R R1 Y w hk)
  have HKY := hid hk
  have HD := hid hδ
  have HV := hid hv
  have HMM := hid (And.intro hM hM2)
  have HZ : Hid (∀ k, 16 * k ≤ M → B16 (cbF Y R (fun _ => 0) δ k)) := hid (fun k h => cbF_b hk.yb B16.zero k (fun j hj => hδ j (by omega)))
  have HB1 := hid (m1F_b hk.yb)
  have HB2 := hid (m2F_b hk.yb)
  have hmk : ∀ W : World, (Instr.makeSlice 22 (.int .i64 16) (.int .i64 16)).run Tryz.prog W = .ok (.slice (some ⟨W.heap.size, 0, none⟩) 16 16) (W.alloc (.cells (madeCells #[.int .u8 0] 16) 5)) := fun W => run_make_ints (P := Tryz.prog) W .u8 .i64 22 5 16 Tryz.underlying22 info8 (by decide) (by decide)
  clear hk hδ hM hM2 hv
  unfold SumP
  go_enter Tryz.func34, Tryz.ntmps34
  go_wp2_with (first
    | (go_at_call 51; (with_reducible refine HM.out.mono ?_); rintro q w1 ⟨g1, c1, g2, c2, rfl, hm1, hm2, hl1, hl2, hlow⟩
       have HI0 : Hid (Rs w (w1.alloc (.cells (madeCells #[.int .u8 0] 16) 5)) kv R R1 Y g1 g2 w1.heap.size (fun _ => 0)) := hid (by
         have h2 := own_made (k := .u8) (B := w1.heap.size) (E := 5) w1 16 (Nat.le_refl _) (by unfold maxLen; omega)
         rw [ns_zero] at h2
         exact ⟨HKY.out, hm1.alloc _, hm2.alloc _, (wd_own h2 (fun _ _ => Nat.zero_lt_succ 255)).1, hlow.alloc hlow.size _⟩)
       clear hm1 hm2 hl1 hl2 hlow))
  clear hmk
  go_loopw [1, 7] (fun mv xv wr => ∃ (k m e1 gx cx : Nat) (a1 : Option Addr), mv = .slice a1 m e1 ∧ xv = .slice (some ⟨gx, 0, none⟩) 16 cx ∧ (16 * k + m = M ∧ (k = 0 ∨ 0 < m) ∧ m ≤ e1) ∧ Rd .u8 w (.slice a1 m e1) (ns m (fun j => δ (16 * k + j))) ∧ Rs w wr kv R R1 Y g1 g2 gx (cbF Y R (fun _ => 0) δ k)) (fun y _ _ => match y with | .slice _ L _ => L | _ => 0)
  case atStart => exact ⟨0, M, e, _, 16, a, rfl, rfl, ⟨by omega, .inl rfl, HMM.out.1⟩, by simpa using HV.out, HI0.out⟩
  case round =>
    obtain ⟨k, m, e1, gx, cx, a1, rfl, rfl, hc, hv, hI⟩ := hrel
    have HI := hid hI
    have HV1 := hid hv
    have HC := hid hc
    clear hI HI0 HM HV
    by_cases hm : 16 < m
    · obtain ⟨a2, c2, e2, -, -, h3⟩ := hv
      injection e2 with e3 e4 e5
      subst e3
      obtain ⟨g, off, rfl, -, -⟩ := h3 (by rw [ns_len]; omega)
      clear h3 e4 e5
      have h1 : (m : Int) > 16 := by omega
      have h2 : (16 : Int) ≤ (e1 : Int) := by omega
      have h3 : (16 : Int) ≤ (m : Int) := by omega
      have h4 : ¬ (e1 : Int) = 16 := by omega
      have h5 : ¬ e1 = 16 := by omega
      have HS := hid (HZ.out k (by omega))
      have HBD : Hid (B16 (fun j => δ (16 * k + j))) := hid (fun j hj => HD.out _ (by omega))
      have HP : Hid (Rd .u8 w (.slice (some ⟨g, off, none⟩) 16 e1) (ns 16 (fun j => δ (16 * k + j)))) := hid (rd_prefix HV1.out (Nat.le_of_lt hm) (by decide))
      have HR : Hid (Rd .u8 w (.slice (some ⟨g, off + 16, none⟩) (m - 16) (e1 - 16)) (ns (m - 16) (fun j => δ (16 * k + (16 + j))))) := hid (rd_suffix HV1.out (Nat.le_of_lt hm))
      have HF : Hid (cbF Y R (fun _ => 0) δ (k + 1) = blkF Y R (xorF (cbF Y R (fun _ => 0) δ k) (fun j => δ (16 * k + j)))) := hid rfl
      have HM16 := hid hm
      clear hc hm
      go_wp2_with (first
        | (go_at_call 22; (with_reducible refine (refxor_16 (.slice (some ⟨gx, 0, none⟩) 16 cx) (.slice (some ⟨g, off, none⟩) 16 e1) _ _ wr (HI.out.xw.rd cx (by decide)) (HP.out.self HI.out.low) HS.out HBD.out).mono ?_); rintro q w2 ⟨gy, cy, rfl, hw2, _, hlow⟩
           have HI2 := hid (HI.out.self hlow)
           have HW2 := hid hw2
           have HBK := hid (refblk_any kv R R1 Y gy 0 cy _ w2 HI2.out.kyr hw2)
           unfold BlkP at HBK
           clear hlow hw2)
        | (go_at_call 52; (with_reducible refine HBK.out.mono ?_); rintro q w3 ⟨gz, rfl, hw3, _, hlow⟩
           have HI3 := hid (HI2.out.next hlow hw3)
           clear hw3 hlow))
      go_roundw
      case rel => exact ⟨k + 1, m - 16, e1 - 16, gz, 16, some ⟨g, off + 16, none⟩, rfl, rfl, by have := HC.out; have := HM16.out; omega, by
        rw [show (fun j => δ (16 * (k + 1) + j)) = (fun j => δ (16 * k + (16 + j))) from funext fun j => by rw [show 16 * (k + 1) + j = 16 * k + (16 + j) by omega]]
        exact HR.out, HI3.out⟩
      case measure => have := HM16.out; show m - 16 < m; omega
    · have hn := bkN_of (k := k) (n := m) (by omega) hc.2.1
      have HTM : Hid (tagF Y R (fun _ => 0) M δ = endF Y R (cbF Y R (fun _ => 0) δ k) m (fun j => δ (16 * k + j))) := hid (by
        unfold tagF
        rw [← hc.1, hn, show 16 * k + m - 16 * k = m by omega])
      have HX := hid (HZ.out k (by omega))
      have HLB : Hid (∀ j, j < m → (fun j => δ (16 * k + j)) j < 256) := hid (fun j hj => HD.out _ (by omega))
      have HLI := hid (show (0 + (ns m (fun j => δ (16 * k + j))).length) * (IntKind.u8.bits / 8) ≤ 140737488355328 by rw [ns_len]; show (0 + m) * 1 ≤ _; omega)
      have HRV := hid ((hv.self HI.out.low).self (w' := wr.alloc (.cells #[] 5)) ((Below.refl _ _).alloc (Nat.le_refl _) _))
      have h1 : ¬ (m : Int) > 16 := by omega
      generalize cbF Y R (fun _ => 0) δ k = x at *
      generalize (fun j => δ (16 * k + j)) = l at *
      clear hc hv HZ HV1 hn
      by_cases h16 : m = 16
      · subst h16
        have HZ2 : Hid (blkF Y R (xorF (xorF x l) (m1F Y R)) = tagF Y R (fun _ => 0) M δ) := hid (by rw [HTM.out, xorF_assoc]; unfold endF; rw [if_neg (by decide)])
        have HLB16 : Hid (B16 l) := hid HLB.out
        clear HTM
        go_wp2_with (first
          | (at_builtin; refine wpList_append_rd rfl (.tmp 26) (.tmp 27) 22 rfl .u8 wr.heap.size 5 Tryz.underlying22 info8 (by decide) _ [] rfl (own_empty wr (Nat.le_refl _)) _ (ns 16 l) rfl HRV.out HLI.out (by simp) wr.heap.size wr ((Below.refl _ _).alloc (Nat.le_refl _) _) (Nat.le_refl _) ?_; intro u w1 hown hlow _; rw [List.nil_append] at hown; obtain ⟨g, cu, rfl, hgB, -, -⟩ := hown.part (by rw [ns_len]; decide); rw [ns_len] at hown ⊢
             have HWL := hid ((wd_own hown HLB.out).1.rd cu (by decide)); have HJ1 := hid (HI.out.self hlow); clear hown hlow)
          | (go_at_call 22; (with_reducible refine (refxor_16 (.slice (some ⟨gx, 0, none⟩) 16 cx) (.slice (some ⟨g, 0, none⟩) 16 cu) x l w1 (HJ1.out.xw.rd cx (by decide)) HWL.out HX.out HLB16.out).mono ?_); rintro q w2 ⟨gy, cy, rfl, hw2, -, hlow⟩
             have HJ2 := hid (HJ1.out.self hlow)
             have HW2 := hid (hw2.rd cy (by decide))
             have HX2 := hid (xorF_16 HX.out HLB16.out)
             clear hlow hw2)
          | (go_at_call 22; (with_reducible refine (refxor_16 (.slice (some ⟨gy, 0, none⟩) 16 cy) (.slice (some ⟨g1, 0, none⟩) 16 c1) (xorF x l) (m1F Y R) w2 HW2.out (HJ2.out.m1.rd c1 (by decide)) HX2.out HB1.out).mono ?_); rintro q w3 ⟨gz, cz, rfl, hw3, -, hlow⟩
             have HJ3 := hid (HJ2.out.self hlow)
             have HBK := hid (refblk_any kv R R1 Y gz 0 cz _ w3 HJ3.out.kyr hw3)
             rw [HZ2.out] at HBK
             unfold BlkP at HBK
             clear hlow hw3)
          | (go_at_call 52; (with_reducible refine HBK.out.mono ?_); rintro q w4 ⟨gf, rfl, hw4, hg4, hlow⟩
             have HE := hid (And.intro hw4 (And.intro (Nat.le_trans HJ3.out.low.size hg4) (HJ3.out.low.trans (hlow.mono HJ3.out.low.size))))
             clear hw4 hg4 hlow))
        go_ret
        exact ⟨gf, rfl, HE.out⟩
      · have h2 : ((m : Int) == 16) = false := by rw [beq_eq_false_iff_ne]; omega
        have HZ2 : Hid (blkF Y R (xorF (xorF x (padF m l)) (m2F Y R)) = tagF Y R (fun _ => 0) M δ) := hid (by rw [HTM.out, xorF_assoc]; unfold endF; rw [if_pos (by omega)])
        have HM16 : Hid (m < 16) := hid (by omega)
        clear HTM
        go_wp2_with (first
          | (at_builtin; refine wpList_append_rd rfl (.tmp 26) (.tmp 27) 22 rfl .u8 wr.heap.size 5 Tryz.underlying22 info8 (by decide) _ [] rfl (own_empty wr (Nat.le_refl _)) _ (ns m l) rfl HRV.out HLI.out (by simp) wr.heap.size wr ((Below.refl _ _).alloc (Nat.le_refl _) _) (Nat.le_refl _) ?_; intro u w1 hown hlow _; rw [List.nil_append] at hown; obtain ⟨pu, cu, rfl⟩ := hown.noRow; rw [ns_len] at hown ⊢
             have HO1 := hid hown; have HL1 := hid hlow; clear hown hlow)
          | (at_builtin; refine wpList_append_ints rfl (.tmp 39) (.tmp 40) 22 rfl .u8 wr.heap.size 5 Tryz.underlying22 info8 (by decide) _ _ rfl (HO1.out.alloc _) ⟨_, 0, none⟩ 1 1 [(128 : Int)] rfl rfl (cell_new_int _ .u8 _ 5) (by rw [ns_len]; have := HM16.out; show (m + 1) * 1 ≤ _; omega) (Nat.le_trans HL1.out.size (by simp)) wr.heap.size wr (HL1.out.alloc HL1.out.size _) (Nat.le_refl _) ?_; intro v' w2 hown' hlow' _
             obtain ⟨g, cg, rfl, -, -, -⟩ := hown'.part (by simp)
             have e : (ns m l ++ [(128 : Int)]).length = m + 1 + 0 := by rw [List.length_append, ns_len]; rfl
             rw [e] at hown' ⊢
             have HO2 : Hid (Own .u8 wr.heap.size 5 w2 (.slice (some ⟨g, 0, none⟩) (m + 1 + 0) cg) ((ns m l ++ [(128 : Int)]) ++ List.replicate 0 0)) := hid (by simpa using hown')
             have HL2 := hid hlow'
             clear hown' hlow' e))
        clear HO1 HL1 HRV HLI
        obtain ⟨wz, rfl⟩ : ∃ wz, wz = wr := ⟨_, rfl⟩
        go_loopw [8] (fun v w3 => ∃ (k1 g cg : Nat), v = .slice (some ⟨g, 0, none⟩) (m + 1 + k1) cg ∧ m + 1 + k1 ≤ 16 ∧ Own .u8 wz.heap.size 5 w3 (.slice (some ⟨g, 0, none⟩) (m + 1 + k1) cg) ((ns m l ++ [(128 : Int)]) ++ List.replicate k1 0) ∧ Below wz.heap.size wz w3) (fun v _ => match v with | .slice _ L _ => 16 - L | _ => 0)
        case atStart => exact ⟨0, g, cg, rfl, by have := HM16.out; omega, HO2.out, HL2.out⟩
        case round =>
          obtain ⟨k1, g, cg, rfl, hk1, hown, hlow⟩ := hrel
          have HO := hid hown
          have HL := hid hlow
          clear hown hlow HO2 HL2
          by_cases h3 : m + 1 + k1 = 16
          · have HZL := hid (own16 HO.out h3 HLB.out)
            rw [h3] at HO ⊢
            have HPB : Hid (B16 (padF m l)) := hid (fun j _ => padF_b HLB.out j)
            have HJ1 := hid (HI.out.self HL.out)
            have HWL := hid (HZL.out.1.rd cg (by decide))
            have HX2 := hid (xorF_16 HX.out HPB.out)
            clear h3 hk1
            go_wp2_with (first
              | (go_at_call 22; (with_reducible refine (refxor_16 (.slice (some ⟨gx, 0, none⟩) 16 cx) (.slice (some ⟨g, 0, none⟩) 16 cg) x (padF m l) wr (HJ1.out.xw.rd cx (by decide)) HWL.out HX.out HPB.out).mono ?_); rintro q w2 ⟨gy, cy, rfl, hw2, -, hlow⟩
                 have HJ2 := hid (HJ1.out.self hlow)
                 have HW2 := hid (hw2.rd cy (by decide))
                 clear hlow hw2)
              | (go_at_call 22; (with_reducible refine (refxor_16 (.slice (some ⟨gy, 0, none⟩) 16 cy) (.slice (some ⟨g2, 0, none⟩) 16 c2) (xorF x (padF m l)) (m2F Y R) w2 HW2.out (HJ2.out.m2.rd c2 (by decide)) HX2.out HB2.out).mono ?_); rintro q w3 ⟨gz, cz, rfl, hw3, -, hlow⟩
                 have HJ3 := hid (HJ2.out.self hlow)
                 have HBK := hid (refblk_any kv R R1 Y gz 0 cz _ w3 HJ3.out.kyr hw3)
                 rw [HZ2.out] at HBK
                 unfold BlkP at HBK
                 clear hlow hw3)
              | (go_at_call 52; (with_reducible refine HBK.out.mono ?_); rintro q w4 ⟨gf, rfl, hw4, hg4, hlow⟩
                 have HE := hid (And.intro hw4 (And.intro (Nat.le_trans HJ3.out.low.size hg4) (HJ3.out.low.trans (hlow.mono HJ3.out.low.size))))
                 clear hw4 hg4 hlow))
            go_ret
            exact ⟨gf, rfl, HE.out⟩
          · have HJ1 := hid (HI.out.self HL.out)
            have h5 : ((m + 1 + k1 : Nat) : Int) < 16 := by omega
            have HK1 : Hid (m + 1 + k1 < 16) := hid (by omega)
            have e : ((ns m l ++ [(128 : Int)]) ++ List.replicate k1 0).length = m + 1 + k1 := by simp [ns_len]; omega
            have HEL := hid e
            clear h3 hk1 e
            generalize hL : (ns m l ++ [(128 : Int)]) ++ List.replicate k1 0 = zs at HO HEL
            have HLL := hid hL
            clear hL
            generalize hq : m + 1 + k1 = qn at *
            have HQ := hid hq
            clear hq
            go_wp2_with (first
              | (at_builtin; refine wpList_append_ints rfl (.tmp 45) (.tmp 46) 22 rfl .u8 wz.heap.size 5 Tryz.underlying22 info8 (by decide) _ zs rfl (HO.out.alloc _) ⟨_, 0, none⟩ 1 1 [(0 : Int)] rfl rfl (cell_new_int _ .u8 _ 5) (by rw [HEL.out]; have := HK1.out; show (qn + 1) * 1 ≤ _; omega) (Nat.le_trans HL.out.size (by simp)) wz.heap.size wz (HL.out.alloc HL.out.size _) (Nat.le_refl _) ?_; intro v' w2 hown' hlow' _
                 obtain ⟨g', cg', rfl, -, -, -⟩ := hown'.part (by simp)
                 have e2 : (zs ++ [(0 : Int)]).length = qn + 1 := by rw [List.length_append, HEL.out]; rfl
                 rw [e2] at hown' ⊢
                 clear e2
                 have HN := hid (And.intro hown' hlow')
                 clear hown' hlow'))
            go_roundw
            case rel =>
              have h1 := HN.out.1
              have e1 : zs ++ [(0 : Int)] = (ns m l ++ [(128 : Int)]) ++ List.replicate (k1 + 1) 0 := by rw [← HLL.out, List.append_assoc, ← List.replicate_succ']
              have e2 : qn + 1 = m + 1 + (k1 + 1) := by have := HQ.out; omega
              rw [e2, e1] at h1
              exact ⟨k1 + 1, g', cg', by rw [e2], by have := HK1.out; have := HQ.out; omega, h1, HN.out.2⟩
            case measure =>
              have := HK1.out
              show 16 - (qn + 1) < 16 - qn
              omega
end Go.Proofs.YthhkhcacljgelaaGreat
