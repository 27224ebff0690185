import Derived.Test.YthhkhcacljgelaaGreatProg
import Derived.Test.YthhkhcacljgelaaGreatMae
import Derived.Test.YthhkhcacljgelaaGreatMad
import Derived.Test.YthhkhcacljgelaaGreatMac
set_option maxRecDepth 100000
/- Tags by names, the document's and the program's; Says and Begins. -/
namespace Go.Proofs.YthhkhcacljgelaaGreat
open Go.RowKit
set_option maxRecDepth 100000

/-- A name's block: 15 bytes 0, and t. -/
def nameF (t : Nat) : Nat → Nat := fun j => if j = 15 then t else 0
theorem nameF_b {t : Nat} (h : t < 256) : B16 (nameF t) := fun j _ => by unfold nameF; split; exact h; decide
theorem ns_name (t : Nat) : ns 15 (fun _ => 0) ++ [(t : Int)] = ns 16 (nameF t) := by
  rw [← ns_snoc 15 (nameF t), ns_ext (n := 15) (f := nameF t) (g := fun _ => 0) (fun j hj => if_neg (by omega))]
  rfl
set_option maxHeartbeats 800000 in
theorem refnamed_any (kv : Value) (R R1 M e t : Nat) (Y : Nat → Nat → Nat) (δ : Nat → Nat) (a : Option Addr) (w : World) (hk : Ky w kv R R1 Y) (ht : t < 256) (hδ : ∀ j, j < M → δ j < 256) (hM2 : M ≤ 50000) (hv : Rd .u8 w (.slice a M e) (ns M δ)) :
    Calls Tryz.prog 23 #[kv, .int .u8 t, .slice a M e] w fun q w' => SumP w (tagF Y R (fun _ => 0) (16 + M) (thenF 16 (nameF t) δ)) q w' := by
  have HKY := hid hk
  have hmk : (Instr.makeSlice 22 (.int .i64 15) (.int .i64 15)).run Tryz.prog w = .ok (.slice (some ⟨w.heap.size, 0, none⟩) 15 15) (w.alloc (.cells (madeCells #[.int .u8 0] 15) 5)) := run_make_ints (P := Tryz.prog) w .u8 .i64 22 5 15 Tryz.underlying22 info8 (by decide) (by decide)
  have h2 := own_made (k := .u8) (B := w.heap.size) (E := 5) w 15 (Nat.le_refl _) (by unfold maxLen; omega)
  rw [ns_zero] at h2
  have hb1 : Below w.heap.size w (w.alloc (.cells (madeCells #[.int .u8 0] 15) 5)) := (Below.refl _ _).alloc (Nat.le_refl _) _
  have hb2 : Below w.heap.size w ((w.alloc (.cells (madeCells #[.int .u8 0] 15) 5)).alloc (.cells #[.int .u8 t] 5)) := hb1.alloc hb1.size _
  have HO := hid (h2.alloc (.cells #[.int .u8 t] 5))
  have HB2 := hid hb2
  have hcn := cell_new_int (w.alloc (.cells (madeCells #[.int .u8 0] 15) 5)) .u8 t 5
  rw [World.size_alloc] at hcn
  have HCN := hid hcn
  clear hcn
  have HV := hid hv
  have HTB := hid (thenF_b (N := 16) (L := M) (nameF_b ht) hδ)
  have HMM := hid hM2
  clear h2 hb1 hb2 hk ht hδ hM2 hv
  unfold SumP
  go_enter Tryz.func23, Tryz.ntmps23
  go_wp2_with (first
    | (at_builtin; refine wpList_append_ints rfl (.tmp 8) (.tmp 10) 22 rfl .u8 w.heap.size 5 Tryz.underlying22 info8 (by decide) _ _ rfl HO.out ⟨w.heap.size + 1, 0, none⟩ 1 1 [(t : Int)] rfl rfl HCN.out (by rw [ns_len]; decide) HB2.out.size w.heap.size w HB2.out (Nat.le_refl _) ?_; intro v1 w2 hown hlow _
       rw [ns_name] at hown
       have HO1 := hid hown
       have HL1 := hid hlow
       have HV1 := hid (HV.out.self hlow)
       clear hown hlow)
    | (at_builtin; refine wpList_append_rd rfl (.tmp 13) (.tmp 14) 22 rfl .u8 w.heap.size 5 Tryz.underlying22 info8 (by decide) v1 _ rfl HO1.out (.slice a M e) _ rfl HV1.out (by rw [ns_len, ns_len]; have := HMM.out; show (16 + M) * 1 ≤ _; omega) HL1.out.size w.heap.size w HL1.out (Nat.le_refl _) ?_; intro v2 w3 hown hlow _
       rw [ns_then] at hown
       have HO2 := hid hown
       have HL2 := hid hlow
       obtain ⟨g2, c2, rfl, -, -, -⟩ := hown.part (by rw [ns_len]; omega)
       rw [ns_len] at HO2 hown ⊢
       obtain ⟨p4, c4, e4, hc4, -⟩ := hown.slice
       have hcc : 16 + M ≤ c2 := by injection e4 with _ _ e5; rw [ns_len] at hc4; omega
       have HS := hid (refsum_any kv R R1 (16 + M) c2 Y (thenF 16 (nameF t) δ) _ w3 (HKY.out.later hlow) HTB.out hcc (by have := HMM.out; omega) ((wd_own hown HTB.out).1.rd c2 (by have := HMM.out; omega)))
       unfold SumP at HS
       clear hown hlow e4 hc4 hcc)
    | (go_at_call 34; (with_reducible refine HS.out.mono ?_); rintro q w4 ⟨g, rfl, hw, hg, hlow⟩
       have HE := hid (And.intro hw (And.intro (Nat.le_trans HL2.out.size hg) (HL2.out.trans (hlow.mono HL2.out.size))))
       clear hw hg hlow))
  go_ret
  exact ⟨g, rfl, HE.out⟩

theorem Te.ext {w w' : World} {d b c cap R R1 g : Nat} {Y : Nat → Nat → Nat} {z z' : Nat → Nat} (h : Te w w' d b c cap R R1 Y g z) (e : Eq16 z z') : Te w w' d b c cap R R1 Y g z' := ⟨h.gc, h.low, h.tag.ext e, h.new⟩
theorem Mw.start {w w' : World} {d b c cap R R1 : Nat} {Y : Nat → Nat → Nat} (h : Gc w d b c cap R R1 Y) (hb : Below w.heap.size w w') (hm : MAt w' w.heap.size d (fun _ => 0) (.slice none 0 0) 0) :
    Mw w' w.heap.size d b c cap R R1 Y (fun _ => 0) none 0 0 (fun _ => 0) 0 (fun _ => 0) :=
  ⟨hm, h.self hb, kb_zero _ _ _, Nat.le_refl _, Mst.start _ _, B16.zero, fun j hj => absurd hj (by omega), by have h1 := h.lt; have h2 := h.ci.blk.lt; have h3 := h.ci.rows.lt; omega, fun j hj => absurd hj (by omega)⟩
theorem name_ba (t : Nat) : (#[.int .u8 0, .int .u8 0, .int .u8 0, .int .u8 0, .int .u8 0, .int .u8 0, .int .u8 0, .int .u8 0, .int .u8 0, .int .u8 0, .int .u8 0, .int .u8 0, .int .u8 0, .int .u8 0, .int .u8 0, .int .u8 t] : Array Value) = ba 16 (nameF t) := by kernel_rfl
theorem then_none (f g : Nat → Nat) : thenF 0 f g = g := funext fun j => by unfold thenF; rw [if_neg (by omega), Nat.sub_zero]
theorem bx1_zero (w : World) : At (w.alloc (.cells z16 48)) w.heap.size 16 48 (fun _ => 0) ∧ Below w.heap.size w (w.alloc (.cells z16 48)) := ⟨at_zero w, (Below.refl _ _).alloc (Nat.le_refl _) _⟩
set_option maxHeartbeats 1600000 in
theorem named_any (d b c cap R R1 M e t : Nat) (Y : Nat → Nat → Nat) (δ : Nat → Nat) (a : Option Addr) (w : World) (h : Gc w d b c cap R R1 Y) (ht : t < 256) (hδ : ∀ j, j < M → δ j < 256) (hM : M ≤ e) (hM2 : M ≤ 50000) (hv : Kept b w (.slice a M e) (ns M δ)) :
    Calls Tryz.prog 17 #[.pointer (some ⟨d, 0, none⟩), .int .u8 t, .slice a M e] w fun q w' => ∃ g, q = .returned (.slice (some ⟨g, 0, none⟩) 16 16) ∧ Te w w' d b c cap R R1 Y g (tagF Y R (fun _ => 0) (16 + M) (thenF 16 (nameF t) δ)) := by
  have HG := hid h
  have HA := hid (bx1_zero w)
  have HB : Hid (∀ j, j < 16 → nameF t j < 256) := hid (nameF_b ht)
  have HA1 : Hid (At ((w.alloc (.cells z16 48)).setRow w.heap.size (ba 16 (nameF t))) w.heap.size 16 48 (nameF t) ∧ Below w.heap.size w ((w.alloc (.cells z16 48)).setRow w.heap.size (ba 16 (nameF t)))) := hid ⟨HA.out.1.row _, below_setRow HA.out.2 (Nat.le_refl _) _⟩
  have HV := hid hv
  have HD := hid hδ
  have HM := hid (And.intro hM hM2)
  have HLT := hid h.lt
  have HNM := hid (name_ba t)
  clear h ht hδ hM hM2 hv
  go_enter Tryz.func17, Tryz.ntmps17
  go_wp2_with (first
    | (refine step_store_ba rfl 48 (.tmp 7) (.tmp 10) rfl w.heap.size 16 48 (fun _ => 0) (nameF t) rfl (congrArg Value.agg HNM.out) HA.out.1 infoa ?_
       generalize (w.alloc (.cells z16 48)).setRow w.heap.size (ba 16 (nameF t)) = w1 at *)
    | (go_at_call 29; (with_reducible refine (mnew_any d w1).mono ?_); rintro q w2 ⟨rfl, hm, hlow⟩
       have HG1 := hid (HG.out.self HA1.out.2)
       have HM2 := hid (Mw.start HG1.out hlow hm)
       have HL2 := hid (HA1.out.2.trans (hlow.mono HA1.out.2.size))
       have HN2 := hid HA1.out.2.size
       have HK2 : Hid (Kb b w1.heap.size w2 (.slice (some ⟨w.heap.size, 0, none⟩) 16 16) (ns 16 (nameF t))) := hid (kb_wd (Wd.of_at (HA1.out.1.self hlow) HB.out) (by have := HLT.out; omega) (by have := HA1.out.1.lt; omega) (by decide))
       generalize w1.heap.size = mb at *
       clear hm hlow)
    | (go_at_call 30; (with_reducible refine (write_any w2 mb d b c cap R R1 0 0 0 16 16 Y (fun _ => 0) (fun _ => 0) (fun _ => 0) (nameF t) none _ HM2.out HK2.out (by decide) HB.out (by decide)).mono ?_); rintro q w3 ⟨rfl, x3, a3, n3, e3, l3, hm3, ho3, -⟩
       rw [Nat.zero_add, then_none] at hm3
       have HM3 := hid hm3
       have HO3 := hid (((But.self HL2.out).trans ho3).only HN2.out)
       have HK3 : Hid (Kb b mb w3 (.slice a M e) (ns M δ)) := hid (fun W hW => HV.out W ((((But.self HL2.out).trans ho3).trans hW).only HN2.out))
       clear hm3 ho3)
    | (go_at_call 30; (with_reducible refine (write_any w3 mb d b c cap R R1 n3 e3 16 M e Y x3 l3 (nameF t) δ a3 a HM3.out HK3.out HM.out.1 HD.out (by have := HM.out; omega)).mono ?_); rintro q w4 ⟨rfl, x4, a4, n4, e4, l4, hm4, ho4, -⟩
       have HM4 := hid hm4
       have HO4 := hid (((But.of HO3.out).trans ho4).only HN2.out)
       clear hm4 ho4)
    | (go_at_call 31; (with_reducible refine (tag_any w4 mb d b c cap R R1 n4 e4 (16 + M) Y x4 l4 (thenF 16 (nameF t) δ) a4 HM4.out).mono ?_); rintro q w5 ⟨g, z, rfl, ht, hz⟩
       have HE : Hid (Te w w5 d b c cap R R1 Y g (tagF Y R (fun _ => 0) (16 + M) (thenF 16 (nameF t) δ))) := hid ⟨ht.gc, HO4.out.trans ht.low, ht.tag.ext hz, Nat.le_trans HO4.out.size ht.new⟩
       clear ht hz))
  go_ret
  exact ⟨g, rfl, HE.out⟩
end Go.Proofs.YthhkhcacljgelaaGreat

/- Says and Begins. -/
namespace Go.Proofs.YthhkhcacljgelaaGreat
open Go.RowKit
set_option maxRecDepth 100000

/-- Does z, of 16 bytes, begin with L bytes τ? -/
def saysB (z : Nat → Nat) (L : Nat) (τ : Nat → Nat) : Bool := decide (1 ≤ L ∧ L ≤ 16 ∧ ns L z = ns L τ)
theorem says_none {z τ : Nat → Nat} {L : Nat} (h : L = 0 ∨ 16 < L) : saysB z L τ = false := decide_eq_false (by omega)
theorem says_some {z τ : Nat → Nat} {L : Nat} (h1 : 0 < L) (h2 : L ≤ 16) : saysB z L τ = decide (ns L z = ns L τ) := by
  unfold saysB
  exact decide_eq_decide.2 ⟨fun h => h.2.2, fun h => ⟨h1, h2, h⟩⟩
theorem says_self {z : Nat → Nat} {L : Nat} (h2 : L ≤ 16) : saysB z L z = decide (0 < (L : Int)) := by
  unfold saysB
  exact decide_eq_decide.2 ⟨fun h => by omega, fun h => ⟨by omega, h2, rfl⟩⟩
theorem osame_ns (v v' : Value) (L : Nat) (x y : Nat → Nat) (w : World) (h : Rd .u8 w v (ns L x)) (h' : Rd .u8 w v' (ns L y)) (hx : ∀ j, j < L → x j < 256) (hy : ∀ j, j < L → y j < 256) :
    Calls Tryz.prog 21 #[v, v'] w fun e w' => e = .returned (.bool (decide (ns L x = ns L y))) ∧ Below w.heap.size w w' := by
  have := same_any v v' _ _ w h h'
  rwa [same_math (bs_ns hx) (bs_ns hy)] at this
end Go.Proofs.YthhkhcacljgelaaGreat
