import Derived.Test.YthcjgjhoifnpjaaProg
import Derived.Test.YthcjgjhoifnpjaaKmd
/- Kmac: KmacTells, over the calls' contracts. -/
namespace Go.Proofs.Ythcjgjhoifnpjaa
open Go.RowKit
set_option maxRecDepth 100000

/-- Is it more than is gone through? -/
def grB (Lk Lm Lc : Nat) (n : Int) : Bool := decide (400 < Lk ∨ 500 < Lm ∨ 300 < Lc ∨ (600 < n ∧ n ≤ 65536))
theorem kgreat_any (b n : Int) (a0 a1 a2 : Option Addr) (L0 L1 L2 c0 c1 c2 : Nat) (f : Bool) (w : World) :
    Calls Try.prog 5 #[.agg #[.int .i64 b, .int .i64 n, .slice a0 L0 c0, .slice a1 L1 c1, .slice a2 L2 c2, .bool f]] w fun e w' => e = .returned (.bool (grB L0 L1 L2 n)) ∧ Below w.heap.size w w' := by
  have HB : Hid (Below w.heap.size w (w.alloc (.cells #[.int .i64 b, .int .i64 n, .slice a0 L0 c0, .slice a1 L1 c1, .slice a2 L2 c2, .bool f] 24))) := hid ((Below.refl _ _).alloc (Nat.le_refl _) _)
  by_cases h0 : 400 < L0
  · have e : grB L0 L1 L2 n = true := decide_eq_true (by omega)
    rw [e]; clear e
    have g0 : (400 : Int) < (L0 : Int) := by omega
    go_enter Try.func5, Try.ntmps5
    go_wp2
    go_ret
    exact ⟨rfl, HB.out⟩
  have g0 : ¬ (400 : Int) < (L0 : Int) := by omega
  by_cases h1 : 500 < L1
  · have e : grB L0 L1 L2 n = true := decide_eq_true (by omega)
    rw [e]; clear e
    have g1 : (500 : Int) < (L1 : Int) := by omega
    clear h0
    go_enter Try.func5, Try.ntmps5
    go_wp2
    go_ret
    exact ⟨rfl, HB.out⟩
  have g1 : ¬ (500 : Int) < (L1 : Int) := by omega
  by_cases h2 : 300 < L2
  · have e : grB L0 L1 L2 n = true := decide_eq_true (by omega)
    rw [e]; clear e
    have g2 : (300 : Int) < (L2 : Int) := by omega
    clear h0 h1
    go_enter Try.func5, Try.ntmps5
    go_wp2
    go_ret
    exact ⟨rfl, HB.out⟩
  have g2 : ¬ (300 : Int) < (L2 : Int) := by omega
  by_cases h3 : 600 < n
  · by_cases h4 : n ≤ 65536
    · have e : grB L0 L1 L2 n = true := decide_eq_true (by omega)
      rw [e]; clear e
      clear h0 h1 h2
      go_enter Try.func5, Try.ntmps5
      go_wp2
      go_ret
      exact ⟨rfl, HB.out⟩
    · have e : grB L0 L1 L2 n = false := decide_eq_false (by omega)
      rw [e]; clear e
      clear h0 h1 h2
      go_enter Try.func5, Try.ntmps5
      go_wp2
      go_ret
      exact ⟨rfl, HB.out⟩
  · have e : grB L0 L1 L2 n = false := decide_eq_false (by omega)
    rw [e]; clear e
    clear h0 h1 h2
    go_enter Try.func5, Try.ntmps5
    go_wp2
    go_ret
    exact ⟨rfl, HB.out⟩

theorem head_ex : (hdL 128 (List.replicate 32 0)).length = 168 ∧ nth (hdL 128 (List.replicate 32 0)) 0 = 1 ∧ nth (hdL 128 (List.replicate 32 0)) 1 = 168 ∧ nth (hdL 128 (List.replicate 32 0)) 2 = 2 ∧ nth (hdL 128 (List.replicate 32 0)) 3 = 1 ∧ nth (hdL 128 (List.replicate 32 0)) 4 = 0 := by decide +kernel
theorem kawake_any (w : World) : Calls Try.prog 6 #[] w fun e w' => e = .returned (.bool true) ∧ Below w.heap.size w w' := by
  have hmk : (Instr.makeSlice 22 (.int .i64 32) (.int .i64 32)).run Try.prog w = .ok (.slice (some ⟨w.heap.size, 0, none⟩) 32 32) (w.alloc (.cells (madeCells #[.int .u8 0] 32) 5)) := make_row 32 (by decide) w
  have HR : Hid (RdC (w.alloc (.cells (madeCells #[.int .u8 0] 32) 5)) (.slice (some ⟨w.heap.size, 0, none⟩) 32 32) (List.replicate 32 0)) := hid
    ⟨(own_made (E := 5) w 32 (Nat.le_refl _) (by decide)).rd (by decide) (fun z h => by rw [(List.mem_replicate.1 h).2]; rfl), fun a n c e => by injection e with e1 e2 e3; subst e2 e3; exact ⟨Nat.le_refl _, by decide⟩⟩
  have HB : Hid (Below w.heap.size w (w.alloc (.cells (madeCells #[.int .u8 0] 32) 5))) := hid ((Below.refl _ _).alloc (Nat.le_refl _) _)
  have HC := hid (khead_i 128 _ _ _ HR.out (by decide))
  rw [show chE 128 0 = 0 from rfl] at HC
  have HE := hid head_ex
  generalize hdL 128 (List.replicate 32 0) = X at *
  generalize w.alloc (.cells (madeCells #[.int .u8 0] 32) 5) = wa at *
  go_enter Try.func6, Try.ntmps6
  go_wp2_with (first
    | (go_at_call 7; (with_reducible refine (HC.out).mono ?_); rintro e w1 ⟨u, rfl, ho, hl⟩
       obtain ⟨g, c, rfl, _, _, hc, _⟩ := ho.part (by rw [HE.out.1]; decide)
       have hc0 := hc 0 (by rw [HE.out.1]; decide); have hc1 := hc 1 (by rw [HE.out.1]; decide); have hc2 := hc 2 (by rw [HE.out.1]; decide); have hc3 := hc 3 (by rw [HE.out.1]; decide); have hc4 := hc 4 (by rw [HE.out.1]; decide)
       rw [HE.out.2.1] at hc0; rw [HE.out.2.2.1] at hc1; rw [HE.out.2.2.2.1] at hc2; rw [HE.out.2.2.2.2.1] at hc3; rw [HE.out.2.2.2.2.2] at hc4; rw [HE.out.1]
       have HL := hid (HB.out.trans (hl.mono HB.out.size)); clear hc ho hl))
  go_ret
  exact ⟨rfl, HL.out⟩

/-- The boxed argument, and what lies below. -/
structure Xb (w wr : World) (b n : Int) (v0 v1 v2 : Value) (f : Bool) : Prop where
  blk : wr.heap[w.heap.size]? = some (.cells #[.int .i64 b, .int .i64 n, v0, v1, v2, .bool f] 24 (0, 0))
  low : Below w.heap.size w wr
theorem Xb.start (w : World) (b n : Int) (v0 v1 v2 : Value) (f : Bool) : Xb w (w.alloc (.cells #[.int .i64 b, .int .i64 n, v0, v1, v2, .bool f] 24)) b n v0 v1 v2 f := ⟨heap_alloc_new w _, (Below.refl _ _).alloc (Nat.le_refl _) _⟩
theorem Xb.self {w wr w' : World} {b n : Int} {v0 v1 v2 : Value} {f : Bool} (h : Xb w wr b n v0 v1 v2 f) (hb : Below wr.heap.size wr w') : Xb w w' b n v0 v1 v2 f :=
  ⟨(hb.block _ (Array.getElem?_eq_some_iff.1 h.blk).1).trans h.blk, h.low.trans (hb.mono h.low.size)⟩
theorem Xb.cells {w wr : World} {b n : Int} {v0 v1 v2 : Value} {f : Bool} (h : Xb w wr b n v0 v1 v2 f) :
    wr.cell? ⟨w.heap.size, 0, none⟩ = some (.int .i64 b) ∧ wr.cell? ⟨w.heap.size, 1, none⟩ = some (.int .i64 n) ∧ wr.cell? ⟨w.heap.size, 2, none⟩ = some v0 ∧ wr.cell? ⟨w.heap.size, 3, none⟩ = some v1 ∧ wr.cell? ⟨w.heap.size, 4, none⟩ = some v2 ∧ wr.cell? ⟨w.heap.size, 5, none⟩ = some (.bool f) := by
  refine ⟨?_, ?_, ?_, ?_, ?_, ?_⟩ <;> (rw [cell_of_row _ _ _ _ _ _ h.blk]; rfl)
set_option maxHeartbeats 1600000 in
theorem ktells_a (b n : Int) (a0 a1 a2 at_ : Option Addr) (L0 L1 L2 Lt c0 c1 c2 ct : Nat) (f : Bool) (z0 z1 z2 zt : List Int) (w : World) (r0 : RdC w (.slice a0 L0 c0) z0) (r1 : RdC w (.slice a1 L1 c1) z1) (r2 : RdC w (.slice a2 L2 c2) z2) (rt : RdC w (.slice at_ Lt ct) zt) (l0 : z0.length = L0 ∧ L0 ≤ 400) (l1 : z1.length = L1 ∧ L1 ≤ 500) (l2 : z2.length = L2 ∧ L2 ≤ 300) (lt : zt.length = Lt ∧ Lt ≤ 600) (hg : grB L0 L1 L2 n = false) (hb : ¬ chE b 0 = 0) :
    Calls Try.prog 3 #[.agg #[.int .i64 b, .int .i64 n, .slice a0 L0 c0, .slice a1 L1 c1, .slice a2 L2 c2, .bool f], .slice at_ Lt ct] w fun e w' => e = .returned (.bool true) ∧ Below w.heap.size w w' := by
  have HX0 := hid (Xb.start w b n (.slice a0 L0 c0) (.slice a1 L1 c1) (.slice a2 L2 c2) f)
  have HG := hid (fun w => kgreat_any b n a0 a1 a2 L0 L1 L2 c0 c1 c2 f w)
  rw [hg] at HG
  have HW0 := hid (And.intro r0 (And.intro r1 (And.intro r2 rt)))
  have HHd := hid (fun w (h : RdC w (.slice a0 L0 c0) z0) => khead_i b _ z0 w h (by omega))
  have HSu := hid (fun w (h0 : RdC w (.slice a0 L0 c0) z0) (h1 : RdC w (.slice a1 L1 c1) z1) (h2 : RdC w (.slice a2 L2 c2) z2) => ksum_o b n _ _ _ z0 z1 z2 f w h0 h1 h2 (by omega) (by omega) (by omega))
  have HSy := hid (fun w (h0 : RdC w (.slice a0 L0 c0) z0) (h1 : RdC w (.slice a1 L1 c1) z1) (h2 : RdC w (.slice a2 L2 c2) z2) (h3 : RdC w (.slice at_ Lt ct) zt) => ksays_i b _ _ _ _ z0 z1 z2 zt w h0 h1 h2 h3 (by omega) (by omega) (by omega) (by omega))
  have HC0 := hid (fun w => refkcheck_any b 0 w)
  have HCn := hid (fun w => refkcheck_any b n w)
  have hb1 := chE_no hb
  have hb2 : chE b n = 1 := chE_no (fun h => hb (chE_more h))
  have hsy : sayB b z0 z1 z2 zt = false := decide_eq_false (fun h => hb h.1)
  rw [hsy] at HSy
  rw [hb1] at HC0
  rw [hb2] at HCn
  have HHd : Hid (∀ w, RdC w (.slice a0 L0 c0) z0 → Calls Try.prog 7 #[.int .i64 b, .slice a0 L0 c0] w fun e w' => OwE w [] 1 e w') := hid fun w h => by have := HHd.out w h; rwa [hdL, if_neg hb, hb1] at this
  have HSu : Hid (∀ w, RdC w (.slice a0 L0 c0) z0 → RdC w (.slice a1 L1 c1) z1 → RdC w (.slice a2 L2 c2) z2 → Calls Try.prog 8 #[.int .i64 b, .slice a0 L0 c0, .slice a1 L1 c1, .slice a2 L2 c2, .int .i64 n, .bool f] w fun e w' => OwE w [] 1 e w') := hid fun w h0 h1 h2 => by have := HSu.out w h0 h1 h2; rwa [ksL, if_neg (by rw [hb2]; decide), hb2] at this
  have HDr : Hid (∀ (w : World) (B : Nat) (u : Value), Own .u8 B 5 w u [] → Rd .u8 w u []) := hid fun w B u h => h.rd (by decide) (fun z hz => by cases hz)
  have HSr := HDr
  clear hb hb1 hb2 hsy
  have g6 : ¬ (600 : Int) < (Lt : Int) := by omega
  clear r0 r1 r2 rt l0 l1 l2 lt hg
  go_enter Try.func3, Try.ntmps3
  go_wp2_with (first
    | (go_at_call 5; (with_reducible refine (HG.out _).mono ?_); rintro e w1 ⟨rfl, hl⟩; have HX1 := hid (HX0.out.self hl); obtain ⟨k0, k1, k2, k3, k4, k5⟩ := HX1.out.cells; clear hl)
    | (go_at_call 7; (with_reducible refine (HHd.out w1 (HW0.out.1.self HX1.out.low)).mono ?_); rintro e w2 ⟨u, rfl, ho, hl⟩; have HX2 := hid (HX1.out.self hl); obtain ⟨k0, k1, k2, k3, k4, k5⟩ := HX2.out.cells; have HD2 := hid (HDr.out w2 _ _ ho); obtain ⟨p1, q1, rfl, _⟩ := ho.slice; clear ho hl)
    | (go_at_call 8; (with_reducible refine (HSu.out w2 (HW0.out.1.self HX2.out.low) (HW0.out.2.1.self HX2.out.low) (HW0.out.2.2.1.self HX2.out.low)).mono ?_); rintro e w3 ⟨u, rfl, ho, hl⟩; have HX3 := hid (HX2.out.self hl); obtain ⟨k0, k1, k2, k3, k4, k5⟩ := HX3.out.cells; have HD3 := hid (HD2.out.self hl); have HS3 := hid (HSr.out w3 _ _ ho); obtain ⟨p2, q2, rfl, _⟩ := ho.slice; clear ho hl)
    | (go_at_call 9; (with_reducible refine (HC0.out w3).mono ?_); rintro e w3 ⟨rfl, rfl⟩)
    | (go_at_call 9; (with_reducible refine (HCn.out w3).mono ?_); rintro e w3 ⟨rfl, rfl⟩)
    | (go_at_call 13; (with_reducible refine (HSy.out w3 (HW0.out.1.self HX3.out.low) (HW0.out.2.1.self HX3.out.low) (HW0.out.2.2.1.self HX3.out.low) (HW0.out.2.2.2.self HX3.out.low)).mono ?_); rintro e w7 ⟨rfl, hl⟩; have HX7 := hid (HX3.out.self hl); clear hl)
    | (go_at_call 6; (with_reducible refine (kawake_any w7).mono ?_); rintro e w9 ⟨rfl, hl9⟩; have HW9 := hid (HX7.out.low.trans (hl9.mono HX7.out.low.size)); clear hl9))
  go_ret
  exact ⟨rfl, HW9.out⟩
set_option maxHeartbeats 1600000 in
theorem ktells_b0 (b n : Int) (a0 a1 a2 at_ : Option Addr) (L0 L1 L2 Lt c0 c1 c2 ct : Nat) (f : Bool) (z0 z1 z2 zt : List Int) (w : World) (r0 : RdC w (.slice a0 L0 c0) z0) (r1 : RdC w (.slice a1 L1 c1) z1) (r2 : RdC w (.slice a2 L2 c2) z2) (rt : RdC w (.slice at_ Lt ct) zt) (l0 : z0.length = L0 ∧ L0 ≤ 400) (l1 : z1.length = L1 ∧ L1 ≤ 500) (l2 : z2.length = L2 ∧ L2 ≤ 300) (lt : zt.length = Lt ∧ Lt ≤ 600) (hg : grB L0 L1 L2 n = false) (hb : chE b 0 = 0) (hn : ¬ chE b n = 0) (h0 : Lt = 0) :
    Calls Try.prog 3 #[.agg #[.int .i64 b, .int .i64 n, .slice a0 L0 c0, .slice a1 L1 c1, .slice a2 L2 c2, .bool f], .slice at_ Lt ct] w fun e w' => e = .returned (.bool true) ∧ Below w.heap.size w w' := by
  have HX0 := hid (Xb.start w b n (.slice a0 L0 c0) (.slice a1 L1 c1) (.slice a2 L2 c2) f)
  have HG := hid (fun w => kgreat_any b n a0 a1 a2 L0 L1 L2 c0 c1 c2 f w)
  rw [hg] at HG
  have HW0 := hid (And.intro r0 (And.intro r1 (And.intro r2 rt)))
  have HHd := hid (fun w (h : RdC w (.slice a0 L0 c0) z0) => khead_i b _ z0 w h (by omega))
  have HSu := hid (fun w (h0 : RdC w (.slice a0 L0 c0) z0) (h1 : RdC w (.slice a1 L1 c1) z1) (h2 : RdC w (.slice a2 L2 c2) z2) => ksum_o b n _ _ _ z0 z1 z2 f w h0 h1 h2 (by omega) (by omega) (by omega))
  have HSy := hid (fun w (h0 : RdC w (.slice a0 L0 c0) z0) (h1 : RdC w (.slice a1 L1 c1) z1) (h2 : RdC w (.slice a2 L2 c2) z2) (h3 : RdC w (.slice at_ Lt ct) zt) => ksays_i b _ _ _ _ z0 z1 z2 zt w h0 h1 h2 h3 (by omega) (by omega) (by omega) (by omega))
  have HC0 := hid (fun w => refkcheck_any b 0 w)
  have HCn := hid (fun w => refkcheck_any b n w)
  obtain ⟨q, m0, hq, hq2, -, -⟩ := chE_q hb
  rw [hb] at HC0
  have hn1 := chE_no hn
  rw [hn1] at HCn
  have hle := cpd_le (zs := sto z0) (n := 8 * q) (by omega) (by have := sto_le5 (z := z0) (by omega); omega)
  have hs5 := sto_le5 (z := z0) (by omega)
  have HRh := hid (fun w (h : Rd .u8 w (.slice a0 L0 c0) z0) => refkhead_any b (8 * q) _ z0 w hq (by omega) h (by omega))
  have hbw : ∀ z ∈ cpd (sto z0) (8 * q), (Lit.int .u8 z).wf = true := cpd_wf (by omega) (sto_wf5 (by omega) (wfs_of r0.rd))
  have HHd : Hid (∀ w, RdC w (.slice a0 L0 c0) z0 → Calls Try.prog 7 #[.int .i64 b, .slice a0 L0 c0] w fun e w' => OwE w (cpd (sto z0) (8 * q)) 0 e w') := hid fun w h => by have := HHd.out w h; rwa [hdL, if_pos hb, hb, hq, Int.toNat_natCast] at this
  obtain ⟨HL, hHL⟩ : ∃ HL, cpd (sto z0) (8 * q) = HL := ⟨_, rfl⟩
  rw [hHL] at HHd HRh hle hbw
  have HDr : Hid (∀ (w : World) (B : Nat) (u : Value), Own .u8 B 5 w u HL → Rd .u8 w u HL) := hid fun w B u h => h.rd (by show _ * 1 ≤ _; omega) hbw
  have HSu : Hid (∀ w, RdC w (.slice a0 L0 c0) z0 → RdC w (.slice a1 L1 c1) z1 → RdC w (.slice a2 L2 c2) z2 → Calls Try.prog 8 #[.int .i64 b, .slice a0 L0 c0, .slice a1 L1 c1, .slice a2 L2 c2, .int .i64 n, .bool f] w fun e w' => OwE w [] 1 e w') := hid fun w h0 h1 h2 => by have := HSu.out w h0 h1 h2; rwa [ksL, if_neg hn, hn1] at this
  have HSr : Hid (∀ (w : World) (B : Nat) (u : Value), Own .u8 B 5 w u [] → Rd .u8 w u []) := hid fun w B u h => h.rd (by decide) (fun z hz => by cases hz)
  have hsy : sayB b z0 z1 z2 zt = false := decide_eq_false (fun h => by omega)
  rw [hsy] at HSy
  have g0 : ¬ (0 : Int) < (Lt : Int) := by omega
  clear hb hn h0 hsy hn1 hq hq2 hle hs5 hbw hHL
  have g6 : ¬ (600 : Int) < (Lt : Int) := by omega
  clear r0 r1 r2 rt l0 l1 l2 lt hg
  go_enter Try.func3, Try.ntmps3
  go_wp2_with (first
    | (go_at_call 5; (with_reducible refine (HG.out _).mono ?_); rintro e w1 ⟨rfl, hl⟩; have HX1 := hid (HX0.out.self hl); obtain ⟨k0, k1, k2, k3, k4, k5⟩ := HX1.out.cells; clear hl)
    | (go_at_call 7; (with_reducible refine (HHd.out w1 (HW0.out.1.self HX1.out.low)).mono ?_); rintro e w2 ⟨u, rfl, ho, hl⟩; have HX2 := hid (HX1.out.self hl); obtain ⟨k0, k1, k2, k3, k4, k5⟩ := HX2.out.cells; have HD2 := hid (HDr.out w2 _ _ ho); obtain ⟨p1, q1, rfl, _⟩ := ho.slice; clear ho hl)
    | (go_at_call 8; (with_reducible refine (HSu.out w2 (HW0.out.1.self HX2.out.low) (HW0.out.2.1.self HX2.out.low) (HW0.out.2.2.1.self HX2.out.low)).mono ?_); rintro e w3 ⟨u, rfl, ho, hl⟩; have HX3 := hid (HX2.out.self hl); obtain ⟨k0, k1, k2, k3, k4, k5⟩ := HX3.out.cells; have HD3 := hid (HD2.out.self hl); have HS3 := hid (HSr.out w3 _ _ ho); obtain ⟨p2, q2, rfl, _⟩ := ho.slice; clear ho hl)
    | (go_at_call 9; (with_reducible refine (HC0.out w3).mono ?_); rintro e w3 ⟨rfl, rfl⟩)
    | (go_at_call 9; (with_reducible refine (HCn.out w3).mono ?_); rintro e w3 ⟨rfl, rfl⟩)
    | (go_at_call 11; (with_reducible refine (HRh.out w3 (HW0.out.1.self HX3.out.low).rd).mono ?_); rintro e w4 ⟨u, rfl, ho, hl⟩; have HX4 := hid (HX3.out.self hl); obtain ⟨k0, k1, k2, k3, k4, k5⟩ := HX4.out.cells; have HS4 := hid (HS3.out.self hl); have HSm := hid (same_ns _ _ _ _ w4 (HD3.out.self hl) (HDr.out w4 _ _ ho) rfl); clear ho hl)
    | (go_at_call 10; (with_reducible refine (HSm.out).mono ?_); rintro e w4 ⟨rfl, rfl⟩)
    | (go_at_call 13; (with_reducible refine (HSy.out w4 (HW0.out.1.self HX4.out.low) (HW0.out.2.1.self HX4.out.low) (HW0.out.2.2.1.self HX4.out.low) (HW0.out.2.2.2.self HX4.out.low)).mono ?_); rintro e w7 ⟨rfl, hl⟩; have HX7 := hid (HX4.out.self hl); clear hl)
    | (go_at_call 6; (with_reducible refine (kawake_any w7).mono ?_); rintro e w9 ⟨rfl, hl9⟩; have HW9 := hid (HX7.out.low.trans (hl9.mono HX7.out.low.size)); clear hl9))
  go_ret
  exact ⟨rfl, HW9.out⟩
set_option maxHeartbeats 1600000 in
theorem ktells_b1 (b n : Int) (a0 a1 a2 at_ : Option Addr) (L0 L1 L2 Lt c0 c1 c2 ct : Nat) (f : Bool) (z0 z1 z2 zt : List Int) (w : World) (r0 : RdC w (.slice a0 L0 c0) z0) (r1 : RdC w (.slice a1 L1 c1) z1) (r2 : RdC w (.slice a2 L2 c2) z2) (rt : RdC w (.slice at_ Lt ct) zt) (l0 : z0.length = L0 ∧ L0 ≤ 400) (l1 : z1.length = L1 ∧ L1 ≤ 500) (l2 : z2.length = L2 ∧ L2 ≤ 300) (lt : zt.length = Lt ∧ Lt ≤ 600) (hg : grB L0 L1 L2 n = false) (hb : chE b 0 = 0) (hn : ¬ chE b n = 0) (h0 : 0 < Lt) :
    Calls Try.prog 3 #[.agg #[.int .i64 b, .int .i64 n, .slice a0 L0 c0, .slice a1 L1 c1, .slice a2 L2 c2, .bool f], .slice at_ Lt ct] w fun e w' => e = .returned (.bool true) ∧ Below w.heap.size w w' := by
  have HX0 := hid (Xb.start w b n (.slice a0 L0 c0) (.slice a1 L1 c1) (.slice a2 L2 c2) f)
  have HG := hid (fun w => kgreat_any b n a0 a1 a2 L0 L1 L2 c0 c1 c2 f w)
  rw [hg] at HG
  have HW0 := hid (And.intro r0 (And.intro r1 (And.intro r2 rt)))
  have HHd := hid (fun w (h : RdC w (.slice a0 L0 c0) z0) => khead_i b _ z0 w h (by omega))
  have HSu := hid (fun w (h0 : RdC w (.slice a0 L0 c0) z0) (h1 : RdC w (.slice a1 L1 c1) z1) (h2 : RdC w (.slice a2 L2 c2) z2) => ksum_o b n _ _ _ z0 z1 z2 f w h0 h1 h2 (by omega) (by omega) (by omega))
  have HSy := hid (fun w (h0 : RdC w (.slice a0 L0 c0) z0) (h1 : RdC w (.slice a1 L1 c1) z1) (h2 : RdC w (.slice a2 L2 c2) z2) (h3 : RdC w (.slice at_ Lt ct) zt) => ksays_i b _ _ _ _ z0 z1 z2 zt w h0 h1 h2 h3 (by omega) (by omega) (by omega) (by omega))
  have HC0 := hid (fun w => refkcheck_any b 0 w)
  have HCn := hid (fun w => refkcheck_any b n w)
  obtain ⟨q, m0, hq, hq2, -, -⟩ := chE_q hb
  rw [hb] at HC0
  have hn1 := chE_no hn
  rw [hn1] at HCn
  have hle := cpd_le (zs := sto z0) (n := 8 * q) (by omega) (by have := sto_le5 (z := z0) (by omega); omega)
  have hs5 := sto_le5 (z := z0) (by omega)
  have HRh := hid (fun w (h : Rd .u8 w (.slice a0 L0 c0) z0) => refkhead_any b (8 * q) _ z0 w hq (by omega) h (by omega))
  have hbw : ∀ z ∈ cpd (sto z0) (8 * q), (Lit.int .u8 z).wf = true := cpd_wf (by omega) (sto_wf5 (by omega) (wfs_of r0.rd))
  have HHd : Hid (∀ w, RdC w (.slice a0 L0 c0) z0 → Calls Try.prog 7 #[.int .i64 b, .slice a0 L0 c0] w fun e w' => OwE w (cpd (sto z0) (8 * q)) 0 e w') := hid fun w h => by have := HHd.out w h; rwa [hdL, if_pos hb, hb, hq, Int.toNat_natCast] at this
  obtain ⟨HL, hHL⟩ : ∃ HL, cpd (sto z0) (8 * q) = HL := ⟨_, rfl⟩
  rw [hHL] at HHd HRh hle hbw
  have HDr : Hid (∀ (w : World) (B : Nat) (u : Value), Own .u8 B 5 w u HL → Rd .u8 w u HL) := hid fun w B u h => h.rd (by show _ * 1 ≤ _; omega) hbw
  have HSu : Hid (∀ w, RdC w (.slice a0 L0 c0) z0 → RdC w (.slice a1 L1 c1) z1 → RdC w (.slice a2 L2 c2) z2 → Calls Try.prog 8 #[.int .i64 b, .slice a0 L0 c0, .slice a1 L1 c1, .slice a2 L2 c2, .int .i64 n, .bool f] w fun e w' => OwE w [] 1 e w') := hid fun w h0 h1 h2 => by have := HSu.out w h0 h1 h2; rwa [ksL, if_neg hn, hn1] at this
  have HSr : Hid (∀ (w : World) (B : Nat) (u : Value), Own .u8 B 5 w u [] → Rd .u8 w u []) := hid fun w B u h => h.rd (by decide) (fun z hz => by cases hz)
  have hcl : chE b (Lt : Int) = 0 := by
    unfold chE at hb ⊢
    by_cases h3 : (b ≠ 128 ∧ b ≠ 256) ∨ (0 : Int) < 0 ∨ 65536 < (0 : Int)
    · rw [if_pos h3] at hb; exact absurd hb (by decide)
    · rw [if_neg (by omega)]
  have hsy : sayB b z0 z1 z2 zt = decide (kmL z0 z1 z2 (8 * q) Lt (8 * Lt) = zt) := by
    unfold sayB
    rw [lt.1, ksL, if_pos hcl, hq, Int.toNat_natCast, Int.toNat_natCast]
    simp [hb, h0]
  have HRt := hid (fun w (h0 : Rd .u8 w (.slice a0 L0 c0) z0) (h1 : Rd .u8 w (.slice a1 L1 c1) z1) (h2 : Rd .u8 w (.slice a2 L2 c2) z2) => refksum_len b q Lt _ _ _ z0 z1 z2 w hq hq2 h0 h1 h2 (by omega) (by omega) (by omega) (by omega))
  rw [hsy] at HSy
  generalize kmL z0 z1 z2 (8 * q) Lt (8 * Lt) = TL at *
  have g0 : (0 : Int) < (Lt : Int) := by omega
  clear hb hn h0 hsy hn1 hcl hq hq2 hle hs5 hbw hHL
  have g6 : ¬ (600 : Int) < (Lt : Int) := by omega
  clear r0 r1 r2 rt l0 l1 l2 lt hg
  go_enter Try.func3, Try.ntmps3
  go_wp2_with (first
    | (go_at_call 5; (with_reducible refine (HG.out _).mono ?_); rintro e w1 ⟨rfl, hl⟩; have HX1 := hid (HX0.out.self hl); obtain ⟨k0, k1, k2, k3, k4, k5⟩ := HX1.out.cells; clear hl)
    | (go_at_call 7; (with_reducible refine (HHd.out w1 (HW0.out.1.self HX1.out.low)).mono ?_); rintro e w2 ⟨u, rfl, ho, hl⟩; have HX2 := hid (HX1.out.self hl); obtain ⟨k0, k1, k2, k3, k4, k5⟩ := HX2.out.cells; have HD2 := hid (HDr.out w2 _ _ ho); obtain ⟨p1, q1, rfl, _⟩ := ho.slice; clear ho hl)
    | (go_at_call 8; (with_reducible refine (HSu.out w2 (HW0.out.1.self HX2.out.low) (HW0.out.2.1.self HX2.out.low) (HW0.out.2.2.1.self HX2.out.low)).mono ?_); rintro e w3 ⟨u, rfl, ho, hl⟩; have HX3 := hid (HX2.out.self hl); obtain ⟨k0, k1, k2, k3, k4, k5⟩ := HX3.out.cells; have HD3 := hid (HD2.out.self hl); have HS3 := hid (HSr.out w3 _ _ ho); obtain ⟨p2, q2, rfl, _⟩ := ho.slice; clear ho hl)
    | (go_at_call 9; (with_reducible refine (HC0.out w3).mono ?_); rintro e w3 ⟨rfl, rfl⟩)
    | (go_at_call 9; (with_reducible refine (HCn.out w3).mono ?_); rintro e w3 ⟨rfl, rfl⟩)
    | (go_at_call 11; (with_reducible refine (HRh.out w3 (HW0.out.1.self HX3.out.low).rd).mono ?_); rintro e w4 ⟨u, rfl, ho, hl⟩; have HX4 := hid (HX3.out.self hl); obtain ⟨k0, k1, k2, k3, k4, k5⟩ := HX4.out.cells; have HS4 := hid (HS3.out.self hl); have HSm := hid (same_ns _ _ _ _ w4 (HD3.out.self hl) (HDr.out w4 _ _ ho) rfl); clear ho hl)
    | (go_at_call 10; (with_reducible refine (HSm.out).mono ?_); rintro e w4 ⟨rfl, rfl⟩)
    | (go_at_call 12; (with_reducible refine (HRt.out w4 (HW0.out.1.self HX4.out.low).rd (HW0.out.2.1.self HX4.out.low).rd (HW0.out.2.2.1.self HX4.out.low).rd).mono ?_); rintro e w6 ⟨u, rfl, ho, hl⟩; have HX6 := hid (HX4.out.self hl); obtain ⟨k0, k1, k2, k3, k4, k5⟩ := HX6.out.cells; have HSt := hid (refsame_any _ _ _ _ w6 ho (HW0.out.2.2.2.self HX6.out.low).rd); clear ho hl)
    | (go_at_call 10; (with_reducible refine (HSt.out).mono ?_); rintro e w6 ⟨rfl, rfl⟩)
    | (go_at_call 13; (with_reducible refine (HSy.out w6 (HW0.out.1.self HX6.out.low) (HW0.out.2.1.self HX6.out.low) (HW0.out.2.2.1.self HX6.out.low) (HW0.out.2.2.2.self HX6.out.low)).mono ?_); rintro e w7 ⟨rfl, hl⟩; have HX7 := hid (HX6.out.self hl); clear hl)
    | (go_at_call 6; (with_reducible refine (kawake_any w7).mono ?_); rintro e w9 ⟨rfl, hl9⟩; have HW9 := hid (HX7.out.low.trans (hl9.mono HX7.out.low.size)); clear hl9))
  go_ret
  exact ⟨rfl, HW9.out⟩
set_option maxHeartbeats 1600000 in
theorem ktells_c0 (b n : Int) (a0 a1 a2 at_ : Option Addr) (L0 L1 L2 Lt c0 c1 c2 ct : Nat) (f : Bool) (z0 z1 z2 zt : List Int) (w : World) (r0 : RdC w (.slice a0 L0 c0) z0) (r1 : RdC w (.slice a1 L1 c1) z1) (r2 : RdC w (.slice a2 L2 c2) z2) (rt : RdC w (.slice at_ Lt ct) zt) (l0 : z0.length = L0 ∧ L0 ≤ 400) (l1 : z1.length = L1 ∧ L1 ≤ 500) (l2 : z2.length = L2 ∧ L2 ≤ 300) (lt : zt.length = Lt ∧ Lt ≤ 600) (hg : grB L0 L1 L2 n = false) (hb : chE b 0 = 0) (hn : chE b n = 0) (h0 : Lt = 0) :
    Calls Try.prog 3 #[.agg #[.int .i64 b, .int .i64 n, .slice a0 L0 c0, .slice a1 L1 c1, .slice a2 L2 c2, .bool f], .slice at_ Lt ct] w fun e w' => e = .returned (.bool true) ∧ Below w.heap.size w w' := by
  have HX0 := hid (Xb.start w b n (.slice a0 L0 c0) (.slice a1 L1 c1) (.slice a2 L2 c2) f)
  have HG := hid (fun w => kgreat_any b n a0 a1 a2 L0 L1 L2 c0 c1 c2 f w)
  rw [hg] at HG
  have HW0 := hid (And.intro r0 (And.intro r1 (And.intro r2 rt)))
  have HHd := hid (fun w (h : RdC w (.slice a0 L0 c0) z0) => khead_i b _ z0 w h (by omega))
  have HSu := hid (fun w (h0 : RdC w (.slice a0 L0 c0) z0) (h1 : RdC w (.slice a1 L1 c1) z1) (h2 : RdC w (.slice a2 L2 c2) z2) => ksum_o b n _ _ _ z0 z1 z2 f w h0 h1 h2 (by omega) (by omega) (by omega))
  have HSy := hid (fun w (h0 : RdC w (.slice a0 L0 c0) z0) (h1 : RdC w (.slice a1 L1 c1) z1) (h2 : RdC w (.slice a2 L2 c2) z2) (h3 : RdC w (.slice at_ Lt ct) zt) => ksays_i b _ _ _ _ z0 z1 z2 zt w h0 h1 h2 h3 (by omega) (by omega) (by omega) (by omega))
  have HC0 := hid (fun w => refkcheck_any b 0 w)
  have HCn := hid (fun w => refkcheck_any b n w)
  obtain ⟨q, m0, hq, hq2, -, -⟩ := chE_q hb
  rw [hb] at HC0
  rw [hn] at HCn
  have hle := cpd_le (zs := sto z0) (n := 8 * q) (by omega) (by have := sto_le5 (z := z0) (by omega); omega)
  have hs5 := sto_le5 (z := z0) (by omega)
  have HRh := hid (fun w (h : Rd .u8 w (.slice a0 L0 c0) z0) => refkhead_any b (8 * q) _ z0 w hq (by omega) h (by omega))
  have hbw : ∀ z ∈ cpd (sto z0) (8 * q), (Lit.int .u8 z).wf = true := cpd_wf (by omega) (sto_wf5 (by omega) (wfs_of r0.rd))
  have HHd : Hid (∀ w, RdC w (.slice a0 L0 c0) z0 → Calls Try.prog 7 #[.int .i64 b, .slice a0 L0 c0] w fun e w' => OwE w (cpd (sto z0) (8 * q)) 0 e w') := hid fun w h => by have := HHd.out w h; rwa [hdL, if_pos hb, hb, hq, Int.toNat_natCast] at this
  obtain ⟨HL, hHL⟩ : ∃ HL, cpd (sto z0) (8 * q) = HL := ⟨_, rfl⟩
  rw [hHL] at HHd HRh hle hbw
  have HDr : Hid (∀ (w : World) (B : Nat) (u : Value), Own .u8 B 5 w u HL → Rd .u8 w u HL) := hid fun w B u h => h.rd (by show _ * 1 ≤ _; omega) hbw
  obtain ⟨q', m, hq', -, rfl, hm⟩ := chE_q hn
  have HSu : Hid (∀ w, RdC w (.slice a0 L0 c0) z0 → RdC w (.slice a1 L1 c1) z1 → RdC w (.slice a2 L2 c2) z2 → Calls Try.prog 8 #[.int .i64 b, .slice a0 L0 c0, .slice a1 L1 c1, .slice a2 L2 c2, .int .i64 (m : Int), .bool f] w fun e w' => OwE w (kmL z0 z1 z2 (8 * q) m (if f then 0 else 8 * m)) 0 e w') := hid fun w h0 h1 h2 => by have := HSu.out w h0 h1 h2; rwa [ksL, if_pos hn, hn, hq, Int.toNat_natCast, Int.toNat_natCast] at this
  have HRs : Hid (∀ w, Rd .u8 w (.slice a0 L0 c0) z0 → Rd .u8 w (.slice a1 L1 c1) z1 → Rd .u8 w (.slice a2 L2 c2) z2 → Calls Try.prog 12 #[.int .i64 b, .slice a0 L0 c0, .slice a1 L1 c1, .slice a2 L2 c2, .int .i64 (m : Int), .bool f] w fun e w' => RdP w (kmL z0 z1 z2 (8 * q) m (if f then 0 else 8 * m)) e w') := hid fun w h0 h1 h2 => by
    cases f
    · exact refksum_len b q m _ _ _ z0 z1 z2 w hq hq2 h0 h1 h2 (by omega) (by omega) (by omega) hm
    · exact refksum_free b q m _ _ _ z0 z1 z2 w hq hq2 h0 h1 h2 (by omega) (by omega) (by omega) hm
  have hkl := kmL_len z0 z1 z2 (q := q) (n := m) (if f then 0 else 8 * m) hq2.1
  have hkb := kmL_bytes z0 z1 z2 (8 * q) m (if f then 0 else 8 * m)
  obtain ⟨SL, hSL⟩ : ∃ SL, kmL z0 z1 z2 (8 * q) m (if f then 0 else 8 * m) = SL := ⟨_, rfl⟩
  rw [hSL] at HSu HRs hkl hkb
  have HSr : Hid (∀ (w : World) (B : Nat) (u : Value), Own .u8 B 5 w u SL → Rd .u8 w u SL) := hid fun w B u h => h.rd (by show _ * 1 ≤ _; omega) (fun z hz => WalkArith.wf_u8 (hkb z hz))
  have hsy : sayB b z0 z1 z2 zt = false := decide_eq_false (fun h => by omega)
  rw [hsy] at HSy
  have g0 : ¬ (0 : Int) < (Lt : Int) := by omega
  clear hb hn h0 hsy hq' hkl hkb hSL hm hq hq2 hle hs5 hbw hHL
  have g6 : ¬ (600 : Int) < (Lt : Int) := by omega
  clear r0 r1 r2 rt l0 l1 l2 lt hg
  go_enter Try.func3, Try.ntmps3
  go_wp2_with (first
    | (go_at_call 5; (with_reducible refine (HG.out _).mono ?_); rintro e w1 ⟨rfl, hl⟩; have HX1 := hid (HX0.out.self hl); obtain ⟨k0, k1, k2, k3, k4, k5⟩ := HX1.out.cells; clear hl)
    | (go_at_call 7; (with_reducible refine (HHd.out w1 (HW0.out.1.self HX1.out.low)).mono ?_); rintro e w2 ⟨u, rfl, ho, hl⟩; have HX2 := hid (HX1.out.self hl); obtain ⟨k0, k1, k2, k3, k4, k5⟩ := HX2.out.cells; have HD2 := hid (HDr.out w2 _ _ ho); obtain ⟨p1, q1, rfl, _⟩ := ho.slice; clear ho hl)
    | (go_at_call 8; (with_reducible refine (HSu.out w2 (HW0.out.1.self HX2.out.low) (HW0.out.2.1.self HX2.out.low) (HW0.out.2.2.1.self HX2.out.low)).mono ?_); rintro e w3 ⟨u, rfl, ho, hl⟩; have HX3 := hid (HX2.out.self hl); obtain ⟨k0, k1, k2, k3, k4, k5⟩ := HX3.out.cells; have HD3 := hid (HD2.out.self hl); have HS3 := hid (HSr.out w3 _ _ ho); obtain ⟨p2, q2, rfl, _⟩ := ho.slice; clear ho hl)
    | (go_at_call 9; (with_reducible refine (HC0.out w3).mono ?_); rintro e w3 ⟨rfl, rfl⟩)
    | (go_at_call 9; (with_reducible refine (HCn.out w3).mono ?_); rintro e w3 ⟨rfl, rfl⟩)
    | (go_at_call 11; (with_reducible refine (HRh.out w3 (HW0.out.1.self HX3.out.low).rd).mono ?_); rintro e w4 ⟨u, rfl, ho, hl⟩; have HX4 := hid (HX3.out.self hl); obtain ⟨k0, k1, k2, k3, k4, k5⟩ := HX4.out.cells; have HS4 := hid (HS3.out.self hl); have HSm := hid (same_ns _ _ _ _ w4 (HD3.out.self hl) (HDr.out w4 _ _ ho) rfl); clear ho hl)
    | (go_at_call 10; (with_reducible refine (HSm.out).mono ?_); rintro e w4 ⟨rfl, rfl⟩)
    | (go_at_call 12; (with_reducible refine (HRs.out w4 (HW0.out.1.self HX4.out.low).rd (HW0.out.2.1.self HX4.out.low).rd (HW0.out.2.2.1.self HX4.out.low).rd).mono ?_); rintro e w5 ⟨u, rfl, ho, hl⟩; have HX5 := hid (HX4.out.self hl); obtain ⟨k0, k1, k2, k3, k4, k5⟩ := HX5.out.cells; have HSn := hid (same_ns _ _ _ _ w5 (HS4.out.self hl) ho rfl); clear ho hl)
    | (go_at_call 10; (with_reducible refine (HSn.out).mono ?_); rintro e w5 ⟨rfl, rfl⟩)
    | (go_at_call 13; (with_reducible refine (HSy.out w5 (HW0.out.1.self HX5.out.low) (HW0.out.2.1.self HX5.out.low) (HW0.out.2.2.1.self HX5.out.low) (HW0.out.2.2.2.self HX5.out.low)).mono ?_); rintro e w7 ⟨rfl, hl⟩; have HX7 := hid (HX5.out.self hl); clear hl)
    | (go_at_call 6; (with_reducible refine (kawake_any w7).mono ?_); rintro e w9 ⟨rfl, hl9⟩; have HW9 := hid (HX7.out.low.trans (hl9.mono HX7.out.low.size)); clear hl9))
  go_ret
  exact ⟨rfl, HW9.out⟩
set_option maxHeartbeats 1600000 in
theorem ktells_c1 (b n : Int) (a0 a1 a2 at_ : Option Addr) (L0 L1 L2 Lt c0 c1 c2 ct : Nat) (f : Bool) (z0 z1 z2 zt : List Int) (w : World) (r0 : RdC w (.slice a0 L0 c0) z0) (r1 : RdC w (.slice a1 L1 c1) z1) (r2 : RdC w (.slice a2 L2 c2) z2) (rt : RdC w (.slice at_ Lt ct) zt) (l0 : z0.length = L0 ∧ L0 ≤ 400) (l1 : z1.length = L1 ∧ L1 ≤ 500) (l2 : z2.length = L2 ∧ L2 ≤ 300) (lt : zt.length = Lt ∧ Lt ≤ 600) (hg : grB L0 L1 L2 n = false) (hb : chE b 0 = 0) (hn : chE b n = 0) (h0 : 0 < Lt) :
    Calls Try.prog 3 #[.agg #[.int .i64 b, .int .i64 n, .slice a0 L0 c0, .slice a1 L1 c1, .slice a2 L2 c2, .bool f], .slice at_ Lt ct] w fun e w' => e = .returned (.bool true) ∧ Below w.heap.size w w' := by
  have HX0 := hid (Xb.start w b n (.slice a0 L0 c0) (.slice a1 L1 c1) (.slice a2 L2 c2) f)
  have HG := hid (fun w => kgreat_any b n a0 a1 a2 L0 L1 L2 c0 c1 c2 f w)
  rw [hg] at HG
  have HW0 := hid (And.intro r0 (And.intro r1 (And.intro r2 rt)))
  have HHd := hid (fun w (h : RdC w (.slice a0 L0 c0) z0) => khead_i b _ z0 w h (by omega))
  have HSu := hid (fun w (h0 : RdC w (.slice a0 L0 c0) z0) (h1 : RdC w (.slice a1 L1 c1) z1) (h2 : RdC w (.slice a2 L2 c2) z2) => ksum_o b n _ _ _ z0 z1 z2 f w h0 h1 h2 (by omega) (by omega) (by omega))
  have HSy := hid (fun w (h0 : RdC w (.slice a0 L0 c0) z0) (h1 : RdC w (.slice a1 L1 c1) z1) (h2 : RdC w (.slice a2 L2 c2) z2) (h3 : RdC w (.slice at_ Lt ct) zt) => ksays_i b _ _ _ _ z0 z1 z2 zt w h0 h1 h2 h3 (by omega) (by omega) (by omega) (by omega))
  have HC0 := hid (fun w => refkcheck_any b 0 w)
  have HCn := hid (fun w => refkcheck_any b n w)
  obtain ⟨q, m0, hq, hq2, -, -⟩ := chE_q hb
  rw [hb] at HC0
  rw [hn] at HCn
  have hle := cpd_le (zs := sto z0) (n := 8 * q) (by omega) (by have := sto_le5 (z := z0) (by omega); omega)
  have hs5 := sto_le5 (z := z0) (by omega)
  have HRh := hid (fun w (h : Rd .u8 w (.slice a0 L0 c0) z0) => refkhead_any b (8 * q) _ z0 w hq (by omega) h (by omega))
  have hbw : ∀ z ∈ cpd (sto z0) (8 * q), (Lit.int .u8 z).wf = true := cpd_wf (by omega) (sto_wf5 (by omega) (wfs_of r0.rd))
  have HHd : Hid (∀ w, RdC w (.slice a0 L0 c0) z0 → Calls Try.prog 7 #[.int .i64 b, .slice a0 L0 c0] w fun e w' => OwE w (cpd (sto z0) (8 * q)) 0 e w') := hid fun w h => by have := HHd.out w h; rwa [hdL, if_pos hb, hb, hq, Int.toNat_natCast] at this
  obtain ⟨HL, hHL⟩ : ∃ HL, cpd (sto z0) (8 * q) = HL := ⟨_, rfl⟩
  rw [hHL] at HHd HRh hle hbw
  have HDr : Hid (∀ (w : World) (B : Nat) (u : Value), Own .u8 B 5 w u HL → Rd .u8 w u HL) := hid fun w B u h => h.rd (by show _ * 1 ≤ _; omega) hbw
  obtain ⟨q', m, hq', -, rfl, hm⟩ := chE_q hn
  have HSu : Hid (∀ w, RdC w (.slice a0 L0 c0) z0 → RdC w (.slice a1 L1 c1) z1 → RdC w (.slice a2 L2 c2) z2 → Calls Try.prog 8 #[.int .i64 b, .slice a0 L0 c0, .slice a1 L1 c1, .slice a2 L2 c2, .int .i64 (m : Int), .bool f] w fun e w' => OwE w (kmL z0 z1 z2 (8 * q) m (if f then 0 else 8 * m)) 0 e w') := hid fun w h0 h1 h2 => by have := HSu.out w h0 h1 h2; rwa [ksL, if_pos hn, hn, hq, Int.toNat_natCast, Int.toNat_natCast] at this
  have HRs : Hid (∀ w, Rd .u8 w (.slice a0 L0 c0) z0 → Rd .u8 w (.slice a1 L1 c1) z1 → Rd .u8 w (.slice a2 L2 c2) z2 → Calls Try.prog 12 #[.int .i64 b, .slice a0 L0 c0, .slice a1 L1 c1, .slice a2 L2 c2, .int .i64 (m : Int), .bool f] w fun e w' => RdP w (kmL z0 z1 z2 (8 * q) m (if f then 0 else 8 * m)) e w') := hid fun w h0 h1 h2 => by
    cases f
    · exact refksum_len b q m _ _ _ z0 z1 z2 w hq hq2 h0 h1 h2 (by omega) (by omega) (by omega) hm
    · exact refksum_free b q m _ _ _ z0 z1 z2 w hq hq2 h0 h1 h2 (by omega) (by omega) (by omega) hm
  have hkl := kmL_len z0 z1 z2 (q := q) (n := m) (if f then 0 else 8 * m) hq2.1
  have hkb := kmL_bytes z0 z1 z2 (8 * q) m (if f then 0 else 8 * m)
  obtain ⟨SL, hSL⟩ : ∃ SL, kmL z0 z1 z2 (8 * q) m (if f then 0 else 8 * m) = SL := ⟨_, rfl⟩
  rw [hSL] at HSu HRs hkl hkb
  have HSr : Hid (∀ (w : World) (B : Nat) (u : Value), Own .u8 B 5 w u SL → Rd .u8 w u SL) := hid fun w B u h => h.rd (by show _ * 1 ≤ _; omega) (fun z hz => WalkArith.wf_u8 (hkb z hz))
  have hcl : chE b (Lt : Int) = 0 := by
    unfold chE at hb ⊢
    by_cases h3 : (b ≠ 128 ∧ b ≠ 256) ∨ (0 : Int) < 0 ∨ 65536 < (0 : Int)
    · rw [if_pos h3] at hb; exact absurd hb (by decide)
    · rw [if_neg (by omega)]
  have hsy : sayB b z0 z1 z2 zt = decide (kmL z0 z1 z2 (8 * q) Lt (8 * Lt) = zt) := by
    unfold sayB
    rw [lt.1, ksL, if_pos hcl, hq, Int.toNat_natCast, Int.toNat_natCast]
    simp [hb, h0]
  have HRt := hid (fun w (h0 : Rd .u8 w (.slice a0 L0 c0) z0) (h1 : Rd .u8 w (.slice a1 L1 c1) z1) (h2 : Rd .u8 w (.slice a2 L2 c2) z2) => refksum_len b q Lt _ _ _ z0 z1 z2 w hq hq2 h0 h1 h2 (by omega) (by omega) (by omega) (by omega))
  rw [hsy] at HSy
  generalize kmL z0 z1 z2 (8 * q) Lt (8 * Lt) = TL at *
  have g0 : (0 : Int) < (Lt : Int) := by omega
  clear hb hn h0 hsy hq' hkl hkb hSL hm hcl hq hq2 hle hs5 hbw hHL
  have g6 : ¬ (600 : Int) < (Lt : Int) := by omega
  clear r0 r1 r2 rt l0 l1 l2 lt hg
  go_enter Try.func3, Try.ntmps3
  go_wp2_with (first
    | (go_at_call 5; (with_reducible refine (HG.out _).mono ?_); rintro e w1 ⟨rfl, hl⟩; have HX1 := hid (HX0.out.self hl); obtain ⟨k0, k1, k2, k3, k4, k5⟩ := HX1.out.cells; clear hl)
    | (go_at_call 7; (with_reducible refine (HHd.out w1 (HW0.out.1.self HX1.out.low)).mono ?_); rintro e w2 ⟨u, rfl, ho, hl⟩; have HX2 := hid (HX1.out.self hl); obtain ⟨k0, k1, k2, k3, k4, k5⟩ := HX2.out.cells; have HD2 := hid (HDr.out w2 _ _ ho); obtain ⟨p1, q1, rfl, _⟩ := ho.slice; clear ho hl)
    | (go_at_call 8; (with_reducible refine (HSu.out w2 (HW0.out.1.self HX2.out.low) (HW0.out.2.1.self HX2.out.low) (HW0.out.2.2.1.self HX2.out.low)).mono ?_); rintro e w3 ⟨u, rfl, ho, hl⟩; have HX3 := hid (HX2.out.self hl); obtain ⟨k0, k1, k2, k3, k4, k5⟩ := HX3.out.cells; have HD3 := hid (HD2.out.self hl); have HS3 := hid (HSr.out w3 _ _ ho); obtain ⟨p2, q2, rfl, _⟩ := ho.slice; clear ho hl)
    | (go_at_call 9; (with_reducible refine (HC0.out w3).mono ?_); rintro e w3 ⟨rfl, rfl⟩)
    | (go_at_call 9; (with_reducible refine (HCn.out w3).mono ?_); rintro e w3 ⟨rfl, rfl⟩)
    | (go_at_call 11; (with_reducible refine (HRh.out w3 (HW0.out.1.self HX3.out.low).rd).mono ?_); rintro e w4 ⟨u, rfl, ho, hl⟩; have HX4 := hid (HX3.out.self hl); obtain ⟨k0, k1, k2, k3, k4, k5⟩ := HX4.out.cells; have HS4 := hid (HS3.out.self hl); have HSm := hid (same_ns _ _ _ _ w4 (HD3.out.self hl) (HDr.out w4 _ _ ho) rfl); clear ho hl)
    | (go_at_call 10; (with_reducible refine (HSm.out).mono ?_); rintro e w4 ⟨rfl, rfl⟩)
    | (go_at_call 12; (with_reducible refine (HRs.out w4 (HW0.out.1.self HX4.out.low).rd (HW0.out.2.1.self HX4.out.low).rd (HW0.out.2.2.1.self HX4.out.low).rd).mono ?_); rintro e w5 ⟨u, rfl, ho, hl⟩; have HX5 := hid (HX4.out.self hl); obtain ⟨k0, k1, k2, k3, k4, k5⟩ := HX5.out.cells; have HSn := hid (same_ns _ _ _ _ w5 (HS4.out.self hl) ho rfl); clear ho hl)
    | (go_at_call 10; (with_reducible refine (HSn.out).mono ?_); rintro e w5 ⟨rfl, rfl⟩)
    | (go_at_call 12; (with_reducible refine (HRt.out w5 (HW0.out.1.self HX5.out.low).rd (HW0.out.2.1.self HX5.out.low).rd (HW0.out.2.2.1.self HX5.out.low).rd).mono ?_); rintro e w6 ⟨u, rfl, ho, hl⟩; have HX6 := hid (HX5.out.self hl); obtain ⟨k0, k1, k2, k3, k4, k5⟩ := HX6.out.cells; have HSt := hid (refsame_any _ _ _ _ w6 ho (HW0.out.2.2.2.self HX6.out.low).rd); clear ho hl)
    | (go_at_call 10; (with_reducible refine (HSt.out).mono ?_); rintro e w6 ⟨rfl, rfl⟩)
    | (go_at_call 13; (with_reducible refine (HSy.out w6 (HW0.out.1.self HX6.out.low) (HW0.out.2.1.self HX6.out.low) (HW0.out.2.2.1.self HX6.out.low) (HW0.out.2.2.2.self HX6.out.low)).mono ?_); rintro e w7 ⟨rfl, hl⟩; have HX7 := hid (HX6.out.self hl); clear hl)
    | (go_at_call 6; (with_reducible refine (kawake_any w7).mono ?_); rintro e w9 ⟨rfl, hl9⟩; have HW9 := hid (HX7.out.low.trans (hl9.mono HX7.out.low.size)); clear hl9))
  go_ret
  exact ⟨rfl, HW9.out⟩
theorem ktells_g (b n : Int) (a0 a1 a2 at_ : Option Addr) (L0 L1 L2 Lt c0 c1 c2 ct : Nat) (f : Bool) (w : World) (hg : grB L0 L1 L2 n = true) :
    Calls Try.prog 3 #[.agg #[.int .i64 b, .int .i64 n, .slice a0 L0 c0, .slice a1 L1 c1, .slice a2 L2 c2, .bool f], .slice at_ Lt ct] w fun e w' => e = .returned (.bool true) ∧ Below w.heap.size w w' := by
  have HX0 := hid (Xb.start w b n (.slice a0 L0 c0) (.slice a1 L1 c1) (.slice a2 L2 c2) f)
  have HG := hid (fun w => kgreat_any b n a0 a1 a2 L0 L1 L2 c0 c1 c2 f w)
  rw [hg] at HG
  clear hg
  go_enter Try.func3, Try.ntmps3
  go_wp2_with (first
    | (go_at_call 5; (with_reducible refine (HG.out _).mono ?_); rintro e w1 ⟨rfl, hl⟩; have HX1 := hid (HX0.out.self hl); clear hl)
    | (go_at_call 6; (with_reducible refine (kawake_any _).mono ?_); rintro e w9 ⟨rfl, hl9⟩; have HW9 := hid (HX1.out.low.trans (hl9.mono HX1.out.low.size)); clear hl9))
  go_ret
  exact ⟨rfl, HW9.out⟩
theorem ktells_l (b n : Int) (a0 a1 a2 at_ : Option Addr) (L0 L1 L2 Lt c0 c1 c2 ct : Nat) (f : Bool) (w : World) (hg : grB L0 L1 L2 n = false) (hl : 600 < Lt) :
    Calls Try.prog 3 #[.agg #[.int .i64 b, .int .i64 n, .slice a0 L0 c0, .slice a1 L1 c1, .slice a2 L2 c2, .bool f], .slice at_ Lt ct] w fun e w' => e = .returned (.bool true) ∧ Below w.heap.size w w' := by
  have HX0 := hid (Xb.start w b n (.slice a0 L0 c0) (.slice a1 L1 c1) (.slice a2 L2 c2) f)
  have HG := hid (fun w => kgreat_any b n a0 a1 a2 L0 L1 L2 c0 c1 c2 f w)
  rw [hg] at HG
  clear hg
  have g6 : (600 : Int) < (Lt : Int) := by omega
  go_enter Try.func3, Try.ntmps3
  go_wp2_with (first
    | (go_at_call 5; (with_reducible refine (HG.out _).mono ?_); rintro e w1 ⟨rfl, hl⟩; have HX1 := hid (HX0.out.self hl); clear hl)
    | (go_at_call 6; (with_reducible refine (kawake_any _).mono ?_); rintro e w9 ⟨rfl, hl9⟩; have HW9 := hid (HX1.out.low.trans (hl9.mono HX1.out.low.size)); clear hl9))
  go_ret
  exact ⟨rfl, HW9.out⟩
theorem ktells_core (b n : Int) (v0 v1 v2 vt : Value) (f : Bool) (z0 z1 z2 zt : List Int) (w : World) (r0 : RdC w v0 z0) (r1 : RdC w v1 z1) (r2 : RdC w v2 z2) (rt : RdC w vt zt) :
    Calls Try.prog 3 #[.agg #[.int .i64 b, .int .i64 n, v0, v1, v2, .bool f], vt] w fun e w' => e = .returned (.bool true) ∧ Below w.heap.size w w' := by
  obtain ⟨a0, c0, rfl, _⟩ := id r0.rd
  obtain ⟨a1, c1, rfl, _⟩ := id r1.rd
  obtain ⟨a2, c2, rfl, _⟩ := id r2.rd
  obtain ⟨at_, ct, rfl, _⟩ := id rt.rd
  cases hg : grB z0.length z1.length z2.length n
  · by_cases hl : 600 < zt.length
    · exact ktells_l b n a0 a1 a2 at_ _ _ _ _ c0 c1 c2 ct f w hg hl
    · have hq := of_decide_eq_false hg
      have l0 : z0.length = z0.length ∧ z0.length ≤ 400 := ⟨rfl, by omega⟩
      have l1 : z1.length = z1.length ∧ z1.length ≤ 500 := ⟨rfl, by omega⟩
      have l2 : z2.length = z2.length ∧ z2.length ≤ 300 := ⟨rfl, by omega⟩
      have lt : zt.length = zt.length ∧ zt.length ≤ 600 := ⟨rfl, by omega⟩
      by_cases hb : chE b 0 = 0
      · by_cases hn : chE b n = 0
        · by_cases h0 : zt.length = 0
          · exact ktells_c0 b n a0 a1 a2 at_ _ _ _ _ c0 c1 c2 ct f z0 z1 z2 zt w r0 r1 r2 rt l0 l1 l2 lt hg hb hn h0
          · exact ktells_c1 b n a0 a1 a2 at_ _ _ _ _ c0 c1 c2 ct f z0 z1 z2 zt w r0 r1 r2 rt l0 l1 l2 lt hg hb hn (by omega)
        · by_cases h0 : zt.length = 0
          · exact ktells_b0 b n a0 a1 a2 at_ _ _ _ _ c0 c1 c2 ct f z0 z1 z2 zt w r0 r1 r2 rt l0 l1 l2 lt hg hb hn h0
          · exact ktells_b1 b n a0 a1 a2 at_ _ _ _ _ c0 c1 c2 ct f z0 z1 z2 zt w r0 r1 r2 rt l0 l1 l2 lt hg hb hn (by omega)
      · exact ktells_a b n a0 a1 a2 at_ _ _ _ _ c0 c1 c2 ct f z0 z1 z2 zt w r0 r1 r2 rt l0 l1 l2 lt hg hb
  · exact ktells_g b n a0 a1 a2 at_ _ _ _ _ c0 c1 c2 ct f w hg
end Go.Proofs.Ythcjgjhoifnpjaa
