import Derived.Test.YtfjgelialaccdaaProg
import Derived.Test.YtfjgelialaccdaaSpj
import Derived.Test.YtfjgelialaccdaaGen
/- SpongeHashes. -/
namespace Go.Proofs.Ytfjgelialaccdaa
open Go.RowKit

/-- Three rows that came in, in a block of their own. -/
structure Bx3 (w wr : World) (v0 v1 v2 : Value) : Prop where
  blk : wr.heap[w.heap.size]? = some (.cells #[v0, v1, v2] 34 (0, 0))
  low : Below w.heap.size w wr
theorem Bx3.start (w : World) (v0 v1 v2 : Value) : Bx3 w (w.alloc (.cells #[v0, v1, v2] 34)) v0 v1 v2 := ⟨heap_alloc_new w _, (Below.refl _ w).alloc (Nat.le_refl _) _⟩
theorem Bx3.self {w wr w' : World} {v0 v1 v2 : Value} (h : Bx3 w wr v0 v1 v2) (hb : Below wr.heap.size wr w') : Bx3 w w' v0 v1 v2 :=
  ⟨(hb.block _ (Array.getElem?_eq_some_iff.1 h.blk).1).trans h.blk, h.low.trans (hb.mono h.low.size)⟩
theorem Bx3.cell {w wr : World} {v0 v1 v2 : Value} (h : Bx3 w wr v0 v1 v2) : wr.cell? ⟨w.heap.size, 0, none⟩ = some v0 ∧ wr.cell? ⟨w.heap.size, 1, none⟩ = some v1 ∧ wr.cell? ⟨w.heap.size, 2, none⟩ = some v2 :=
  ⟨cell_of_row wr w.heap.size 0 _ 34 _ h.blk, cell_of_row wr w.heap.size 1 _ 34 _ h.blk, cell_of_row wr w.heap.size 2 _ 34 _ h.blk⟩

set_option maxRecDepth 100000 in
set_option maxHeartbeats 1600000 in
theorem shashes_0 (b n : Int) (a0 a1 a2 : Option Addr) (L0 L1 L2 c0 c1 c2 : Nat) (w : World) (h : 500 < L0) :
    Calls Try.prog 4 #[.int .i64 b, .int .i64 n, .agg #[.slice a0 L0 c0, .slice a1 L1 c1, .slice a2 L2 c2]] w fun e w' => e = .returned (.bool true) ∧ Below w.heap.size w w' := by
  have HB := hid (Bx3.start w (.slice a0 L0 c0) (.slice a1 L1 c1) (.slice a2 L2 c2))
  obtain ⟨k0, k1, k2⟩ := HB.out.cell
  have g0 : (500 : Int) < (L0 : Int) := by omega
  go_enter Try.func4, Try.ntmps4
  go_wp2_with (first
    | (go_at_call 6; (with_reducible refine (sawake_any _).mono ?_); rintro e w9 ⟨rfl, hl9⟩; have HW9 := hid (HB.out.low.trans (hl9.mono HB.out.low.size)); clear hl9))
  go_ret
  exact ⟨rfl, HW9.out⟩

set_option maxRecDepth 100000 in
set_option maxHeartbeats 1600000 in
theorem shashes_1 (b n : Int) (a0 a1 a2 : Option Addr) (L0 L1 L2 c0 c1 c2 : Nat) (w : World) (h0 : L0 ≤ 500) (h : 500 < L1) :
    Calls Try.prog 4 #[.int .i64 b, .int .i64 n, .agg #[.slice a0 L0 c0, .slice a1 L1 c1, .slice a2 L2 c2]] w fun e w' => e = .returned (.bool true) ∧ Below w.heap.size w w' := by
  have HB := hid (Bx3.start w (.slice a0 L0 c0) (.slice a1 L1 c1) (.slice a2 L2 c2))
  obtain ⟨k0, k1, k2⟩ := HB.out.cell
  have g0 : ¬ (500 : Int) < (L0 : Int) := by omega
  have g1 : (500 : Int) < (L1 : Int) := by omega
  go_enter Try.func4, Try.ntmps4
  go_wp2_with (first
    | (go_at_call 6; (with_reducible refine (sawake_any _).mono ?_); rintro e w9 ⟨rfl, hl9⟩; have HW9 := hid (HB.out.low.trans (hl9.mono HB.out.low.size)); clear hl9))
  go_ret
  exact ⟨rfl, HW9.out⟩

set_option maxRecDepth 100000 in
set_option maxHeartbeats 1600000 in
theorem shashes_2 (b n : Int) (a0 a1 a2 : Option Addr) (L0 L1 L2 c0 c1 c2 : Nat) (w : World) (h0 : L0 ≤ 500) (h1 : L1 ≤ 500) (h : 500 < L2) :
    Calls Try.prog 4 #[.int .i64 b, .int .i64 n, .agg #[.slice a0 L0 c0, .slice a1 L1 c1, .slice a2 L2 c2]] w fun e w' => e = .returned (.bool true) ∧ Below w.heap.size w w' := by
  have HB := hid (Bx3.start w (.slice a0 L0 c0) (.slice a1 L1 c1) (.slice a2 L2 c2))
  obtain ⟨k0, k1, k2⟩ := HB.out.cell
  have g0 : ¬ (500 : Int) < (L0 : Int) := by omega
  have g1 : ¬ (500 : Int) < (L1 : Int) := by omega
  have g2 : (500 : Int) < (L2 : Int) := by omega
  go_enter Try.func4, Try.ntmps4
  go_wp2_with (first
    | (go_at_call 6; (with_reducible refine (sawake_any _).mono ?_); rintro e w9 ⟨rfl, hl9⟩; have HW9 := hid (HB.out.low.trans (hl9.mono HB.out.low.size)); clear hl9))
  go_ret
  exact ⟨rfl, HW9.out⟩

set_option maxRecDepth 100000 in
set_option maxHeartbeats 1600000 in
theorem shashes_n (b n : Int) (a0 a1 a2 : Option Addr) (L0 L1 L2 c0 c1 c2 : Nat) (w : World) (h0 : L0 ≤ 500) (h1 : L1 ≤ 500) (h2 : L2 ≤ 500) (h3 : 1000 < n) (h4 : n ≤ 65536) :
    Calls Try.prog 4 #[.int .i64 b, .int .i64 n, .agg #[.slice a0 L0 c0, .slice a1 L1 c1, .slice a2 L2 c2]] w fun e w' => e = .returned (.bool true) ∧ Below w.heap.size w w' := by
  have HB := hid (Bx3.start w (.slice a0 L0 c0) (.slice a1 L1 c1) (.slice a2 L2 c2))
  obtain ⟨k0, k1, k2⟩ := HB.out.cell
  have g0 : ¬ (500 : Int) < (L0 : Int) := by omega
  have g1 : ¬ (500 : Int) < (L1 : Int) := by omega
  have g2 : ¬ (500 : Int) < (L2 : Int) := by omega
  go_enter Try.func4, Try.ntmps4
  go_wp2_with (first
    | (go_at_call 6; (with_reducible refine (sawake_any _).mono ?_); rintro e w9 ⟨rfl, hl9⟩; have HW9 := hid (HB.out.low.trans (hl9.mono HB.out.low.size)); clear hl9))
  go_ret
  exact ⟨rfl, HW9.out⟩

set_option maxRecDepth 100000 in
set_option maxHeartbeats 6400000 in
theorem shashes_nl (b n : Int) (a0 a1 a2 : Option Addr) (L0 L1 L2 c0 c1 c2 : Nat) (z0 z1 z2 : List Int) (w : World) (hr0 : Rd .u8 w (.slice a0 L0 c0) z0) (hr1 : Rd .u8 w (.slice a1 L1 c1) z1) (hr2 : Rd .u8 w (.slice a2 L2 c2) z2) (kv0 : CapV (.slice a0 L0 c0)) (kv1 : CapV (.slice a1 L1 c1)) (kv2 : CapV (.slice a2 L2 c2)) (l0 : z0.length ≤ 500 ∧ L0 ≤ 500) (l1 : z1.length ≤ 500 ∧ L1 ≤ 500) (l2 : z2.length ≤ 500 ∧ L2 ≤ 500) (hs : raN b = 0) (hc : chE b n = 1) (hn : n ≤ 1000) :
    Calls Try.prog 4 #[.int .i64 b, .int .i64 n, .agg #[.slice a0 L0 c0, .slice a1 L1 c1, .slice a2 L2 c2]] w fun e w' => e = .returned (.bool true) ∧ Below w.heap.size w w' := by
  have HB := hid (Bx3.start w (.slice a0 L0 c0) (.slice a1 L1 c1) (.slice a2 L2 c2))
  obtain ⟨k0, k1, k2⟩ := HB.out.cell
  have HR0 := hid hr0
  have HR1 := hid hr1
  have HR2 := hid hr2
  have HSh := hid (fun w (h : Rd .u8 w (.slice a2 L2 c2) z2) => ssha_i b _ z2 w ⟨h, kv2⟩ (by omega))
  have HSk := hid (fun w (h : Rd .u8 w (.slice a2 L2 c2) z2) => sshake_i b n _ z2 w ⟨h, kv2⟩ (by omega))
  have HSn := hid (fun w (h0 : Rd .u8 w (.slice a0 L0 c0) z0) (h1 : Rd .u8 w (.slice a1 L1 c1) z1) (h2 : Rd .u8 w (.slice a2 L2 c2) z2) => snamed_i b n _ _ _ z0 z1 z2 w ⟨h0, kv0⟩ ⟨h1, kv1⟩ ⟨h2, kv2⟩ (by omega) (by omega) (by omega))
  have HRb := hid (fun w => refrate_any b w)
  have HC := hid (fun w => refcheck_any b n w)
  rw [hc] at HC
  rw [skL, hc, if_neg (by decide)] at HSk
  rw [skN, hc, if_neg (by decide)] at HSn
  have hk : shaK b = false := by unfold shaK; simp [hs]
  rw [shaL, shaE, hk, if_neg (by decide), if_neg (by decide)] at HSh
  rw [hs] at HRb
  have g0 : ¬ (500 : Int) < (L0 : Int) := by omega
  have g1 : ¬ (500 : Int) < (L1 : Int) := by omega
  have g2 : ¬ (500 : Int) < (L2 : Int) := by omega
  have g3 : ¬ (1000 : Int) < n := by omega
  clear hr0 hr1 hr2 l0 l1 l2 hn hc hs hk
  go_enter Try.func4, Try.ntmps4
  go_wp2_with (first
    | (go_at_call 15; (with_reducible refine (HSh.out _ (HR2.out.self HB.out.low)).mono ?_); rintro e w1 ⟨u1, rfl, hr, hl⟩; obtain ⟨x1, y1, rfl⟩ := rd_zero_open hr; have HB1 := hid (HB.out.self hl); obtain ⟨k10, k11, k12⟩ := HB1.out.cell; clear hl hr)
    | (go_at_call 16; (with_reducible refine (HSk.out w1 (HR2.out.self HB1.out.low)).mono ?_); rintro e w2 ⟨u2, rfl, hr, hl⟩; obtain ⟨x2, y2, rfl⟩ := rd_zero_open hr; have HB2 := hid (HB1.out.self hl); obtain ⟨k20, k21, k22⟩ := HB2.out.cell; clear hl hr)
    | (go_at_call 17; (with_reducible refine (HSn.out w2 (HR0.out.self HB2.out.low) (HR1.out.self HB2.out.low) (HR2.out.self HB2.out.low)).mono ?_); rintro e w3 ⟨u3, rfl, hr, hl⟩; obtain ⟨x3, y3, rfl⟩ := rd_zero_open hr; have HB3 := hid (HB2.out.self hl); obtain ⟨k30, k31, k32⟩ := HB3.out.cell; clear hl hr)
    | (go_at_call 10; (with_reducible refine (HRb.out w3).mono ?_); rintro e w3 ⟨rfl, rfl⟩)
    | (go_at_call 18; (with_reducible refine (HC.out w3).mono ?_); rintro e w3 ⟨rfl, rfl⟩)
    | (go_at_call 6; (with_reducible refine (sawake_any _).mono ?_); rintro e w9 ⟨rfl, hl9⟩; have HW9 := hid (HB3.out.low.trans (hl9.mono HB3.out.low.size)); clear hl9))
  go_ret
  exact ⟨rfl, HW9.out⟩

set_option maxRecDepth 100000 in
set_option maxHeartbeats 6400000 in
theorem shashes_nb (b n : Int) (a0 a1 a2 : Option Addr) (L0 L1 L2 c0 c1 c2 : Nat) (z0 z1 z2 : List Int) (w : World) (hr0 : Rd .u8 w (.slice a0 L0 c0) z0) (hr1 : Rd .u8 w (.slice a1 L1 c1) z1) (hr2 : Rd .u8 w (.slice a2 L2 c2) z2) (kv0 : CapV (.slice a0 L0 c0)) (kv1 : CapV (.slice a1 L1 c1)) (kv2 : CapV (.slice a2 L2 c2)) (l0 : z0.length ≤ 500 ∧ L0 ≤ 500) (l1 : z1.length ≤ 500 ∧ L1 ≤ 500) (l2 : z2.length ≤ 500 ∧ L2 ≤ 500) (hs : raN b = 0) (hc : chE b n = 1) (hn : 65536 < n) :
    Calls Try.prog 4 #[.int .i64 b, .int .i64 n, .agg #[.slice a0 L0 c0, .slice a1 L1 c1, .slice a2 L2 c2]] w fun e w' => e = .returned (.bool true) ∧ Below w.heap.size w w' := by
  have HB := hid (Bx3.start w (.slice a0 L0 c0) (.slice a1 L1 c1) (.slice a2 L2 c2))
  obtain ⟨k0, k1, k2⟩ := HB.out.cell
  have HR0 := hid hr0
  have HR1 := hid hr1
  have HR2 := hid hr2
  have HSh := hid (fun w (h : Rd .u8 w (.slice a2 L2 c2) z2) => ssha_i b _ z2 w ⟨h, kv2⟩ (by omega))
  have HSk := hid (fun w (h : Rd .u8 w (.slice a2 L2 c2) z2) => sshake_i b n _ z2 w ⟨h, kv2⟩ (by omega))
  have HSn := hid (fun w (h0 : Rd .u8 w (.slice a0 L0 c0) z0) (h1 : Rd .u8 w (.slice a1 L1 c1) z1) (h2 : Rd .u8 w (.slice a2 L2 c2) z2) => snamed_i b n _ _ _ z0 z1 z2 w ⟨h0, kv0⟩ ⟨h1, kv1⟩ ⟨h2, kv2⟩ (by omega) (by omega) (by omega))
  have HRb := hid (fun w => refrate_any b w)
  have HC := hid (fun w => refcheck_any b n w)
  rw [hc] at HC
  rw [skL, hc, if_neg (by decide)] at HSk
  rw [skN, hc, if_neg (by decide)] at HSn
  have hk : shaK b = false := by unfold shaK; simp [hs]
  rw [shaL, shaE, hk, if_neg (by decide), if_neg (by decide)] at HSh
  rw [hs] at HRb
  have g0 : ¬ (500 : Int) < (L0 : Int) := by omega
  have g1 : ¬ (500 : Int) < (L1 : Int) := by omega
  have g2 : ¬ (500 : Int) < (L2 : Int) := by omega
  have g3 : (1000 : Int) < n := by omega
  have g4 : ¬ n ≤ 65536 := by omega
  clear hr0 hr1 hr2 l0 l1 l2 hn hc hs hk
  go_enter Try.func4, Try.ntmps4
  go_wp2_with (first
    | (go_at_call 15; (with_reducible refine (HSh.out _ (HR2.out.self HB.out.low)).mono ?_); rintro e w1 ⟨u1, rfl, hr, hl⟩; obtain ⟨x1, y1, rfl⟩ := rd_zero_open hr; have HB1 := hid (HB.out.self hl); obtain ⟨k10, k11, k12⟩ := HB1.out.cell; clear hl hr)
    | (go_at_call 16; (with_reducible refine (HSk.out w1 (HR2.out.self HB1.out.low)).mono ?_); rintro e w2 ⟨u2, rfl, hr, hl⟩; obtain ⟨x2, y2, rfl⟩ := rd_zero_open hr; have HB2 := hid (HB1.out.self hl); obtain ⟨k20, k21, k22⟩ := HB2.out.cell; clear hl hr)
    | (go_at_call 17; (with_reducible refine (HSn.out w2 (HR0.out.self HB2.out.low) (HR1.out.self HB2.out.low) (HR2.out.self HB2.out.low)).mono ?_); rintro e w3 ⟨u3, rfl, hr, hl⟩; obtain ⟨x3, y3, rfl⟩ := rd_zero_open hr; have HB3 := hid (HB2.out.self hl); obtain ⟨k30, k31, k32⟩ := HB3.out.cell; clear hl hr)
    | (go_at_call 10; (with_reducible refine (HRb.out w3).mono ?_); rintro e w3 ⟨rfl, rfl⟩)
    | (go_at_call 18; (with_reducible refine (HC.out w3).mono ?_); rintro e w3 ⟨rfl, rfl⟩)
    | (go_at_call 6; (with_reducible refine (sawake_any _).mono ?_); rintro e w9 ⟨rfl, hl9⟩; have HW9 := hid (HB3.out.low.trans (hl9.mono HB3.out.low.size)); clear hl9))
  go_ret
  exact ⟨rfl, HW9.out⟩

set_option maxRecDepth 100000 in
set_option maxHeartbeats 6400000 in
theorem shashes_ko (b n : Int) (a0 a1 a2 : Option Addr) (L0 L1 L2 c0 c1 c2 : Nat) (z0 z1 z2 : List Int) (w : World) (hr0 : Rd .u8 w (.slice a0 L0 c0) z0) (hr1 : Rd .u8 w (.slice a1 L1 c1) z1) (hr2 : Rd .u8 w (.slice a2 L2 c2) z2) (kv0 : CapV (.slice a0 L0 c0)) (kv1 : CapV (.slice a1 L1 c1)) (kv2 : CapV (.slice a2 L2 c2)) (l0 : z0.length ≤ 500 ∧ L0 ≤ 500) (l1 : z1.length ≤ 500 ∧ L1 ≤ 500) (l2 : z2.length ≤ 500 ∧ L2 ≤ 500) (hs : b = 128) (hc : chE b n = 0) (hn : n ≤ 1000) :
    Calls Try.prog 4 #[.int .i64 b, .int .i64 n, .agg #[.slice a0 L0 c0, .slice a1 L1 c1, .slice a2 L2 c2]] w fun e w' => e = .returned (.bool true) ∧ Below w.heap.size w w' := by
  have HB := hid (Bx3.start w (.slice a0 L0 c0) (.slice a1 L1 c1) (.slice a2 L2 c2))
  obtain ⟨k0, k1, k2⟩ := HB.out.cell
  have HR0 := hid hr0
  have HR1 := hid hr1
  have HR2 := hid hr2
  have HSh := hid (fun w (h : Rd .u8 w (.slice a2 L2 c2) z2) => ssha_i b _ z2 w ⟨h, kv2⟩ (by omega))
  have HSk := hid (fun w (h : Rd .u8 w (.slice a2 L2 c2) z2) => sshake_i b n _ z2 w ⟨h, kv2⟩ (by omega))
  have HSn := hid (fun w (h0 : Rd .u8 w (.slice a0 L0 c0) z0) (h1 : Rd .u8 w (.slice a1 L1 c1) z1) (h2 : Rd .u8 w (.slice a2 L2 c2) z2) => snamed_i b n _ _ _ z0 z1 z2 w ⟨h0, kv0⟩ ⟨h1, kv1⟩ ⟨h2, kv2⟩ (by omega) (by omega) (by omega))
  have HRb := hid (fun w => refrate_any b w)
  have HC := hid (fun w => refcheck_any b n w)
  rw [hc] at HC
  obtain ⟨q, m, hq, hq2, rfl, hm⟩ := chE_q hc
  rw [skL, hc, if_pos rfl, hq, Int.toNat_natCast, Int.toNat_natCast] at HSk
  rw [skN, hc, if_pos rfl, hq, Int.toNat_natCast, Int.toNat_natCast] at HSn
  have HF1 := hid (fun w (h : Rd .u8 w (.slice a2 L2 c2) z2) => refsum_any _ z2 q m 31 w h (by omega) hq2 (by decide) hm)
  have HF2 := hid (fun w (h0 : Rd .u8 w (.slice a0 L0 c0) z0) (h1 : Rd .u8 w (.slice a1 L1 c1) z1) (h2 : Rd .u8 w (.slice a2 L2 c2) z2) => refnamed_any b q m _ _ _ z0 z1 z2 w hq hq2 h0 h1 h2 (by omega) (by omega) (by omega) hm)
  subst hs
  rw [shaL, shaE, show shaK 128 = false from rfl, if_neg (by decide), if_neg (by decide)] at HSh
  rw [hq] at HRb
  generalize sumL z2 (8 * q) 31 m = X1 at *
  generalize namL z0 z1 z2 (8 * q) m = X2 at *
  have g0 : ¬ (500 : Int) < (L0 : Int) := by omega
  have g1 : ¬ (500 : Int) < (L1 : Int) := by omega
  have g2 : ¬ (500 : Int) < (L2 : Int) := by omega
  have g3 : ¬ (1000 : Int) < (m : Int) := by omega
  have g5 : ¬ ((8 * q : Nat) : Int) = 0 := by omega
  generalize 8 * q = R at *
  have g7 : ((R : Int) == 0) = false := by simpa using g5
  clear hr0 hr1 hr2 l0 l1 l2 hn hc hq hq2 hm g5
  go_enter Try.func4, Try.ntmps4
  go_wp2_with (first
    | (go_at_call 15; (with_reducible refine (HSh.out _ (HR2.out.self HB.out.low)).mono ?_); rintro e w1 ⟨u1, rfl, hr, hl⟩; obtain ⟨x1, y1, rfl⟩ := rd_zero_open hr; have HB1 := hid (HB.out.self hl); obtain ⟨k10, k11, k12⟩ := HB1.out.cell; clear hl hr)
    | (go_at_call 16; (with_reducible refine (HSk.out w1 (HR2.out.self HB1.out.low)).mono ?_); rintro e w2 ⟨u2, rfl, hr, hl⟩; have HY2 := hid hr; have HB2 := hid (HB1.out.self hl); obtain ⟨k20, k21, k22⟩ := HB2.out.cell; clear hl hr)
    | (go_at_call 17; (with_reducible refine (HSn.out w2 (HR0.out.self HB2.out.low) (HR1.out.self HB2.out.low) (HR2.out.self HB2.out.low)).mono ?_); rintro e w3 ⟨u3, rfl, hr, hl⟩; have HZ3 := hid hr; have HY3 := hid (HY2.out.self hl); have HB3 := hid (HB2.out.self hl); obtain ⟨k30, k31, k32⟩ := HB3.out.cell; clear hl hr)
    | (go_at_call 10; (with_reducible refine (HRb.out w3).mono ?_); rintro e w3 ⟨rfl, rfl⟩)
    | (go_at_call 18; (with_reducible refine (HC.out w3).mono ?_); rintro e w3 ⟨rfl, rfl⟩))
  refine wp_region_noPanic ?_
  refine wp_region_held_drew (S := fun w' => Below w3.heap.size w3 w') (by kernel_rfl) ((Below.refl w3.heap.size w3).drew) (fun h0 => ?_)
  generalize w3.drew = w6 at *
  have HB6 := hid (HB3.out.self h0)
  have HY6 := hid (HY3.out.self h0)
  have HZ6 := hid (HZ3.out.self h0)
  refine wpAnyH_from h0 (fun h1x => ?_)
  refine wpAnyH_take (i := 0) (v := u2) rfl (by kernel_rfl) (by kernel_rfl) (by kernel_rfl) (fun _ _ _ h => h) (.inl ⟨by rfl, fun w hw => by clear hw; go_simp⟩) h1x ?_
  try simp only [Act.put, lay_out]
  refine wpAnyH_take (i := 1) (v := .pointer (some ⟨w.heap.size, 2, none⟩)) rfl (by kernel_rfl) (by kernel_rfl) (by kernel_rfl) (fun _ _ _ h => h) (.inl ⟨by rfl, fun w hw => by clear hw; go_simp⟩) h1x ?_
  try simp only [Act.put, lay_out]
  refine wpAnyH_take (i := 2) (v := .slice a2 L2 c2) rfl (by kernel_rfl) (by kernel_rfl) (by kernel_rfl) (fun _ _ _ h => h) (.inl ⟨by rfl, fun w hw => by have kk := ccell_self (HB6.out.cell.2.2) hw; clear hw; go_simp⟩) h1x ?_
  try simp only [Act.put, lay_out]
  refine wpAnyH_take (i := 3) (v := .int .i64 128) rfl (by kernel_rfl) (by kernel_rfl) (by kernel_rfl) (fun _ _ _ h => h) (.inl ⟨by rfl, fun w hw => by clear hw; go_simp⟩) h1x ?_
  try simp only [Act.put, lay_out]
  refine wpAnyH_take (i := 5) (v := .int .i64 (m : Int)) rfl (by kernel_rfl) (by kernel_rfl) (by kernel_rfl) (fun _ _ _ h => h) (.inl ⟨by rfl, fun w hw => by clear hw; go_simp⟩) h1x ?_
  try simp only [Act.put, lay_out]
  refine wpAnyH_ready (rs := [4]) (by kernel_rfl) (by simp) (AllReadyH.cons rfl (fun K hK => ?_) AllReadyH.nil)
  rw [if_pos (by rfl)]
  go_simp
  go_at_call 10
  (with_reducible refine (HRb.out w6).mono ?_); rintro e w6 ⟨rfl, rfl⟩
  refine hK.out _ _ (Below.refl _ _) (fun h2x => ?_)
  clear hK K
  try simp only [Act.put, lay_out]
  refine wpAnyH_ready (rs := [6]) (by kernel_rfl) (by simp) (AllReadyH.cons rfl (fun K hK => ?_) AllReadyH.nil)
  rw [if_pos (by rfl)]
  go_simp
  go_at_call 14
  (with_reducible refine (HF1.out w6 (HR2.out.self HB6.out.low)).mono ?_); rintro e w7 ⟨u7, rfl, hr7, hl7⟩
  have HB7 := hid (HB6.out.self hl7)
  have HZ7 := hid (HZ6.out.self hl7)
  have HS7 := hid (same_ns _ _ _ _ w7 (HY6.out.self hl7) hr7 rfl)
  clear hr7
  refine hK.out _ _ (hl7) (fun h3x => ?_)
  clear hK K
  try simp only [Act.put, lay_out]
  clear hl7
  refine wpAnyH_from h3x (fun h4x => ?_)
  refine wpAnyH_ready (rs := [7]) (by kernel_rfl) (by simp) (AllReadyH.cons rfl (fun K hK => ?_) AllReadyH.nil)
  rw [if_pos (by rfl)]
  go_simp
  go_at_call 12
  (with_reducible refine (HS7.out).mono ?_); rintro e w7 ⟨rfl, rfl⟩
  refine hK.out _ _ (Below.refl _ _) (fun h5x => ?_)
  clear hK K
  try simp only [Act.put, lay_out]
  refine wpAnyH_take (i := 8) (v := .bool true) rfl (by kernel_rfl) (by kernel_rfl) (by kernel_rfl) (fun _ _ _ h => h) (.inl ⟨by rfl, fun w hw => by clear hw; go_simp⟩) h5x ?_
  try simp only [Act.put, lay_out]
  refine wpAnyH_take (i := 9) (v := u3) rfl (by kernel_rfl) (by kernel_rfl) (by kernel_rfl) (fun _ _ _ h => h) (.inl ⟨by rfl, fun w hw => by clear hw; go_simp⟩) h5x ?_
  try simp only [Act.put, lay_out]
  refine wpAnyH_take (i := 10) (v := .int .i64 128) rfl (by kernel_rfl) (by kernel_rfl) (by kernel_rfl) (fun _ _ _ h => h) (.inl ⟨by rfl, fun w hw => by clear hw; go_simp⟩) h5x ?_
  try simp only [Act.put, lay_out]
  refine wpAnyH_take (i := 11) (v := .pointer (some ⟨w.heap.size, 0, none⟩)) rfl (by kernel_rfl) (by kernel_rfl) (by kernel_rfl) (fun _ _ _ h => h) (.inl ⟨by rfl, fun w hw => by clear hw; go_simp⟩) h5x ?_
  try simp only [Act.put, lay_out]
  refine wpAnyH_take (i := 12) (v := .slice a0 L0 c0) rfl (by kernel_rfl) (by kernel_rfl) (by kernel_rfl) (fun _ _ _ h => h) (.inl ⟨by rfl, fun w hw => by have kk := ccell_self (HB7.out.cell.1) hw; clear hw; go_simp⟩) h5x ?_
  try simp only [Act.put, lay_out]
  refine wpAnyH_take (i := 13) (v := .pointer (some ⟨w.heap.size, 1, none⟩)) rfl (by kernel_rfl) (by kernel_rfl) (by kernel_rfl) (fun _ _ _ h => h) (.inl ⟨by rfl, fun w hw => by clear hw; go_simp⟩) h5x ?_
  try simp only [Act.put, lay_out]
  refine wpAnyH_take (i := 14) (v := .slice a1 L1 c1) rfl (by kernel_rfl) (by kernel_rfl) (by kernel_rfl) (fun _ _ _ h => h) (.inl ⟨by rfl, fun w hw => by have kk := ccell_self (HB7.out.cell.2.1) hw; clear hw; go_simp⟩) h5x ?_
  try simp only [Act.put, lay_out]
  refine wpAnyH_take (i := 15) (v := .pointer (some ⟨w.heap.size, 2, none⟩)) rfl (by kernel_rfl) (by kernel_rfl) (by kernel_rfl) (fun _ _ _ h => h) (.inl ⟨by rfl, fun w hw => by clear hw; go_simp⟩) h5x ?_
  try simp only [Act.put, lay_out]
  refine wpAnyH_take (i := 16) (v := .slice a2 L2 c2) rfl (by kernel_rfl) (by kernel_rfl) (by kernel_rfl) (fun _ _ _ h => h) (.inl ⟨by rfl, fun w hw => by have kk := ccell_self (HB7.out.cell.2.2) hw; clear hw; go_simp⟩) h5x ?_
  try simp only [Act.put, lay_out]
  refine wpAnyH_take (i := 17) (v := .int .i64 (m : Int)) rfl (by kernel_rfl) (by kernel_rfl) (by kernel_rfl) (fun _ _ _ h => h) (.inl ⟨by rfl, fun w hw => by clear hw; go_simp⟩) h5x ?_
  try simp only [Act.put, lay_out]
  refine wpAnyH_ready (rs := [18]) (by kernel_rfl) (by simp) (AllReadyH.cons rfl (fun K hK => ?_) AllReadyH.nil)
  rw [if_pos (by rfl)]
  go_simp
  go_at_call 19
  (with_reducible refine (HF2.out w7 (HR0.out.self HB7.out.low) (HR1.out.self HB7.out.low) (HR2.out.self HB7.out.low)).mono ?_); rintro e w8 ⟨u8, rfl, hr8, hl8⟩
  have HB8 := hid (HB7.out.self hl8)
  have HS8 := hid (same_ns _ _ _ _ w8 (HZ7.out.self hl8) hr8 rfl)
  clear hr8
  refine hK.out _ _ (hl8) (fun h6x => ?_)
  clear hK K
  try simp only [Act.put, lay_out]
  clear hl8
  refine wpAnyH_from h6x (fun h7x => ?_)
  refine wpAnyH_ready (rs := [19]) (by kernel_rfl) (by simp) (AllReadyH.cons rfl (fun K hK => ?_) AllReadyH.nil)
  rw [if_pos (by rfl)]
  go_simp
  go_at_call 12
  (with_reducible refine (HS8.out).mono ?_); rintro e w8 ⟨rfl, rfl⟩
  refine hK.out _ _ (Below.refl _ _) (fun h8x => ?_)
  clear hK K
  try simp only [Act.put, lay_out]
  refine wpAnyH_take (i := 20) (v := .bool true) rfl (by kernel_rfl) (by kernel_rfl) (by kernel_rfl) (fun _ _ _ h => h) (.inl ⟨by rfl, fun w hw => by clear hw; go_simp⟩) h8x ?_
  try simp only [Act.put, lay_out]
  refine wpAnyH_take (i := 21) (v := .bool true) rfl (by kernel_rfl) (by kernel_rfl) (by kernel_rfl) (fun _ _ _ h => h) (.inl ⟨by rfl, fun w hw => by clear hw; go_simp⟩) h8x ?_
  try simp only [Act.put, lay_out]
  refine wpAnyH_ready (rs := [22]) (by kernel_rfl) (by simp) (AllReadyH.cons rfl (fun K hK => ?_) AllReadyH.nil)
  rw [if_pos (by rfl)]
  go_simp
  go_at_call 6
  (with_reducible refine (sawake_any w8).mono ?_); rintro e w9 ⟨rfl, hl9⟩
  have HW9 := hid (HB8.out.low.trans (hl9.mono HB8.out.low.size))
  refine hK.out _ _ (hl9) (fun h9x => ?_)
  clear hK K
  try simp only [Act.put, lay_out]
  refine wpAnyH_take (i := 23) (v := .bool true) rfl (by kernel_rfl) (by kernel_rfl) (by kernel_rfl) (fun _ _ _ h => h) (.inl ⟨by rfl, fun w hw => by clear hw; go_simp⟩) h9x ?_
  try simp only [Act.put, lay_out]
  refine wpAnyH_take (i := 24) (v := .bool true) rfl (by kernel_rfl) (by kernel_rfl) (by kernel_rfl) (fun _ _ _ h => h) (.inl ⟨by rfl, fun w hw => by clear hw; go_simp⟩) h9x ?_
  try simp only [Act.put, lay_out]
  refine wpAnyH_done (by kernel_rfl) ?_ _
  refine NoPanic.normal ?_
  clear h0 h1x h2x h3x h4x h5x h6x h7x h8x h9x
  try simp only [Act.put, lay_out]
  go_wp2
  go_ret
  exact ⟨rfl, HW9.out⟩

set_option maxRecDepth 100000 in
set_option maxHeartbeats 6400000 in
theorem shashes_kl (b n : Int) (a0 a1 a2 : Option Addr) (L0 L1 L2 c0 c1 c2 : Nat) (z0 z1 z2 : List Int) (w : World) (hr0 : Rd .u8 w (.slice a0 L0 c0) z0) (hr1 : Rd .u8 w (.slice a1 L1 c1) z1) (hr2 : Rd .u8 w (.slice a2 L2 c2) z2) (kv0 : CapV (.slice a0 L0 c0)) (kv1 : CapV (.slice a1 L1 c1)) (kv2 : CapV (.slice a2 L2 c2)) (l0 : z0.length ≤ 500 ∧ L0 ≤ 500) (l1 : z1.length ≤ 500 ∧ L1 ≤ 500) (l2 : z2.length ≤ 500 ∧ L2 ≤ 500) (hs : b = 128) (hc : chE b n = 1) (hn : n ≤ 1000) :
    Calls Try.prog 4 #[.int .i64 b, .int .i64 n, .agg #[.slice a0 L0 c0, .slice a1 L1 c1, .slice a2 L2 c2]] w fun e w' => e = .returned (.bool true) ∧ Below w.heap.size w w' := by
  have HB := hid (Bx3.start w (.slice a0 L0 c0) (.slice a1 L1 c1) (.slice a2 L2 c2))
  obtain ⟨k0, k1, k2⟩ := HB.out.cell
  have HR0 := hid hr0
  have HR1 := hid hr1
  have HR2 := hid hr2
  have HSh := hid (fun w (h : Rd .u8 w (.slice a2 L2 c2) z2) => ssha_i b _ z2 w ⟨h, kv2⟩ (by omega))
  have HSk := hid (fun w (h : Rd .u8 w (.slice a2 L2 c2) z2) => sshake_i b n _ z2 w ⟨h, kv2⟩ (by omega))
  have HSn := hid (fun w (h0 : Rd .u8 w (.slice a0 L0 c0) z0) (h1 : Rd .u8 w (.slice a1 L1 c1) z1) (h2 : Rd .u8 w (.slice a2 L2 c2) z2) => snamed_i b n _ _ _ z0 z1 z2 w ⟨h0, kv0⟩ ⟨h1, kv1⟩ ⟨h2, kv2⟩ (by omega) (by omega) (by omega))
  have HRb := hid (fun w => refrate_any b w)
  have HC := hid (fun w => refcheck_any b n w)
  rw [hc] at HC
  rw [skL, hc, if_neg (by decide)] at HSk
  rw [skN, hc, if_neg (by decide)] at HSn
  subst hs
  rw [shaL, shaE, show shaK 128 = false from rfl, if_neg (by decide), if_neg (by decide)] at HSh
  rw [show raN 128 = 168 from rfl] at HRb
  have g0 : ¬ (500 : Int) < (L0 : Int) := by omega
  have g1 : ¬ (500 : Int) < (L1 : Int) := by omega
  have g2 : ¬ (500 : Int) < (L2 : Int) := by omega
  have g3 : ¬ (1000 : Int) < n := by omega
  clear hr0 hr1 hr2 l0 l1 l2 hn hc
  go_enter Try.func4, Try.ntmps4
  go_wp2_with (first
    | (go_at_call 15; (with_reducible refine (HSh.out _ (HR2.out.self HB.out.low)).mono ?_); rintro e w1 ⟨u1, rfl, hr, hl⟩; obtain ⟨x1, y1, rfl⟩ := rd_zero_open hr; have HB1 := hid (HB.out.self hl); obtain ⟨k10, k11, k12⟩ := HB1.out.cell; clear hl hr)
    | (go_at_call 16; (with_reducible refine (HSk.out w1 (HR2.out.self HB1.out.low)).mono ?_); rintro e w2 ⟨u2, rfl, hr, hl⟩; obtain ⟨x2, y2, rfl⟩ := rd_zero_open hr; have HB2 := hid (HB1.out.self hl); obtain ⟨k20, k21, k22⟩ := HB2.out.cell; clear hl hr)
    | (go_at_call 17; (with_reducible refine (HSn.out w2 (HR0.out.self HB2.out.low) (HR1.out.self HB2.out.low) (HR2.out.self HB2.out.low)).mono ?_); rintro e w3 ⟨u3, rfl, hr, hl⟩; obtain ⟨x3, y3, rfl⟩ := rd_zero_open hr; have HB3 := hid (HB2.out.self hl); obtain ⟨k30, k31, k32⟩ := HB3.out.cell; clear hl hr)
    | (go_at_call 10; (with_reducible refine (HRb.out w3).mono ?_); rintro e w3 ⟨rfl, rfl⟩)
    | (go_at_call 18; (with_reducible refine (HC.out w3).mono ?_); rintro e w3 ⟨rfl, rfl⟩)
    | (go_at_call 6; (with_reducible refine (sawake_any _).mono ?_); rintro e w9 ⟨rfl, hl9⟩; have HW9 := hid (HB3.out.low.trans (hl9.mono HB3.out.low.size)); clear hl9))
  go_ret
  exact ⟨rfl, HW9.out⟩

set_option maxRecDepth 100000 in
set_option maxHeartbeats 6400000 in
theorem shashes_kb (b n : Int) (a0 a1 a2 : Option Addr) (L0 L1 L2 c0 c1 c2 : Nat) (z0 z1 z2 : List Int) (w : World) (hr0 : Rd .u8 w (.slice a0 L0 c0) z0) (hr1 : Rd .u8 w (.slice a1 L1 c1) z1) (hr2 : Rd .u8 w (.slice a2 L2 c2) z2) (kv0 : CapV (.slice a0 L0 c0)) (kv1 : CapV (.slice a1 L1 c1)) (kv2 : CapV (.slice a2 L2 c2)) (l0 : z0.length ≤ 500 ∧ L0 ≤ 500) (l1 : z1.length ≤ 500 ∧ L1 ≤ 500) (l2 : z2.length ≤ 500 ∧ L2 ≤ 500) (hs : b = 128) (hc : chE b n = 1) (hn : 65536 < n) :
    Calls Try.prog 4 #[.int .i64 b, .int .i64 n, .agg #[.slice a0 L0 c0, .slice a1 L1 c1, .slice a2 L2 c2]] w fun e w' => e = .returned (.bool true) ∧ Below w.heap.size w w' := by
  have HB := hid (Bx3.start w (.slice a0 L0 c0) (.slice a1 L1 c1) (.slice a2 L2 c2))
  obtain ⟨k0, k1, k2⟩ := HB.out.cell
  have HR0 := hid hr0
  have HR1 := hid hr1
  have HR2 := hid hr2
  have HSh := hid (fun w (h : Rd .u8 w (.slice a2 L2 c2) z2) => ssha_i b _ z2 w ⟨h, kv2⟩ (by omega))
  have HSk := hid (fun w (h : Rd .u8 w (.slice a2 L2 c2) z2) => sshake_i b n _ z2 w ⟨h, kv2⟩ (by omega))
  have HSn := hid (fun w (h0 : Rd .u8 w (.slice a0 L0 c0) z0) (h1 : Rd .u8 w (.slice a1 L1 c1) z1) (h2 : Rd .u8 w (.slice a2 L2 c2) z2) => snamed_i b n _ _ _ z0 z1 z2 w ⟨h0, kv0⟩ ⟨h1, kv1⟩ ⟨h2, kv2⟩ (by omega) (by omega) (by omega))
  have HRb := hid (fun w => refrate_any b w)
  have HC := hid (fun w => refcheck_any b n w)
  rw [hc] at HC
  rw [skL, hc, if_neg (by decide)] at HSk
  rw [skN, hc, if_neg (by decide)] at HSn
  subst hs
  rw [shaL, shaE, show shaK 128 = false from rfl, if_neg (by decide), if_neg (by decide)] at HSh
  rw [show raN 128 = 168 from rfl] at HRb
  have g0 : ¬ (500 : Int) < (L0 : Int) := by omega
  have g1 : ¬ (500 : Int) < (L1 : Int) := by omega
  have g2 : ¬ (500 : Int) < (L2 : Int) := by omega
  have g3 : (1000 : Int) < n := by omega
  have g4 : ¬ n ≤ 65536 := by omega
  clear hr0 hr1 hr2 l0 l1 l2 hn hc
  go_enter Try.func4, Try.ntmps4
  go_wp2_with (first
    | (go_at_call 15; (with_reducible refine (HSh.out _ (HR2.out.self HB.out.low)).mono ?_); rintro e w1 ⟨u1, rfl, hr, hl⟩; obtain ⟨x1, y1, rfl⟩ := rd_zero_open hr; have HB1 := hid (HB.out.self hl); obtain ⟨k10, k11, k12⟩ := HB1.out.cell; clear hl hr)
    | (go_at_call 16; (with_reducible refine (HSk.out w1 (HR2.out.self HB1.out.low)).mono ?_); rintro e w2 ⟨u2, rfl, hr, hl⟩; obtain ⟨x2, y2, rfl⟩ := rd_zero_open hr; have HB2 := hid (HB1.out.self hl); obtain ⟨k20, k21, k22⟩ := HB2.out.cell; clear hl hr)
    | (go_at_call 17; (with_reducible refine (HSn.out w2 (HR0.out.self HB2.out.low) (HR1.out.self HB2.out.low) (HR2.out.self HB2.out.low)).mono ?_); rintro e w3 ⟨u3, rfl, hr, hl⟩; obtain ⟨x3, y3, rfl⟩ := rd_zero_open hr; have HB3 := hid (HB2.out.self hl); obtain ⟨k30, k31, k32⟩ := HB3.out.cell; clear hl hr)
    | (go_at_call 10; (with_reducible refine (HRb.out w3).mono ?_); rintro e w3 ⟨rfl, rfl⟩)
    | (go_at_call 18; (with_reducible refine (HC.out w3).mono ?_); rintro e w3 ⟨rfl, rfl⟩)
    | (go_at_call 6; (with_reducible refine (sawake_any _).mono ?_); rintro e w9 ⟨rfl, hl9⟩; have HW9 := hid (HB3.out.low.trans (hl9.mono HB3.out.low.size)); clear hl9))
  go_ret
  exact ⟨rfl, HW9.out⟩

set_option maxRecDepth 100000 in
set_option maxHeartbeats 6400000 in
theorem shashes_go (b n : Int) (a0 a1 a2 : Option Addr) (L0 L1 L2 c0 c1 c2 : Nat) (z0 z1 z2 : List Int) (w : World) (hr0 : Rd .u8 w (.slice a0 L0 c0) z0) (hr1 : Rd .u8 w (.slice a1 L1 c1) z1) (hr2 : Rd .u8 w (.slice a2 L2 c2) z2) (kv0 : CapV (.slice a0 L0 c0)) (kv1 : CapV (.slice a1 L1 c1)) (kv2 : CapV (.slice a2 L2 c2)) (l0 : z0.length ≤ 500 ∧ L0 ≤ 500) (l1 : z1.length ≤ 500 ∧ L1 ≤ 500) (l2 : z2.length ≤ 500 ∧ L2 ≤ 500) (hs : shaK b = true) (hc : chE b n = 0) (hn : n ≤ 1000) :
    Calls Try.prog 4 #[.int .i64 b, .int .i64 n, .agg #[.slice a0 L0 c0, .slice a1 L1 c1, .slice a2 L2 c2]] w fun e w' => e = .returned (.bool true) ∧ Below w.heap.size w w' := by
  have HB := hid (Bx3.start w (.slice a0 L0 c0) (.slice a1 L1 c1) (.slice a2 L2 c2))
  obtain ⟨k0, k1, k2⟩ := HB.out.cell
  have HR0 := hid hr0
  have HR1 := hid hr1
  have HR2 := hid hr2
  have HSh := hid (fun w (h : Rd .u8 w (.slice a2 L2 c2) z2) => ssha_i b _ z2 w ⟨h, kv2⟩ (by omega))
  have HSk := hid (fun w (h : Rd .u8 w (.slice a2 L2 c2) z2) => sshake_i b n _ z2 w ⟨h, kv2⟩ (by omega))
  have HSn := hid (fun w (h0 : Rd .u8 w (.slice a0 L0 c0) z0) (h1 : Rd .u8 w (.slice a1 L1 c1) z1) (h2 : Rd .u8 w (.slice a2 L2 c2) z2) => snamed_i b n _ _ _ z0 z1 z2 w ⟨h0, kv0⟩ ⟨h1, kv1⟩ ⟨h2, kv2⟩ (by omega) (by omega) (by omega))
  have HRb := hid (fun w => refrate_any b w)
  have HC := hid (fun w => refcheck_any b n w)
  rw [hc] at HC
  obtain ⟨q, m, hq, hq2, rfl, hm⟩ := chE_q hc
  rw [skL, hc, if_pos rfl, hq, Int.toNat_natCast, Int.toNat_natCast] at HSk
  rw [skN, hc, if_pos rfl, hq, Int.toNat_natCast, Int.toNat_natCast] at HSn
  have HF1 := hid (fun w (h : Rd .u8 w (.slice a2 L2 c2) z2) => refsum_any _ z2 q m 31 w h (by omega) hq2 (by decide) hm)
  have HF2 := hid (fun w (h0 : Rd .u8 w (.slice a0 L0 c0) z0) (h1 : Rd .u8 w (.slice a1 L1 c1) z1) (h2 : Rd .u8 w (.slice a2 L2 c2) z2) => refnamed_any b q m _ _ _ z0 z1 z2 w hq hq2 h0 h1 h2 (by omega) (by omega) (by omega) hm)
  have h1 : raN b ≠ 0 ∧ b ≠ 128 := of_decide_eq_true hs
  obtain ⟨p, hp, hp2⟩ := raN_q h1.1
  have hb : 0 ≤ b ∧ b ≤ 1000 := by
    have h2 := h1.1
    unfold raN at h2
    by_cases h4 : 0 ≤ b ∧ b ≤ 1000
    · exact h4
    · rw [if_neg (by omega), if_neg (by omega), if_neg (by omega), if_neg (by omega), if_neg (by omega)] at h2; exact absurd rfl h2
  obtain ⟨M, hM⟩ : ∃ M : Nat, b / 8 = M := ⟨(b / 8).toNat, by omega⟩
  have HF6 := hid (fun w (h : Rd .u8 w (.slice a2 L2 c2) z2) => refsum_any _ z2 p M 6 w h (by omega) hp2 (by decide) (by omega))
  rw [shaL, shaE, hs, if_pos rfl, if_pos rfl, hp, hM, Int.toNat_natCast, Int.toNat_natCast] at HSh
  have hm2 : b.tdiv 8 = (M : Int) := by rw [Int.tdiv_eq_ediv_of_nonneg (by omega)]; exact hM
  have hm3 : IntKind.i64.wrap (M : Int) = M := by rw [IntKind.wrap_i64]; omega
  obtain rfl : q = p := by rw [hq] at hp; omega
  rw [hp] at HRb
  generalize sumL z2 (8 * q) 6 M = X6 at *
  generalize sumL z2 (8 * q) 31 m = X1 at *
  generalize namL z0 z1 z2 (8 * q) m = X2 at *
  have g0 : ¬ (500 : Int) < (L0 : Int) := by omega
  have g1 : ¬ (500 : Int) < (L1 : Int) := by omega
  have g2 : ¬ (500 : Int) < (L2 : Int) := by omega
  have g3 : ¬ (1000 : Int) < (m : Int) := by omega
  have g5 : ¬ ((8 * q : Nat) : Int) = 0 := by omega
  have g6 : (b == 128) = false := by simpa using h1.2
  generalize 8 * q = R at *
  have g7 : ((R : Int) == 0) = false := by simpa using g5
  try clear hp
  clear hr0 hr1 hr2 l0 l1 l2 hn hc hq hq2 hm h1 hb hp2 hM hs g5
  go_enter Try.func4, Try.ntmps4
  go_wp2_with (first
    | (go_at_call 15; (with_reducible refine (HSh.out _ (HR2.out.self HB.out.low)).mono ?_); rintro e w1 ⟨u1, rfl, hr, hl⟩; have HX1 := hid hr; have HB1 := hid (HB.out.self hl); obtain ⟨k10, k11, k12⟩ := HB1.out.cell; clear hl hr)
    | (go_at_call 16; (with_reducible refine (HSk.out w1 (HR2.out.self HB1.out.low)).mono ?_); rintro e w2 ⟨u2, rfl, hr, hl⟩; have HY2 := hid hr; have HX2 := hid (HX1.out.self hl); have HB2 := hid (HB1.out.self hl); obtain ⟨k20, k21, k22⟩ := HB2.out.cell; clear hl hr)
    | (go_at_call 17; (with_reducible refine (HSn.out w2 (HR0.out.self HB2.out.low) (HR1.out.self HB2.out.low) (HR2.out.self HB2.out.low)).mono ?_); rintro e w3 ⟨u3, rfl, hr, hl⟩; have HZ3 := hid hr; have HY3 := hid (HY2.out.self hl); have HX3 := hid (HX2.out.self hl); have HB3 := hid (HB2.out.self hl); obtain ⟨k30, k31, k32⟩ := HB3.out.cell; clear hl hr)
    | (go_at_call 10; (with_reducible refine (HRb.out w3).mono ?_); rintro e w3 ⟨rfl, rfl⟩))
  refine wp_region_noPanic ?_
  refine wp_region_held_drew (S := fun w' => Below w3.heap.size w3 w') (by kernel_rfl) ((Below.refl w3.heap.size w3).drew) (fun h0 => ?_)
  generalize w3.drew = w4 at *
  have HB4 := hid (HB3.out.self h0)
  have HX4 := hid (HX3.out.self h0)
  have HY4 := hid (HY3.out.self h0)
  have HZ4 := hid (HZ3.out.self h0)
  refine wpAnyH_from h0 (fun h1x => ?_)
  refine wpAnyH_take (i := 0) (v := .int .i64 0) rfl (by kernel_rfl) (by kernel_rfl) (by kernel_rfl) (fun _ _ _ h => h) (.inl ⟨by rfl, fun w hw => by clear hw; go_simp⟩) h1x ?_
  try simp only [Act.put, lay_out]
  refine wpAnyH_take (i := 1) (v := .bool false) rfl (by kernel_rfl) (by kernel_rfl) (by kernel_rfl) (fun _ _ _ h => h) (.inl ⟨by rfl, fun w hw => by clear hw; go_simp⟩) h1x ?_
  try simp only [Act.put, lay_out]
  refine wpAnyH_take (i := 2) (v := .bool false) rfl (by kernel_rfl) (by kernel_rfl) (by kernel_rfl) (fun _ _ _ h => h) (.inl ⟨by rfl, fun w hw => by clear hw; go_simp⟩) h1x ?_
  try simp only [Act.put, lay_out]
  refine wpAnyH_take (i := 3) (v := u1) rfl (by kernel_rfl) (by kernel_rfl) (by kernel_rfl) (fun _ _ _ h => h) (.inl ⟨by rfl, fun w hw => by clear hw; go_simp⟩) h1x ?_
  try simp only [Act.put, lay_out]
  refine wpAnyH_take (i := 4) (v := .pointer (some ⟨w.heap.size, 2, none⟩)) rfl (by kernel_rfl) (by kernel_rfl) (by kernel_rfl) (fun _ _ _ h => h) (.inl ⟨by rfl, fun w hw => by clear hw; go_simp⟩) h1x ?_
  try simp only [Act.put, lay_out]
  refine wpAnyH_take (i := 5) (v := .slice a2 L2 c2) rfl (by kernel_rfl) (by kernel_rfl) (by kernel_rfl) (fun _ _ _ h => h) (.inl ⟨by rfl, fun w hw => by have kk := ccell_self (HB4.out.cell.2.2) hw; clear hw; go_simp⟩) h1x ?_
  try simp only [Act.put, lay_out]
  refine wpAnyH_take (i := 6) (v := .int .i64 b) rfl (by kernel_rfl) (by kernel_rfl) (by kernel_rfl) (fun _ _ _ h => h) (.inl ⟨by rfl, fun w hw => by clear hw; go_simp⟩) h1x ?_
  try simp only [Act.put, lay_out]
  refine wpAnyH_take (i := 8) (v := .int .i64 b) rfl (by kernel_rfl) (by kernel_rfl) (by kernel_rfl) (fun _ _ _ h => h) (.inl ⟨by rfl, fun w hw => by clear hw; go_simp⟩) h1x ?_
  try simp only [Act.put, lay_out]
  refine wpAnyH_take (i := 9) (v := .int .i64 (M : Int)) rfl (by kernel_rfl) (by kernel_rfl) (by kernel_rfl) (fun _ _ _ h => h) (.inl ⟨by rfl, fun w hw => by clear hw; go_simp⟩) h1x ?_
  try simp only [Act.put, lay_out]
  refine wpAnyH_ready (rs := [7]) (by kernel_rfl) (by simp) (AllReadyH.cons rfl (fun K hK => ?_) AllReadyH.nil)
  rw [if_pos (by rfl)]
  go_simp
  go_at_call 10
  (with_reducible refine (HRb.out w4).mono ?_); rintro e w4 ⟨rfl, rfl⟩
  refine hK.out _ _ (Below.refl _ _) (fun h2x => ?_)
  clear hK K
  try simp only [Act.put, lay_out]
  refine wpAnyH_ready (rs := [10]) (by kernel_rfl) (by simp) (AllReadyH.cons rfl (fun K hK => ?_) AllReadyH.nil)
  rw [if_pos (by rfl)]
  go_simp
  go_at_call 14
  (with_reducible refine (HF6.out w4 (HR2.out.self HB4.out.low)).mono ?_); rintro e w5 ⟨u5, rfl, hr5, hl5⟩
  have HB5 := hid (HB4.out.self hl5)
  have HX5 := hid (HX4.out.self hl5)
  have HS5 := hid (same_ns _ _ _ _ w5 HX5.out hr5 rfl)
  have HY5 := hid (HY4.out.self hl5)
  have HZ5 := hid (HZ4.out.self hl5)
  clear hr5
  refine hK.out _ _ (hl5) (fun h3x => ?_)
  clear hK K
  try simp only [Act.put, lay_out]
  clear hl5
  refine wpAnyH_from h3x (fun h4x => ?_)
  refine wpAnyH_ready (rs := [11]) (by kernel_rfl) (by simp) (AllReadyH.cons rfl (fun K hK => ?_) AllReadyH.nil)
  rw [if_pos (by rfl)]
  go_simp
  go_at_call 12
  (with_reducible refine (HS5.out).mono ?_); rintro e w5 ⟨rfl, rfl⟩
  refine hK.out _ _ (Below.refl _ _) (fun h5x => ?_)
  clear hK K
  try simp only [Act.put, lay_out]
  refine wpAnyH_take (i := 12) (v := .bool false) rfl (by kernel_rfl) (by kernel_rfl) (by kernel_rfl) (fun _ _ _ h => h) (.inl ⟨by rfl, fun w hw => by clear hw; go_simp⟩) h5x ?_
  try simp only [Act.put, lay_out]
  refine wpAnyH_take (i := 13) (v := .bool false) rfl (by kernel_rfl) (by kernel_rfl) (by kernel_rfl) (fun _ _ _ h => h) (.inl ⟨by rfl, fun w hw => by clear hw; go_simp⟩) h5x ?_
  try simp only [Act.put, lay_out]
  refine wpAnyH_done (by kernel_rfl) ?_ _
  refine NoPanic.normal ?_
  clear h0 h1x h2x h3x h4x h5x
  try simp only [Act.put, lay_out]
  obtain ⟨k50, k51, k52⟩ := HB5.out.cell
  go_wp2_with (first
    | (go_at_call 18; (with_reducible refine (HC.out w5).mono ?_); rintro e w5 ⟨rfl, rfl⟩))
  refine wp_region_noPanic ?_
  refine wp_region_held_drew (S := fun w' => Below w5.heap.size w5 w') (by kernel_rfl) ((Below.refl w5.heap.size w5).drew) (fun h0 => ?_)
  generalize w5.drew = w6 at *
  have HB6 := hid (HB5.out.self h0)
  have HY6 := hid (HY5.out.self h0)
  have HZ6 := hid (HZ5.out.self h0)
  refine wpAnyH_from h0 (fun h1x => ?_)
  refine wpAnyH_take (i := 0) (v := u2) rfl (by kernel_rfl) (by kernel_rfl) (by kernel_rfl) (fun _ _ _ h => h) (.inl ⟨by rfl, fun w hw => by clear hw; go_simp⟩) h1x ?_
  try simp only [Act.put, lay_out]
  refine wpAnyH_take (i := 1) (v := .pointer (some ⟨w.heap.size, 2, none⟩)) rfl (by kernel_rfl) (by kernel_rfl) (by kernel_rfl) (fun _ _ _ h => h) (.inl ⟨by rfl, fun w hw => by clear hw; go_simp⟩) h1x ?_
  try simp only [Act.put, lay_out]
  refine wpAnyH_take (i := 2) (v := .slice a2 L2 c2) rfl (by kernel_rfl) (by kernel_rfl) (by kernel_rfl) (fun _ _ _ h => h) (.inl ⟨by rfl, fun w hw => by have kk := ccell_self (HB6.out.cell.2.2) hw; clear hw; go_simp⟩) h1x ?_
  try simp only [Act.put, lay_out]
  refine wpAnyH_take (i := 3) (v := .int .i64 b) rfl (by kernel_rfl) (by kernel_rfl) (by kernel_rfl) (fun _ _ _ h => h) (.inl ⟨by rfl, fun w hw => by clear hw; go_simp⟩) h1x ?_
  try simp only [Act.put, lay_out]
  refine wpAnyH_take (i := 5) (v := .int .i64 (m : Int)) rfl (by kernel_rfl) (by kernel_rfl) (by kernel_rfl) (fun _ _ _ h => h) (.inl ⟨by rfl, fun w hw => by clear hw; go_simp⟩) h1x ?_
  try simp only [Act.put, lay_out]
  refine wpAnyH_ready (rs := [4]) (by kernel_rfl) (by simp) (AllReadyH.cons rfl (fun K hK => ?_) AllReadyH.nil)
  rw [if_pos (by rfl)]
  go_simp
  go_at_call 10
  (with_reducible refine (HRb.out w6).mono ?_); rintro e w6 ⟨rfl, rfl⟩
  refine hK.out _ _ (Below.refl _ _) (fun h2x => ?_)
  clear hK K
  try simp only [Act.put, lay_out]
  refine wpAnyH_ready (rs := [6]) (by kernel_rfl) (by simp) (AllReadyH.cons rfl (fun K hK => ?_) AllReadyH.nil)
  rw [if_pos (by rfl)]
  go_simp
  go_at_call 14
  (with_reducible refine (HF1.out w6 (HR2.out.self HB6.out.low)).mono ?_); rintro e w7 ⟨u7, rfl, hr7, hl7⟩
  have HB7 := hid (HB6.out.self hl7)
  have HZ7 := hid (HZ6.out.self hl7)
  have HS7 := hid (same_ns _ _ _ _ w7 (HY6.out.self hl7) hr7 rfl)
  clear hr7
  refine hK.out _ _ (hl7) (fun h3x => ?_)
  clear hK K
  try simp only [Act.put, lay_out]
  clear hl7
  refine wpAnyH_from h3x (fun h4x => ?_)
  refine wpAnyH_ready (rs := [7]) (by kernel_rfl) (by simp) (AllReadyH.cons rfl (fun K hK => ?_) AllReadyH.nil)
  rw [if_pos (by rfl)]
  go_simp
  go_at_call 12
  (with_reducible refine (HS7.out).mono ?_); rintro e w7 ⟨rfl, rfl⟩
  refine hK.out _ _ (Below.refl _ _) (fun h5x => ?_)
  clear hK K
  try simp only [Act.put, lay_out]
  refine wpAnyH_take (i := 8) (v := .bool true) rfl (by kernel_rfl) (by kernel_rfl) (by kernel_rfl) (fun _ _ _ h => h) (.inl ⟨by rfl, fun w hw => by clear hw; go_simp⟩) h5x ?_
  try simp only [Act.put, lay_out]
  refine wpAnyH_take (i := 9) (v := u3) rfl (by kernel_rfl) (by kernel_rfl) (by kernel_rfl) (fun _ _ _ h => h) (.inl ⟨by rfl, fun w hw => by clear hw; go_simp⟩) h5x ?_
  try simp only [Act.put, lay_out]
  refine wpAnyH_take (i := 10) (v := .int .i64 b) rfl (by kernel_rfl) (by kernel_rfl) (by kernel_rfl) (fun _ _ _ h => h) (.inl ⟨by rfl, fun w hw => by clear hw; go_simp⟩) h5x ?_
  try simp only [Act.put, lay_out]
  refine wpAnyH_take (i := 11) (v := .pointer (some ⟨w.heap.size, 0, none⟩)) rfl (by kernel_rfl) (by kernel_rfl) (by kernel_rfl) (fun _ _ _ h => h) (.inl ⟨by rfl, fun w hw => by clear hw; go_simp⟩) h5x ?_
  try simp only [Act.put, lay_out]
  refine wpAnyH_take (i := 12) (v := .slice a0 L0 c0) rfl (by kernel_rfl) (by kernel_rfl) (by kernel_rfl) (fun _ _ _ h => h) (.inl ⟨by rfl, fun w hw => by have kk := ccell_self (HB7.out.cell.1) hw; clear hw; go_simp⟩) h5x ?_
  try simp only [Act.put, lay_out]
  refine wpAnyH_take (i := 13) (v := .pointer (some ⟨w.heap.size, 1, none⟩)) rfl (by kernel_rfl) (by kernel_rfl) (by kernel_rfl) (fun _ _ _ h => h) (.inl ⟨by rfl, fun w hw => by clear hw; go_simp⟩) h5x ?_
  try simp only [Act.put, lay_out]
  refine wpAnyH_take (i := 14) (v := .slice a1 L1 c1) rfl (by kernel_rfl) (by kernel_rfl) (by kernel_rfl) (fun _ _ _ h => h) (.inl ⟨by rfl, fun w hw => by have kk := ccell_self (HB7.out.cell.2.1) hw; clear hw; go_simp⟩) h5x ?_
  try simp only [Act.put, lay_out]
  refine wpAnyH_take (i := 15) (v := .pointer (some ⟨w.heap.size, 2, none⟩)) rfl (by kernel_rfl) (by kernel_rfl) (by kernel_rfl) (fun _ _ _ h => h) (.inl ⟨by rfl, fun w hw => by clear hw; go_simp⟩) h5x ?_
  try simp only [Act.put, lay_out]
  refine wpAnyH_take (i := 16) (v := .slice a2 L2 c2) rfl (by kernel_rfl) (by kernel_rfl) (by kernel_rfl) (fun _ _ _ h => h) (.inl ⟨by rfl, fun w hw => by have kk := ccell_self (HB7.out.cell.2.2) hw; clear hw; go_simp⟩) h5x ?_
  try simp only [Act.put, lay_out]
  refine wpAnyH_take (i := 17) (v := .int .i64 (m : Int)) rfl (by kernel_rfl) (by kernel_rfl) (by kernel_rfl) (fun _ _ _ h => h) (.inl ⟨by rfl, fun w hw => by clear hw; go_simp⟩) h5x ?_
  try simp only [Act.put, lay_out]
  refine wpAnyH_ready (rs := [18]) (by kernel_rfl) (by simp) (AllReadyH.cons rfl (fun K hK => ?_) AllReadyH.nil)
  rw [if_pos (by rfl)]
  go_simp
  go_at_call 19
  (with_reducible refine (HF2.out w7 (HR0.out.self HB7.out.low) (HR1.out.self HB7.out.low) (HR2.out.self HB7.out.low)).mono ?_); rintro e w8 ⟨u8, rfl, hr8, hl8⟩
  have HB8 := hid (HB7.out.self hl8)
  have HS8 := hid (same_ns _ _ _ _ w8 (HZ7.out.self hl8) hr8 rfl)
  clear hr8
  refine hK.out _ _ (hl8) (fun h6x => ?_)
  clear hK K
  try simp only [Act.put, lay_out]
  clear hl8
  refine wpAnyH_from h6x (fun h7x => ?_)
  refine wpAnyH_ready (rs := [19]) (by kernel_rfl) (by simp) (AllReadyH.cons rfl (fun K hK => ?_) AllReadyH.nil)
  rw [if_pos (by rfl)]
  go_simp
  go_at_call 12
  (with_reducible refine (HS8.out).mono ?_); rintro e w8 ⟨rfl, rfl⟩
  refine hK.out _ _ (Below.refl _ _) (fun h8x => ?_)
  clear hK K
  try simp only [Act.put, lay_out]
  refine wpAnyH_take (i := 20) (v := .bool true) rfl (by kernel_rfl) (by kernel_rfl) (by kernel_rfl) (fun _ _ _ h => h) (.inl ⟨by rfl, fun w hw => by clear hw; go_simp⟩) h8x ?_
  try simp only [Act.put, lay_out]
  refine wpAnyH_take (i := 21) (v := .bool true) rfl (by kernel_rfl) (by kernel_rfl) (by kernel_rfl) (fun _ _ _ h => h) (.inl ⟨by rfl, fun w hw => by clear hw; go_simp⟩) h8x ?_
  try simp only [Act.put, lay_out]
  refine wpAnyH_ready (rs := [22]) (by kernel_rfl) (by simp) (AllReadyH.cons rfl (fun K hK => ?_) AllReadyH.nil)
  rw [if_pos (by rfl)]
  go_simp
  go_at_call 6
  (with_reducible refine (sawake_any w8).mono ?_); rintro e w9 ⟨rfl, hl9⟩
  have HW9 := hid (HB8.out.low.trans (hl9.mono HB8.out.low.size))
  refine hK.out _ _ (hl9) (fun h9x => ?_)
  clear hK K
  try simp only [Act.put, lay_out]
  refine wpAnyH_take (i := 23) (v := .bool true) rfl (by kernel_rfl) (by kernel_rfl) (by kernel_rfl) (fun _ _ _ h => h) (.inl ⟨by rfl, fun w hw => by clear hw; go_simp⟩) h9x ?_
  try simp only [Act.put, lay_out]
  refine wpAnyH_take (i := 24) (v := .bool true) rfl (by kernel_rfl) (by kernel_rfl) (by kernel_rfl) (fun _ _ _ h => h) (.inl ⟨by rfl, fun w hw => by clear hw; go_simp⟩) h9x ?_
  try simp only [Act.put, lay_out]
  refine wpAnyH_done (by kernel_rfl) ?_ _
  refine NoPanic.normal ?_
  clear h0 h1x h2x h3x h4x h5x h6x h7x h8x h9x
  try simp only [Act.put, lay_out]
  go_wp2
  go_ret
  exact ⟨rfl, HW9.out⟩

set_option maxRecDepth 100000 in
set_option maxHeartbeats 6400000 in
theorem shashes_gl (b n : Int) (a0 a1 a2 : Option Addr) (L0 L1 L2 c0 c1 c2 : Nat) (z0 z1 z2 : List Int) (w : World) (hr0 : Rd .u8 w (.slice a0 L0 c0) z0) (hr1 : Rd .u8 w (.slice a1 L1 c1) z1) (hr2 : Rd .u8 w (.slice a2 L2 c2) z2) (kv0 : CapV (.slice a0 L0 c0)) (kv1 : CapV (.slice a1 L1 c1)) (kv2 : CapV (.slice a2 L2 c2)) (l0 : z0.length ≤ 500 ∧ L0 ≤ 500) (l1 : z1.length ≤ 500 ∧ L1 ≤ 500) (l2 : z2.length ≤ 500 ∧ L2 ≤ 500) (hs : shaK b = true) (hc : chE b n = 1) (hn : n ≤ 1000) :
    Calls Try.prog 4 #[.int .i64 b, .int .i64 n, .agg #[.slice a0 L0 c0, .slice a1 L1 c1, .slice a2 L2 c2]] w fun e w' => e = .returned (.bool true) ∧ Below w.heap.size w w' := by
  have HB := hid (Bx3.start w (.slice a0 L0 c0) (.slice a1 L1 c1) (.slice a2 L2 c2))
  obtain ⟨k0, k1, k2⟩ := HB.out.cell
  have HR0 := hid hr0
  have HR1 := hid hr1
  have HR2 := hid hr2
  have HSh := hid (fun w (h : Rd .u8 w (.slice a2 L2 c2) z2) => ssha_i b _ z2 w ⟨h, kv2⟩ (by omega))
  have HSk := hid (fun w (h : Rd .u8 w (.slice a2 L2 c2) z2) => sshake_i b n _ z2 w ⟨h, kv2⟩ (by omega))
  have HSn := hid (fun w (h0 : Rd .u8 w (.slice a0 L0 c0) z0) (h1 : Rd .u8 w (.slice a1 L1 c1) z1) (h2 : Rd .u8 w (.slice a2 L2 c2) z2) => snamed_i b n _ _ _ z0 z1 z2 w ⟨h0, kv0⟩ ⟨h1, kv1⟩ ⟨h2, kv2⟩ (by omega) (by omega) (by omega))
  have HRb := hid (fun w => refrate_any b w)
  have HC := hid (fun w => refcheck_any b n w)
  rw [hc] at HC
  rw [skL, hc, if_neg (by decide)] at HSk
  rw [skN, hc, if_neg (by decide)] at HSn
  have h1 : raN b ≠ 0 ∧ b ≠ 128 := of_decide_eq_true hs
  obtain ⟨p, hp, hp2⟩ := raN_q h1.1
  have hb : 0 ≤ b ∧ b ≤ 1000 := by
    have h2 := h1.1
    unfold raN at h2
    by_cases h4 : 0 ≤ b ∧ b ≤ 1000
    · exact h4
    · rw [if_neg (by omega), if_neg (by omega), if_neg (by omega), if_neg (by omega), if_neg (by omega)] at h2; exact absurd rfl h2
  obtain ⟨M, hM⟩ : ∃ M : Nat, b / 8 = M := ⟨(b / 8).toNat, by omega⟩
  have HF6 := hid (fun w (h : Rd .u8 w (.slice a2 L2 c2) z2) => refsum_any _ z2 p M 6 w h (by omega) hp2 (by decide) (by omega))
  rw [shaL, shaE, hs, if_pos rfl, if_pos rfl, hp, hM, Int.toNat_natCast, Int.toNat_natCast] at HSh
  have hm2 : b.tdiv 8 = (M : Int) := by rw [Int.tdiv_eq_ediv_of_nonneg (by omega)]; exact hM
  have hm3 : IntKind.i64.wrap (M : Int) = M := by rw [IntKind.wrap_i64]; omega
  rw [hp] at HRb
  generalize sumL z2 (8 * p) 6 M = X6 at *
  have g0 : ¬ (500 : Int) < (L0 : Int) := by omega
  have g1 : ¬ (500 : Int) < (L1 : Int) := by omega
  have g2 : ¬ (500 : Int) < (L2 : Int) := by omega
  have g3 : ¬ (1000 : Int) < n := by omega
  have g5 : ¬ ((8 * p : Nat) : Int) = 0 := by omega
  have g6 : (b == 128) = false := by simpa using h1.2
  generalize 8 * p = R at *
  have g7 : ((R : Int) == 0) = false := by simpa using g5
  try clear hp
  clear hr0 hr1 hr2 l0 l1 l2 hn hc h1 hb hp2 hM hs g5
  go_enter Try.func4, Try.ntmps4
  go_wp2_with (first
    | (go_at_call 15; (with_reducible refine (HSh.out _ (HR2.out.self HB.out.low)).mono ?_); rintro e w1 ⟨u1, rfl, hr, hl⟩; have HX1 := hid hr; have HB1 := hid (HB.out.self hl); obtain ⟨k10, k11, k12⟩ := HB1.out.cell; clear hl hr)
    | (go_at_call 16; (with_reducible refine (HSk.out w1 (HR2.out.self HB1.out.low)).mono ?_); rintro e w2 ⟨u2, rfl, hr, hl⟩; obtain ⟨x2, y2, rfl⟩ := rd_zero_open hr; have HX2 := hid (HX1.out.self hl); have HB2 := hid (HB1.out.self hl); obtain ⟨k20, k21, k22⟩ := HB2.out.cell; clear hl hr)
    | (go_at_call 17; (with_reducible refine (HSn.out w2 (HR0.out.self HB2.out.low) (HR1.out.self HB2.out.low) (HR2.out.self HB2.out.low)).mono ?_); rintro e w3 ⟨u3, rfl, hr, hl⟩; obtain ⟨x3, y3, rfl⟩ := rd_zero_open hr; have HX3 := hid (HX2.out.self hl); have HB3 := hid (HB2.out.self hl); obtain ⟨k30, k31, k32⟩ := HB3.out.cell; clear hl hr)
    | (go_at_call 10; (with_reducible refine (HRb.out w3).mono ?_); rintro e w3 ⟨rfl, rfl⟩))
  refine wp_region_noPanic ?_
  refine wp_region_held_drew (S := fun w' => Below w3.heap.size w3 w') (by kernel_rfl) ((Below.refl w3.heap.size w3).drew) (fun h0 => ?_)
  generalize w3.drew = w4 at *
  have HB4 := hid (HB3.out.self h0)
  have HX4 := hid (HX3.out.self h0)
  refine wpAnyH_from h0 (fun h1x => ?_)
  refine wpAnyH_take (i := 0) (v := .int .i64 0) rfl (by kernel_rfl) (by kernel_rfl) (by kernel_rfl) (fun _ _ _ h => h) (.inl ⟨by rfl, fun w hw => by clear hw; go_simp⟩) h1x ?_
  try simp only [Act.put, lay_out]
  refine wpAnyH_take (i := 1) (v := .bool false) rfl (by kernel_rfl) (by kernel_rfl) (by kernel_rfl) (fun _ _ _ h => h) (.inl ⟨by rfl, fun w hw => by clear hw; go_simp⟩) h1x ?_
  try simp only [Act.put, lay_out]
  refine wpAnyH_take (i := 2) (v := .bool false) rfl (by kernel_rfl) (by kernel_rfl) (by kernel_rfl) (fun _ _ _ h => h) (.inl ⟨by rfl, fun w hw => by clear hw; go_simp⟩) h1x ?_
  try simp only [Act.put, lay_out]
  refine wpAnyH_take (i := 3) (v := u1) rfl (by kernel_rfl) (by kernel_rfl) (by kernel_rfl) (fun _ _ _ h => h) (.inl ⟨by rfl, fun w hw => by clear hw; go_simp⟩) h1x ?_
  try simp only [Act.put, lay_out]
  refine wpAnyH_take (i := 4) (v := .pointer (some ⟨w.heap.size, 2, none⟩)) rfl (by kernel_rfl) (by kernel_rfl) (by kernel_rfl) (fun _ _ _ h => h) (.inl ⟨by rfl, fun w hw => by clear hw; go_simp⟩) h1x ?_
  try simp only [Act.put, lay_out]
  refine wpAnyH_take (i := 5) (v := .slice a2 L2 c2) rfl (by kernel_rfl) (by kernel_rfl) (by kernel_rfl) (fun _ _ _ h => h) (.inl ⟨by rfl, fun w hw => by have kk := ccell_self (HB4.out.cell.2.2) hw; clear hw; go_simp⟩) h1x ?_
  try simp only [Act.put, lay_out]
  refine wpAnyH_take (i := 6) (v := .int .i64 b) rfl (by kernel_rfl) (by kernel_rfl) (by kernel_rfl) (fun _ _ _ h => h) (.inl ⟨by rfl, fun w hw => by clear hw; go_simp⟩) h1x ?_
  try simp only [Act.put, lay_out]
  refine wpAnyH_take (i := 8) (v := .int .i64 b) rfl (by kernel_rfl) (by kernel_rfl) (by kernel_rfl) (fun _ _ _ h => h) (.inl ⟨by rfl, fun w hw => by clear hw; go_simp⟩) h1x ?_
  try simp only [Act.put, lay_out]
  refine wpAnyH_take (i := 9) (v := .int .i64 (M : Int)) rfl (by kernel_rfl) (by kernel_rfl) (by kernel_rfl) (fun _ _ _ h => h) (.inl ⟨by rfl, fun w hw => by clear hw; go_simp⟩) h1x ?_
  try simp only [Act.put, lay_out]
  refine wpAnyH_ready (rs := [7]) (by kernel_rfl) (by simp) (AllReadyH.cons rfl (fun K hK => ?_) AllReadyH.nil)
  rw [if_pos (by rfl)]
  go_simp
  go_at_call 10
  (with_reducible refine (HRb.out w4).mono ?_); rintro e w4 ⟨rfl, rfl⟩
  refine hK.out _ _ (Below.refl _ _) (fun h2x => ?_)
  clear hK K
  try simp only [Act.put, lay_out]
  refine wpAnyH_ready (rs := [10]) (by kernel_rfl) (by simp) (AllReadyH.cons rfl (fun K hK => ?_) AllReadyH.nil)
  rw [if_pos (by rfl)]
  go_simp
  go_at_call 14
  (with_reducible refine (HF6.out w4 (HR2.out.self HB4.out.low)).mono ?_); rintro e w5 ⟨u5, rfl, hr5, hl5⟩
  have HB5 := hid (HB4.out.self hl5)
  have HX5 := hid (HX4.out.self hl5)
  have HS5 := hid (same_ns _ _ _ _ w5 HX5.out hr5 rfl)
  clear hr5
  refine hK.out _ _ (hl5) (fun h3x => ?_)
  clear hK K
  try simp only [Act.put, lay_out]
  clear hl5
  refine wpAnyH_from h3x (fun h4x => ?_)
  refine wpAnyH_ready (rs := [11]) (by kernel_rfl) (by simp) (AllReadyH.cons rfl (fun K hK => ?_) AllReadyH.nil)
  rw [if_pos (by rfl)]
  go_simp
  go_at_call 12
  (with_reducible refine (HS5.out).mono ?_); rintro e w5 ⟨rfl, rfl⟩
  refine hK.out _ _ (Below.refl _ _) (fun h5x => ?_)
  clear hK K
  try simp only [Act.put, lay_out]
  refine wpAnyH_take (i := 12) (v := .bool false) rfl (by kernel_rfl) (by kernel_rfl) (by kernel_rfl) (fun _ _ _ h => h) (.inl ⟨by rfl, fun w hw => by clear hw; go_simp⟩) h5x ?_
  try simp only [Act.put, lay_out]
  refine wpAnyH_take (i := 13) (v := .bool false) rfl (by kernel_rfl) (by kernel_rfl) (by kernel_rfl) (fun _ _ _ h => h) (.inl ⟨by rfl, fun w hw => by clear hw; go_simp⟩) h5x ?_
  try simp only [Act.put, lay_out]
  refine wpAnyH_done (by kernel_rfl) ?_ _
  refine NoPanic.normal ?_
  clear h0 h1x h2x h3x h4x h5x
  try simp only [Act.put, lay_out]
  obtain ⟨k50, k51, k52⟩ := HB5.out.cell
  go_wp2_with (first
    | (go_at_call 18; (with_reducible refine (HC.out w5).mono ?_); rintro e w5 ⟨rfl, rfl⟩)
    | (go_at_call 6; (with_reducible refine (sawake_any _).mono ?_); rintro e w9 ⟨rfl, hl9⟩; have HW9 := hid (HB5.out.low.trans (hl9.mono HB5.out.low.size)); clear hl9))
  go_ret
  exact ⟨rfl, HW9.out⟩

set_option maxRecDepth 100000 in
set_option maxHeartbeats 6400000 in
theorem shashes_gb (b n : Int) (a0 a1 a2 : Option Addr) (L0 L1 L2 c0 c1 c2 : Nat) (z0 z1 z2 : List Int) (w : World) (hr0 : Rd .u8 w (.slice a0 L0 c0) z0) (hr1 : Rd .u8 w (.slice a1 L1 c1) z1) (hr2 : Rd .u8 w (.slice a2 L2 c2) z2) (kv0 : CapV (.slice a0 L0 c0)) (kv1 : CapV (.slice a1 L1 c1)) (kv2 : CapV (.slice a2 L2 c2)) (l0 : z0.length ≤ 500 ∧ L0 ≤ 500) (l1 : z1.length ≤ 500 ∧ L1 ≤ 500) (l2 : z2.length ≤ 500 ∧ L2 ≤ 500) (hs : shaK b = true) (hc : chE b n = 1) (hn : 65536 < n) :
    Calls Try.prog 4 #[.int .i64 b, .int .i64 n, .agg #[.slice a0 L0 c0, .slice a1 L1 c1, .slice a2 L2 c2]] w fun e w' => e = .returned (.bool true) ∧ Below w.heap.size w w' := by
  have HB := hid (Bx3.start w (.slice a0 L0 c0) (.slice a1 L1 c1) (.slice a2 L2 c2))
  obtain ⟨k0, k1, k2⟩ := HB.out.cell
  have HR0 := hid hr0
  have HR1 := hid hr1
  have HR2 := hid hr2
  have HSh := hid (fun w (h : Rd .u8 w (.slice a2 L2 c2) z2) => ssha_i b _ z2 w ⟨h, kv2⟩ (by omega))
  have HSk := hid (fun w (h : Rd .u8 w (.slice a2 L2 c2) z2) => sshake_i b n _ z2 w ⟨h, kv2⟩ (by omega))
  have HSn := hid (fun w (h0 : Rd .u8 w (.slice a0 L0 c0) z0) (h1 : Rd .u8 w (.slice a1 L1 c1) z1) (h2 : Rd .u8 w (.slice a2 L2 c2) z2) => snamed_i b n _ _ _ z0 z1 z2 w ⟨h0, kv0⟩ ⟨h1, kv1⟩ ⟨h2, kv2⟩ (by omega) (by omega) (by omega))
  have HRb := hid (fun w => refrate_any b w)
  have HC := hid (fun w => refcheck_any b n w)
  rw [hc] at HC
  rw [skL, hc, if_neg (by decide)] at HSk
  rw [skN, hc, if_neg (by decide)] at HSn
  have h1 : raN b ≠ 0 ∧ b ≠ 128 := of_decide_eq_true hs
  obtain ⟨p, hp, hp2⟩ := raN_q h1.1
  have hb : 0 ≤ b ∧ b ≤ 1000 := by
    have h2 := h1.1
    unfold raN at h2
    by_cases h4 : 0 ≤ b ∧ b ≤ 1000
    · exact h4
    · rw [if_neg (by omega), if_neg (by omega), if_neg (by omega), if_neg (by omega), if_neg (by omega)] at h2; exact absurd rfl h2
  obtain ⟨M, hM⟩ : ∃ M : Nat, b / 8 = M := ⟨(b / 8).toNat, by omega⟩
  have HF6 := hid (fun w (h : Rd .u8 w (.slice a2 L2 c2) z2) => refsum_any _ z2 p M 6 w h (by omega) hp2 (by decide) (by omega))
  rw [shaL, shaE, hs, if_pos rfl, if_pos rfl, hp, hM, Int.toNat_natCast, Int.toNat_natCast] at HSh
  have hm2 : b.tdiv 8 = (M : Int) := by rw [Int.tdiv_eq_ediv_of_nonneg (by omega)]; exact hM
  have hm3 : IntKind.i64.wrap (M : Int) = M := by rw [IntKind.wrap_i64]; omega
  rw [hp] at HRb
  generalize sumL z2 (8 * p) 6 M = X6 at *
  have g0 : ¬ (500 : Int) < (L0 : Int) := by omega
  have g1 : ¬ (500 : Int) < (L1 : Int) := by omega
  have g2 : ¬ (500 : Int) < (L2 : Int) := by omega
  have g3 : (1000 : Int) < n := by omega
  have g4 : ¬ n ≤ 65536 := by omega
  have g5 : ¬ ((8 * p : Nat) : Int) = 0 := by omega
  have g6 : (b == 128) = false := by simpa using h1.2
  generalize 8 * p = R at *
  have g7 : ((R : Int) == 0) = false := by simpa using g5
  try clear hp
  clear hr0 hr1 hr2 l0 l1 l2 hn hc h1 hb hp2 hM hs g5
  go_enter Try.func4, Try.ntmps4
  go_wp2_with (first
    | (go_at_call 15; (with_reducible refine (HSh.out _ (HR2.out.self HB.out.low)).mono ?_); rintro e w1 ⟨u1, rfl, hr, hl⟩; have HX1 := hid hr; have HB1 := hid (HB.out.self hl); obtain ⟨k10, k11, k12⟩ := HB1.out.cell; clear hl hr)
    | (go_at_call 16; (with_reducible refine (HSk.out w1 (HR2.out.self HB1.out.low)).mono ?_); rintro e w2 ⟨u2, rfl, hr, hl⟩; obtain ⟨x2, y2, rfl⟩ := rd_zero_open hr; have HX2 := hid (HX1.out.self hl); have HB2 := hid (HB1.out.self hl); obtain ⟨k20, k21, k22⟩ := HB2.out.cell; clear hl hr)
    | (go_at_call 17; (with_reducible refine (HSn.out w2 (HR0.out.self HB2.out.low) (HR1.out.self HB2.out.low) (HR2.out.self HB2.out.low)).mono ?_); rintro e w3 ⟨u3, rfl, hr, hl⟩; obtain ⟨x3, y3, rfl⟩ := rd_zero_open hr; have HX3 := hid (HX2.out.self hl); have HB3 := hid (HB2.out.self hl); obtain ⟨k30, k31, k32⟩ := HB3.out.cell; clear hl hr)
    | (go_at_call 10; (with_reducible refine (HRb.out w3).mono ?_); rintro e w3 ⟨rfl, rfl⟩))
  refine wp_region_noPanic ?_
  refine wp_region_held_drew (S := fun w' => Below w3.heap.size w3 w') (by kernel_rfl) ((Below.refl w3.heap.size w3).drew) (fun h0 => ?_)
  generalize w3.drew = w4 at *
  have HB4 := hid (HB3.out.self h0)
  have HX4 := hid (HX3.out.self h0)
  refine wpAnyH_from h0 (fun h1x => ?_)
  refine wpAnyH_take (i := 0) (v := .int .i64 0) rfl (by kernel_rfl) (by kernel_rfl) (by kernel_rfl) (fun _ _ _ h => h) (.inl ⟨by rfl, fun w hw => by clear hw; go_simp⟩) h1x ?_
  try simp only [Act.put, lay_out]
  refine wpAnyH_take (i := 1) (v := .bool false) rfl (by kernel_rfl) (by kernel_rfl) (by kernel_rfl) (fun _ _ _ h => h) (.inl ⟨by rfl, fun w hw => by clear hw; go_simp⟩) h1x ?_
  try simp only [Act.put, lay_out]
  refine wpAnyH_take (i := 2) (v := .bool false) rfl (by kernel_rfl) (by kernel_rfl) (by kernel_rfl) (fun _ _ _ h => h) (.inl ⟨by rfl, fun w hw => by clear hw; go_simp⟩) h1x ?_
  try simp only [Act.put, lay_out]
  refine wpAnyH_take (i := 3) (v := u1) rfl (by kernel_rfl) (by kernel_rfl) (by kernel_rfl) (fun _ _ _ h => h) (.inl ⟨by rfl, fun w hw => by clear hw; go_simp⟩) h1x ?_
  try simp only [Act.put, lay_out]
  refine wpAnyH_take (i := 4) (v := .pointer (some ⟨w.heap.size, 2, none⟩)) rfl (by kernel_rfl) (by kernel_rfl) (by kernel_rfl) (fun _ _ _ h => h) (.inl ⟨by rfl, fun w hw => by clear hw; go_simp⟩) h1x ?_
  try simp only [Act.put, lay_out]
  refine wpAnyH_take (i := 5) (v := .slice a2 L2 c2) rfl (by kernel_rfl) (by kernel_rfl) (by kernel_rfl) (fun _ _ _ h => h) (.inl ⟨by rfl, fun w hw => by have kk := ccell_self (HB4.out.cell.2.2) hw; clear hw; go_simp⟩) h1x ?_
  try simp only [Act.put, lay_out]
  refine wpAnyH_take (i := 6) (v := .int .i64 b) rfl (by kernel_rfl) (by kernel_rfl) (by kernel_rfl) (fun _ _ _ h => h) (.inl ⟨by rfl, fun w hw => by clear hw; go_simp⟩) h1x ?_
  try simp only [Act.put, lay_out]
  refine wpAnyH_take (i := 8) (v := .int .i64 b) rfl (by kernel_rfl) (by kernel_rfl) (by kernel_rfl) (fun _ _ _ h => h) (.inl ⟨by rfl, fun w hw => by clear hw; go_simp⟩) h1x ?_
  try simp only [Act.put, lay_out]
  refine wpAnyH_take (i := 9) (v := .int .i64 (M : Int)) rfl (by kernel_rfl) (by kernel_rfl) (by kernel_rfl) (fun _ _ _ h => h) (.inl ⟨by rfl, fun w hw => by clear hw; go_simp⟩) h1x ?_
  try simp only [Act.put, lay_out]
  refine wpAnyH_ready (rs := [7]) (by kernel_rfl) (by simp) (AllReadyH.cons rfl (fun K hK => ?_) AllReadyH.nil)
  rw [if_pos (by rfl)]
  go_simp
  go_at_call 10
  (with_reducible refine (HRb.out w4).mono ?_); rintro e w4 ⟨rfl, rfl⟩
  refine hK.out _ _ (Below.refl _ _) (fun h2x => ?_)
  clear hK K
  try simp only [Act.put, lay_out]
  refine wpAnyH_ready (rs := [10]) (by kernel_rfl) (by simp) (AllReadyH.cons rfl (fun K hK => ?_) AllReadyH.nil)
  rw [if_pos (by rfl)]
  go_simp
  go_at_call 14
  (with_reducible refine (HF6.out w4 (HR2.out.self HB4.out.low)).mono ?_); rintro e w5 ⟨u5, rfl, hr5, hl5⟩
  have HB5 := hid (HB4.out.self hl5)
  have HX5 := hid (HX4.out.self hl5)
  have HS5 := hid (same_ns _ _ _ _ w5 HX5.out hr5 rfl)
  clear hr5
  refine hK.out _ _ (hl5) (fun h3x => ?_)
  clear hK K
  try simp only [Act.put, lay_out]
  clear hl5
  refine wpAnyH_from h3x (fun h4x => ?_)
  refine wpAnyH_ready (rs := [11]) (by kernel_rfl) (by simp) (AllReadyH.cons rfl (fun K hK => ?_) AllReadyH.nil)
  rw [if_pos (by rfl)]
  go_simp
  go_at_call 12
  (with_reducible refine (HS5.out).mono ?_); rintro e w5 ⟨rfl, rfl⟩
  refine hK.out _ _ (Below.refl _ _) (fun h5x => ?_)
  clear hK K
  try simp only [Act.put, lay_out]
  refine wpAnyH_take (i := 12) (v := .bool false) rfl (by kernel_rfl) (by kernel_rfl) (by kernel_rfl) (fun _ _ _ h => h) (.inl ⟨by rfl, fun w hw => by clear hw; go_simp⟩) h5x ?_
  try simp only [Act.put, lay_out]
  refine wpAnyH_take (i := 13) (v := .bool false) rfl (by kernel_rfl) (by kernel_rfl) (by kernel_rfl) (fun _ _ _ h => h) (.inl ⟨by rfl, fun w hw => by clear hw; go_simp⟩) h5x ?_
  try simp only [Act.put, lay_out]
  refine wpAnyH_done (by kernel_rfl) ?_ _
  refine NoPanic.normal ?_
  clear h0 h1x h2x h3x h4x h5x
  try simp only [Act.put, lay_out]
  obtain ⟨k50, k51, k52⟩ := HB5.out.cell
  go_wp2_with (first
    | (go_at_call 18; (with_reducible refine (HC.out w5).mono ?_); rintro e w5 ⟨rfl, rfl⟩)
    | (go_at_call 6; (with_reducible refine (sawake_any _).mono ?_); rintro e w9 ⟨rfl, hl9⟩; have HW9 := hid (HB5.out.low.trans (hl9.mono HB5.out.low.size)); clear hl9))
  go_ret
  exact ⟨rfl, HW9.out⟩
theorem shashes_core (b n : Int) (v0 v1 v2 : Value) (z0 z1 z2 : List Int) (w : World) (hr0 : Rd .u8 w v0 z0) (hr1 : Rd .u8 w v1 z1) (hr2 : Rd .u8 w v2 z2) (kv0 : CapV v0) (kv1 : CapV v1) (kv2 : CapV v2) :
    Calls Try.prog 4 #[.int .i64 b, .int .i64 n, .agg #[v0, v1, v2]] w fun e w' => e = .returned (.bool true) ∧ Below w.heap.size w w' := by
  obtain ⟨a0, c0, rfl, _⟩ := id hr0
  obtain ⟨a1, c1, rfl, _⟩ := id hr1
  obtain ⟨a2, c2, rfl, _⟩ := id hr2
  by_cases h0 : 500 < z0.length
  · exact shashes_0 b n a0 a1 a2 _ _ _ c0 c1 c2 w h0
  by_cases h1 : 500 < z1.length
  · exact shashes_1 b n a0 a1 a2 _ _ _ c0 c1 c2 w (by omega) h1
  by_cases h2 : 500 < z2.length
  · exact shashes_2 b n a0 a1 a2 _ _ _ c0 c1 c2 w (by omega) (by omega) h2
  by_cases h3 : 1000 < n ∧ n ≤ 65536
  · exact shashes_n b n a0 a1 a2 _ _ _ c0 c1 c2 w (by omega) (by omega) (by omega) h3.1 h3.2
  have l0 : z0.length ≤ 500 ∧ z0.length ≤ 500 := by omega
  have l1 : z1.length ≤ 500 ∧ z1.length ≤ 500 := by omega
  have l2 : z2.length ≤ 500 ∧ z2.length ≤ 500 := by omega
  by_cases hc : chE b n = 0
  · have h4 := chE_q hc
    have h5 : n ≤ 1000 := by obtain ⟨_, m, _, _, rfl, h6⟩ := h4; omega
    by_cases h6 : b = 128
    · exact shashes_ko b n a0 a1 a2 _ _ _ c0 c1 c2 z0 z1 z2 w hr0 hr1 hr2 kv0 kv1 kv2 l0 l1 l2 h6 hc h5
    · have h7 : shaK b = true := by
        obtain ⟨q, _, h8, h9, _⟩ := h4
        unfold shaK
        rw [h8]
        simp
        omega
      exact shashes_go b n a0 a1 a2 _ _ _ c0 c1 c2 z0 z1 z2 w hr0 hr1 hr2 kv0 kv1 kv2 l0 l1 l2 h7 hc h5
  · have hc := chE_no hc
    by_cases h7 : raN b = 0
    · by_cases h5 : n ≤ 1000
      · exact shashes_nl b n a0 a1 a2 _ _ _ c0 c1 c2 z0 z1 z2 w hr0 hr1 hr2 kv0 kv1 kv2 l0 l1 l2 h7 hc h5
      · exact shashes_nb b n a0 a1 a2 _ _ _ c0 c1 c2 z0 z1 z2 w hr0 hr1 hr2 kv0 kv1 kv2 l0 l1 l2 h7 hc (by omega)
    by_cases h6 : b = 128
    · by_cases h5 : n ≤ 1000
      · exact shashes_kl b n a0 a1 a2 _ _ _ c0 c1 c2 z0 z1 z2 w hr0 hr1 hr2 kv0 kv1 kv2 l0 l1 l2 h6 hc h5
      · exact shashes_kb b n a0 a1 a2 _ _ _ c0 c1 c2 z0 z1 z2 w hr0 hr1 hr2 kv0 kv1 kv2 l0 l1 l2 h6 hc (by omega)
    · have h8 : shaK b = true := by unfold shaK; simp [h6, h7]
      by_cases h5 : n ≤ 1000
      · exact shashes_gl b n a0 a1 a2 _ _ _ c0 c1 c2 z0 z1 z2 w hr0 hr1 hr2 kv0 kv1 kv2 l0 l1 l2 h8 hc h5
      · exact shashes_gb b n a0 a1 a2 _ _ _ c0 c1 c2 z0 z1 z2 w hr0 hr1 hr2 kv0 kv1 kv2 l0 l1 l2 h8 hc (by omega)
end Go.Proofs.Ytfjgelialaccdaa
