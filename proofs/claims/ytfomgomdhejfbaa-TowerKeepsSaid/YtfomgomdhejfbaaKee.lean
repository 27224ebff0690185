import Derived.Test.YtfomgomdhejfbaaProg
import Derived.Test.YtfomgomdhejfbaaTel
import Derived.Test.YtfomgomdhejfbaaMa3
import Derived.Test.YtfomgomdhejfbaaMa5
import Derived.Test.YtfomgomdhejfbaaGfc
import Derived.Test.YtfomgomdhejfbaaGfa
import Derived.Test.YtfomgomdhejfbaaReg
namespace Go.Proofs.Ytfomgomdhejfbaa
open Go.RowKit

/-- Two matrices in blocks c and c + 1. -/
structure KP (c : Nat) (x y : Nat → Nat) (w wr : World) : Prop where
  low : Below w.heap.size w wr
  fst : M wr c x
  snd : M wr (c + 1) y
theorem KP.on {c : Nat} {x y : Nat → Nat} {w wr w1 : World} (h : KP c x y w wr) (hb : Below wr.heap.size wr w1) : KP c x y w w1 := ⟨h.low.trans (hb.mono h.low.size), h.fst.self hb, h.snd.self hb⟩
theorem KP.drew {c : Nat} {x y : Nat → Nat} {w wr : World} (h : KP c x y w wr) : KP c x y w wr.drew := ⟨h.low.drew, h.fst, h.snd⟩
theorem KP.cells {c : Nat} {x y : Nat → Nat} {w wr : World} (h : KP c x y w wr) : Cells wr c x ∧ Cells wr (c + 1) y := ⟨h.fst.cells, h.snd.cells⟩
theorem KP.start {x y : Nat → Nat} {w wr : World} (h : Below w.heap.size w wr) : KP wr.heap.size x y w (two8 wr x y) :=
  have hs := h.size
  ⟨below_setRow (below_setRow ((h.alloc (by omega) _).alloc (by simp; omega) _) (by omega) _) (by omega) _, (two_at wr x y).1, (two_at wr x y).2⟩

set_option maxRecDepth 100000 in
set_option maxHeartbeats 6400000 in
theorem keeps_core (a b c : Nat) (w : World) (ha : a < 256) (hb : b < 256) (hc : c < 256) :
    Calls Try.prog 4 #[.int .u8 (a : Int), .int .u8 (b : Int), .int .u8 (c : Int)] w fun e w' => e = .returned (.bool true) ∧ Below w.heap.size w w' := by
  have HN := hid new_any
  have IN1 := hid in_first
  have OND := hid out_done
  -- the matrices
  have AA : Hid (∀ w, Calls Try.prog 19 #[.agg (ex8 inM), .int .u8 (a : Int)] w fun e w' => e = .returned (.int .u8 (ap inM a : Nat)) ∧ Below w.heap.size w w') := hid (fun w => refapply_any inM a w inM_by ha)
  have AB : Hid (∀ w, Calls Try.prog 19 #[.agg (ex8 inM), .int .u8 (b : Int)] w fun e w' => e = .returned (.int .u8 (ap inM b : Nat)) ∧ Below w.heap.size w w') := hid (fun w => refapply_any inM b w inM_by hb)
  have AO : Hid (∀ w, Calls Try.prog 19 #[.agg (ex8 (inv inM)), .int .u8 (ap inM a : Nat)] w fun e w' => e = .returned (.int .u8 (a : Int)) ∧ Below w.heap.size w w') := hid (fun w => by
    have := refapply_any (inv inM) (ap inM a) w (inv_by inM) (ap_lt _ _); rw [inM_back ha] at this; exact this)
  have GM : Hid (∀ w, Calls Try.prog 20 #[.int .u8 (a : Int), .int .u8 (b : Int)] w fun e w' => e = .returned (.int .u8 (gm a b : Nat)) ∧ w' = w) := hid (fun w => refmul_any a b w ha hb)
  have AG : Hid (∀ w, Calls Try.prog 19 #[.agg (ex8 inM), .int .u8 (gm a b : Nat)] w fun e w' => e = .returned (.int .u8 (tm (ap inM a) (ap inM b) : Nat)) ∧ Below w.heap.size w w') := hid (fun w => by
    have := refapply_any inM (gm a b) w inM_by (gm_lt ha); rw [inM_gm ha hb] at this; exact this)
  have TM : Hid (∀ w, Calls Try.prog 11 #[.int .u8 (ap inM a : Nat), .int .u8 (ap inM b : Nat)] w fun e w' => e = .returned (.int .u8 (tm (ap inM a) (ap inM b) : Nat)) ∧ w' = w) := hid (fun w => tmul_any _ _ w (ap_lt _ _) (ap_lt _ _))
  have AX : Hid (∀ w, Calls Try.prog 19 #[.agg (ex8 inM), .int .u8 (bits .xor .u8 (a : Int) (b : Int))] w fun e w' => e = .returned (.int .u8 (bits .xor .u8 (ap inM a : Nat) (ap inM b : Nat))) ∧ Below w.heap.size w w') := hid (fun w => by
    have := refapply_any inM (a ^^^ b) w inM_by (xor_lt ha hb); rw [ap_xor, ← xor8 ha hb, ← xor8 (ap_lt _ _) (ap_lt _ _)] at this; exact this)
  have GI : Hid (∀ w, Calls Try.prog 21 #[.int .u8 (a : Int)] w fun e w' => e = .returned (.int .u8 (pw a 254 : Nat)) ∧ w' = w) := hid (fun w => inv_any a w ha)
  have AI : Hid (∀ w, Calls Try.prog 19 #[.agg (ex8 inM), .int .u8 (pw a 254 : Nat)] w fun e w' => e = .returned (.int .u8 (ti (ap inM a) : Nat)) ∧ Below w.heap.size w w') := hid (fun w => by
    have := refapply_any inM (pw a 254) w inM_by (pw_lt ha 254); rw [inM_pow ha] at this; exact this)
  have TI : Hid (∀ w, Calls Try.prog 14 #[.int .u8 (ap inM a : Nat)] w fun e w' => e = .returned (.int .u8 (ti (ap inM a) : Nat)) ∧ w' = w) := hid (fun w => tinv_any _ w (ap_lt _ _))
  have A1 : Hid (∀ w, Calls Try.prog 22 #[.agg (ex8 inM), .int .u8 1] w fun e w' => e = .returned (.int .u8 1) ∧ Below w.heap.size w w') := hid (fun w => by
    have := apply_any inM 1 w inM_by (by decide); rw [inM_one] at this; exact this)
  have lu : ap inM a < 256 := ap_lt _ _
  have lv : ap inM b < 256 := ap_lt _ _
  generalize ti (ap inM a) = iu at *
  generalize tm (ap inM a) (ap inM b) = t at *
  generalize ap inM a = u at *
  generalize ap inM b = v at *
  generalize gm a b = g at *
  generalize pw a 254 = pa at *
  generalize inv inM = y at *
  generalize inM = x at *
  -- the numbers of the other rows
  obtain ⟨bc, hbc⟩ : ∃ z, tm b c = z := ⟨_, rfl⟩
  obtain ⟨ab, hab⟩ : ∃ z, tm a b = z := ⟨_, rfl⟩
  obtain ⟨ac, hac⟩ : ∃ z, tm a c = z := ⟨_, rfl⟩
  obtain ⟨d, hd⟩ : ∃ z, tm a bc = z := ⟨_, rfl⟩
  have lbc : bc < 256 := hbc ▸ tm_lt _ _
  have lab : ab < 256 := hab ▸ tm_lt _ _
  have lac : ac < 256 := hac ▸ tm_lt _ _
  have hd2 : tm ab c = d := by rw [← hab, ← tm_assoc ha hb hc, hbc, hd]
  have hdd : tm a (b ^^^ c) = ab ^^^ ac := by rw [tm_add, hab, hac]
  have T1 := hid (fun w => tmul_to hb hc hbc w)
  have T2 := hid (fun w => tmul_to ha lbc hd w)
  have T3 := hid (fun w => tmul_to ha hb hab w)
  have T4 := hid (fun w => tmul_to lab hc hd2 w)
  have T5 := hid (fun w => tmul_to ha (xor_lt hb hc) hdd w)
  have T6 := hid (fun w => tmul_to ha hc hac w)
  rw [← xor8 hb hc, ← xor8 lab lac] at T5
  clear hbc hab hac hd hd2 hdd
  obtain ⟨n, hn⟩ : ∃ z, tno a = z := ⟨_, rfl⟩
  have ln : n < 16 := hn ▸ tno_lt a
  obtain ⟨e0, he⟩ : ∃ z, npw n 14 = z := ⟨_, rfl⟩
  have le : e0 < 16 := he ▸ npw_lt _ _
  have NO := hid (fun w => tno_to ha hn w)
  have NI := hid (fun w => ninv_to (a := n) (by omega) he w)
  have HT : ti a = jn (nm (a / 16) e0) (nm (a / 16 ^^^ a % 16) e0) := by rw [← he, ← hn]; rfl
  obtain ⟨i, hi⟩ : ∃ z, ti a = z := ⟨_, rfl⟩
  have li : i < 256 := hi ▸ ti_lt a
  have TA := hid (fun w => tinv_to ha hi w)
  have HONE := hid (fun h0 : a ≠ 0 => tm_ti ha h0)
  rw [hi] at HT HONE
  obtain ⟨a1, h1⟩ : ∃ x, a / 16 = x := ⟨_, rfl⟩
  obtain ⟨a0, h2⟩ : ∃ x, a % 16 = x := ⟨_, rfl⟩
  have k1 : a1 < 16 := by omega
  have k2 : a0 < 16 := by omega
  rw [h1, h2] at HT
  have e1 : Hid ((a : Int) / 16 = (a1 : Int)) := hid (by omega)
  have e2 : Hid ((a : Int) % 16 = (a0 : Int)) := hid (by omega)
  obtain ⟨p, hp⟩ : ∃ z, nm a1 e0 = z := ⟨_, rfl⟩
  obtain ⟨q, hq⟩ : ∃ z, nm (a1 ^^^ a0) e0 = z := ⟨_, rfl⟩
  have lp : p < 16 := hp ▸ nm_lt _ _
  have lq : q < 16 := hq ▸ nm_lt _ _
  have R1 := hid (fun w => nrefmul_to (a := a1) (b := e0) (by omega) (by omega) hp w)
  have R2 := hid (fun w => nrefmul_to (a := a1 ^^^ a0) (b := e0) (xor_lt (by omega) (by omega)) (by omega) hq w)
  rw [← xor8 (by omega) (by omega), ← e1.out, ← e2.out] at R2
  rw [← e1.out] at R1
  rw [hp, hq] at HT
  have HJ := hid HT
  clear h1 h2 hi hn he hp hq HT
  go_enter Try.func4, Try.ntmps4
  go_wp2_with (first
    | (go_at_call 5; (with_reducible refine (HN.out w).mono ?_); rintro e w1 ⟨rfl, hf, hl⟩; have HF1 := hid hf; have HL1 := hid hl; clear hf hl)
    | (go_at_call 6; (with_reducible refine (IN1.out w.heap.size 0 _ _ w1 HF1.out).mono ?_); rintro e w2 ⟨rfl, hf, hl⟩; have HF2 := hid hf; have HL2 := hid (HL1.out.trans (hl.below (Nat.le_refl _) HL1.out.size)); clear hf hl)
    | (go_at_call 8; (with_reducible refine (OND.out w.heap.size 0 _ _ w2 HF2.out).mono ?_); rintro e w3 ⟨rfl, hf, hl⟩; have HL3 := hid (HL2.out.trans (hl.mono HL2.out.size)); have HK := hid (KP.start (x := x) (y := y) HL3.out); clear hf hl)
    | (refine step_store_ba rfl 25 _ _ rfl w3.heap.size 8 25 (fun _ => 0) x rfl rfl ((At.new w3 8 25 (fun _ => 0)).alloc _) info23 ?_)
    | (refine step_store_ba rfl 25 _ _ rfl (w3.heap.size + 1) 8 25 (fun _ => 0) y rfl rfl (second_at w3 x) info23 ?_))
  have HM0 := hid HK.out.drew
  have K0 := HM0.out.cells
  go_region_held3 (fun w' => Cells w' w3.heap.size x ∧ Cells w' (w3.heap.size + 1) y) (first
    | with_reducible assumption
    | exact K0) (first
      | (go_at_call 19; (with_reducible refine (AA.out _).mono ?_); rintro e w4 ⟨rfl, hlow⟩; have HM1 := hid (HM0.out.on hlow); have K1 := HM1.out.cells; clear hlow)
      | (go_at_call 19; (with_reducible refine (AB.out _).mono ?_); rintro e w5 ⟨rfl, hlow⟩; have HM2 := hid (HM1.out.on hlow); have K2 := HM2.out.cells; clear hlow))
  clear K0 K1 K2 HM0 HM1
  go_wp2
  have HM0 := hid HM2.out.drew
  have K0 := HM0.out.cells
  go_region_held3 (fun w' => Cells w' w3.heap.size x ∧ Cells w' (w3.heap.size + 1) y) (first
    | with_reducible assumption
    | exact K0) (first
      | (go_at_call 19; (with_reducible refine (AO.out _).mono ?_); rintro e w6 ⟨rfl, hlow⟩; have HM3 := hid (HM0.out.on hlow); have K3 := HM3.out.cells; clear hlow)
      | (go_at_call 20; (with_reducible refine (GM.out _).mono ?_); rintro e w' ⟨rfl, rfl⟩)
      | (go_at_call 19; (with_reducible refine (AG.out _).mono ?_); rintro e w7 ⟨rfl, hlow⟩; have HM4 := hid (HM3.out.on hlow); have K4 := HM4.out.cells; clear hlow)
      | (go_at_call 11; (with_reducible refine (TM.out _).mono ?_); rintro e w' ⟨rfl, rfl⟩)
      | (go_at_call 19; (with_reducible refine (AX.out _).mono ?_); rintro e w8 ⟨rfl, hlow⟩; have HM5 := hid (HM4.out.on hlow); have K5 := HM5.out.cells; clear hlow)
      | (go_at_call 21; (with_reducible refine (GI.out _).mono ?_); rintro e w' ⟨rfl, rfl⟩)
      | (go_at_call 19; (with_reducible refine (AI.out _).mono ?_); rintro e w9 ⟨rfl, hlow⟩; have HM6 := hid (HM5.out.on hlow); have K6 := HM6.out.cells; clear hlow)
      | (go_at_call 14; (with_reducible refine (TI.out _).mono ?_); rintro e w' ⟨rfl, rfl⟩)
      | (go_at_call 22; (with_reducible refine (A1.out _).mono ?_); rintro e wa ⟨rfl, hlow⟩; have HM7 := hid (HM6.out.on hlow); have K7 := HM7.out.cells; clear hlow))
  clear K0 K3 K4 K5 K6 K7 HM0 HM3 HM4 HM5 HM6 AA AB AO GM AG TM AX GI AI TI A1
  have X1 : ((i : Int) == (p : Int) * 16 + (q : Int)) = true := by
    have h := HJ.out
    unfold jn at h
    rw [beq_iff_eq]
    omega
  by_cases h0 : a = 0
  · have X2 : ((a : Int) == 0) = true := eqT (y := 0) h0
    clear h0
    go_wp2_with (first
      | (go_at_call 11; (with_reducible refine (T1.out _).mono ?_); rintro e w' ⟨rfl, rfl⟩)
      | (go_at_call 11; (with_reducible refine (T2.out _).mono ?_); rintro e w' ⟨rfl, rfl⟩)
      | (go_at_call 11; (with_reducible refine (T3.out _).mono ?_); rintro e w' ⟨rfl, rfl⟩)
      | (go_at_call 11; (with_reducible refine (T4.out _).mono ?_); rintro e w' ⟨rfl, rfl⟩)
      | (go_at_call 11; (with_reducible refine (T5.out _).mono ?_); rintro e w' ⟨rfl, rfl⟩)
      | (go_at_call 11; (with_reducible refine (T6.out _).mono ?_); rintro e w' ⟨rfl, rfl⟩)
      | (go_at_call 13; (with_reducible refine (NO.out _).mono ?_); rintro e w' ⟨rfl, rfl⟩)
      | (go_at_call 23; (with_reducible refine (NI.out _).mono ?_); rintro e w' ⟨rfl, rfl⟩)
      | (go_at_call 14; (with_reducible refine (TA.out _).mono ?_); rintro e w' ⟨rfl, rfl⟩)
      | (go_at_call 10; (with_reducible refine (R1.out _).mono ?_); rintro e w' ⟨rfl, rfl⟩)
      | (go_at_call 10; (with_reducible refine (R2.out _).mono ?_); rintro e w' ⟨rfl, rfl⟩)
      | (go_at_call 18; (with_reducible refine (tawake_any _).mono ?_); rintro e w' ⟨rfl, rfl⟩))
    go_ret
    exact ⟨rfl, HM7.out.low⟩
  · have X2 : ((a : Int) == 0) = false := eqF (y := 0) h0
    have T7 : Hid (∀ w, Calls Try.prog 11 #[.int .u8 (a : Int), .int .u8 (i : Int)] w fun e w' => e = .returned (.int .u8 1) ∧ w' = w) := hid (fun w => tmul_to ha li (HONE.out h0) w)
    clear h0
    go_wp2_with (first
      | (go_at_call 11; (with_reducible refine (T7.out _).mono ?_); rintro e w' ⟨rfl, rfl⟩)
      | (go_at_call 11; (with_reducible refine (T1.out _).mono ?_); rintro e w' ⟨rfl, rfl⟩)
      | (go_at_call 11; (with_reducible refine (T2.out _).mono ?_); rintro e w' ⟨rfl, rfl⟩)
      | (go_at_call 11; (with_reducible refine (T3.out _).mono ?_); rintro e w' ⟨rfl, rfl⟩)
      | (go_at_call 11; (with_reducible refine (T4.out _).mono ?_); rintro e w' ⟨rfl, rfl⟩)
      | (go_at_call 11; (with_reducible refine (T5.out _).mono ?_); rintro e w' ⟨rfl, rfl⟩)
      | (go_at_call 11; (with_reducible refine (T6.out _).mono ?_); rintro e w' ⟨rfl, rfl⟩)
      | (go_at_call 13; (with_reducible refine (NO.out _).mono ?_); rintro e w' ⟨rfl, rfl⟩)
      | (go_at_call 23; (with_reducible refine (NI.out _).mono ?_); rintro e w' ⟨rfl, rfl⟩)
      | (go_at_call 14; (with_reducible refine (TA.out _).mono ?_); rintro e w' ⟨rfl, rfl⟩)
      | (go_at_call 10; (with_reducible refine (R1.out _).mono ?_); rintro e w' ⟨rfl, rfl⟩)
      | (go_at_call 10; (with_reducible refine (R2.out _).mono ?_); rintro e w' ⟨rfl, rfl⟩)
      | (go_at_call 18; (with_reducible refine (tawake_any _).mono ?_); rintro e w' ⟨rfl, rfl⟩))
    go_ret
    exact ⟨rfl, HM7.out.low⟩
end Go.Proofs.Ytfomgomdhejfbaa
