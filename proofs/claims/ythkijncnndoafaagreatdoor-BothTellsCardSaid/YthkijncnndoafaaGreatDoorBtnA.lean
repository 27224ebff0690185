import Derived.Test.YthkijncnndoafaaGreatDoorBtmA
import Derived.Deep.CutBlock
namespace Go.Proofs.YthkijncnndoafaaGreatDoor
open Go.RowKit Go.Deep
set_option maxRecDepth 100000
set_option maxHeartbeats 25600000 in
theorem btells_core {Pm : World → Nat → Ms → (Nat → Prop) → Prop} (hM : Mach Pm) (hN : MachN Pm) (T : Bool) (nn : Nat) (hT : T = false ∧ nn = 2 ∨ T = true ∧ nn = 3) (Kd K z : Int) (hK : I64 K) (x : Nat → Nat) (hx : ∀ i, x i < 2 ^ 64) (lv mv : Value) (TL : Nat) (tw : Nat → Nat) (TN : Nat) (W : World)
  (hL : RdS .u64 W (fun g => g < W.heap.size) lv (wdL x TL)) (hR : RdS .u64 W (fun g => g < W.heap.size) mv (wdL tw TN)) (htw : ∀ i, i < TN → tw i < 2 ^ 64) (hTN : TN ≤ 17592186043904) (hTL : TL ≤ 17592186043904) (hp : Pv W) :
  Calls Tryz.prog 3 #[.agg (as6 T Kd K z lv mv)] W fun e w' => e = .returned (.bool true) ∧ Below W.heap.size W w' := by
 obtain ⟨ma, mc, rfl, hm0⟩ := id hR
 have hnn : nn = 2 ∨ nn = 3 := hT.elim (fun e => .inl e.2) (fun e => .inr e.2)
 obtain ⟨la, lc, rfl, hlc, hlm, hlx⟩ := rdS_cells hL (fun _ h => h)
 have hlen := wdL_len tw TN
 have HBG : Hid (∀ wx : World, Below W.heap.size W wx → Calls Tryz.prog 6 #[.int .i64 (nn : Int), .slice ma TN mc, .int .i64 2000] wx fun e w' => ∃ p b, e = .returned (.tuple #[.agg (paC p b (.slice none 0 0) (.slice none 0 0)), .bool true]) ∧ Bz Pm wx.heap.size (fun _ => False) wx w' p b (tp0 nn tw TN) (tp0 nn tw TN)) := hid (fun wx hb => by
  have := lbegins_any hM hN ((nn : Nat) : Int) 2000 (by omega) (by decide) (by decide) tw TN _ wx ((hR.below hb).imp (T := fun g => g < wx.heap.size) (fun g h _ => Nat.lt_of_lt_of_le h hb.size))
  rw [hlen] at this
  exact this)
 rw [hlen]
 have hb0 := tp0_bq (n := nn) hnn htw hTN
 have hn0 : (tp0 nn tw TN).n = 2 ∨ (tp0 nn tw TN).n = 3 := by show (nn : Int) = 2 ∨ (nn : Int) = 3; omega
 have hW0 : Wt (tp0 nn tw TN) := ⟨rfl, rfl, hn0⟩
 obtain ⟨nI, hnI⟩ : ∃ nI, (if TL < 5 then TL else 5) = nI := ⟨_, rfl⟩
 have HNI : Hid (nI ≤ TL ∧ nI ≤ 5 ∧ (nI = TL ∨ nI = 5)) := hid (by rw [← hnI]; split <;> omega)
 have hxx := btX_lt hx nI
 have hL2 := btL_ge nI
 have hL5 := btL_le HNI.out.2.1
 obtain ⟨X, hX⟩ : ∃ X, btX x nI = X := ⟨_, rfl⟩
 obtain ⟨L, hLd⟩ : ∃ L, btL nI = L := ⟨_, rfl⟩
 rw [hX] at hxx
 rw [hLd] at hL2 hL5
 have HXD := hid hX
 have HLD := hid hLd
 have HL5 := hid hL5
 have HL2 := hid hL2
 have HL0 : Hid (0 < L) := hid (by omega)
 have HL1 : Hid (1 < L) := hid (by omega)
 have HLZ : Hid (L ≠ 0) := hid (by omega)
 clear hX hLd hnI
 have hb4 := tk_bq (Kd := Kd) (z := z) (dom := isDom K) hb0 hn0 hxx hL2 hL5
 obtain ⟨hl1, hl2, hl3, hl4⟩ := tk_laid hb0 hn0 hxx hL5
 have HVP := hid (fun hk => tk_vl (Kd := Kd) (z := z) (dom := isDom K) hW0 hb0 hxx hL2 hL5 hk)
 have HB4 := hid hb4
 have HY4 : Hid ((tkS Kd (isDom K) z (tp0 nn tw TN) X L).dry = false) := hid (tk_dry rfl)
 have HAW := hid (fun (w : World) (h : Below W.heap.size W w) => bawake_any hM hN w (hp.self h))
 have HPUa := hid (fun (i : Nat) (hi : i < L) (X' : Nat → Prop) (W' wx : World) (lo p b : Nat) (S2 : Ms) (hz : Bz Pm lo X' W' wx p b (lyS (tp0 nn tw TN) X i) S2) => qpub hM (shI hM) (X i) hz (ly_bq hb0 hn0 hxx i) (by omega) (by rw [lyS_n]; exact hn0) (hxx i))
 have HPYa := hid (fun (i : Nat) (hi : i < L) (X' : Nat → Prop) (W' wx : World) (lo p b : Nat) (S1 : Ms) (hz : Bz Pm lo X' W' wx p b S1 (lyS (tp0 nn tw TN) X i)) => ycst hM hz (ly_bq hb0 hn0 hxx i) (by omega) (by rw [lyS_n]; exact hn0) 3 (i64k 3 (by decide) (by decide)) (X i) (hxx i))
 have HQAnda : Hid (Kd = 0 → ∀ (X' : Nat → Prop) (W' wx : World) (lo p b : Nat) (S2 : Ms), Bz Pm lo X' W' wx p b (lyS (tp0 nn tw TN) X L) S2 → Pv wx → gpair < lo → Calls Tryz.prog 13 #[.pointer (some ⟨p, 0, none⟩), .int .i64 K, .agg (wdV (lyR (tp0 nn tw TN) X 0)), .agg (wdV (lyR (tp0 nn tw TN) X 1))] wx fun e w' => e = .returned (.agg (wdV (tkR Kd (isDom K) z (tp0 nn tw TN) X L))) ∧ Bz Pm lo X' W' w' p b (tkS Kd (isDom K) z (tp0 nn tw TN) X L) S2 ∧ ∀ k, X' k → w'.heap[k]? = wx.heap[k]?) := hid (by
  intro e X' W' wx lo p b S2 hz hpv hgl
  rw [show tkS Kd (isDom K) z (tp0 nn tw TN) X L = baS (lyS (tp0 nn tw TN) X L) (isDom K) (lyR (tp0 nn tw TN) X 0) (lyR (tp0 nn tw TN) X 1) from (if_pos e), show tkR Kd (isDom K) z (tp0 nn tw TN) X L = baR (lyS (tp0 nn tw TN) X L) (isDom K) (lyR (tp0 nn tw TN) X 0) (lyR (tp0 nn tw TN) X 1) from (if_pos e)]
  exact qand hM K (lyR (tp0 nn tw TN) X 0) (lyR (tp0 nn tw TN) X 1) hz hpv hgl hl1 (by omega) hl2 hK (hl3 0 (by omega)) (hl3 1 (by omega)))
 have HYAnda : Hid (Kd = 0 → ∀ (X' : Nat → Prop) (W' wx : World) (lo p b : Nat) (S2 : Ms), Bz Pm lo X' W' wx p b S2 (lyS (tp0 nn tw TN) X L) → Calls Tryz.prog 14 #[.pointer (some ⟨b, 0, none⟩), .int .i64 K, .agg (wdV (lyR (tp0 nn tw TN) X 0)), .agg (wdV (lyR (tp0 nn tw TN) X 1))] wx fun e w' => e = .returned (.agg (wdV (tkR Kd (isDom K) z (tp0 nn tw TN) X L))) ∧ Bz Pm lo X' W' w' p b S2 (tkS Kd (isDom K) z (tp0 nn tw TN) X L) ∧ ∀ k, X' k → w'.heap[k]? = wx.heap[k]?) := hid (by
  intro e X' W' wx lo p b S2 hz
  rw [show tkS Kd (isDom K) z (tp0 nn tw TN) X L = baS (lyS (tp0 nn tw TN) X L) (isDom K) (lyR (tp0 nn tw TN) X 0) (lyR (tp0 nn tw TN) X 1) from (if_pos e), show tkR Kd (isDom K) z (tp0 nn tw TN) X L = baR (lyS (tp0 nn tw TN) X L) (isDom K) (lyR (tp0 nn tw TN) X 0) (lyR (tp0 nn tw TN) X 1) from (if_pos e)]
  exact yand hM K (lyR (tp0 nn tw TN) X 0) (lyR (tp0 nn tw TN) X 1) hz hl1 (by omega) hl2 hK (hl3 0 (by omega)) (hl3 1 (by omega)))
 have HQLessa : Hid (Kd ≠ 0 → Kd = 1 → ∀ (X' : Nat → Prop) (W' wx : World) (lo p b : Nat) (S2 : Ms), Bz Pm lo X' W' wx p b (lyS (tp0 nn tw TN) X L) S2 → Pv wx → gpair < lo → Calls Tryz.prog 15 #[.pointer (some ⟨p, 0, none⟩), .int .i64 K, .agg (wdV (lyR (tp0 nn tw TN) X 0)), .agg (wdV (lyR (tp0 nn tw TN) X 1))] wx fun e w' => e = .returned (.agg (wdV (tkR Kd (isDom K) z (tp0 nn tw TN) X L))) ∧ Bz Pm lo X' W' w' p b (tkS Kd (isDom K) z (tp0 nn tw TN) X L) S2 ∧ ∀ k, X' k → w'.heap[k]? = wx.heap[k]?) := hid (by
  intro n0 e X' W' wx lo p b S2 hz hpv hgl
  rw [show tkS Kd (isDom K) z (tp0 nn tw TN) X L = blS (lyS (tp0 nn tw TN) X L) (isDom K) (lyR (tp0 nn tw TN) X 0) (lyR (tp0 nn tw TN) X 1) from ((if_neg n0).trans (if_pos e)), show tkR Kd (isDom K) z (tp0 nn tw TN) X L = blR (lyS (tp0 nn tw TN) X L) (isDom K) (lyR (tp0 nn tw TN) X 0) (lyR (tp0 nn tw TN) X 1) from ((if_neg n0).trans (if_pos e))]
  exact qless hM K (lyR (tp0 nn tw TN) X 0) (lyR (tp0 nn tw TN) X 1) hz hpv hgl hl1 (by omega) hl2 hK (hl3 0 (by omega)) (hl3 1 (by omega)))
 have HYLessa : Hid (Kd ≠ 0 → Kd = 1 → ∀ (X' : Nat → Prop) (W' wx : World) (lo p b : Nat) (S2 : Ms), Bz Pm lo X' W' wx p b S2 (lyS (tp0 nn tw TN) X L) → Calls Tryz.prog 16 #[.pointer (some ⟨b, 0, none⟩), .int .i64 K, .agg (wdV (lyR (tp0 nn tw TN) X 0)), .agg (wdV (lyR (tp0 nn tw TN) X 1))] wx fun e w' => e = .returned (.agg (wdV (tkR Kd (isDom K) z (tp0 nn tw TN) X L))) ∧ Bz Pm lo X' W' w' p b S2 (tkS Kd (isDom K) z (tp0 nn tw TN) X L) ∧ ∀ k, X' k → w'.heap[k]? = wx.heap[k]?) := hid (by
  intro n0 e X' W' wx lo p b S2 hz
  rw [show tkS Kd (isDom K) z (tp0 nn tw TN) X L = blS (lyS (tp0 nn tw TN) X L) (isDom K) (lyR (tp0 nn tw TN) X 0) (lyR (tp0 nn tw TN) X 1) from ((if_neg n0).trans (if_pos e)), show tkR Kd (isDom K) z (tp0 nn tw TN) X L = blR (lyS (tp0 nn tw TN) X L) (isDom K) (lyR (tp0 nn tw TN) X 0) (lyR (tp0 nn tw TN) X 1) from ((if_neg n0).trans (if_pos e))]
  exact yless hM K (lyR (tp0 nn tw TN) X 0) (lyR (tp0 nn tw TN) X 1) hz hl1 (by omega) hl2 hK (hl3 0 (by omega)) (hl3 1 (by omega)))
 have HQOra : Hid (Kd ≠ 0 → Kd ≠ 1 → Kd = 2 → ∀ (X' : Nat → Prop) (W' wx : World) (lo p b : Nat) (S2 : Ms), Bz Pm lo X' W' wx p b (lyS (tp0 nn tw TN) X L) S2 → Pv wx → gpair < lo → Calls Tryz.prog 17 #[.pointer (some ⟨p, 0, none⟩), .int .i64 K, .agg (wdV (lyR (tp0 nn tw TN) X 0)), .agg (wdV (lyR (tp0 nn tw TN) X 1))] wx fun e w' => e = .returned (.agg (wdV (tkR Kd (isDom K) z (tp0 nn tw TN) X L))) ∧ Bz Pm lo X' W' w' p b (tkS Kd (isDom K) z (tp0 nn tw TN) X L) S2 ∧ ∀ k, X' k → w'.heap[k]? = wx.heap[k]?) := hid (by
  intro n0 n1 e X' W' wx lo p b S2 hz hpv hgl
  rw [show tkS Kd (isDom K) z (tp0 nn tw TN) X L = boS (lyS (tp0 nn tw TN) X L) (isDom K) (lyR (tp0 nn tw TN) X 0) (lyR (tp0 nn tw TN) X 1) from ((if_neg n0).trans ((if_neg n1).trans (if_pos e))), show tkR Kd (isDom K) z (tp0 nn tw TN) X L = boR (lyS (tp0 nn tw TN) X L) (isDom K) (lyR (tp0 nn tw TN) X 0) (lyR (tp0 nn tw TN) X 1) from ((if_neg n0).trans ((if_neg n1).trans (if_pos e)))]
  exact qor hM K (lyR (tp0 nn tw TN) X 0) (lyR (tp0 nn tw TN) X 1) hz hpv hgl hl1 (by omega) hl2 hK (hl3 0 (by omega)) (hl3 1 (by omega)))
 have HYOra : Hid (Kd ≠ 0 → Kd ≠ 1 → Kd = 2 → ∀ (X' : Nat → Prop) (W' wx : World) (lo p b : Nat) (S2 : Ms), Bz Pm lo X' W' wx p b S2 (lyS (tp0 nn tw TN) X L) → Calls Tryz.prog 18 #[.pointer (some ⟨b, 0, none⟩), .int .i64 K, .agg (wdV (lyR (tp0 nn tw TN) X 0)), .agg (wdV (lyR (tp0 nn tw TN) X 1))] wx fun e w' => e = .returned (.agg (wdV (tkR Kd (isDom K) z (tp0 nn tw TN) X L))) ∧ Bz Pm lo X' W' w' p b S2 (tkS Kd (isDom K) z (tp0 nn tw TN) X L) ∧ ∀ k, X' k → w'.heap[k]? = wx.heap[k]?) := hid (by
  intro n0 n1 e X' W' wx lo p b S2 hz
  rw [show tkS Kd (isDom K) z (tp0 nn tw TN) X L = boS (lyS (tp0 nn tw TN) X L) (isDom K) (lyR (tp0 nn tw TN) X 0) (lyR (tp0 nn tw TN) X 1) from ((if_neg n0).trans ((if_neg n1).trans (if_pos e))), show tkR Kd (isDom K) z (tp0 nn tw TN) X L = boR (lyS (tp0 nn tw TN) X L) (isDom K) (lyR (tp0 nn tw TN) X 0) (lyR (tp0 nn tw TN) X 1) from ((if_neg n0).trans ((if_neg n1).trans (if_pos e)))]
  exact yor hM K (lyR (tp0 nn tw TN) X 0) (lyR (tp0 nn tw TN) X 1) hz hl1 (by omega) hl2 hK (hl3 0 (by omega)) (hl3 1 (by omega)))
 have HQAnya : Hid (Kd ≠ 0 → Kd ≠ 1 → Kd ≠ 2 → Kd = 3 → ∀ (X' : Nat → Prop) (W' wx : World) (lo p b : Nat) (S2 : Ms) (v : Value), Bz Pm lo X' W' wx p b (lyS (tp0 nn tw TN) X L) S2 → Pv wx → gpair < lo → WsR wx v L (lyV (tp0 nn tw TN) X L) X' → Calls Tryz.prog 19 #[.pointer (some ⟨p, 0, none⟩), .int .i64 K, v] wx fun e w' => e = .returned (.agg (wdV (tkR Kd (isDom K) z (tp0 nn tw TN) X L))) ∧ Bz Pm lo X' W' w' p b (tkS Kd (isDom K) z (tp0 nn tw TN) X L) S2 ∧ ∀ k, X' k → w'.heap[k]? = wx.heap[k]?) := hid (by
  intro n0 n1 n2 e X' W' wx lo p b S2 v hz hpv hgl hr
  rw [show tkS Kd (isDom K) z (tp0 nn tw TN) X L = bnS (lyS (tp0 nn tw TN) X L) (isDom K) (lyV (tp0 nn tw TN) X L) L from ((if_neg n0).trans ((if_neg n1).trans ((if_neg n2).trans (if_pos e)))), show tkR Kd (isDom K) z (tp0 nn tw TN) X L = bnR (lyS (tp0 nn tw TN) X L) (isDom K) (lyV (tp0 nn tw TN) X L) L from ((if_neg n0).trans ((if_neg n1).trans ((if_neg n2).trans (if_pos e))))]
  exact qany hM K (lyV (tp0 nn tw TN) X L) L v hz hpv hgl hl1 (by omega) hl2 hK hl4 hr)
 have HYAnya : Hid (Kd ≠ 0 → Kd ≠ 1 → Kd ≠ 2 → Kd = 3 → ∀ (X' : Nat → Prop) (W' wx : World) (lo p b : Nat) (S2 : Ms) (v : Value), Bz Pm lo X' W' wx p b S2 (lyS (tp0 nn tw TN) X L) → WsR wx v L (lyV (tp0 nn tw TN) X L) X' → Calls Tryz.prog 20 #[.pointer (some ⟨b, 0, none⟩), .int .i64 K, v] wx fun e w' => e = .returned (.agg (wdV (tkR Kd (isDom K) z (tp0 nn tw TN) X L))) ∧ Bz Pm lo X' W' w' p b S2 (tkS Kd (isDom K) z (tp0 nn tw TN) X L) ∧ ∀ k, X' k → w'.heap[k]? = wx.heap[k]?) := hid (by
  intro n0 n1 n2 e X' W' wx lo p b S2 v hz hr
  rw [show tkS Kd (isDom K) z (tp0 nn tw TN) X L = bnS (lyS (tp0 nn tw TN) X L) (isDom K) (lyV (tp0 nn tw TN) X L) L from ((if_neg n0).trans ((if_neg n1).trans ((if_neg n2).trans (if_pos e)))), show tkR Kd (isDom K) z (tp0 nn tw TN) X L = bnR (lyS (tp0 nn tw TN) X L) (isDom K) (lyV (tp0 nn tw TN) X L) L from ((if_neg n0).trans ((if_neg n1).trans ((if_neg n2).trans (if_pos e))))]
  exact yany hM K (lyV (tp0 nn tw TN) X L) L v hz hl1 (by omega) hl2 hK hl4 hr)
 have HQFolda : Hid (Kd ≠ 0 → Kd ≠ 1 → Kd ≠ 2 → Kd ≠ 3 → ∀ (X' : Nat → Prop) (W' wx : World) (lo p b : Nat) (S2 : Ms), Bz Pm lo X' W' wx p b (lyS (tp0 nn tw TN) X L) S2 → Pv wx → gpair < lo → Calls Tryz.prog 21 #[.pointer (some ⟨p, 0, none⟩), .int .i64 K, .agg (wdV (lyR (tp0 nn tw TN) X 0)), .int .i64 z] wx fun e w' => e = .returned (.agg (wdV (tkR Kd (isDom K) z (tp0 nn tw TN) X L))) ∧ Bz Pm lo X' W' w' p b (tkS Kd (isDom K) z (tp0 nn tw TN) X L) S2 ∧ ∀ k, X' k → w'.heap[k]? = wx.heap[k]?) := hid (by
  intro n0 n1 n2 n3 X' W' wx lo p b S2 hz hpv hgl
  rw [show tkS Kd (isDom K) z (tp0 nn tw TN) X L = bfS (lyS (tp0 nn tw TN) X L) (isDom K) (lyR (tp0 nn tw TN) X 0) z from ((if_neg n0).trans ((if_neg n1).trans ((if_neg n2).trans (if_neg n3)))), show tkR Kd (isDom K) z (tp0 nn tw TN) X L = bfR (lyS (tp0 nn tw TN) X L) (isDom K) (lyR (tp0 nn tw TN) X 0) z from ((if_neg n0).trans ((if_neg n1).trans ((if_neg n2).trans (if_neg n3))))]
  exact qfold hM K (lyR (tp0 nn tw TN) X 0) z hz hpv hgl hl1 (by omega) hl2 hK (hl3 0 (by omega)))
 have HYFolda : Hid (Kd ≠ 0 → Kd ≠ 1 → Kd ≠ 2 → Kd ≠ 3 → ∀ (X' : Nat → Prop) (W' wx : World) (lo p b : Nat) (S2 : Ms), Bz Pm lo X' W' wx p b S2 (lyS (tp0 nn tw TN) X L) → Calls Tryz.prog 22 #[.pointer (some ⟨b, 0, none⟩), .int .i64 K, .agg (wdV (lyR (tp0 nn tw TN) X 0)), .int .i64 z] wx fun e w' => e = .returned (.agg (wdV (tkR Kd (isDom K) z (tp0 nn tw TN) X L))) ∧ Bz Pm lo X' W' w' p b S2 (tkS Kd (isDom K) z (tp0 nn tw TN) X L) ∧ ∀ k, X' k → w'.heap[k]? = wx.heap[k]?) := hid (by
  intro n0 n1 n2 n3 X' W' wx lo p b S2 hz
  rw [show tkS Kd (isDom K) z (tp0 nn tw TN) X L = bfS (lyS (tp0 nn tw TN) X L) (isDom K) (lyR (tp0 nn tw TN) X 0) z from ((if_neg n0).trans ((if_neg n1).trans ((if_neg n2).trans (if_neg n3)))), show tkR Kd (isDom K) z (tp0 nn tw TN) X L = bfR (lyS (tp0 nn tw TN) X L) (isDom K) (lyR (tp0 nn tw TN) X 0) z from ((if_neg n0).trans ((if_neg n1).trans ((if_neg n2).trans (if_neg n3))))]
  exact yfold hM K (lyR (tp0 nn tw TN) X 0) z hz hl1 (by omega) hl2 hK (hl3 0 (by omega)))
 have HMNa := hid (fun (w : World) (gl cl : Nat) => meant_any T Kd K z (.slice la TL lc) (.slice ma TN mc) gl cl L X hxx hL2 hL5 w)
 have HLXa : Hid (0 < TL → ∃ g off, la = some ⟨g, off, none⟩ ∧ ∀ w', Below W.heap.size W w' → ∀ j, j < TL → w'.cell? ⟨g, off + j, none⟩ = some (.int .u64 (x j : Int))) := hid hlx
 have HGL : Hid (gpair < W.heap.size) := hid hp.1
 have HPW := hid hp
 have HFN : Hid (∀ w, Calls Tryz.prog 5 #[.agg (as6 T Kd K z (.slice la TL lc) (.slice ma TN mc))] w fun e w' => e = .returned (.int .i64 (nn : Int)) ∧ Below w.heap.size w w') := hid (fun w => by rcases hT with ⟨rfl, rfl⟩ | ⟨rfl, rfl⟩ <;> exact fn6_any _ Kd K z _ _ w)
 have HDA := hid (fun w => bdr_any (nn : Int) w)
 have HDB := hid (fun w => rbdr_any (nn : Int) w)
 have HDC := hid (fun w => bdr_any z w)
 have HDD := hid (fun w => rbdr_any z w)
 have HOA := hid (fun w => bops_any (nn : Int) w)
 have HOB := hid (fun w => rbops_any (nn : Int) w)
 have HOC := hid (fun w => bops_any z w)
 have HOD := hid (fun w => rbops_any z w)
 obtain ⟨d1, hd1⟩ : ∃ d1, baD (nn : Int) = d1 := ⟨_, rfl⟩
 obtain ⟨d2, hd2⟩ : ∃ d2, baD z = d2 := ⟨_, rfl⟩
 obtain ⟨d3, hd3⟩ : ∃ d3, baN (nn : Int) = d3 := ⟨_, rfl⟩
 obtain ⟨d4, hd4⟩ : ∃ d4, baN z = d4 := ⟨_, rfl⟩
 rw [hd1] at HDA HDB
 rw [hd2] at HDC HDD
 rw [hd3] at HOA HOB
 rw [hd4] at HOC HOD
 have HLIM : Hid (TL ≤ 17592186043904) := hid hTL
 have HLCC : Hid (TL ≤ lc) := hid hlc
 clear hd1 hd2 hd3 hd4 hb0 hn0 hW0 hb4 hl1 hl2 hl3 hl4 hxx hL2 hL5 hx hL hR htw hTN hm0 hlen hK hp hlx hlc hlm hTL hnn hT
 have HL00 : Hid (lyS (tp0 nn tw TN) X 0 = (tp0 nn tw TN)) := hid rfl
 have HLN : Hid (∀ i, lyS (tp0 nn tw TN) X (i + 1) = cstS (lyS (tp0 nn tw TN) X i) 3 (X i) ∧ lyR (tp0 nn tw TN) X i = cstR (lyS (tp0 nn tw TN) X i) 3 (X i)) := hid (fun i => ⟨rfl, rfl⟩)
 simp only [← (HLN.out _).1, ← (HLN.out _).2] at HPUa HPYa
 clear HLN
 have HVV0 : Hid (∀ j, j < L → lyV (tp0 nn tw TN) X L j = lyR (tp0 nn tw TN) X j) := hid (fun j hj => if_pos hj)
 obtain ⟨S4, hS4⟩ : ∃ S4, tkS Kd (isDom K) z (tp0 nn tw TN) X L = S4 := ⟨_, rfl⟩
 obtain ⟨R4, hR4⟩ : ∃ R4, tkR Kd (isDom K) z (tp0 nn tw TN) X L = R4 := ⟨_, rfl⟩
 obtain ⟨VV, hVV⟩ : ∃ VV, lyV (tp0 nn tw TN) X L = VV := ⟨_, rfl⟩
 obtain ⟨LS, hLS⟩ : ∃ LS, lyS (tp0 nn tw TN) X = LS := ⟨_, rfl⟩
 obtain ⟨LR, hLR⟩ : ∃ LR, lyR (tp0 nn tw TN) X = LR := ⟨_, rfl⟩
 obtain ⟨Sx, hSx⟩ : ∃ Sx, (tp0 nn tw TN) = Sx := ⟨_, rfl⟩
 simp only [hS4, hR4, hVV, hLS, hLR] at HVP HB4 HY4 HPUa HPYa HQAnda HYAnda HQLessa HYLessa HQOra HYOra HQAnya HYAnya HQFolda HYFolda HVV0 HL00
 clear hS4 hR4 hVV hLS hLR
 rw [hSx] at HL00
 simp only [hSx] at HBG
 clear hSx
 obtain ⟨M4, hM4⟩ : ∃ M4, mnN Kd X L = M4 := ⟨_, rfl⟩
 simp only [hM4] at HMNa HVP
 clear hM4
 have H1 := hid ((Bx.start W).new (as6 T Kd K z (.slice la TL lc) (.slice ma TN mc)) 24)
 obtain ⟨w1, hw1⟩ : ∃ w1, W.alloc (.cells (as6 T Kd K z (.slice la TL lc) (.slice ma TN mc)) 24) = w1 := ⟨_, rfl⟩
 rw [hw1] at H1
 have HW := hid hw1
 clear hw1
 go_enter Tryz.func3, Tryz.ntmps3
 go_upto_region 1 with fail
 rw [HW.out]
 go_upto_region 2 with (first
  | (refine step_load_row rfl 24 _ rfl W.heap.size 24 (as6 T Kd K z (.slice la TL lc) (.slice ma TN mc)) _ rfl (H1.out.bl 0 rfl) Tryz.underlying24 rfl (by kernel_rfl) ?_)
  | (go_at_call 5; (with_reducible refine (HFN.out _).mono ?_); rintro e wj ⟨rfl, hb⟩; have HJ := hid (H1.out.self hb); clear hb))
 have HWJ : Hid (Below W.heap.size W wj) := hid HJ.out.low
 have HPJ : Hid (Pv wj) := hid (HPW.out.self HWJ.out)
 have HGJ : Hid (gpair < wj.heap.size) := hid (Nat.lt_of_lt_of_le HGL.out HWJ.out.size)
 have cm := row_c (i := 5) (u := .slice ma TN mc) (HJ.out.bl 0 rfl) rfl
 go_upto_region 3 with (go_at_call 6; (with_reducible refine (HBG.out _ HWJ.out).mono ?_); rintro e w2 ⟨p, b, rfl, hz⟩; have Z2 := hid hz; clear hz cm)
 have H3 := hid ((Gy.start Z2.out).new hM (paC p b (.slice none 0 0) (.slice none 0 0)) 30)
 obtain ⟨b4, hb1⟩ : ∃ b4, w2.heap.size = b4 := ⟨_, rfl⟩
 rw [hb1] at H3
 generalize w2.alloc (.cells #[.pointer (some ⟨p, 0, none⟩), .pointer (some ⟨b, 0, none⟩), .slice none 0 0, .slice none 0 0] 30) = w3' at *
 try rw [hb1]
 clear hb1 HBG HFN HW H1 HPW HGL
 obtain ⟨AS, hAS⟩ : ∃ AS, (as6 T Kd K z (.slice la TL lc) (.slice ma TN mc)) = AS := ⟨_, rfl⟩
 have HASD := hid hAS.symm
 rw [hAS] at HJ
 have HA1 : Hid (AS[1]? = some (.int .i64 Kd)) := hid (by rw [← hAS]; rfl)
 have HA2 : Hid (AS[2]? = some (.int .i64 K)) := hid (by rw [← hAS]; rfl)
 have HA3 : Hid (AS[3]? = some (.int .i64 z)) := hid (by rw [← hAS]; rfl)
 have HA4 : Hid (AS[4]? = some (.slice la TL lc)) := hid (by rw [← hAS]; rfl)
 simp only [hAS] at HMNa
 clear hAS
 have G0 := hid (H3.out.self hM ((Below.refl _ w3').drew))
 refine wp_region_noPanic ?_
 refine wp_region_held_drew (S := fun w' => w'.heap[W.heap.size]? = some (.cells AS 24 (0, 0))) (by kernel_rfl) ((HJ.out.self G0.out.z.low).bl 0 rfl) (fun h0 => ?_)
 generalize w3'.drew = y0x at *
 refine tK 0 (.bool true) rfl (.inl ⟨by rfl, fun w hw => by clear hw; go_simp⟩) h0 ?_
 try simp only [Act.put, lay_out]
 refine tK 1 (.bool false) rfl (.inl ⟨by rfl, fun w hw => by clear hw; go_simp⟩) h0 ?_
 try simp only [Act.put, lay_out]
 refine tK 2 (.bool false) rfl (.inl ⟨by rfl, fun w hw => by clear hw; go_simp⟩) h0 ?_
 try simp only [Act.put, lay_out]
 refine tK 3 (.int .i64 (nn : Int)) rfl (.inl ⟨by rfl, fun w hw => by clear hw; go_simp⟩) h0 ?_
 try simp only [Act.put, lay_out]
 refine tK 5 (.int .i64 (nn : Int)) rfl (.inl ⟨by rfl, fun w hw => by clear hw; go_simp⟩) h0 ?_
 try simp only [Act.put, lay_out]
 refine wpAnyH_ready (rs := [4]) (by kernel_rfl) (by simp) (AllReadyH.cons rfl (fun K hK => ?_) AllReadyH.nil)
 rw [if_pos (by rfl)]
 go_simp
 go_at_call 7
 (with_reducible refine (HDA.out _).mono ?_); rintro e y0x ⟨rfl, rfl⟩
 refine hK.out _ _ ((HJ.out.self G0.out.z.low).bl 0 rfl) (fun h1x => ?_)
 clear hK K
 try simp only [Act.put, lay_out]
 refine wpAnyH_ready (rs := [6]) (by kernel_rfl) (by simp) (AllReadyH.cons rfl (fun K hK => ?_) AllReadyH.nil)
 rw [if_pos (by rfl)]
 go_simp
 go_at_call 8
 (with_reducible refine (HDB.out _).mono ?_); rintro e y0x ⟨rfl, rfl⟩
 refine hK.out _ _ ((HJ.out.self G0.out.z.low).bl 0 rfl) (fun h2x => ?_)
 clear hK K
 try simp only [Act.put, lay_out]
 refine tK 7 (.bool false) rfl (.inl ⟨by rfl, fun w hw => by clear hw; go_simp⟩) h2x ?_
 try simp only [Act.put, lay_out]
 refine tK 8 (.bool false) rfl (.inl ⟨by rfl, fun w hw => by clear hw; go_simp⟩) h2x ?_
 try simp only [Act.put, lay_out]
 refine tK 9 (.bool false) rfl (.inl ⟨by rfl, fun w hw => by clear hw; go_simp⟩) h2x ?_
 try simp only [Act.put, lay_out]
 refine tK 10 (.int .i64 (nn : Int)) rfl (.inl ⟨by rfl, fun w hw => by clear hw; go_simp⟩) h2x ?_
 try simp only [Act.put, lay_out]
 refine tK 12 (.int .i64 (nn : Int)) rfl (.inl ⟨by rfl, fun w hw => by clear hw; go_simp⟩) h2x ?_
 try simp only [Act.put, lay_out]
 refine wpAnyH_ready (rs := [11]) (by kernel_rfl) (by simp) (AllReadyH.cons rfl (fun K hK => ?_) AllReadyH.nil)
 rw [if_pos (by rfl)]
 go_simp
 go_at_call 9
 (with_reducible refine (HOA.out _).mono ?_); rintro e y0x ⟨rfl, rfl⟩
 refine hK.out _ _ ((HJ.out.self G0.out.z.low).bl 0 rfl) (fun h3x => ?_)
 clear hK K
 try simp only [Act.put, lay_out]
 refine wpAnyH_ready (rs := [13]) (by kernel_rfl) (by simp) (AllReadyH.cons rfl (fun K hK => ?_) AllReadyH.nil)
 rw [if_pos (by rfl)]
 go_simp
 go_at_call 10
 (with_reducible refine (HOB.out _).mono ?_); rintro e y0x ⟨rfl, rfl⟩
 refine hK.out _ _ ((HJ.out.self G0.out.z.low).bl 0 rfl) (fun h4x => ?_)
 clear hK K
 try simp only [Act.put, lay_out]
 refine tK 14 (.bool false) rfl (.inl ⟨by rfl, fun w hw => by clear hw; go_simp⟩) h4x ?_
 try simp only [Act.put, lay_out]
 refine tK 15 (.bool false) rfl (.inl ⟨by rfl, fun w hw => by clear hw; go_simp⟩) h4x ?_
 try simp only [Act.put, lay_out]
 refine tK 16 (.bool false) rfl (.inl ⟨by rfl, fun w hw => by clear hw; go_simp⟩) h4x ?_
 try simp only [Act.put, lay_out]
 refine tK 17 (.pointer (some ⟨W.heap.size, 3, none⟩)) rfl (.inl ⟨by rfl, fun w hw => by clear hw; go_simp⟩) h4x ?_
 try simp only [Act.put, lay_out]
 refine tK 18 (.int .i64 z) rfl (.inl ⟨by rfl, fun w' hw => by have hc := row_c (i := 3) (u := .int .i64 z) hw HA3.out; clear hw; go_simp⟩) h4x ?_
 try simp only [Act.put, lay_out]
 refine tK 20 (.pointer (some ⟨W.heap.size, 3, none⟩)) rfl (.inl ⟨by rfl, fun w hw => by clear hw; go_simp⟩) h4x ?_
 try simp only [Act.put, lay_out]
 refine tK 21 (.int .i64 z) rfl (.inl ⟨by rfl, fun w' hw => by have hc := row_c (i := 3) (u := .int .i64 z) hw HA3.out; clear hw; go_simp⟩) h4x ?_
 try simp only [Act.put, lay_out]
 refine wpAnyH_ready (rs := [19]) (by kernel_rfl) (by simp) (AllReadyH.cons rfl (fun K hK => ?_) AllReadyH.nil)
 rw [if_pos (by rfl)]
 go_simp
 go_at_call 7
 (with_reducible refine (HDC.out _).mono ?_); rintro e y0x ⟨rfl, rfl⟩
 refine hK.out _ _ ((HJ.out.self G0.out.z.low).bl 0 rfl) (fun h5x => ?_)
 clear hK K
 try simp only [Act.put, lay_out]
 refine wpAnyH_ready (rs := [22]) (by kernel_rfl) (by simp) (AllReadyH.cons rfl (fun K hK => ?_) AllReadyH.nil)
 rw [if_pos (by rfl)]
 go_simp
 go_at_call 8
 (with_reducible refine (HDD.out _).mono ?_); rintro e y0x ⟨rfl, rfl⟩
 refine hK.out _ _ ((HJ.out.self G0.out.z.low).bl 0 rfl) (fun h6x => ?_)
 clear hK K
 try simp only [Act.put, lay_out]
 refine tK 23 (.bool false) rfl (.inl ⟨by rfl, fun w hw => by clear hw; go_simp⟩) h6x ?_
 try simp only [Act.put, lay_out]
 refine tK 24 (.bool false) rfl (.inl ⟨by rfl, fun w hw => by clear hw; go_simp⟩) h6x ?_
 try simp only [Act.put, lay_out]
 refine tK 25 (.bool false) rfl (.inl ⟨by rfl, fun w hw => by clear hw; go_simp⟩) h6x ?_
 try simp only [Act.put, lay_out]
 refine tK 26 (.pointer (some ⟨W.heap.size, 3, none⟩)) rfl (.inl ⟨by rfl, fun w hw => by clear hw; go_simp⟩) h6x ?_
 try simp only [Act.put, lay_out]
 refine tK 27 (.int .i64 z) rfl (.inl ⟨by rfl, fun w' hw => by have hc := row_c (i := 3) (u := .int .i64 z) hw HA3.out; clear hw; go_simp⟩) h6x ?_
 try simp only [Act.put, lay_out]
 refine tK 29 (.pointer (some ⟨W.heap.size, 3, none⟩)) rfl (.inl ⟨by rfl, fun w hw => by clear hw; go_simp⟩) h6x ?_
 try simp only [Act.put, lay_out]
 refine tK 30 (.int .i64 z) rfl (.inl ⟨by rfl, fun w' hw => by have hc := row_c (i := 3) (u := .int .i64 z) hw HA3.out; clear hw; go_simp⟩) h6x ?_
 try simp only [Act.put, lay_out]
 refine wpAnyH_ready (rs := [28]) (by kernel_rfl) (by simp) (AllReadyH.cons rfl (fun K hK => ?_) AllReadyH.nil)
 rw [if_pos (by rfl)]
 go_simp
 go_at_call 9
 (with_reducible refine (HOC.out _).mono ?_); rintro e y0x ⟨rfl, rfl⟩
 refine hK.out _ _ ((HJ.out.self G0.out.z.low).bl 0 rfl) (fun h7x => ?_)
 clear hK K
 try simp only [Act.put, lay_out]
 refine wpAnyH_ready (rs := [31]) (by kernel_rfl) (by simp) (AllReadyH.cons rfl (fun K hK => ?_) AllReadyH.nil)
 rw [if_pos (by rfl)]
 go_simp
 go_at_call 10
 (with_reducible refine (HOD.out _).mono ?_); rintro e y0x ⟨rfl, rfl⟩
 refine hK.out _ _ ((HJ.out.self G0.out.z.low).bl 0 rfl) (fun h8x => ?_)
 clear hK K
 try simp only [Act.put, lay_out]
 refine tK 32 (.bool false) rfl (.inl ⟨by rfl, fun w hw => by clear hw; go_simp⟩) h8x ?_
 try simp only [Act.put, lay_out]
 refine tK 33 (.bool false) rfl (.inl ⟨by rfl, fun w hw => by clear hw; go_simp⟩) h8x ?_
 try simp only [Act.put, lay_out]
 refine wpAnyH_done (by kernel_rfl) ?_ _
 refine NoPanic.normal ?_
 clear h0 h1x h2x h3x h4x h5x h6x h7x h8x
 try simp only [Act.put, lay_out]
 have H4 := G0
 clear H3 HDA HDB HDC HDD HOA HOB HOC HOD
 go_upto_region 6 with fail
 have H5 := hid (H4.out.new hM #[.int .u64 7, .int .u64 9] 34)
 obtain ⟨g5, hg5⟩ : ∃ g5, y0x.heap.size = g5 := ⟨_, rfl⟩
 rw [hg5] at H5
 rw [hg5]
 generalize y0x.alloc (.cells #[.int .u64 7, .int .u64 9] 34) = w5 at *
 clear hg5 H4
 go_wp2
 go_loopw [6, 7] (fun sv iv wr => ∃ (i g : Nat) (o : Obj), i ≤ nI ∧ iv = .int .i64 (i : Int) ∧ RowO 34 1 sv (btL i) (fun j => [.int .u64 (btX x i j : Int)]) g o ∧ Gy Pm wj.heap.size (fun _ => False) wj w2 wr p b Sx Sx [(g, o), (b4, Obj.cells (paC p b (.slice none 0 0) (.slice none 0 0)) 30 (0, 0))]) (fun _ iv _ => 5 - (intOf iv).toNat)
 case atStart => exact ⟨0, g5, _, Nat.zero_le _, rfl, bt_start, H5.out⟩
 case round =>
  clear H5
  obtain ⟨i, gl, ol, hi, rfl, hr, hI⟩ := hrel
  have HI := hid hI
  have HR := hid hr
  clear hI hr
  obtain ⟨n1, n2, n3⟩ := HNI.out
  have HAS := hid ((HJ.out.self HI.out.z.low).bl 0 rfl)
  have c4 := row_c (i := 4) (u := .slice la TL lc) HAS.out HA4.out
  by_cases hlt : i < nI
  ·
   have j1 : (i : Int) < (TL : Int) := by omega
   have j5 : (i : Int) < 5 := by omega
   have j0 : (0 : Int) ≤ (i : Int) := by omega
   obtain ⟨gq, oq, e, hq⟩ := HLXa.out (by omega)
   subst e
   have cq := hq wr (HWJ.out.trans (HI.out.z.low.mono HWJ.out.size)) i (by omega)
   have HIN : Hid (i < nI ∧ i < 5) := hid ⟨hlt, by omega⟩
   clear hq
   by_cases h2 : i < 2
   ·
    have j2 : (i : Int) < 2 := by omega
    have e1 : btL i = 2 := if_pos h2
    have e2 : btL (i + 1) = 2 := by unfold btL; split <;> omega
    have HE2 := hid e2
    have HI2 := hid h2
    rw [e1] at HR
    obtain ⟨cap, cur, rfl, rfl, r1, r2, r3, r4, r5⟩ := HR.out
    obtain ⟨u, hu⟩ : ∃ u, wr.cell? ⟨gl, i, none⟩ = some u := by
     rw [cell_of_row wr gl i cur 34 (0, 0) (HI.out.bl 0 rfl)]
     exact ⟨_, Array.getElem?_eq_getElem (by omega)⟩
    have fu : wr.frozen? ⟨gl, i, none⟩ = false := frozen_of_row wr gl i _ _ (HI.out.bl 0 rfl)
    have H6 := hid (HI.out.cell hM i (.int .u64 (x i : Int)))
    clear r1 r2 r3 r4 r5 hlt hi h2 n1 n2 n3 e1 e2 HAS
    go_wp2
    go_roundw
    case rel => exact ⟨i + 1, gl, _, HIN.out.1, by go_num, by rw [HE2.out]; exact bt_store HI2.out HR.out, H6.out⟩
    case measure => have := HIN.out.2; simp [intOf]; omega
   ·
    have j2 : ¬ ((i : Int) < 2) := by omega
    have e1 : btL i = i := if_neg h2
    have e2 : btL (i + 1) = i + 1 := if_neg (by omega)
    have HE2 := hid e2
    rw [e1] at HR
    have HR3 : Hid (RowO 34 1 _ i (fun j => [.int .u64 (btX x (i + 1) j : Int)]) gl ol) := hid (HR.out.ext fun j hj => by rw [btX_next x i j (by omega)])
    obtain ⟨cap, rfl, _, _⟩ := HR.out.form
    have HXA := hid (btX_at x i)
    clear hlt hi h2 n1 n2 n3 e1 e2 HAS
    go_wp2_with (refine wpList_append_rowO rfl (.tmp 78) (.tmp 84) 22 rfl 34 1 8 (.int .u64 0) Tryz.underlying22 info23U (by rfl) (by decide) (.slice (some ⟨gl, 0, none⟩) i cap) i (fun j => [.int .u64 (btX x (i + 1) j : Int)]) rfl HR3.out ((HI.out.new hM #[.int .u64 (x i : Int)] 34).bl 1 rfl) ⟨wr.heap.size, 0, none⟩ 1 rfl rfl (by intro u hu; simp at hu; subst hu; rfl) (by rw [HXA.out]; exact World.news_of_block ((HI.out.new hM #[.int .u64 (x i : Int)] 34).bl 0 rfl)) (by have := HIN.out.2; unfold maxLen; omega) (by have := HIN.out.2; omega) ?_; intro g' cap' w7 o' d1 d2 d3 d4; have H7 := hid (((HI.out.new hM #[.int .u64 (x i : Int)] 34).swap.grown hM d3 d4 d2).swap.drop); have R7 := hid d1; clear d1 d2 d3 d4)
    go_roundw
    case rel => exact ⟨i + 1, g', o', HIN.out.1, by go_num, by rw [HE2.out]; exact R7.out, H7.out⟩
    case measure => have := HIN.out.2; simp [intOf]; omega
  ·
   obtain rfl : nI = i := by omega
   go_upto_region 7 with fail
   go_cut [65] from 57 to 85 (fun q wx => q = .bool false ∧ wx = wr)
   case first =>
    by_cases ht : nI < TL
    ·
     have j1 : (nI : Int) < (TL : Int) := by omega
     have j5 : ¬ ((nI : Int) < 5) := by omega
     clear hlt hi n1 n2 n3 ht
     go_wp2_with fail
     go_meet
     exact ⟨rfl, rfl⟩
    ·
     have j1 : ¬ ((nI : Int) < (TL : Int)) := by omega
     clear hlt hi n1 n2 n3 ht
     go_wp2_with fail
     go_meet
     exact ⟨rfl, rfl⟩
   case rest =>
   obtain ⟨rfl, hcut⟩ := hcut
   subst hcut
   clear c4 hlt hi n1 n2 n3 HAS HLXa
   rw [HXD.out, HLD.out] at HR
   clear HXD HLD HNI
   obtain ⟨cl, rfl, hcl, _⟩ := HR.out.form
   have HCU : Hid (∀ w : World, w.heap[gl]? = some ol → ∀ j, j < L → w.cell? ⟨gl, j, none⟩ = some (.int .u64 (X j : Int))) := hid (fun w hw j hj => rowO_u HR.out hw hj)
   have HMN := hid (fun (w : World) (hc : ∀ j, j < L → w.cell? ⟨gl, j, none⟩ = some (.int .u64 (X j : Int))) => HMNa.out w gl cl hc)
   clear HMNa hcl
   go_upto_region 13 with fail
   have H6 := hid ((HI.out.new hM #[] 37).new hM #[] 37)
   simp only [sz_al] at H6
   obtain ⟨w7, hw7⟩ : ∃ w7, (wc.alloc (.cells #[] 37)).alloc (.cells #[] 37) = w7 := ⟨_, rfl⟩
   rw [hw7] at H6
   rw [hw7]
   obtain ⟨g8, hg8⟩ : ∃ g8, wc.heap.size = g8 := ⟨_, rfl⟩
   rw [hg8] at H6
   rw [hg8]
   obtain ⟨g9, hg9⟩ : ∃ g9, g8 + 1 = g9 := ⟨_, rfl⟩
   rw [hg9] at H6
   rw [hg9]
   rw [← HL00.out] at H6
   have H7 := hid H6.out.swap
   clear hw7 hg8 hg9 H6 HI HL00
   go_wp2
   go_loopw [8, 9, 10] (fun av bv iv wr => ∃ (i ga gb : Nat) (oa ob : Obj), i ≤ L ∧ iv = .int .i64 (i : Int) ∧ RowO 37 3 av i (fun j => (wdV (LR j)).toList) ga oa ∧ RowO 37 3 bv i (fun j => (wdV (LR j)).toList) gb ob ∧ Gy Pm wj.heap.size (fun _ => False) wj w2 wr p b (LS i) (LS i) [(ga, oa), (gb, ob), (gl, ol), (b4, Obj.cells (paC p b (.slice none 0 0) (.slice none 0 0)) 30 (0, 0))]) (fun _ _ iv _ => L - (intOf iv).toNat)
   case atStart => exact ⟨0, g8, g9, _, _, Nat.zero_le _, rfl, row_none, row_none, H7.out⟩
   case round =>
    clear H7
    obtain ⟨i, ga, gb, oa, ob, hi, rfl, hra, hrb, hI⟩ := hrel
    have HI := hid hI
    have RA := hid hra
    have RB := hid hrb
    clear hI hra hrb
    obtain ⟨cga, rfl, _, _⟩ := RA.out.form
    obtain ⟨cgb, rfl, _, _⟩ := RB.out.form
    by_cases hlt : i < L
    ·
     have j1 : (i : Int) < (L : Int) := by omega
     have j0 : (0 : Int) ≤ (i : Int) := by omega
     have HIL : Hid (i < L) := hid hlt
     have HPU := hid (fun (S2 : Ms) (wx : World) (bs : List (Nat × Obj)) (h : Gy Pm wj.heap.size (fun _ => False) wj w2 wx p b (LS i) S2 bs) => h.lift (f := 11) (args := #[.pointer (some ⟨p, 0, none⟩), .int .u64 (X i : Int)]) (E := fun e => e = .returned (.agg (wdV (LR i)))) (S1' := LS (i + 1)) (S2' := S2) (fun X' W' hz => HPUa.out i HIL.out X' W' wx _ p b S2 hz))
     have HPY := hid (fun (S1 : Ms) (wx : World) (bs : List (Nat × Obj)) (h : Gy Pm wj.heap.size (fun _ => False) wj w2 wx p b S1 (LS i) bs) => h.lift (f := 12) (args := #[.pointer (some ⟨b, 0, none⟩), .int .i64 3, .int .u64 (X i : Int)]) (E := fun e => e = .returned (.agg (wdV (LR i)))) (S1' := S1) (S2' := LS (i + 1)) (fun X' W' hz => HPYa.out i HIL.out X' W' wx _ p b S1 hz))
     clear hi hlt
     go_upto_region 16 with fail
     have G0 := hid (HI.out.self hM ((Below.refl _ wr).drew))
     refine wp_region_noPanic ?_
     refine wp_region_held_drew (S := fun w' => w'.heap[b4]? = some (.cells (paC p b (.slice none 0 0) (.slice none 0 0)) 30 (0, 0)) ∧ w'.cell? ⟨gl, i, none⟩ = some (.int .u64 (X i : Int))) (by kernel_rfl) (⟨G0.out.mem (by simp), HCU.out _ (G0.out.mem (by simp)) i HIL.out⟩) (fun h0 => ?_)
     generalize wr.drew = y0 at *
     refine tK 0 (.slice (some ⟨ga, 0, none⟩) i cga) rfl (.inl ⟨by rfl, fun w hw => by clear hw; go_simp⟩) h0 ?_
     try simp only [Act.put, lay_out]
     refine tK 1 (.pointer (some ⟨b4, 0, none⟩)) rfl (.inl ⟨by rfl, fun w hw => by clear hw; go_simp⟩) h0 ?_
     try simp only [Act.put, lay_out]
     refine tK 2 (.pointer (some ⟨p, 0, none⟩)) rfl (.inl ⟨by rfl, fun w' hw => by have hc := row_c (i := 0) (u := .pointer (some ⟨p, 0, none⟩)) hw.1 rfl; clear hw; go_simp⟩) h0 ?_
     try simp only [Act.put, lay_out]
     refine tK 3 (.slice (some ⟨gl, 0, none⟩) L cl) rfl (.inl ⟨by rfl, fun w hw => by clear hw; go_simp⟩) h0 ?_
     try simp only [Act.put, lay_out]
     refine tK 4 (.int .i64 (i : Int)) rfl (.inl ⟨by rfl, fun w hw => by clear hw; go_simp⟩) h0 ?_
     try simp only [Act.put, lay_out]
     refine tK 5 (.pointer (some ⟨gl, i, none⟩)) rfl (.inl ⟨by rfl, fun w hw => by clear hw; go_simp⟩) h0 ?_
     try simp only [Act.put, lay_out]
     refine tK 6 (.int .u64 (X i : Int)) rfl (.inl ⟨by rfl, fun w' hw => by have hc := hw.2; clear hw; go_simp⟩) h0 ?_
     try simp only [Act.put, lay_out]
     refine wpAnyH_ready (rs := [7]) (by kernel_rfl) (by simp) (AllReadyH.cons rfl (fun K hK => ?_) AllReadyH.nil)
     rw [if_pos (by rfl)]
     go_simp
     go_at_call 11
     (with_reducible refine (HPU.out _ _ _ G0.out).mono ?_); rintro e y1 ⟨rfl, hz⟩
     have G1 := hid hz
     clear hz
     refine hK.out _ _ (⟨G1.out.mem (by simp), HCU.out _ (G1.out.mem (by simp)) i HIL.out⟩) (fun h1x => ?_)
     clear hK K
     try simp only [Act.put, lay_out]
     refine wpAnyH_ready (rs := [8]) (by kernel_rfl) (by simp) (AllReadyH.cons rfl (fun K hK => ?_) AllReadyH.nil)
     rw [if_pos (by rfl)]
     go_simp
     have G2 := hid (G1.out.new hM (wdV (LR i)) 37)
     refine hK.out _ _ (⟨G2.out.mem (by simp), HCU.out _ (G2.out.mem (by simp)) i HIL.out⟩) (fun h2x => ?_)
     clear hK K
     try simp only [Act.put, lay_out]
     refine wpAnyH_ready (rs := [9]) (by kernel_rfl) (by simp) (AllReadyH.cons rfl (fun K hK => ?_) AllReadyH.nil)
     rw [if_pos (by rfl)]
     refine wp_append_rowO (.tmp 94) (.tmp 102) 28 rfl 37 3 24 (.agg #[.int .i64 0, .int .i64 0, .int .i64 0]) Tryz.underlying28 info23W (by rfl) (by decide) (.slice (some ⟨ga, 0, none⟩) i cga) i (fun j => (wdV (LR j)).toList) rfl RA.out (G2.out.bl 1 rfl) ⟨y1.heap.size, 0, none⟩ 1 rfl rfl (by intro u hu; simp at hu; rcases hu with rfl | rfl | rfl <;> rfl) (World.news_of_block (G2.out.bl 0 rfl)) (by have := HL5.out; have := HIL.out; unfold maxLen; omega) (by have := HL5.out; have := HIL.out; omega) (fun gy capy y3 oy e1 e2 e3 e4 => ?_)
     have G3 := hid ((G2.out.swap.grown hM e3 e4 e2).swap.drop)
     have RA2 := hid e1
     clear e1 e2 e3 e4
     refine hK.out _ _ (⟨G3.out.mem (by simp), HCU.out _ (G3.out.mem (by simp)) i HIL.out⟩) (fun h3x => ?_)
     clear hK K
     try simp only [Act.put, lay_out]
     refine tK 10 (.slice (some ⟨gy, 0, none⟩) (i + 1) capy) rfl (.inl ⟨by rfl, fun w hw => by clear hw; go_simp⟩) h3x ?_
     try simp only [Act.put, lay_out]
     refine wpAnyH_done (by kernel_rfl) ?_ _
     refine NoPanic.normal ?_
     clear h0 h1x h2x h3x
     try simp only [Act.put, lay_out]
     have H8 := hid G3.out.swap
     clear HI
     go_wp2_with fail
     have J0 := hid (H8.out.self hM ((Below.refl _ y3).drew))
     refine wp_region_noPanic ?_
     refine wp_region_held_drew (S := fun w' => w'.heap[b4]? = some (.cells (paC p b (.slice none 0 0) (.slice none 0 0)) 30 (0, 0)) ∧ w'.cell? ⟨gl, i, none⟩ = some (.int .u64 (X i : Int))) (by kernel_rfl) (⟨J0.out.mem (by simp), HCU.out _ (J0.out.mem (by simp)) i HIL.out⟩) (fun h0 => ?_)
     generalize y3.drew = z0 at *
     refine tK 0 (.slice (some ⟨gb, 0, none⟩) i cgb) rfl (.inl ⟨by rfl, fun w hw => by clear hw; go_simp⟩) h0 ?_
     try simp only [Act.put, lay_out]
     refine tK 1 (.pointer (some ⟨b4, 1, none⟩)) rfl (.inl ⟨by rfl, fun w hw => by clear hw; go_simp⟩) h0 ?_
     try simp only [Act.put, lay_out]
     refine tK 2 (.pointer (some ⟨b, 0, none⟩)) rfl (.inl ⟨by rfl, fun w' hw => by have hc := row_c (i := 1) (u := .pointer (some ⟨b, 0, none⟩)) hw.1 rfl; clear hw; go_simp⟩) h0 ?_
     try simp only [Act.put, lay_out]
     refine tK 3 (.slice (some ⟨gl, 0, none⟩) L cl) rfl (.inl ⟨by rfl, fun w hw => by clear hw; go_simp⟩) h0 ?_
     try simp only [Act.put, lay_out]
     refine tK 4 (.int .i64 (i : Int)) rfl (.inl ⟨by rfl, fun w hw => by clear hw; go_simp⟩) h0 ?_
     try simp only [Act.put, lay_out]
     refine tK 5 (.pointer (some ⟨gl, i, none⟩)) rfl (.inl ⟨by rfl, fun w hw => by clear hw; go_simp⟩) h0 ?_
     try simp only [Act.put, lay_out]
     refine tK 6 (.int .u64 (X i : Int)) rfl (.inl ⟨by rfl, fun w' hw => by have hc := hw.2; clear hw; go_simp⟩) h0 ?_
     try simp only [Act.put, lay_out]
     refine wpAnyH_ready (rs := [7]) (by kernel_rfl) (by simp) (AllReadyH.cons rfl (fun K hK => ?_) AllReadyH.nil)
     rw [if_pos (by rfl)]
     go_simp
     go_at_call 12
     (with_reducible refine (HPY.out _ _ _ J0.out).mono ?_); rintro e z1 ⟨rfl, hz⟩
     have J1 := hid hz
     clear hz
     refine hK.out _ _ (⟨J1.out.mem (by simp), HCU.out _ (J1.out.mem (by simp)) i HIL.out⟩) (fun h1x => ?_)
     clear hK K
     try simp only [Act.put, lay_out]
     refine wpAnyH_ready (rs := [8]) (by kernel_rfl) (by simp) (AllReadyH.cons rfl (fun K hK => ?_) AllReadyH.nil)
     rw [if_pos (by rfl)]
     go_simp
     have J2 := hid (J1.out.new hM (wdV (LR i)) 37)
     refine hK.out _ _ (⟨J2.out.mem (by simp), HCU.out _ (J2.out.mem (by simp)) i HIL.out⟩) (fun h2x => ?_)
     clear hK K
     try simp only [Act.put, lay_out]
     refine wpAnyH_ready (rs := [9]) (by kernel_rfl) (by simp) (AllReadyH.cons rfl (fun K hK => ?_) AllReadyH.nil)
     rw [if_pos (by rfl)]
     refine wp_append_rowO (.tmp 104) (.tmp 112) 28 rfl 37 3 24 (.agg #[.int .i64 0, .int .i64 0, .int .i64 0]) Tryz.underlying28 info23W (by rfl) (by decide) (.slice (some ⟨gb, 0, none⟩) i cgb) i (fun j => (wdV (LR j)).toList) rfl RB.out (J2.out.bl 1 rfl) ⟨z1.heap.size, 0, none⟩ 1 rfl rfl (by intro u hu; simp at hu; rcases hu with rfl | rfl | rfl <;> rfl) (World.news_of_block (J2.out.bl 0 rfl)) (by have := HL5.out; have := HIL.out; unfold maxLen; omega) (by have := HL5.out; have := HIL.out; omega) (fun gz capz z3 oz e1 e2 e3 e4 => ?_)
     have J3 := hid ((J2.out.swap.grown hM e3 e4 e2).swap.drop)
     have RB2 := hid e1
     clear e1 e2 e3 e4
     refine hK.out _ _ (⟨J3.out.mem (by simp), HCU.out _ (J3.out.mem (by simp)) i HIL.out⟩) (fun h3x => ?_)
     clear hK K
     try simp only [Act.put, lay_out]
     refine tK 10 (.slice (some ⟨gz, 0, none⟩) (i + 1) capz) rfl (.inl ⟨by rfl, fun w hw => by clear hw; go_simp⟩) h3x ?_
     try simp only [Act.put, lay_out]
     refine wpAnyH_done (by kernel_rfl) ?_ _
     refine NoPanic.normal ?_
     clear h0 h1x h2x h3x
     try simp only [Act.put, lay_out]
     have hil := HIL.out
     have hl5 := HL5.out
     go_wp2
     go_roundw
     case rel => exact ⟨i + 1, gy, gz, oy, oz, HIL.out, by go_num, RA2.out, RB2.out, J3.out.swap⟩
     case measure => simp [intOf]; omega
    ·
     obtain rfl : L = i := by omega
     clear hlt hi HPUa HPYa
     go_upto_region 19 with fail
     have H9 := hid ((HI.out.new hM #[.int .i64 0, .int .i64 0, .int .i64 0] 37).new hM #[.int .i64 0, .int .i64 0, .int .i64 0] 37)
     simp only [sz_al] at H9
     obtain ⟨w9, hw9⟩ : ∃ w9, (wr.alloc (.cells #[.int .i64 0, .int .i64 0, .int .i64 0] 37)).alloc (.cells #[.int .i64 0, .int .i64 0, .int .i64 0] 37) = w9 := ⟨_, rfl⟩
     rw [hw9] at H9
     rw [hw9]
     obtain ⟨b11, hb11⟩ : ∃ b11, wr.heap.size = b11 := ⟨_, rfl⟩
     rw [hb11] at H9
     rw [hb11]
     obtain ⟨b12, hb12⟩ : ∃ b12, b11 + 1 = b12 := ⟨_, rfl⟩
     rw [hb12] at H9
     rw [hb12]
     clear hw9 hb11 hb12 HI
     have HAS := hid ((HJ.out.self H9.out.z.low).bl 0 rfl)
     have c1k := row_c (i := 1) (u := .int .i64 Kd) HAS.out HA1.out
     have HCA : Hid (∀ w : World, w.heap[ga]? = some oa → ∀ j, j < L → ∀ c, c < 3 → w.cell? ⟨ga, j * 3 + c, none⟩ = some (.int .i64 (LR j c))) := hid (fun w hw j hj c hc => rowO_c RA.out hw hj hc)
     have HCB : Hid (∀ w : World, w.heap[gb]? = some ob → ∀ j, j < L → ∀ c, c < 3 → w.cell? ⟨gb, j * 3 + c, none⟩ = some (.int .i64 (LR j c))) := hid (fun w hw j hj c hc => rowO_c RB.out hw hj hc)
     go_upto_block 4 with fail
     clear c1k HAS
     go_cut [138] from 118 to 223 (fun _ wx => Gy Pm wj.heap.size (fun _ => False) wj w2 wx p b S4 S4 [(b12, Obj.cells (wdV R4) 37 (0, 0)), (b11, Obj.cells (wdV R4) 37 (0, 0)), (ga, oa), (gb, ob), (gl, ol), (b4, Obj.cells (paC p b (.slice none 0 0) (.slice none 0 0)) 30 (0, 0))])
     case first =>
      have p0 : (0 : Int) < (L : Int) := by have := HL0.out; omega
      have p1 : (1 : Int) < (L : Int) := by have := HL1.out; omega
      have HT := H9
      clear H9
      by_cases k0 : Kd = 0
      ·
       have e0 : ((Kd : Int) == 0) = true := by simp [k0]
       have HQ := hid (fun (S2 : Ms) (wx : World) (bs : List (Nat × Obj)) (h : Gy Pm wj.heap.size (fun _ => False) wj w2 wx p b (LS L) S2 bs) => h.lift (f := 13) (args := #[.pointer (some ⟨p, 0, none⟩), .int .i64 K, .agg (wdV (LR 0)), .agg (wdV (LR 1))]) (E := fun e => e = .returned (.agg (wdV R4))) (S1' := S4) (S2' := S2) (fun X' W' hz => HQAnda.out k0 X' W' wx _ p b S2 hz (Pv.bz HPJ.out HGJ.out h.z) HGJ.out))
       have HY := hid (fun (S2 : Ms) (wx : World) (bs : List (Nat × Obj)) (h : Gy Pm wj.heap.size (fun _ => False) wj w2 wx p b S2 (LS L) bs) => h.lift (f := 14) (args := #[.pointer (some ⟨b, 0, none⟩), .int .i64 K, .agg (wdV (LR 0)), .agg (wdV (LR 1))]) (E := fun e => e = .returned (.agg (wdV R4))) (S1' := S2) (S2' := S4) (fun X' W' hz => HYAnda.out k0 X' W' wx _ p b S2 hz ))
       clear HQAnda HYAnda HQLessa HYLessa HQOra HYOra HQAnya HYAnya HQFolda HYFolda
       clear k0
       go_upto_region 22 with fail
       have G0 := hid (HT.out.self hM ((Below.refl _ w9).drew))
       refine wp_region_noPanic ?_
       refine wp_region_held_drew (S := fun w' => w'.heap[b4]? = some (.cells (paC p b (.slice none 0 0) (.slice none 0 0)) 30 (0, 0)) ∧ w'.heap[W.heap.size]? = some (.cells AS 24 (0, 0)) ∧ w'.heap[ga]? = some oa ∧ w'.heap[gb]? = some ob) (by kernel_rfl) (⟨G0.out.mem (by simp), (HJ.out.self G0.out.z.low).bl 0 rfl, G0.out.mem (by simp), G0.out.mem (by simp)⟩) (fun h0 => ?_)
       generalize w9.drew = q0 at *
       refine tK 0 (.pointer (some ⟨b4, 0, none⟩)) rfl (.inl ⟨by rfl, fun w hw => by clear hw; go_simp⟩) h0 ?_
       try simp only [Act.put, lay_out]
       refine tK 1 (.pointer (some ⟨p, 0, none⟩)) rfl (.inl ⟨by rfl, fun w' hw => by have hc := row_c (i := 0) (u := .pointer (some ⟨p, 0, none⟩)) hw.1 rfl; clear hw; go_simp⟩) h0 ?_
       try simp only [Act.put, lay_out]
       refine tK 2 (.pointer (some ⟨W.heap.size, 2, none⟩)) rfl (.inl ⟨by rfl, fun w hw => by clear hw; go_simp⟩) h0 ?_
       try simp only [Act.put, lay_out]
       refine tK 3 (.int .i64 K) rfl (.inl ⟨by rfl, fun w' hw => by have hc := row_c (i := 2) (u := .int .i64 K) hw.2.1 HA2.out; clear hw; go_simp⟩) h0 ?_
       try simp only [Act.put, lay_out]
       refine tK 4 (.slice (some ⟨ga, 0, none⟩) L cga) rfl (.inl ⟨by rfl, fun w hw => by clear hw; go_simp⟩) h0 ?_
       try simp only [Act.put, lay_out]
       refine tK 5 (.pointer (some ⟨ga, 0, none⟩)) rfl (.inl ⟨by rfl, fun w hw => by clear hw; go_simp <;> exact fun e => absurd e HLZ.out⟩) h0 ?_
       try simp only [Act.put, lay_out]
       refine tK 6 (.agg (wdV (LR 0))) rfl (yields_load_wdm (by rfl) _ rfl ga 0 (LR 0) rfl (fun w hw => HCA.out w hw.2.2.1 0 HL0.out)) h0 ?_
       try simp only [Act.put, lay_out]
       refine tK 7 (.slice (some ⟨ga, 0, none⟩) L cga) rfl (.inl ⟨by rfl, fun w hw => by clear hw; go_simp⟩) h0 ?_
       try simp only [Act.put, lay_out]
       refine tK 8 (.pointer (some ⟨ga, 3, none⟩)) rfl (.inl ⟨by rfl, fun w hw => by clear hw; go_simp <;> exact fun e => absurd e HLZ.out⟩) h0 ?_
       try simp only [Act.put, lay_out]
       refine tK 9 (.agg (wdV (LR 1))) rfl (yields_load_wdm (by rfl) _ rfl ga 3 (LR 1) rfl (fun w hw => HCA.out w hw.2.2.1 1 HL1.out)) h0 ?_
       try simp only [Act.put, lay_out]
       refine tK 11 (.pointer (some ⟨b4, 1, none⟩)) rfl (.inl ⟨by rfl, fun w hw => by clear hw; go_simp⟩) h0 ?_
       try simp only [Act.put, lay_out]
       refine tK 12 (.pointer (some ⟨b, 0, none⟩)) rfl (.inl ⟨by rfl, fun w' hw => by have hc := row_c (i := 1) (u := .pointer (some ⟨b, 0, none⟩)) hw.1 rfl; clear hw; go_simp⟩) h0 ?_
       try simp only [Act.put, lay_out]
       refine tK 13 (.pointer (some ⟨W.heap.size, 2, none⟩)) rfl (.inl ⟨by rfl, fun w hw => by clear hw; go_simp⟩) h0 ?_
       try simp only [Act.put, lay_out]
       refine tK 14 (.int .i64 K) rfl (.inl ⟨by rfl, fun w' hw => by have hc := row_c (i := 2) (u := .int .i64 K) hw.2.1 HA2.out; clear hw; go_simp⟩) h0 ?_
       try simp only [Act.put, lay_out]
       refine tK 15 (.slice (some ⟨gb, 0, none⟩) L cgb) rfl (.inl ⟨by rfl, fun w hw => by clear hw; go_simp⟩) h0 ?_
       try simp only [Act.put, lay_out]
       refine tK 16 (.pointer (some ⟨gb, 0, none⟩)) rfl (.inl ⟨by rfl, fun w hw => by clear hw; go_simp <;> exact fun e => absurd e HLZ.out⟩) h0 ?_
       try simp only [Act.put, lay_out]
       refine tK 17 (.agg (wdV (LR 0))) rfl (yields_load_wdm (by rfl) _ rfl gb 0 (LR 0) rfl (fun w hw => HCB.out w hw.2.2.2 0 HL0.out)) h0 ?_
       try simp only [Act.put, lay_out]
       refine tK 18 (.slice (some ⟨gb, 0, none⟩) L cgb) rfl (.inl ⟨by rfl, fun w hw => by clear hw; go_simp⟩) h0 ?_
       try simp only [Act.put, lay_out]
       refine tK 19 (.pointer (some ⟨gb, 3, none⟩)) rfl (.inl ⟨by rfl, fun w hw => by clear hw; go_simp <;> exact fun e => absurd e HLZ.out⟩) h0 ?_
       try simp only [Act.put, lay_out]
       refine tK 20 (.agg (wdV (LR 1))) rfl (yields_load_wdm (by rfl) _ rfl gb 3 (LR 1) rfl (fun w hw => HCB.out w hw.2.2.2 1 HL1.out)) h0 ?_
       try simp only [Act.put, lay_out]
       refine wpAnyH_ready (rs := [10]) (by kernel_rfl) (by simp) (AllReadyH.cons rfl (fun K hK => ?_) AllReadyH.nil)
       rw [if_pos (by rfl)]
       go_simp
       go_at_call 13
       (with_reducible refine (HQ.out _ _ _ G0.out).mono ?_); rintro e q1 ⟨rfl, hz⟩
       have G1 := hid hz
       clear hz
       refine hK.out _ _ (⟨G1.out.mem (by simp), (HJ.out.self G1.out.z.low).bl 0 rfl, G1.out.mem (by simp), G1.out.mem (by simp)⟩) (fun h1x => ?_)
       clear hK K
       try simp only [Act.put, lay_out]
       refine wpAnyH_ready (rs := [21]) (by kernel_rfl) (by simp) (AllReadyH.cons rfl (fun K hK => ?_) AllReadyH.nil)
       rw [if_pos (by rfl)]
       go_simp
       go_at_call 14
       (with_reducible refine (HY.out _ _ _ G1.out).mono ?_); rintro e q2 ⟨rfl, hz⟩
       have G2 := hid hz
       clear hz
       refine hK.out _ _ (⟨G2.out.mem (by simp), (HJ.out.self G2.out.z.low).bl 0 rfl, G2.out.mem (by simp), G2.out.mem (by simp)⟩) (fun h2x => ?_)
       clear hK K
       try simp only [Act.put, lay_out]
       refine wpAnyH_ready (rs := [22]) (by kernel_rfl) (by simp) (AllReadyH.cons rfl (fun K hK => ?_) AllReadyH.nil)
       rw [if_pos (by rfl)]
       refine wp_store_row 37 _ _ rfl b11 (wdV R4) rfl rfl 37 _ (G2.out.bl 1 rfl) (by kernel_rfl) rfl (by kernel_rfl) ?_
       have G3 := hid (G2.out.rowI hM 1 rfl (wdV R4))
       refine hK.out _ _ (⟨G3.out.mem (by simp), (HJ.out.self G3.out.z.low).bl 0 rfl, G3.out.mem (by simp), G3.out.mem (by simp)⟩) (fun h3x => ?_)
       clear hK K
       try simp only [Act.put, lay_out]
       refine wpAnyH_ready (rs := [23]) (by kernel_rfl) (by simp) (AllReadyH.cons rfl (fun K hK => ?_) AllReadyH.nil)
       rw [if_pos (by rfl)]
       refine wp_store_row 37 _ _ rfl b12 (wdV R4) rfl rfl 37 _ (G3.out.bl 0 rfl) (by kernel_rfl) rfl (by kernel_rfl) ?_
       have G4 := hid (G3.out.rowI hM 0 rfl (wdV R4))
       refine hK.out _ _ (⟨G4.out.mem (by simp), (HJ.out.self G4.out.z.low).bl 0 rfl, G4.out.mem (by simp), G4.out.mem (by simp)⟩) (fun h4x => ?_)
       clear hK K
       try simp only [Act.put, lay_out]
       refine wpAnyH_done (by kernel_rfl) ?_ _
       refine NoPanic.normal ?_
       clear h0 h1x h2x h3x h4x
       try simp only [Act.put, lay_out]
       go_wp2_with fail
       go_meet
       exact G4.out
      ·
       have e0 : ((Kd : Int) == 0) = false := by simp [k0]
       by_cases k1 : Kd = 1
       ·
        have e1 : ((Kd : Int) == 1) = true := by simp [k1]
        have HQ := hid (fun (S2 : Ms) (wx : World) (bs : List (Nat × Obj)) (h : Gy Pm wj.heap.size (fun _ => False) wj w2 wx p b (LS L) S2 bs) => h.lift (f := 15) (args := #[.pointer (some ⟨p, 0, none⟩), .int .i64 K, .agg (wdV (LR 0)), .agg (wdV (LR 1))]) (E := fun e => e = .returned (.agg (wdV R4))) (S1' := S4) (S2' := S2) (fun X' W' hz => HQLessa.out k0 k1 X' W' wx _ p b S2 hz (Pv.bz HPJ.out HGJ.out h.z) HGJ.out))
        have HY := hid (fun (S2 : Ms) (wx : World) (bs : List (Nat × Obj)) (h : Gy Pm wj.heap.size (fun _ => False) wj w2 wx p b S2 (LS L) bs) => h.lift (f := 16) (args := #[.pointer (some ⟨b, 0, none⟩), .int .i64 K, .agg (wdV (LR 0)), .agg (wdV (LR 1))]) (E := fun e => e = .returned (.agg (wdV R4))) (S1' := S2) (S2' := S4) (fun X' W' hz => HYLessa.out k0 k1 X' W' wx _ p b S2 hz ))
        clear HQAnda HYAnda HQLessa HYLessa HQOra HYOra HQAnya HYAnya HQFolda HYFolda
        clear k0 k1
        go_upto_region 24 with fail
        have G0 := hid (HT.out.self hM ((Below.refl _ w9).drew))
        refine wp_region_noPanic ?_
        refine wp_region_held_drew (S := fun w' => w'.heap[b4]? = some (.cells (paC p b (.slice none 0 0) (.slice none 0 0)) 30 (0, 0)) ∧ w'.heap[W.heap.size]? = some (.cells AS 24 (0, 0)) ∧ w'.heap[ga]? = some oa ∧ w'.heap[gb]? = some ob) (by kernel_rfl) (⟨G0.out.mem (by simp), (HJ.out.self G0.out.z.low).bl 0 rfl, G0.out.mem (by simp), G0.out.mem (by simp)⟩) (fun h0 => ?_)
        generalize w9.drew = q0 at *
        refine tK 0 (.pointer (some ⟨b4, 0, none⟩)) rfl (.inl ⟨by rfl, fun w hw => by clear hw; go_simp⟩) h0 ?_
        try simp only [Act.put, lay_out]
        refine tK 1 (.pointer (some ⟨p, 0, none⟩)) rfl (.inl ⟨by rfl, fun w' hw => by have hc := row_c (i := 0) (u := .pointer (some ⟨p, 0, none⟩)) hw.1 rfl; clear hw; go_simp⟩) h0 ?_
        try simp only [Act.put, lay_out]
        refine tK 2 (.pointer (some ⟨W.heap.size, 2, none⟩)) rfl (.inl ⟨by rfl, fun w hw => by clear hw; go_simp⟩) h0 ?_
        try simp only [Act.put, lay_out]
        refine tK 3 (.int .i64 K) rfl (.inl ⟨by rfl, fun w' hw => by have hc := row_c (i := 2) (u := .int .i64 K) hw.2.1 HA2.out; clear hw; go_simp⟩) h0 ?_
        try simp only [Act.put, lay_out]
        refine tK 4 (.slice (some ⟨ga, 0, none⟩) L cga) rfl (.inl ⟨by rfl, fun w hw => by clear hw; go_simp⟩) h0 ?_
        try simp only [Act.put, lay_out]
        refine tK 5 (.pointer (some ⟨ga, 0, none⟩)) rfl (.inl ⟨by rfl, fun w hw => by clear hw; go_simp <;> exact fun e => absurd e HLZ.out⟩) h0 ?_
        try simp only [Act.put, lay_out]
        refine tK 6 (.agg (wdV (LR 0))) rfl (yields_load_wdm (by rfl) _ rfl ga 0 (LR 0) rfl (fun w hw => HCA.out w hw.2.2.1 0 HL0.out)) h0 ?_
        try simp only [Act.put, lay_out]
        refine tK 7 (.slice (some ⟨ga, 0, none⟩) L cga) rfl (.inl ⟨by rfl, fun w hw => by clear hw; go_simp⟩) h0 ?_
        try simp only [Act.put, lay_out]
        refine tK 8 (.pointer (some ⟨ga, 3, none⟩)) rfl (.inl ⟨by rfl, fun w hw => by clear hw; go_simp <;> exact fun e => absurd e HLZ.out⟩) h0 ?_
        try simp only [Act.put, lay_out]
        refine tK 9 (.agg (wdV (LR 1))) rfl (yields_load_wdm (by rfl) _ rfl ga 3 (LR 1) rfl (fun w hw => HCA.out w hw.2.2.1 1 HL1.out)) h0 ?_
        try simp only [Act.put, lay_out]
        refine tK 11 (.pointer (some ⟨b4, 1, none⟩)) rfl (.inl ⟨by rfl, fun w hw => by clear hw; go_simp⟩) h0 ?_
        try simp only [Act.put, lay_out]
        refine tK 12 (.pointer (some ⟨b, 0, none⟩)) rfl (.inl ⟨by rfl, fun w' hw => by have hc := row_c (i := 1) (u := .pointer (some ⟨b, 0, none⟩)) hw.1 rfl; clear hw; go_simp⟩) h0 ?_
        try simp only [Act.put, lay_out]
        refine tK 13 (.pointer (some ⟨W.heap.size, 2, none⟩)) rfl (.inl ⟨by rfl, fun w hw => by clear hw; go_simp⟩) h0 ?_
        try simp only [Act.put, lay_out]
        refine tK 14 (.int .i64 K) rfl (.inl ⟨by rfl, fun w' hw => by have hc := row_c (i := 2) (u := .int .i64 K) hw.2.1 HA2.out; clear hw; go_simp⟩) h0 ?_
        try simp only [Act.put, lay_out]
        refine tK 15 (.slice (some ⟨gb, 0, none⟩) L cgb) rfl (.inl ⟨by rfl, fun w hw => by clear hw; go_simp⟩) h0 ?_
        try simp only [Act.put, lay_out]
        refine tK 16 (.pointer (some ⟨gb, 0, none⟩)) rfl (.inl ⟨by rfl, fun w hw => by clear hw; go_simp <;> exact fun e => absurd e HLZ.out⟩) h0 ?_
        try simp only [Act.put, lay_out]
        refine tK 17 (.agg (wdV (LR 0))) rfl (yields_load_wdm (by rfl) _ rfl gb 0 (LR 0) rfl (fun w hw => HCB.out w hw.2.2.2 0 HL0.out)) h0 ?_
        try simp only [Act.put, lay_out]
        refine tK 18 (.slice (some ⟨gb, 0, none⟩) L cgb) rfl (.inl ⟨by rfl, fun w hw => by clear hw; go_simp⟩) h0 ?_
        try simp only [Act.put, lay_out]
        refine tK 19 (.pointer (some ⟨gb, 3, none⟩)) rfl (.inl ⟨by rfl, fun w hw => by clear hw; go_simp <;> exact fun e => absurd e HLZ.out⟩) h0 ?_
        try simp only [Act.put, lay_out]
        refine tK 20 (.agg (wdV (LR 1))) rfl (yields_load_wdm (by rfl) _ rfl gb 3 (LR 1) rfl (fun w hw => HCB.out w hw.2.2.2 1 HL1.out)) h0 ?_
        try simp only [Act.put, lay_out]
        refine wpAnyH_ready (rs := [10]) (by kernel_rfl) (by simp) (AllReadyH.cons rfl (fun K hK => ?_) AllReadyH.nil)
        rw [if_pos (by rfl)]
        go_simp
        go_at_call 15
        (with_reducible refine (HQ.out _ _ _ G0.out).mono ?_); rintro e q1 ⟨rfl, hz⟩
        have G1 := hid hz
        clear hz
        refine hK.out _ _ (⟨G1.out.mem (by simp), (HJ.out.self G1.out.z.low).bl 0 rfl, G1.out.mem (by simp), G1.out.mem (by simp)⟩) (fun h1x => ?_)
        clear hK K
        try simp only [Act.put, lay_out]
        refine wpAnyH_ready (rs := [21]) (by kernel_rfl) (by simp) (AllReadyH.cons rfl (fun K hK => ?_) AllReadyH.nil)
        rw [if_pos (by rfl)]
        go_simp
        go_at_call 16
        (with_reducible refine (HY.out _ _ _ G1.out).mono ?_); rintro e q2 ⟨rfl, hz⟩
        have G2 := hid hz
        clear hz
        refine hK.out _ _ (⟨G2.out.mem (by simp), (HJ.out.self G2.out.z.low).bl 0 rfl, G2.out.mem (by simp), G2.out.mem (by simp)⟩) (fun h2x => ?_)
        clear hK K
        try simp only [Act.put, lay_out]
        refine wpAnyH_ready (rs := [22]) (by kernel_rfl) (by simp) (AllReadyH.cons rfl (fun K hK => ?_) AllReadyH.nil)
        rw [if_pos (by rfl)]
        refine wp_store_row 37 _ _ rfl b11 (wdV R4) rfl rfl 37 _ (G2.out.bl 1 rfl) (by kernel_rfl) rfl (by kernel_rfl) ?_
        have G3 := hid (G2.out.rowI hM 1 rfl (wdV R4))
        refine hK.out _ _ (⟨G3.out.mem (by simp), (HJ.out.self G3.out.z.low).bl 0 rfl, G3.out.mem (by simp), G3.out.mem (by simp)⟩) (fun h3x => ?_)
        clear hK K
        try simp only [Act.put, lay_out]
        refine wpAnyH_ready (rs := [23]) (by kernel_rfl) (by simp) (AllReadyH.cons rfl (fun K hK => ?_) AllReadyH.nil)
        rw [if_pos (by rfl)]
        refine wp_store_row 37 _ _ rfl b12 (wdV R4) rfl rfl 37 _ (G3.out.bl 0 rfl) (by kernel_rfl) rfl (by kernel_rfl) ?_
        have G4 := hid (G3.out.rowI hM 0 rfl (wdV R4))
        refine hK.out _ _ (⟨G4.out.mem (by simp), (HJ.out.self G4.out.z.low).bl 0 rfl, G4.out.mem (by simp), G4.out.mem (by simp)⟩) (fun h4x => ?_)
        clear hK K
        try simp only [Act.put, lay_out]
        refine wpAnyH_done (by kernel_rfl) ?_ _
        refine NoPanic.normal ?_
        clear h0 h1x h2x h3x h4x
        try simp only [Act.put, lay_out]
        go_wp2_with fail
        go_meet
        exact G4.out
       ·
        have e1 : ((Kd : Int) == 1) = false := by simp [k1]
        by_cases k2 : Kd = 2
        ·
         have e2 : ((Kd : Int) == 2) = true := by simp [k2]
         have HQ := hid (fun (S2 : Ms) (wx : World) (bs : List (Nat × Obj)) (h : Gy Pm wj.heap.size (fun _ => False) wj w2 wx p b (LS L) S2 bs) => h.lift (f := 17) (args := #[.pointer (some ⟨p, 0, none⟩), .int .i64 K, .agg (wdV (LR 0)), .agg (wdV (LR 1))]) (E := fun e => e = .returned (.agg (wdV R4))) (S1' := S4) (S2' := S2) (fun X' W' hz => HQOra.out k0 k1 k2 X' W' wx _ p b S2 hz (Pv.bz HPJ.out HGJ.out h.z) HGJ.out))
         have HY := hid (fun (S2 : Ms) (wx : World) (bs : List (Nat × Obj)) (h : Gy Pm wj.heap.size (fun _ => False) wj w2 wx p b S2 (LS L) bs) => h.lift (f := 18) (args := #[.pointer (some ⟨b, 0, none⟩), .int .i64 K, .agg (wdV (LR 0)), .agg (wdV (LR 1))]) (E := fun e => e = .returned (.agg (wdV R4))) (S1' := S2) (S2' := S4) (fun X' W' hz => HYOra.out k0 k1 k2 X' W' wx _ p b S2 hz ))
         clear HQAnda HYAnda HQLessa HYLessa HQOra HYOra HQAnya HYAnya HQFolda HYFolda
         clear k0 k1 k2
         go_upto_region 26 with fail
         have G0 := hid (HT.out.self hM ((Below.refl _ w9).drew))
         refine wp_region_noPanic ?_
         refine wp_region_held_drew (S := fun w' => w'.heap[b4]? = some (.cells (paC p b (.slice none 0 0) (.slice none 0 0)) 30 (0, 0)) ∧ w'.heap[W.heap.size]? = some (.cells AS 24 (0, 0)) ∧ w'.heap[ga]? = some oa ∧ w'.heap[gb]? = some ob) (by kernel_rfl) (⟨G0.out.mem (by simp), (HJ.out.self G0.out.z.low).bl 0 rfl, G0.out.mem (by simp), G0.out.mem (by simp)⟩) (fun h0 => ?_)
         generalize w9.drew = q0 at *
         refine tK 0 (.pointer (some ⟨b4, 0, none⟩)) rfl (.inl ⟨by rfl, fun w hw => by clear hw; go_simp⟩) h0 ?_
         try simp only [Act.put, lay_out]
         refine tK 1 (.pointer (some ⟨p, 0, none⟩)) rfl (.inl ⟨by rfl, fun w' hw => by have hc := row_c (i := 0) (u := .pointer (some ⟨p, 0, none⟩)) hw.1 rfl; clear hw; go_simp⟩) h0 ?_
         try simp only [Act.put, lay_out]
         refine tK 2 (.pointer (some ⟨W.heap.size, 2, none⟩)) rfl (.inl ⟨by rfl, fun w hw => by clear hw; go_simp⟩) h0 ?_
         try simp only [Act.put, lay_out]
         refine tK 3 (.int .i64 K) rfl (.inl ⟨by rfl, fun w' hw => by have hc := row_c (i := 2) (u := .int .i64 K) hw.2.1 HA2.out; clear hw; go_simp⟩) h0 ?_
         try simp only [Act.put, lay_out]
         refine tK 4 (.slice (some ⟨ga, 0, none⟩) L cga) rfl (.inl ⟨by rfl, fun w hw => by clear hw; go_simp⟩) h0 ?_
         try simp only [Act.put, lay_out]
         refine tK 5 (.pointer (some ⟨ga, 0, none⟩)) rfl (.inl ⟨by rfl, fun w hw => by clear hw; go_simp <;> exact fun e => absurd e HLZ.out⟩) h0 ?_
         try simp only [Act.put, lay_out]
         refine tK 6 (.agg (wdV (LR 0))) rfl (yields_load_wdm (by rfl) _ rfl ga 0 (LR 0) rfl (fun w hw => HCA.out w hw.2.2.1 0 HL0.out)) h0 ?_
         try simp only [Act.put, lay_out]
         refine tK 7 (.slice (some ⟨ga, 0, none⟩) L cga) rfl (.inl ⟨by rfl, fun w hw => by clear hw; go_simp⟩) h0 ?_
         try simp only [Act.put, lay_out]
         refine tK 8 (.pointer (some ⟨ga, 3, none⟩)) rfl (.inl ⟨by rfl, fun w hw => by clear hw; go_simp <;> exact fun e => absurd e HLZ.out⟩) h0 ?_
         try simp only [Act.put, lay_out]
         refine tK 9 (.agg (wdV (LR 1))) rfl (yields_load_wdm (by rfl) _ rfl ga 3 (LR 1) rfl (fun w hw => HCA.out w hw.2.2.1 1 HL1.out)) h0 ?_
         try simp only [Act.put, lay_out]
         refine tK 11 (.pointer (some ⟨b4, 1, none⟩)) rfl (.inl ⟨by rfl, fun w hw => by clear hw; go_simp⟩) h0 ?_
         try simp only [Act.put, lay_out]
         refine tK 12 (.pointer (some ⟨b, 0, none⟩)) rfl (.inl ⟨by rfl, fun w' hw => by have hc := row_c (i := 1) (u := .pointer (some ⟨b, 0, none⟩)) hw.1 rfl; clear hw; go_simp⟩) h0 ?_
         try simp only [Act.put, lay_out]
         refine tK 13 (.pointer (some ⟨W.heap.size, 2, none⟩)) rfl (.inl ⟨by rfl, fun w hw => by clear hw; go_simp⟩) h0 ?_
         try simp only [Act.put, lay_out]
         refine tK 14 (.int .i64 K) rfl (.inl ⟨by rfl, fun w' hw => by have hc := row_c (i := 2) (u := .int .i64 K) hw.2.1 HA2.out; clear hw; go_simp⟩) h0 ?_
         try simp only [Act.put, lay_out]
         refine tK 15 (.slice (some ⟨gb, 0, none⟩) L cgb) rfl (.inl ⟨by rfl, fun w hw => by clear hw; go_simp⟩) h0 ?_
         try simp only [Act.put, lay_out]
         refine tK 16 (.pointer (some ⟨gb, 0, none⟩)) rfl (.inl ⟨by rfl, fun w hw => by clear hw; go_simp <;> exact fun e => absurd e HLZ.out⟩) h0 ?_
         try simp only [Act.put, lay_out]
         refine tK 17 (.agg (wdV (LR 0))) rfl (yields_load_wdm (by rfl) _ rfl gb 0 (LR 0) rfl (fun w hw => HCB.out w hw.2.2.2 0 HL0.out)) h0 ?_
         try simp only [Act.put, lay_out]
         refine tK 18 (.slice (some ⟨gb, 0, none⟩) L cgb) rfl (.inl ⟨by rfl, fun w hw => by clear hw; go_simp⟩) h0 ?_
         try simp only [Act.put, lay_out]
         refine tK 19 (.pointer (some ⟨gb, 3, none⟩)) rfl (.inl ⟨by rfl, fun w hw => by clear hw; go_simp <;> exact fun e => absurd e HLZ.out⟩) h0 ?_
         try simp only [Act.put, lay_out]
         refine tK 20 (.agg (wdV (LR 1))) rfl (yields_load_wdm (by rfl) _ rfl gb 3 (LR 1) rfl (fun w hw => HCB.out w hw.2.2.2 1 HL1.out)) h0 ?_
         try simp only [Act.put, lay_out]
         refine wpAnyH_ready (rs := [10]) (by kernel_rfl) (by simp) (AllReadyH.cons rfl (fun K hK => ?_) AllReadyH.nil)
         rw [if_pos (by rfl)]
         go_simp
         go_at_call 17
         (with_reducible refine (HQ.out _ _ _ G0.out).mono ?_); rintro e q1 ⟨rfl, hz⟩
         have G1 := hid hz
         clear hz
         refine hK.out _ _ (⟨G1.out.mem (by simp), (HJ.out.self G1.out.z.low).bl 0 rfl, G1.out.mem (by simp), G1.out.mem (by simp)⟩) (fun h1x => ?_)
         clear hK K
         try simp only [Act.put, lay_out]
         refine wpAnyH_ready (rs := [21]) (by kernel_rfl) (by simp) (AllReadyH.cons rfl (fun K hK => ?_) AllReadyH.nil)
         rw [if_pos (by rfl)]
         go_simp
         go_at_call 18
         (with_reducible refine (HY.out _ _ _ G1.out).mono ?_); rintro e q2 ⟨rfl, hz⟩
         have G2 := hid hz
         clear hz
         refine hK.out _ _ (⟨G2.out.mem (by simp), (HJ.out.self G2.out.z.low).bl 0 rfl, G2.out.mem (by simp), G2.out.mem (by simp)⟩) (fun h2x => ?_)
         clear hK K
         try simp only [Act.put, lay_out]
         refine wpAnyH_ready (rs := [22]) (by kernel_rfl) (by simp) (AllReadyH.cons rfl (fun K hK => ?_) AllReadyH.nil)
         rw [if_pos (by rfl)]
         refine wp_store_row 37 _ _ rfl b11 (wdV R4) rfl rfl 37 _ (G2.out.bl 1 rfl) (by kernel_rfl) rfl (by kernel_rfl) ?_
         have G3 := hid (G2.out.rowI hM 1 rfl (wdV R4))
         refine hK.out _ _ (⟨G3.out.mem (by simp), (HJ.out.self G3.out.z.low).bl 0 rfl, G3.out.mem (by simp), G3.out.mem (by simp)⟩) (fun h3x => ?_)
         clear hK K
         try simp only [Act.put, lay_out]
         refine wpAnyH_ready (rs := [23]) (by kernel_rfl) (by simp) (AllReadyH.cons rfl (fun K hK => ?_) AllReadyH.nil)
         rw [if_pos (by rfl)]
         refine wp_store_row 37 _ _ rfl b12 (wdV R4) rfl rfl 37 _ (G3.out.bl 0 rfl) (by kernel_rfl) rfl (by kernel_rfl) ?_
         have G4 := hid (G3.out.rowI hM 0 rfl (wdV R4))
         refine hK.out _ _ (⟨G4.out.mem (by simp), (HJ.out.self G4.out.z.low).bl 0 rfl, G4.out.mem (by simp), G4.out.mem (by simp)⟩) (fun h4x => ?_)
         clear hK K
         try simp only [Act.put, lay_out]
         refine wpAnyH_done (by kernel_rfl) ?_ _
         refine NoPanic.normal ?_
         clear h0 h1x h2x h3x h4x
         try simp only [Act.put, lay_out]
         go_wp2_with fail
         go_meet
         exact G4.out
        ·
         have e2 : ((Kd : Int) == 2) = false := by simp [k2]
         by_cases k3 : Kd = 3
         ·
          have e3 : ((Kd : Int) == 3) = true := by simp [k3]
          have HQ := hid (fun (S2 : Ms) (wx : World) (h : Gy Pm wj.heap.size (fun _ => False) wj w2 wx p b (LS L) S2 [(b12, Obj.cells #[.int .i64 0, .int .i64 0, .int .i64 0] 37 (0, 0)), (b11, Obj.cells #[.int .i64 0, .int .i64 0, .int .i64 0] 37 (0, 0)), (ga, oa), (gb, ob), (gl, ol), (b4, Obj.cells (paC p b (.slice none 0 0) (.slice none 0 0)) 30 (0, 0))]) => h.liftX (f := 19) (args := #[.pointer (some ⟨p, 0, none⟩), .int .i64 K, .slice (some ⟨ga, 0, none⟩) L cga]) (E := fun e => e = .returned (.agg (wdV R4))) (S1' := S4) (S2' := S2) (fun X' hX' W' hz => HQAnya.out k0 k1 k2 k3 X' W' wx _ p b S2 _ hz (Pv.bz HPJ.out HGJ.out h.z) HGJ.out (rowO_ws RA.out (h.mem (by simp)) (hX' (ga, oa) (by simp)) HVV0.out)))
          have HY := hid (fun (S2 : Ms) (wx : World) (h : Gy Pm wj.heap.size (fun _ => False) wj w2 wx p b S2 (LS L) [(b12, Obj.cells #[.int .i64 0, .int .i64 0, .int .i64 0] 37 (0, 0)), (b11, Obj.cells #[.int .i64 0, .int .i64 0, .int .i64 0] 37 (0, 0)), (ga, oa), (gb, ob), (gl, ol), (b4, Obj.cells (paC p b (.slice none 0 0) (.slice none 0 0)) 30 (0, 0))]) => h.liftX (f := 20) (args := #[.pointer (some ⟨b, 0, none⟩), .int .i64 K, .slice (some ⟨gb, 0, none⟩) L cgb]) (E := fun e => e = .returned (.agg (wdV R4))) (S1' := S2) (S2' := S4) (fun X' hX' W' hz => HYAnya.out k0 k1 k2 k3 X' W' wx _ p b S2 _ hz  (rowO_ws RB.out (h.mem (by simp)) (hX' (gb, ob) (by simp)) HVV0.out)))
          clear HQAnda HYAnda HQLessa HYLessa HQOra HYOra HQAnya HYAnya HQFolda HYFolda
          clear k0 k1 k2 k3
          go_upto_region 28 with fail
          have G0 := hid (HT.out.self hM ((Below.refl _ w9).drew))
          refine wp_region_noPanic ?_
          refine wp_region_held_drew (S := fun w' => w'.heap[b4]? = some (.cells (paC p b (.slice none 0 0) (.slice none 0 0)) 30 (0, 0)) ∧ w'.heap[W.heap.size]? = some (.cells AS 24 (0, 0)) ∧ w'.heap[ga]? = some oa ∧ w'.heap[gb]? = some ob) (by kernel_rfl) (⟨G0.out.mem (by simp), (HJ.out.self G0.out.z.low).bl 0 rfl, G0.out.mem (by simp), G0.out.mem (by simp)⟩) (fun h0 => ?_)
          generalize w9.drew = q0 at *
          refine tK 0 (.pointer (some ⟨b4, 0, none⟩)) rfl (.inl ⟨by rfl, fun w hw => by clear hw; go_simp⟩) h0 ?_
          try simp only [Act.put, lay_out]
          refine tK 1 (.pointer (some ⟨p, 0, none⟩)) rfl (.inl ⟨by rfl, fun w' hw => by have hc := row_c (i := 0) (u := .pointer (some ⟨p, 0, none⟩)) hw.1 rfl; clear hw; go_simp⟩) h0 ?_
          try simp only [Act.put, lay_out]
          refine tK 2 (.pointer (some ⟨W.heap.size, 2, none⟩)) rfl (.inl ⟨by rfl, fun w hw => by clear hw; go_simp⟩) h0 ?_
          try simp only [Act.put, lay_out]
          refine tK 3 (.int .i64 K) rfl (.inl ⟨by rfl, fun w' hw => by have hc := row_c (i := 2) (u := .int .i64 K) hw.2.1 HA2.out; clear hw; go_simp⟩) h0 ?_
          try simp only [Act.put, lay_out]
          refine tK 4 (.slice (some ⟨ga, 0, none⟩) L cga) rfl (.inl ⟨by rfl, fun w hw => by clear hw; go_simp⟩) h0 ?_
          try simp only [Act.put, lay_out]
          refine tK 6 (.pointer (some ⟨b4, 1, none⟩)) rfl (.inl ⟨by rfl, fun w hw => by clear hw; go_simp⟩) h0 ?_
          try simp only [Act.put, lay_out]
          refine tK 7 (.pointer (some ⟨b, 0, none⟩)) rfl (.inl ⟨by rfl, fun w' hw => by have hc := row_c (i := 1) (u := .pointer (some ⟨b, 0, none⟩)) hw.1 rfl; clear hw; go_simp⟩) h0 ?_
          try simp only [Act.put, lay_out]
          refine tK 8 (.pointer (some ⟨W.heap.size, 2, none⟩)) rfl (.inl ⟨by rfl, fun w hw => by clear hw; go_simp⟩) h0 ?_
          try simp only [Act.put, lay_out]
          refine tK 9 (.int .i64 K) rfl (.inl ⟨by rfl, fun w' hw => by have hc := row_c (i := 2) (u := .int .i64 K) hw.2.1 HA2.out; clear hw; go_simp⟩) h0 ?_
          try simp only [Act.put, lay_out]
          refine tK 10 (.slice (some ⟨gb, 0, none⟩) L cgb) rfl (.inl ⟨by rfl, fun w hw => by clear hw; go_simp⟩) h0 ?_
          try simp only [Act.put, lay_out]
          refine wpAnyH_ready (rs := [5]) (by kernel_rfl) (by simp) (AllReadyH.cons rfl (fun K hK => ?_) AllReadyH.nil)
          rw [if_pos (by rfl)]
          go_simp
          go_at_call 19
          (with_reducible refine (HQ.out _ _ G0.out).mono ?_); rintro e q1 ⟨rfl, hz⟩
          have G1 := hid hz
          clear hz
          refine hK.out _ _ (⟨G1.out.mem (by simp), (HJ.out.self G1.out.z.low).bl 0 rfl, G1.out.mem (by simp), G1.out.mem (by simp)⟩) (fun h1x => ?_)
          clear hK K
          try simp only [Act.put, lay_out]
          refine wpAnyH_ready (rs := [11]) (by kernel_rfl) (by simp) (AllReadyH.cons rfl (fun K hK => ?_) AllReadyH.nil)
          rw [if_pos (by rfl)]
          go_simp
          go_at_call 20
          (with_reducible refine (HY.out _ _ G1.out).mono ?_); rintro e q2 ⟨rfl, hz⟩
          have G2 := hid hz
          clear hz
          refine hK.out _ _ (⟨G2.out.mem (by simp), (HJ.out.self G2.out.z.low).bl 0 rfl, G2.out.mem (by simp), G2.out.mem (by simp)⟩) (fun h2x => ?_)
          clear hK K
          try simp only [Act.put, lay_out]
          refine wpAnyH_ready (rs := [12]) (by kernel_rfl) (by simp) (AllReadyH.cons rfl (fun K hK => ?_) AllReadyH.nil)
          rw [if_pos (by rfl)]
          refine wp_store_row 37 _ _ rfl b11 (wdV R4) rfl rfl 37 _ (G2.out.bl 1 rfl) (by kernel_rfl) rfl (by kernel_rfl) ?_
          have G3 := hid (G2.out.rowI hM 1 rfl (wdV R4))
          refine hK.out _ _ (⟨G3.out.mem (by simp), (HJ.out.self G3.out.z.low).bl 0 rfl, G3.out.mem (by simp), G3.out.mem (by simp)⟩) (fun h3x => ?_)
          clear hK K
          try simp only [Act.put, lay_out]
          refine wpAnyH_ready (rs := [13]) (by kernel_rfl) (by simp) (AllReadyH.cons rfl (fun K hK => ?_) AllReadyH.nil)
          rw [if_pos (by rfl)]
          refine wp_store_row 37 _ _ rfl b12 (wdV R4) rfl rfl 37 _ (G3.out.bl 0 rfl) (by kernel_rfl) rfl (by kernel_rfl) ?_
          have G4 := hid (G3.out.rowI hM 0 rfl (wdV R4))
          refine hK.out _ _ (⟨G4.out.mem (by simp), (HJ.out.self G4.out.z.low).bl 0 rfl, G4.out.mem (by simp), G4.out.mem (by simp)⟩) (fun h4x => ?_)
          clear hK K
          try simp only [Act.put, lay_out]
          refine wpAnyH_done (by kernel_rfl) ?_ _
          refine NoPanic.normal ?_
          clear h0 h1x h2x h3x h4x
          try simp only [Act.put, lay_out]
          go_wp2_with fail
          go_meet
          exact G4.out
         ·
          have e3 : ((Kd : Int) == 3) = false := by simp [k3]
          have HQ := hid (fun (S2 : Ms) (wx : World) (bs : List (Nat × Obj)) (h : Gy Pm wj.heap.size (fun _ => False) wj w2 wx p b (LS L) S2 bs) => h.lift (f := 21) (args := #[.pointer (some ⟨p, 0, none⟩), .int .i64 K, .agg (wdV (LR 0)), .int .i64 z]) (E := fun e => e = .returned (.agg (wdV R4))) (S1' := S4) (S2' := S2) (fun X' W' hz => HQFolda.out k0 k1 k2 k3 X' W' wx _ p b S2 hz (Pv.bz HPJ.out HGJ.out h.z) HGJ.out))
          have HY := hid (fun (S2 : Ms) (wx : World) (bs : List (Nat × Obj)) (h : Gy Pm wj.heap.size (fun _ => False) wj w2 wx p b S2 (LS L) bs) => h.lift (f := 22) (args := #[.pointer (some ⟨b, 0, none⟩), .int .i64 K, .agg (wdV (LR 0)), .int .i64 z]) (E := fun e => e = .returned (.agg (wdV R4))) (S1' := S2) (S2' := S4) (fun X' W' hz => HYFolda.out k0 k1 k2 k3 X' W' wx _ p b S2 hz ))
          clear HQAnda HYAnda HQLessa HYLessa HQOra HYOra HQAnya HYAnya HQFolda HYFolda
          clear k0 k1 k2 k3
          go_upto_region 20 with fail
          have G0 := hid (HT.out.self hM ((Below.refl _ w9).drew))
          refine wp_region_noPanic ?_
          refine wp_region_held_drew (S := fun w' => w'.heap[b4]? = some (.cells (paC p b (.slice none 0 0) (.slice none 0 0)) 30 (0, 0)) ∧ w'.heap[W.heap.size]? = some (.cells AS 24 (0, 0)) ∧ w'.heap[ga]? = some oa ∧ w'.heap[gb]? = some ob) (by kernel_rfl) (⟨G0.out.mem (by simp), (HJ.out.self G0.out.z.low).bl 0 rfl, G0.out.mem (by simp), G0.out.mem (by simp)⟩) (fun h0 => ?_)
          generalize w9.drew = q0 at *
          refine tK 0 (.pointer (some ⟨b4, 0, none⟩)) rfl (.inl ⟨by rfl, fun w hw => by clear hw; go_simp⟩) h0 ?_
          try simp only [Act.put, lay_out]
          refine tK 1 (.pointer (some ⟨p, 0, none⟩)) rfl (.inl ⟨by rfl, fun w' hw => by have hc := row_c (i := 0) (u := .pointer (some ⟨p, 0, none⟩)) hw.1 rfl; clear hw; go_simp⟩) h0 ?_
          try simp only [Act.put, lay_out]
          refine tK 2 (.pointer (some ⟨W.heap.size, 2, none⟩)) rfl (.inl ⟨by rfl, fun w hw => by clear hw; go_simp⟩) h0 ?_
          try simp only [Act.put, lay_out]
          refine tK 3 (.int .i64 K) rfl (.inl ⟨by rfl, fun w' hw => by have hc := row_c (i := 2) (u := .int .i64 K) hw.2.1 HA2.out; clear hw; go_simp⟩) h0 ?_
          try simp only [Act.put, lay_out]
          refine tK 4 (.slice (some ⟨ga, 0, none⟩) L cga) rfl (.inl ⟨by rfl, fun w hw => by clear hw; go_simp⟩) h0 ?_
          try simp only [Act.put, lay_out]
          refine tK 5 (.pointer (some ⟨ga, 0, none⟩)) rfl (.inl ⟨by rfl, fun w hw => by clear hw; go_simp <;> exact fun e => absurd e HLZ.out⟩) h0 ?_
          try simp only [Act.put, lay_out]
          refine tK 6 (.agg (wdV (LR 0))) rfl (yields_load_wdm (by rfl) _ rfl ga 0 (LR 0) rfl (fun w hw => HCA.out w hw.2.2.1 0 HL0.out)) h0 ?_
          try simp only [Act.put, lay_out]
          refine tK 7 (.pointer (some ⟨W.heap.size, 3, none⟩)) rfl (.inl ⟨by rfl, fun w hw => by clear hw; go_simp⟩) h0 ?_
          try simp only [Act.put, lay_out]
          refine tK 8 (.int .i64 z) rfl (.inl ⟨by rfl, fun w' hw => by have hc := row_c (i := 3) (u := .int .i64 z) hw.2.1 HA3.out; clear hw; go_simp⟩) h0 ?_
          try simp only [Act.put, lay_out]
          refine tK 10 (.pointer (some ⟨b4, 1, none⟩)) rfl (.inl ⟨by rfl, fun w hw => by clear hw; go_simp⟩) h0 ?_
          try simp only [Act.put, lay_out]
          refine tK 11 (.pointer (some ⟨b, 0, none⟩)) rfl (.inl ⟨by rfl, fun w' hw => by have hc := row_c (i := 1) (u := .pointer (some ⟨b, 0, none⟩)) hw.1 rfl; clear hw; go_simp⟩) h0 ?_
          try simp only [Act.put, lay_out]
          refine tK 12 (.pointer (some ⟨W.heap.size, 2, none⟩)) rfl (.inl ⟨by rfl, fun w hw => by clear hw; go_simp⟩) h0 ?_
          try simp only [Act.put, lay_out]
          refine tK 13 (.int .i64 K) rfl (.inl ⟨by rfl, fun w' hw => by have hc := row_c (i := 2) (u := .int .i64 K) hw.2.1 HA2.out; clear hw; go_simp⟩) h0 ?_
          try simp only [Act.put, lay_out]
          refine tK 14 (.slice (some ⟨gb, 0, none⟩) L cgb) rfl (.inl ⟨by rfl, fun w hw => by clear hw; go_simp⟩) h0 ?_
          try simp only [Act.put, lay_out]
          refine tK 15 (.pointer (some ⟨gb, 0, none⟩)) rfl (.inl ⟨by rfl, fun w hw => by clear hw; go_simp <;> exact fun e => absurd e HLZ.out⟩) h0 ?_
          try simp only [Act.put, lay_out]
          refine tK 16 (.agg (wdV (LR 0))) rfl (yields_load_wdm (by rfl) _ rfl gb 0 (LR 0) rfl (fun w hw => HCB.out w hw.2.2.2 0 HL0.out)) h0 ?_
          try simp only [Act.put, lay_out]
          refine tK 17 (.pointer (some ⟨W.heap.size, 3, none⟩)) rfl (.inl ⟨by rfl, fun w hw => by clear hw; go_simp⟩) h0 ?_
          try simp only [Act.put, lay_out]
          refine tK 18 (.int .i64 z) rfl (.inl ⟨by rfl, fun w' hw => by have hc := row_c (i := 3) (u := .int .i64 z) hw.2.1 HA3.out; clear hw; go_simp⟩) h0 ?_
          try simp only [Act.put, lay_out]
          refine wpAnyH_ready (rs := [9]) (by kernel_rfl) (by simp) (AllReadyH.cons rfl (fun K hK => ?_) AllReadyH.nil)
          rw [if_pos (by rfl)]
          go_simp
          go_at_call 21
          (with_reducible refine (HQ.out _ _ _ G0.out).mono ?_); rintro e q1 ⟨rfl, hz⟩
          have G1 := hid hz
          clear hz
          refine hK.out _ _ (⟨G1.out.mem (by simp), (HJ.out.self G1.out.z.low).bl 0 rfl, G1.out.mem (by simp), G1.out.mem (by simp)⟩) (fun h1x => ?_)
          clear hK K
          try simp only [Act.put, lay_out]
          refine wpAnyH_ready (rs := [19]) (by kernel_rfl) (by simp) (AllReadyH.cons rfl (fun K hK => ?_) AllReadyH.nil)
          rw [if_pos (by rfl)]
          go_simp
          go_at_call 22
          (with_reducible refine (HY.out _ _ _ G1.out).mono ?_); rintro e q2 ⟨rfl, hz⟩
          have G2 := hid hz
          clear hz
          refine hK.out _ _ (⟨G2.out.mem (by simp), (HJ.out.self G2.out.z.low).bl 0 rfl, G2.out.mem (by simp), G2.out.mem (by simp)⟩) (fun h2x => ?_)
          clear hK K
          try simp only [Act.put, lay_out]
          refine wpAnyH_ready (rs := [20]) (by kernel_rfl) (by simp) (AllReadyH.cons rfl (fun K hK => ?_) AllReadyH.nil)
          rw [if_pos (by rfl)]
          refine wp_store_row 37 _ _ rfl b11 (wdV R4) rfl rfl 37 _ (G2.out.bl 1 rfl) (by kernel_rfl) rfl (by kernel_rfl) ?_
          have G3 := hid (G2.out.rowI hM 1 rfl (wdV R4))
          refine hK.out _ _ (⟨G3.out.mem (by simp), (HJ.out.self G3.out.z.low).bl 0 rfl, G3.out.mem (by simp), G3.out.mem (by simp)⟩) (fun h3x => ?_)
          clear hK K
          try simp only [Act.put, lay_out]
          refine wpAnyH_ready (rs := [21]) (by kernel_rfl) (by simp) (AllReadyH.cons rfl (fun K hK => ?_) AllReadyH.nil)
          rw [if_pos (by rfl)]
          refine wp_store_row 37 _ _ rfl b12 (wdV R4) rfl rfl 37 _ (G3.out.bl 0 rfl) (by kernel_rfl) rfl (by kernel_rfl) ?_
          have G4 := hid (G3.out.rowI hM 0 rfl (wdV R4))
          refine hK.out _ _ (⟨G4.out.mem (by simp), (HJ.out.self G4.out.z.low).bl 0 rfl, G4.out.mem (by simp), G4.out.mem (by simp)⟩) (fun h4x => ?_)
          clear hK K
          try simp only [Act.put, lay_out]
          refine wpAnyH_done (by kernel_rfl) ?_ _
          refine NoPanic.normal ?_
          clear h0 h1x h2x h3x h4x
          try simp only [Act.put, lay_out]
          go_wp2_with fail
          go_meet
          exact G4.out
     case rest =>
      have H11 := hid hcut
      clear hcut H9 HQAnda HYAnda HQLessa HYLessa HQOra HYOra HQAnya HYAnya HQFolda HYFolda HCA HCB
      generalize wc = w11 at *
      have HE3 := hid (fun (w : World) (bs : List (Nat × Obj)) (h : Gy Pm wj.heap.size (fun _ => False) wj w2 w p b S4 S4 bs) => h.asks hM (E := fun e _ => e = .returned (.bool true)) (f := 23) (args := #[.agg (paC p b (.slice none 0 0) (.slice none 0 0))]) (fun X W hz => (llike_any hM hz HB4.out (by decide) HY4.out none none 0 0 0 0).mono fun _ _ hr => ⟨hr.1, hr.2.2⟩))
      have HVL : Hid (∀ (w : World) (bs : List (Nat × Obj)), Gy Pm wj.heap.size (fun _ => False) wj w2 w p b S4 S4 bs → Calls Tryz.prog 26 #[.pointer (some ⟨p, 0, none⟩)] w fun e w' => (∃ v, e = .returned v ∧ Rd .u64 w' v (wdL S4.v S4.L)) ∧ Below w.heap.size w w') := hid (fun w bs h => (zvalues hM h.z HB4.out (by decide)).mono fun _ _ ⟨v, e1, e2, e3⟩ => ⟨⟨v, e1, by rw [show S4.keep S4.L = S4.L by unfold Ms.keep; rw [HY4.out]; rfl] at e2; exact e2⟩, e3⟩)
      have HVVa : Hid (∀ (v : Value) (w : World), Rd .u64 w v (wdL S4.v S4.L) → Calls Tryz.prog 25 #[v, .agg (wdV R4)] w fun e w' => e = .returned (.int .u64 (vlN S4.v S4.L R4 : Nat)) ∧ Below w.heap.size w w') := hid (fun v w h => (shI hM).value v _ _ R4 w h (fun i hi => HB4.out.v i hi))
      go_upto_region 29 with fail
      go_wp2_with (refine step_load_row_want (by rfl) 37 _ rfl b11 37 (wdV R4) _ rfl (H11.out.mem (by simp)) Tryz.underlying37 rfl (by kernel_rfl) ?_; refine Hid.out ?_)
      refine hid ?_
      try simp only [Act.put, lay_out]
      refine step_load_row_want (by rfl) 37 _ rfl b12 37 (wdV R4) _ rfl (H11.out.mem (by simp)) Tryz.underlying37 rfl (by kernel_rfl) ?_
      try simp only [Act.put, lay_out]
      refine wpList_neWd (by rfl) (.tmp 224) (.tmp 225) rfl R4 rfl rfl ?_
      try simp only [Act.put, lay_out]
      go_wp2_with (refine step_load_row_want (by rfl) 30 _ rfl b4 30 (paC p b (.slice none 0 0) (.slice none 0 0)) _ rfl (H11.out.mem (by simp)) Tryz.underlying30 rfl (by kernel_rfl) ?_; refine Hid.out ?_)
      refine hid ?_
      try simp only [Act.put, lay_out]
      go_upto_region 31 with (go_at_call 23; (with_reducible refine (HE3.out _ _ H11.out).mono ?_); rintro e w16 ⟨rfl, hb⟩; have H16 := hid hb; clear hb)
      have cE : w16.cell? ⟨b, 7, none⟩ = some (.int .i64 (S4.e : Int)) := H16.out.z.c0.2.2.1
      have c1 := row_c (i := 1) (u := .pointer (some ⟨b, 0, none⟩)) (H16.out.bl 5 rfl) rfl
      have HAS := hid ((HJ.out.self H16.out.z.low).bl 0 rfl)
      have c1k := row_c (i := 1) (u := .int .i64 Kd) HAS.out HA1.out
      have HAL : Hid (Below W.heap.size W w16) := hid (HWJ.out.trans (H16.out.z.low.mono HWJ.out.size))
      clear H11 HE3
      by_cases he : S4.e = 0
      ·
       rw [he] at cE
       by_cases k0 : Kd < 0
       ·
        clear he HVP
        go_wp2_with (go_at_call 24; (with_reducible refine (HAW.out _ HAL.out).mono ?_); rintro e wz ⟨rfl, hb⟩; have HZ := hid (HAL.out.trans (hb.mono HAL.out.size)); clear hb)
        go_ret
        exact ⟨rfl, HZ.out⟩
       ·
        by_cases k3 : Kd > 3
        ·
         clear he HVP
         go_wp2_with (go_at_call 24; (with_reducible refine (HAW.out _ HAL.out).mono ?_); rintro e wz ⟨rfl, hb⟩; have HZ := hid (HAL.out.trans (hb.mono HAL.out.size)); clear hb)
         go_ret
         exact ⟨rfl, HZ.out⟩
        ·
         have hv := HVP.out (by omega) he
         rw [hv] at HVVa
         have HVV := HVVa
         clear he HVP hv HVVa
         go_upto_region 33 with fail
         clear cE c1 c1k
         have G0 := hid (H16.out.self hM ((Below.refl _ w16).drew))
         refine wp_region_noPanic ?_
         refine wp_region_held_drew (S := fun w' => w'.heap[b4]? = some (.cells (paC p b (.slice none 0 0) (.slice none 0 0)) 30 (0, 0)) ∧ w'.heap[b11]? = some (.cells (wdV R4) 37 (0, 0)) ∧ w'.heap[W.heap.size]? = some (.cells AS 24 (0, 0))) (by kernel_rfl) (⟨G0.out.mem (by simp), G0.out.mem (by simp), (HJ.out.self G0.out.z.low).bl 0 rfl⟩) (fun h0 => ?_)
         generalize w16.drew = y0 at *
         refine tK 0 (.pointer (some ⟨b4, 0, none⟩)) rfl (.inl ⟨by rfl, fun w hw => by clear hw; go_simp⟩) h0 ?_
         try simp only [Act.put, lay_out]
         refine tK 1 (.pointer (some ⟨p, 0, none⟩)) rfl (.inl ⟨by rfl, fun w' hw => by have hc := row_c (i := 0) (u := .pointer (some ⟨p, 0, none⟩)) hw.1 rfl; clear hw; go_simp⟩) h0 ?_
         try simp only [Act.put, lay_out]
         refine tK 3 (.agg (wdV R4)) rfl (yields_load_row (by rfl) 37 _ rfl b11 37 (wdV R4) _ rfl (fun w h => h.2.1) Tryz.underlying37 rfl (by kernel_rfl)) h0 ?_
         try simp only [Act.put, lay_out]
         refine tK 5 (.agg AS) rfl (yields_load_row (by rfl) 24 _ rfl W.heap.size 24 AS _ rfl (fun w h => h.2.2) Tryz.underlying24 rfl (by rw [HASD.out]; kernel_rfl)) h0 ?_
         try simp only [Act.put, lay_out]
         refine tK 6 (.slice (some ⟨gl, 0, none⟩) L cl) rfl (.inl ⟨by rfl, fun w hw => by clear hw; go_simp⟩) h0 ?_
         try simp only [Act.put, lay_out]
         refine wpAnyH_ready (rs := [2]) (by kernel_rfl) (by simp) (AllReadyH.cons rfl (fun K hK => ?_) AllReadyH.nil)
         rw [if_pos (by rfl)]
         go_simp
         go_at_call 26
         (with_reducible refine (HVL.out _ _ G0.out).mono ?_); rintro e y1 ⟨⟨v, rfl, hv⟩, hb⟩
         have G1 := hid (G0.out.self hM hb)
         have V1 := hid hv
         clear hv
         clear hb
         refine hK.out _ _ (⟨G1.out.mem (by simp), G1.out.mem (by simp), (HJ.out.self G1.out.z.low).bl 0 rfl⟩) (fun h1x => ?_)
         clear hK K
         try simp only [Act.put, lay_out]
         refine wpAnyH_ready (rs := [4]) (by kernel_rfl) (by simp) (AllReadyH.cons rfl (fun K hK => ?_) AllReadyH.nil)
         rw [if_pos (by rfl)]
         go_simp
         go_at_call 25
         (with_reducible refine (HVV.out _ _ V1.out).mono ?_); rintro e y2 ⟨rfl, hb⟩
         have G2 := hid (G1.out.self hM hb)
         clear hb
         refine hK.out _ _ (⟨G2.out.mem (by simp), G2.out.mem (by simp), (HJ.out.self G2.out.z.low).bl 0 rfl⟩) (fun h2x => ?_)
         clear hK K
         try simp only [Act.put, lay_out]
         refine wpAnyH_ready (rs := [7]) (by kernel_rfl) (by simp) (AllReadyH.cons rfl (fun K hK => ?_) AllReadyH.nil)
         rw [if_pos (by rfl)]
         go_simp
         go_at_call 27
         (with_reducible refine (HMN.out _ (HCU.out _ (G2.out.mem (by simp)))).mono ?_); rintro e y3 ⟨rfl, hb⟩
         have G3 := hid (G2.out.self hM hb)
         clear hb
         refine hK.out _ _ (⟨G3.out.mem (by simp), G3.out.mem (by simp), (HJ.out.self G3.out.z.low).bl 0 rfl⟩) (fun h3x => ?_)
         clear hK K
         try simp only [Act.put, lay_out]
         refine tK 8 (.bool true) rfl (.inl ⟨by rfl, fun w hw => by clear hw; go_simp⟩) h3x ?_
         try simp only [Act.put, lay_out]
         refine tK 9 (.bool true) rfl (.inl ⟨by rfl, fun w hw => by clear hw; go_simp⟩) h3x ?_
         try simp only [Act.put, lay_out]
         refine wpAnyH_ready (rs := [10]) (by kernel_rfl) (by simp) (AllReadyH.cons rfl (fun K hK => ?_) AllReadyH.nil)
         rw [if_pos (by rfl)]
         go_simp
         go_at_call 24
         (with_reducible refine (HAW.out _ (HWJ.out.trans (G3.out.z.low.mono HWJ.out.size))).mono ?_); rintro e y4 ⟨rfl, hb⟩
         have G4 := hid (G3.out.self hM hb)
         clear hb
         refine hK.out _ _ (⟨G4.out.mem (by simp), G4.out.mem (by simp), (HJ.out.self G4.out.z.low).bl 0 rfl⟩) (fun h4x => ?_)
         clear hK K
         try simp only [Act.put, lay_out]
         refine tK 11 (.bool true) rfl (.inl ⟨by rfl, fun w hw => by clear hw; go_simp⟩) h4x ?_
         try simp only [Act.put, lay_out]
         refine tK 12 (.bool true) rfl (.inl ⟨by rfl, fun w hw => by clear hw; go_simp⟩) h4x ?_
         try simp only [Act.put, lay_out]
         refine wpAnyH_done (by kernel_rfl) ?_ _
         refine NoPanic.normal ?_
         clear h0 h1x h2x h3x h4x
         try simp only [Act.put, lay_out]
         go_wp2
         go_ret
         exact ⟨rfl, HWJ.out.trans (G4.out.fin.1.low.mono HWJ.out.size)⟩
      ·
       have q : ((S4.e : Int) != 0) = true := by simp; omega
       generalize S4.e = EE at *
       clear he HVP
       go_wp2_with (go_at_call 24; (with_reducible refine (HAW.out _ HAL.out).mono ?_); rintro e wz ⟨rfl, hb⟩; have HZ := hid (HAL.out.trans (hb.mono HAL.out.size)); clear hb)
       go_ret
       exact ⟨rfl, HZ.out⟩
end Go.Proofs.YthkijncnndoafaaGreatDoor
