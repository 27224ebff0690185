import Derived.Test.YtdgkofnboeepbaaProg
import Derived.Test.YtdgkofnboeepbaaMgaq
import Derived.Test.YtdgkofnboeepbaaMgar
import Derived.Test.YtdgkofnboeepbaaMgas
import Derived.Test.YtdgkofnboeepbaaMgal
/- Share: an act of a pair: all kinds at once, and what its word stands for. -/
namespace Go.Proofs.Ytdgkofnboeepbaa
open Go.RowKit
set_option maxRecDepth 100000
def kOf (a : Ac5) : Nat := 8 + pkN a.D 4
def cOf (a : Ac5) : Nat := if pkN a.D 4 = 0 then a.C else a.C % 64
/-- The word that an act makes. -/
def daR (S : Ms) (K : Int) (a : Ac5) (A B : Nat → Int) : Nat → Int := if K = 0 then encR S else if K = 1 then cstR S 3 a.C else if K = 2 then cstR S 4 a.C else if K = 3 then xorR S A B else if K = 4 then notR S A else if K = 5 then oneR S (kOf a : Int) A (cOf a) else if K = 6 then addR S 3 A a.C else addR S 4 A a.C
/-- What it leaves. -/
def daS (S : Ms) (K : Int) (a : Ac5) (A B : Nat → Int) : Ms := if K = 0 then encS S a.C else if K = 1 then cstS S 3 a.C else if K = 2 then cstS S 4 a.C else if K = 3 then xorS S A B else if K = 4 then notS S A else if K = 5 then oneS S (kOf a : Int) A (cOf a) else if K = 6 then addS S 3 A a.C else addS S 4 A a.C
/-- What it should stand for. -/
def daZ (K : Int) (a : Ac5) (x y : Nat) : Nat := if K = 0 then a.C else if K = 1 then a.C else if K = 2 then a.C else if K = 3 then x ^^^ y else if K = 4 then wnt x else if K = 5 then mvN (kOf a : Int) (cOf a) x else x ^^^ a.C
theorem kOf_bd (a : Ac5) : 8 ≤ kOf a ∧ kOf a ≤ 11 := by have := pkN_lt a.D (L := 4) (by decide); unfold kOf; omega
theorem kOf_i (a : Ac5) : I64 (kOf a : Int) := by have := kOf_bd a; exact ⟨by omega, by omega⟩
theorem cOf_lt (a : Ac5) (h : a.C < 2 ^ 64) : cOf a < 2 ^ 64 := by unfold cOf; split <;> omega
theorem cOf_small (a : Ac5) (h : kOf a ≠ 8) : cOf a < 64 := by unfold cOf; unfold kOf at h; rw [if_neg (by omega)]; exact Nat.mod_lt _ (by decide)
theorem kOf_cases (a : Ac5) : (kOf a : Int) = 8 ∨ (kOf a : Int) = 9 ∨ (kOf a : Int) = 10 ∨ (kOf a : Int) = 11 := by have := kOf_bd a; omega
theorem kd5_bd (K : Int) (NL : Nat) : 0 ≤ kd5 K NL := by unfold kd5; split <;> omega
theorem kd5_pos {K : Int} {NL : Nat} (h : 3 ≤ kd5 K NL) : 0 < NL ∧ kd5 K NL = K := by
  unfold kd5 at h ⊢
  split at h
  · omega
  · rename_i e
    rw [if_neg e]
    exact ⟨by omega, rfl⟩
theorem sh_bd {S : Ms} (hn : S.n = 2 ∨ S.n = 3) : 2 ≤ S.sh ∧ S.sh ≤ 3 := by unfold Ms.sh; omega
theorem encS_ext (S : Ms) (x : Nat) : Ext S (encS S x) := ((beginS_ext S 1).trans (eaS_ext _ _ _ _)).trans ((doS_ext _ _ _).trans (endS_ext _))
theorem da_ext (S : Ms) (K : Int) (a : Ac5) (A B : Nat → Int) : Ext S (daS S K a A B) := by
  unfold daS
  repeat' split
  · exact encS_ext S a.C
  · exact eaS_ext _ _ _ _
  · exact eaS_ext _ _ _ _
  · exact eaS_ext _ _ _ _
  · exact doS_ext _ _ _
  · exact eaS_ext _ _ _ _
  · exact (doS_ext _ _ _).trans (doS_ext _ _ _)
  · exact (doS_ext _ _ _).trans (doS_ext _ _ _)
theorem i64k (z : Int) (h : 0 ≤ z) (h2 : z ≤ 1000) : I64 z := i64c z h h2
theorem cstS_bq {k : Nat} {S : Ms} (h : Bq k S) (hn : S.n = 2 ∨ S.n = 3) {K : Int} (hK : I64 K) {c : Nat} (hc : c < 2 ^ 64) : Bq (k + 6) (cstS S K c) :=
  (eaS_bq h 0 S.sh (fun j hj => opCst_wf hK hc (by have := sh_bd hn; omega))).mono (by have := sh_bd hn; omega)
theorem xorS_bq {k : Nat} {S : Ms} (h : Bq k S) (hn : S.n = 2 ∨ S.n = 3) {A B : Nat → Int} (hA : Wb A) (hB : Wb B) : Bq (k + 6) (xorS S A B) :=
  (eaS_bq h 0 S.sh (fun j hj => opXor_wf hA hB (by have := sh_bd hn; omega))).mono (by have := sh_bd hn; omega)
theorem oneS_bq {k : Nat} {S : Ms} (h : Bq k S) (hn : S.n = 2 ∨ S.n = 3) {K : Int} (hK : I64 K) {A : Nat → Int} (hA : Wb A) {c : Nat} (hc : c < 2 ^ 64) : Bq (k + 6) (oneS S K A c) :=
  (eaS_bq h 0 S.sh (fun j hj => opOne_wf hK hA hc (by have := sh_bd hn; omega))).mono (by have := sh_bd hn; omega)
theorem notS_bq {k : Nat} {S : Ms} (h : Bq k S) {A : Nat → Int} (hA : Wb A) : Bq (k + 6) (notS S A) := (h.does (opNot_wf hA) (by decide)).mono (by omega)
theorem addS_bq {k : Nat} {S : Ms} (h : Bq k S) (hk : k ≤ 1000000) {K : Int} (hK : I64 K) {A : Nat → Int} (hA : Wb A) {c : Nat} (hc : c < 2 ^ 64) : Bq (k + 6) (addS S K A c) :=
  ((h.does (opAd1_wf hK hc) (by decide)).does (opAd2_wf hA (doR_bd h hk _)) (by decide)).mono (by omega)
theorem enS1_bq {k : Nat} {S : Ms} (h : Bq k S) (hn : S.n = 2 ∨ S.n = 3) : Bq (k + 2) (enS1 S) :=
  (eaS_bq (h.begins 1) 1 (S.sh - 1) (fun j hj => opRand_wf (by have := sh_bd hn; omega))).mono (by have := sh_bd hn; omega)
theorem enR1_wb {k : Nat} {S : Ms} (h : Bq k S) (hk : k + 10 ≤ 100000) (hn : S.n = 2 ∨ S.n = 3) : Wb (enR1 S) :=
  eaR_wb (h.begins 1) 1 none3_wb _ (fun j hj => opRand_wf (by have := sh_bd hn; omega)) (by have := sh_bd hn; omega)
theorem opEn_wf {k : Nat} {S : Ms} (h : Bq k S) (hk : k + 10 ≤ 100000) (hn : S.n = 2 ∨ S.n = 3) : opwf (opEn S) := by
  have hw := (enS1_bq h hn).words
  have hb := enR1_wb h hk hn
  exact ⟨i64c 2 (by decide) (by decide), i64c 0 (by decide) (by decide), hb 1, hb 2, I64.m1, by show (enS1 S).words < _; omega⟩
theorem encS_bq {k : Nat} {S : Ms} (h : Bq k S) (hk : k + 10 ≤ 100000) (hn : S.n = 2 ∨ S.n = 3) {x : Nat} (hx : x < 2 ^ 64) : Bq (k + 6) (encS S x) :=
  (((enS1_bq h hn).does (opEn_wf h hk hn) hx).ends (by omega)).mono (by omega)
theorem da_bq {k : Nat} {S : Ms} (h : Bq k S) (hk : k + 10 ≤ 100000) (hn : S.n = 2 ∨ S.n = 3) (K : Int) (hK : 0 ≤ K) (a : Ac5) (hC : a.C < 2 ^ 64) {A B : Nat → Int} (hAB : 3 ≤ K → Wb A ∧ Wb B) : Bq (k + 6) (daS S K a A B) := by
  unfold daS
  repeat' split
  · exact encS_bq h hk hn hC
  · exact cstS_bq h hn (i64k 3 (by decide) (by decide)) hC
  · exact cstS_bq h hn (i64k 4 (by decide) (by decide)) hC
  · exact xorS_bq h hn (hAB (by omega)).1 (hAB (by omega)).2
  · exact notS_bq h (hAB (by omega)).1
  · exact oneS_bq h hn (kOf_i a) (hAB (by omega)).1 (cOf_lt a hC)
  · exact addS_bq h (by omega) (i64k 3 (by decide) (by decide)) (hAB (by omega)).1 hC
  · exact addS_bq h (by omega) (i64k 4 (by decide) (by decide)) (hAB (by omega)).1 hC
theorem da_wb {k : Nat} {S : Ms} (h : Bq k S) (hk : k + 10 ≤ 100000) (hn : S.n = 2 ∨ S.n = 3) (K : Int) (hK : 0 ≤ K) (a : Ac5) (hC : a.C < 2 ^ 64) {A B : Nat → Int} (hAB : 3 ≤ K → Wb A ∧ Wb B) : Wb (daR S K a A B) := by
  have hs := sh_bd hn
  have i3 := i64k 3 (by decide) (by decide)
  have i4 := i64k 4 (by decide) (by decide)
  unfold daR
  repeat' split
  · exact (enR1_wb h hk hn).upd (doR_bd (enS1_bq h hn) (by omega) _)
  · exact eaR_wb h 0 none3_wb _ (fun j hj => opCst_wf i3 hC (by omega)) (by omega)
  · exact eaR_wb h 0 none3_wb _ (fun j hj => opCst_wf i4 hC (by omega)) (by omega)
  · exact eaR_wb h 0 none3_wb _ (fun j hj => opXor_wf (hAB (by omega)).1 (hAB (by omega)).2 (by omega)) (by omega)
  · exact (hAB (by omega)).1.upd (doR_bd h (by omega) _)
  · exact eaR_wb h 0 none3_wb _ (fun j hj => opOne_wf (kOf_i a) (hAB (by omega)).1 (cOf_lt a hC) (by omega)) (by omega)
  · exact (hAB (by omega)).1.upd (doR_bd (h.does (opAd1_wf i3 hC) (by decide)) (by omega) _)
  · exact (hAB (by omega)).1.upd (doR_bd (h.does (opAd1_wf i4 hC) (by decide)) (by omega) _)
/-- Without an error the word stands for what it should. -/
theorem da_vl {S : Ms} {K : Int} {a : Ac5} {A B : Nat → Int} (hs : S.skip = 0) (hn : S.n = 2 ∨ S.n = 3) (hv : ∀ i, i < S.L → S.v i < 2 ^ 64) (hw : 3 ≤ K → Gw S A ∧ Gw S B) (hK : 0 ≤ K) (h : (daS S K a A B).e = 0) :
    vlN (daS S K a A B).v (daS S K a A B).L (daR S K a A B) = daZ K a (vlN S.v S.L A) (vlN S.v S.L B) ∧ Gw (daS S K a A B) (daR S K a A B) := by
  unfold daS at h ⊢
  unfold daR daZ
  by_cases k0 : K = 0
  · simp only [k0, if_true] at h ⊢; exact enc_vl h hs hn
  by_cases k1 : K = 1
  · rw [if_neg k0, if_pos k1] at h ⊢; rw [if_neg k0, if_pos k1, if_neg k0, if_pos k1]; exact cst_vl h hs hn (.inl rfl)
  by_cases k2 : K = 2
  · rw [if_neg k0, if_neg k1, if_pos k2] at h ⊢; rw [if_neg k0, if_neg k1, if_pos k2, if_neg k0, if_neg k1, if_pos k2]; exact cst_vl h hs hn (.inr rfl)
  obtain ⟨hA, hB⟩ := hw (by omega)
  by_cases k3 : K = 3
  · rw [if_neg k0, if_neg k1, if_neg k2, if_pos k3] at h ⊢; rw [if_neg k0, if_neg k1, if_neg k2, if_pos k3, if_neg k0, if_neg k1, if_neg k2, if_pos k3]; exact xor_vl h hs hn hA hB
  by_cases k4 : K = 4
  · rw [if_neg k0, if_neg k1, if_neg k2, if_neg k3, if_pos k4] at h ⊢; rw [if_neg k0, if_neg k1, if_neg k2, if_neg k3, if_pos k4, if_neg k0, if_neg k1, if_neg k2, if_neg k3, if_pos k4]; exact not_vl h hs hn hv hA
  by_cases k5 : K = 5
  · rw [if_neg k0, if_neg k1, if_neg k2, if_neg k3, if_neg k4, if_pos k5] at h ⊢; rw [if_neg k0, if_neg k1, if_neg k2, if_neg k3, if_neg k4, if_pos k5, if_neg k0, if_neg k1, if_neg k2, if_neg k3, if_neg k4, if_pos k5]; exact one_vl h hs hn (kOf_cases a) hv hA
  by_cases k6 : K = 6
  · rw [if_neg k0, if_neg k1, if_neg k2, if_neg k3, if_neg k4, if_neg k5, if_pos k6] at h ⊢; rw [if_neg k0, if_neg k1, if_neg k2, if_neg k3, if_neg k4, if_neg k5, if_pos k6, if_neg k0, if_neg k1, if_neg k2, if_neg k3, if_neg k4, if_neg k5]; exact add_vl h hs hn (.inl rfl) hA
  · rw [if_neg k0, if_neg k1, if_neg k2, if_neg k3, if_neg k4, if_neg k5, if_neg k6] at h ⊢; rw [if_neg k0, if_neg k1, if_neg k2, if_neg k3, if_neg k4, if_neg k5, if_neg k6, if_neg k0, if_neg k1, if_neg k2, if_neg k3, if_neg k4, if_neg k5]; exact add_vl h hs hn (.inr rfl) hA
theorem ldoe_any {Pm : World → Nat → Ms → (Nat → Prop) → Prop} (hM : Mach Pm) (hS : ShI Pm) {lo : Nat} {X : Nat → Prop} {W w : World} {p b k : Nat} {S : Ms} (h : Bz Pm lo X W w p b S S) (hq : Bq k S) (hk : k + 10 ≤ 100000) (hn : S.n = 2 ∨ S.n = 3) (a : Ac5) (la va : Option Addr) (NL lc vc : Nat) (hC : a.C < 2 ^ 64) (hNl : NL ≤ 1000000) (WF : Nat → Nat → Int) (VF : Nat → Nat)
    (hl : 0 < NL → ∃ gL gV, la = some ⟨gL, 0, none⟩ ∧ va = some ⟨gV, 0, none⟩ ∧ Lv w X NL gL gV WF VF) :
    Calls Try.prog 7 #[.agg (paC p b (.slice la NL lc) (.slice va NL vc)), .agg (ac5 a)] w fun e w' => e = .returned (.tuple #[.agg (wdV (daR S (kd5 a.K NL) a (WF (pkN a.A NL)) (WF (pkN a.B NL)))), .int .u64 (daZ (kd5 a.K NL) a (VF (pkN a.A NL)) (VF (pkN a.B NL)) : Nat), .bool true]) ∧ Bz Pm lo X W w' p b (daS S (kd5 a.K NL) a (WF (pkN a.A NL)) (WF (pkN a.B NL))) (daS S (kd5 a.K NL) a (WF (pkN a.A NL)) (WF (pkN a.B NL))) ∧ ∀ k, X k → w'.heap[k]? = w.heap[k]? := by
  have hb := kd5_bd a.K NL
  by_cases k0 : kd5 a.K NL = 0
  · rw [k0]; exact ldoe_0 hM hS h hq hk hn a la va NL lc vc hC k0
  by_cases k1 : kd5 a.K NL = 1
  · rw [k1]; exact ldoe_1 hM hS h hq hk hn a la va NL lc vc hC k1
  by_cases k2 : kd5 a.K NL = 2
  · rw [k2]; exact ldoe_2 hM hS h hq hk hn a la va NL lc vc hC k2
  obtain ⟨hp, hK⟩ := kd5_pos (show 3 ≤ kd5 a.K NL by omega)
  obtain ⟨gL, gV, rfl, rfl, l⟩ := hl hp
  by_cases k3 : kd5 a.K NL = 3
  · rw [k3]; exact ldoe_3 hM hS h hq hk hn a gL gV NL lc vc hC WF VF l hp hNl _ _ rfl rfl k3
  by_cases k4 : kd5 a.K NL = 4
  · rw [k4]; exact ldoe_4 hM hS h hq hk hn a gL gV NL lc vc hC WF VF l hp hNl _ _ rfl rfl k4
  by_cases k5 : kd5 a.K NL = 5
  · rw [k5]
    have h4 := pkN_lt a.D (L := 4) (by decide)
    by_cases hm : pkN a.D 4 = 0
    · have ec : cOf a = a.C := if_pos hm
      exact ldoe_5a hM hS h hq hk hn a gL gV NL lc vc hC WF VF l hp hNl _ _ rfl rfl (pkN a.D 4) (kOf a) (cOf a) rfl h4 rfl (cOf_lt a hC) (cOf_small a) (decide_eq_false (by unfold kOf; omega)) ec k5
    · have ec : cOf a = a.C % 64 := if_neg hm
      exact ldoe_5b hM hS h hq hk hn a gL gV NL lc vc hC WF VF l hp hNl _ _ rfl rfl (pkN a.D 4) (kOf a) (cOf a) rfl h4 rfl (cOf_lt a hC) (cOf_small a) (decide_eq_true (by unfold kOf; omega)) (by rw [ec]; rfl) k5
  by_cases k6 : kd5 a.K NL = 6
  · rw [k6]; exact ldoe_6 hM hS h hq hk hn a gL gV NL lc vc hC WF VF l hp hNl _ _ rfl rfl k6
  have eR : daR S (kd5 a.K NL) a (WF (pkN a.A NL)) (WF (pkN a.B NL)) = addR S 4 (WF (pkN a.A NL)) a.C := by unfold daR; rw [if_neg k0, if_neg k1, if_neg k2, if_neg k3, if_neg k4, if_neg k5, if_neg k6]
  have eS : daS S (kd5 a.K NL) a (WF (pkN a.A NL)) (WF (pkN a.B NL)) = addS S 4 (WF (pkN a.A NL)) a.C := by unfold daS; rw [if_neg k0, if_neg k1, if_neg k2, if_neg k3, if_neg k4, if_neg k5, if_neg k6]
  have eZ : daZ (kd5 a.K NL) a (VF (pkN a.A NL)) (VF (pkN a.B NL)) = VF (pkN a.A NL) ^^^ a.C := by unfold daZ; rw [if_neg k0, if_neg k1, if_neg k2, if_neg k3, if_neg k4, if_neg k5]
  rw [eR, eS, eZ]
  exact ldoe_7 hM hS h hq hk hn a gL gV NL lc vc hC WF VF l hp hNl _ _ rfl rfl (by rw [hK] at k0 k1 k2 k3 k4 k5 k6 hb; omega) hK
end Go.Proofs.Ytdgkofnboeepbaa

/- Share: the chapter's example; what any registers stand for. -/
namespace Go.Proofs.Ytdgkofnboeepbaa
open Go.RowKit
set_option maxRecDepth 100000
theorem sz_al (w : World) (o : Obj) : (w.alloc o).heap.size = w.heap.size + 1 := Array.size_push _
def shS : Ms := cstS exS0 3 7
theorem shLen : ((shS.len : Nat) : Int) = 2 := by decide +kernel
theorem shVal : vlN shS.v (shS.keep shS.L) (cstR exS0 3 7) = 7 := by decide +kernel
theorem shB : Bq 6 shS := cstS_bq exB0 (.inl rfl) (i64k 3 (by decide) (by decide)) (by decide)
theorem keep_le (S : Ms) (n : Nat) : S.keep n ≤ n := by unfold Ms.keep; split <;> omega
set_option maxHeartbeats 6400000 in
theorem sawake_any {Pm : World → Nat → Ms → (Nat → Prop) → Prop} (hM : Mach Pm) (hN : MachN Pm) (hS : ShI Pm) (w : World) :
    Calls Try.prog 9 #[] w fun e w' => e = .returned (.bool true) ∧ Below w.heap.size w w' := by
  have HBG : Hid (∀ w, Calls Try.prog 6 #[.int .i64 2, .slice none 0 0, .int .i64 9] w fun e w' => ∃ p b, e = .returned (.tuple #[.agg (paC p b (.slice none 0 0) (.slice none 0 0)), .bool true]) ∧ Bz Pm w.heap.size (fun _ => False) w w' p b exS0 exS0) :=
    hid (fun w => lbegins_any hM hN 2 9 (.inl rfl) (by decide) (by decide) (fun _ => 0) 0 (.slice none 0 0) w ⟨none, 0, rfl, by decide, by decide, by decide, fun z hz => (List.not_mem_nil hz).elim, fun h => absurd h (by decide)⟩)
  have HPB : Hid (∀ (X : Nat → Prop) (w0 wx : World) (p b : Nat), Bz Pm w.heap.size X w0 wx p b exS0 exS0 → Calls Try.prog 21 #[.pointer (some ⟨p, 0, none⟩), .int .u64 7] wx fun e w' => e = .returned (.agg (wdV (cstR exS0 3 7))) ∧ Bz Pm w.heap.size X w0 w' p b shS exS0 ∧ ∀ k, X k → w'.heap[k]? = wx.heap[k]?) :=
    hid (fun X w0 wx p b h => qpub hM hS 7 h exB0 (by decide) (.inl rfl) (by decide))
  have HLN : Hid (∀ (X : Nat → Prop) (w0 wx : World) (p b : Nat), Bz Pm w.heap.size X w0 wx p b shS exS0 → Calls Try.prog 37 #[.pointer (some ⟨p, 0, none⟩)] wx fun e w' => e = .returned (.int .i64 2) ∧ Below wx.heap.size wx w') :=
    hid (fun X w0 wx p b h => by have := zlen hM h shB (by decide); rw [shLen] at this; exact this)
  have HVS : Hid (∀ (X : Nat → Prop) (w0 wx : World) (p b : Nat), Bz Pm w.heap.size X w0 wx p b shS exS0 → Calls Try.prog 11 #[.pointer (some ⟨p, 0, none⟩)] wx fun e w' => ∃ v, e = .returned v ∧ Rd .u64 w' v (wdL shS.v (shS.keep shS.L)) ∧ Below wx.heap.size wx w') :=
    hid (fun X w0 wx p b h => zvalues hM h shB (by decide))
  have HVL : Hid (∀ (v : Value) (wx : World), Rd .u64 wx v (wdL shS.v (shS.keep shS.L)) → Calls Try.prog 10 #[v, .agg (wdV (cstR exS0 3 7))] wx fun e w' => e = .returned (.int .u64 7) ∧ Below wx.heap.size wx w') :=
    hid (fun v wx h => by have := hS.value v shS.v _ (cstR exS0 3 7) wx h (fun i hi => shB.v i (Nat.lt_of_lt_of_le hi (keep_le _ _))); rw [shVal] at this; exact this)
  generalize cstR exS0 3 7 = R at *
  go_enter Try.func9, Try.ntmps9
  go_upto_region 4 with (go_at_call 6; (with_reducible refine (HBG.out _).mono ?_); rintro e w2 ⟨p, b, rfl, hz⟩; have Z2 := hid hz; clear hz)
  have hb3 := (Below.refl w2.heap.size w2).alloc (Nat.le_refl _) (.cells (paC p b (.slice none 0 0) (.slice none 0 0)) 28)
  have Z3 := hid (Z2.out.more hM hb3)
  have X3 : Hid ((w2.alloc (.cells (paC p b (.slice none 0 0) (.slice none 0 0)) 28)).heap[w2.heap.size]? = some (.cells (paC p b (.slice none 0 0) (.slice none 0 0)) 28 (0, 0))) := hid (heap_alloc_new _ _)
  have N3 : Hid (w2.heap.size < (w2.alloc (.cells (paC p b (.slice none 0 0) (.slice none 0 0)) 28)).heap.size) := hid (Nat.lt_of_lt_of_eq (Nat.lt_succ_self _) (sz_al _ _).symm)
  clear hb3
  generalize w2.alloc (.cells (paC p b (.slice none 0 0) (.slice none 0 0)) 28) = w3 at *
  have c0 := row_c (i := 0) (u := .pointer (some ⟨p, 0, none⟩)) X3.out rfl
  go_wp2_with (go_at_call 21; (with_reducible refine (HPB.out _ _ _ _ _ Z3.out).mono ?_); rintro e w4 ⟨rfl, hz, hs⟩; have Z4 := hid hz; have X4 := hid ((hs w2.heap.size (.inr ⟨Nat.le_refl _, N3.out⟩)).trans X3.out); clear hz hs c0)
  have hb5 := (Below.refl w4.heap.size w4).alloc (Nat.le_refl _) (.cells (wdV R) 33)
  have Z5 := hid ((Z4.out.more hM hb5).self hM ((Below.refl _ _).drew))
  have X5 : Hid ((w4.alloc (.cells (wdV R) 33)).drew.heap[w2.heap.size]? = some (.cells (paC p b (.slice none 0 0) (.slice none 0 0)) 28 (0, 0))) := hid ((hb5.block _ (Array.getElem?_eq_some_iff.1 X4.out).1).trans X4.out)
  have Y5 : Hid ((w4.alloc (.cells (wdV R) 33)).drew.heap[w4.heap.size]? = some (.cells (wdV R) 33 (0, 0))) := hid (heap_alloc_new w4 _)
  clear hb5
  generalize w4.alloc (.cells (wdV R) 33) = w5 at *
  refine wp_region_noPanic ?_
  refine wp_region_held_drew (S := fun w' => w'.heap[w2.heap.size]? = some (.cells (paC p b (.slice none 0 0) (.slice none 0 0)) 28 (0, 0)) ∧ w'.heap[w4.heap.size]? = some (.cells (wdV R) 33 (0, 0))) (by kernel_rfl) (⟨X5.out, Y5.out⟩) (fun h0 => ?_)
  generalize w5.drew = w6 at *
  refine wpAnyH_take (i := 0) (v := .pointer (some ⟨w2.heap.size, 0, none⟩)) rfl (by kernel_rfl) (by kernel_rfl) (by kernel_rfl) (fun _ _ _ h => h) (.inl ⟨by rfl, fun w hw => by clear hw; go_simp⟩) h0 ?_
  try simp only [Act.put, lay_out]
  refine wpAnyH_take (i := 1) (v := .pointer (some ⟨p, 0, none⟩)) rfl (by kernel_rfl) (by kernel_rfl) (by kernel_rfl) (fun _ _ _ h => h) (.inl ⟨by rfl, fun w' hw => by have hc := row_c (i := 0) (u := .pointer (some ⟨p, 0, none⟩)) hw.1 rfl; clear hw; go_simp⟩) h0 ?_
  try simp only [Act.put, lay_out]
  refine wpAnyH_ready (rs := [2]) (by kernel_rfl) (by simp) (AllReadyH.cons rfl (fun K hK => ?_) AllReadyH.nil)
  rw [if_pos (by rfl)]
  go_simp
  go_at_call 37
  (with_reducible refine (HLN.out _ _ _ _ _ Z5.out).mono ?_); rintro e w7 ⟨rfl, hb⟩
  have Z6 := hid (Z5.out.self hM hb)
  have X6 := hid ((hb.block _ (Array.getElem?_eq_some_iff.1 X5.out).1).trans X5.out)
  have Y6 := hid ((hb.block _ (Array.getElem?_eq_some_iff.1 Y5.out).1).trans Y5.out)
  clear hb
  refine hK.out _ _ (⟨X6.out, Y6.out⟩) (fun h1x => ?_)
  clear hK K
  try simp only [Act.put, lay_out]
  refine wpAnyH_take (i := 3) (v := .bool true) rfl (by kernel_rfl) (by kernel_rfl) (by kernel_rfl) (fun _ _ _ h => h) (.inl ⟨by rfl, fun w hw => by clear hw; go_simp⟩) h1x ?_
  try simp only [Act.put, lay_out]
  refine wpAnyH_take (i := 4) (v := .bool true) rfl (by kernel_rfl) (by kernel_rfl) (by kernel_rfl) (fun _ _ _ h => h) (.inl ⟨by rfl, fun w hw => by clear hw; go_simp⟩) h1x ?_
  try simp only [Act.put, lay_out]
  refine wpAnyH_take (i := 5) (v := .pointer (some ⟨w2.heap.size, 0, none⟩)) rfl (by kernel_rfl) (by kernel_rfl) (by kernel_rfl) (fun _ _ _ h => h) (.inl ⟨by rfl, fun w hw => by clear hw; go_simp⟩) h1x ?_
  try simp only [Act.put, lay_out]
  refine wpAnyH_take (i := 6) (v := .pointer (some ⟨p, 0, none⟩)) rfl (by kernel_rfl) (by kernel_rfl) (by kernel_rfl) (fun _ _ _ h => h) (.inl ⟨by rfl, fun w' hw => by have hc := row_c (i := 0) (u := .pointer (some ⟨p, 0, none⟩)) hw.1 rfl; clear hw; go_simp⟩) h1x ?_
  try simp only [Act.put, lay_out]
  refine wpAnyH_take (i := 8) (v := .agg (wdV R)) rfl (by kernel_rfl) (by kernel_rfl) (by kernel_rfl) (fun _ _ _ h => h) (yields_load_row (by rfl) 33 _ rfl w4.heap.size 33 (wdV R) _ rfl (fun w h => h.2) Try.underlying33 rfl (by kernel_rfl)) h1x ?_
  try simp only [Act.put, lay_out]
  refine wpAnyH_ready (rs := [7]) (by kernel_rfl) (by simp) (AllReadyH.cons rfl (fun K hK => ?_) AllReadyH.nil)
  rw [if_pos (by rfl)]
  go_simp
  go_at_call 11
  (with_reducible refine (HVS.out _ _ _ _ _ Z6.out).mono ?_); rintro e w8 ⟨v, rfl, hv, hb⟩
  have Z7 := hid (Z6.out.self hM hb)
  have X7 := hid ((hb.block _ (Array.getElem?_eq_some_iff.1 X6.out).1).trans X6.out)
  have Y7 := hid ((hb.block _ (Array.getElem?_eq_some_iff.1 Y6.out).1).trans Y6.out)
  have V7 := hid hv
  clear hv
  clear hb
  refine hK.out _ _ (⟨X7.out, Y7.out⟩) (fun h2x => ?_)
  clear hK K
  try simp only [Act.put, lay_out]
  refine wpAnyH_ready (rs := [9]) (by kernel_rfl) (by simp) (AllReadyH.cons rfl (fun K hK => ?_) AllReadyH.nil)
  rw [if_pos (by rfl)]
  go_simp
  go_at_call 10
  (with_reducible refine (HVL.out _ _ V7.out).mono ?_); rintro e w9 ⟨rfl, hb⟩
  have Z8 := hid (Z7.out.self hM hb)
  have X8 := hid ((hb.block _ (Array.getElem?_eq_some_iff.1 X7.out).1).trans X7.out)
  have Y8 := hid ((hb.block _ (Array.getElem?_eq_some_iff.1 Y7.out).1).trans Y7.out)
  clear hb
  refine hK.out _ _ (⟨X8.out, Y8.out⟩) (fun h3x => ?_)
  clear hK K
  try simp only [Act.put, lay_out]
  refine wpAnyH_take (i := 10) (v := .bool true) rfl (by kernel_rfl) (by kernel_rfl) (by kernel_rfl) (fun _ _ _ h => h) (.inl ⟨by rfl, fun w hw => by clear hw; go_simp⟩) h3x ?_
  try simp only [Act.put, lay_out]
  refine wpAnyH_take (i := 11) (v := .bool true) rfl (by kernel_rfl) (by kernel_rfl) (by kernel_rfl) (fun _ _ _ h => h) (.inl ⟨by rfl, fun w hw => by clear hw; go_simp⟩) h3x ?_
  try simp only [Act.put, lay_out]
  refine wpAnyH_take (i := 12) (v := .bool true) rfl (by kernel_rfl) (by kernel_rfl) (by kernel_rfl) (fun _ _ _ h => h) (.inl ⟨by rfl, fun w hw => by clear hw; go_simp⟩) h3x ?_
  try simp only [Act.put, lay_out]
  refine wpAnyH_done (by kernel_rfl) ?_ _
  refine NoPanic.normal ?_
  clear h0 h1x h2x h3x
  try simp only [Act.put, lay_out]
  go_wp2
  go_ret
  exact ⟨rfl, Z8.out.low⟩
end Go.Proofs.Ytdgkofnboeepbaa

/- Share: the program's functions of words, over any machine: one machine, and boxes beside it. -/
namespace Go.Proofs.Ytdgkofnboeepbaa
open Go.RowKit
set_option maxRecDepth 100000
/-- From w0, with the blocks F0, a machine has come to S at w; bs: boxes that were made since. -/
structure Ow (Pm : World → Nat → Ms → (Nat → Prop) → Prop) (F0 : Nat → Prop) (w0 w : World) (b : Nat) (S : Ms) (bs : List (Nat × Obj)) : Prop where
  ex : ∃ F, Pm w b S F ∧ (∀ k, F k → F0 k ∨ w0.heap.size ≤ k) ∧ ∀ q ∈ bs, ¬ F q.1
  tch : Tch F0 w0 w
  bx : ∀ q ∈ bs, w0.heap.size ≤ q.1 ∧ w.heap[q.1]? = some q.2
  nd : (bs.map (·.1)).Nodup
section
variable {Pm : World → Nat → Ms → (Nat → Prop) → Prop} {F0 : Nat → Prop} {w0 w w' : World} {b : Nat} {S S' : Ms} {bs : List (Nat × Obj)}
theorem Ow.start {F : Nat → Prop} (h : Pm w b S F) : Ow Pm F w w b S [] := ⟨⟨F, h, fun _ q => .inl q, fun q hq => (List.not_mem_nil hq).elim⟩, Tch.refl _ _, fun q hq => (List.not_mem_nil hq).elim, by simp⟩
theorem Ow.lt (h : Ow Pm F0 w0 w b S bs) {q : Nat × Obj} (hq : q ∈ bs) : q.1 < w.heap.size := (Array.getElem?_eq_some_iff.1 (h.bx q hq).2).1
theorem Ow.self (hM : Mach Pm) (h : Ow Pm F0 w0 w b S bs) (hb : Below w.heap.size w w') : Ow Pm F0 w0 w' b S bs := by
  obtain ⟨F, h1, h2, h3⟩ := h.ex
  exact ⟨⟨F, hM.stays h1 hb.size (fun k hk => hb.block k (hM.lt h1 k hk)), h2, h3⟩, h.tch.trans (Tch.of_below (F := F0) hb) (fun _ _ f => f), fun q hq => ⟨(h.bx q hq).1, (hb.block _ (h.lt hq)).trans (h.bx q hq).2⟩, h.nd⟩
theorem Ow.new (hM : Mach Pm) (h : Ow Pm F0 w0 w b S bs) (cs : Array Value) (T : TypeId) : Ow Pm F0 w0 (w.alloc (.cells cs T)) b S ((w.heap.size, .cells cs T (0, 0)) :: bs) := by
  have h' := h.self hM ((Below.refl w.heap.size w).alloc (Nat.le_refl _) (.cells cs T))
  obtain ⟨F, h1, h2, h3⟩ := h.ex
  refine ⟨⟨F, hM.stays h1 (by rw [sz_al]; omega) (fun k hk => Below.heap_alloc w _ k (hM.lt h1 k hk)), h2, fun q hq => ?_⟩, h'.tch, fun q hq => ?_, ?_⟩
  · rcases List.mem_cons.1 hq with rfl | hq
    · exact fun e => by have := hM.lt h1 _ e; omega
    · exact h3 q hq
  · rcases List.mem_cons.1 hq with rfl | hq
    · exact ⟨h.tch.size, heap_alloc_new _ _⟩
    · exact h'.bx q hq
  · rw [List.map_cons, List.nodup_cons]
    refine ⟨fun e => ?_, h.nd⟩
    obtain ⟨q, hq, e⟩ := List.mem_map.1 e
    have := h.lt hq
    have e' : q.1 = w.heap.size := e
    omega
/-- Boxes are forgotten, or stand in another order. -/
theorem Ow.sub {bs' : List (Nat × Obj)} (h : Ow Pm F0 w0 w b S bs) (hs : ∀ q ∈ bs', q ∈ bs) (hn : (bs'.map (·.1)).Nodup) : Ow Pm F0 w0 w b S bs' := by
  obtain ⟨F, h1, h2, h3⟩ := h.ex
  exact ⟨⟨F, h1, h2, fun q hq => h3 q (hs q hq)⟩, h.tch, fun q hq => h.bx q (hs q hq), hn⟩
theorem Ow.drop {q : Nat × Obj} (h : Ow Pm F0 w0 w b S (q :: bs)) : Ow Pm F0 w0 w b S bs := h.sub (fun _ hz => List.mem_cons_of_mem _ hz) (by have := h.nd; rw [List.map_cons, List.nodup_cons] at this; exact this.2)
theorem Ow.swap {q r : Nat × Obj} (h : Ow Pm F0 w0 w b S (q :: r :: bs)) : Ow Pm F0 w0 w b S (r :: q :: bs) := h.sub (fun z hz => by simp at hz ⊢; rcases hz with e | e | e <;> simp [e]) (by
  have := h.nd
  simp only [List.map_cons, List.nodup_cons, List.mem_cons, not_or] at this ⊢
  exact ⟨⟨fun e => this.1.1 e.symm, this.2.1⟩, this.1.2, this.2.2⟩)
/-- The first box is turned. -/
theorem Ow.turn (hM : Mach Pm) {n : Nat} {o o' : Obj} (h : Ow Pm F0 w0 w b S ((n, o) :: bs)) (hn : w'.heap[n]? = some o') (ho : ∀ k, k ≠ n → w'.heap[k]? = w.heap[k]?) (hs : w.heap.size ≤ w'.heap.size) (hos : w'.os = w.os ∧ w'.tape = w.tape ∧ w'.output = w.output) : Ow Pm F0 w0 w' b S ((n, o') :: bs) := by
  have hb := h.bx _ (List.mem_cons_self ..)
  have hnd := h.nd
  rw [List.map_cons, List.nodup_cons] at hnd
  obtain ⟨F, h1, h2, h3⟩ := h.ex
  have hne : ∀ k, F k → k ≠ n := fun k hk e => h3 _ (List.mem_cons_self ..) (by show F n; rw [← e]; exact hk)
  refine ⟨⟨F, hM.stays h1 hs (fun k hk => ho k (hne k hk)), h2, fun q hq => ?_⟩, ?_, fun q hq => ?_, ?_⟩
  · rcases List.mem_cons.1 hq with rfl | hq
    · exact h3 (n, o) (List.mem_cons_self ..)
    · exact h3 q (List.mem_cons_of_mem _ hq)
  · have hn0 : w0.heap.size ≤ n := hb.1
    exact h.tch.trans ⟨hos.1, hos.2.1, hos.2.2, hs, fun k hk hF => ho k (fun e => hF (by show n = k; exact e.symm))⟩ (G := fun k => n = k) (fun j hj e => by have e' : n = j := e; omega)
  · rcases List.mem_cons.1 hq with rfl | hq
    · exact ⟨hb.1, hn⟩
    · exact ⟨(h.bx q (List.mem_cons_of_mem _ hq)).1, (ho q.1 (fun e => hnd.1 (List.mem_map.2 ⟨q, hq, e⟩))).trans (h.bx q (List.mem_cons_of_mem _ hq)).2⟩
  · rw [List.map_cons, List.nodup_cons]; exact hnd
theorem Ow.row (hM : Mach Pm) {n : Nat} {cs : Array Value} {T : TypeId} (h : Ow Pm F0 w0 w b S ((n, .cells cs T (0, 0)) :: bs)) (cs' : Array Value) : Ow Pm F0 w0 (w.setRow n cs') b S ((n, .cells cs' T (0, 0)) :: bs) :=
  h.turn hM (setRow_heap w n cs cs' T _ (h.bx _ (List.mem_cons_self ..)).2) (fun k hk => setRow_other w n k cs' hk) (by simp [World.setRow]) ⟨rfl, rfl, rfl⟩
theorem Ow.cell (hM : Mach Pm) {n : Nat} {cs : Array Value} {T : TypeId} (h : Ow Pm F0 w0 w b S ((n, .cells cs T (0, 0)) :: bs)) (i : Nat) (v : Value) : Ow Pm F0 w0 (w.setCell ⟨n, i, none⟩ v) b S ((n, .cells (cs.setIfInBounds i v) T (0, 0)) :: bs) :=
  h.turn hM (heap_setCell_same w n i cs T v (h.bx _ (List.mem_cons_self ..)).2) (fun k hk => heap_setCell_other w ⟨n, i, none⟩ k v hk) (by simp [World.setCell]) ⟨rfl, rfl, rfl⟩
theorem Ow.bl (h : Ow Pm F0 w0 w b S bs) (i : Nat) {n : Nat} {u : Obj} (hi : bs[i]? = some (n, u)) : w.heap[n]? = some u := (h.bx (n, u) (List.mem_of_getElem? hi)).2
/-- A method's contract. -/
theorem Ow.lift (_ : Mach Pm) (h : Ow Pm F0 w0 w b S bs) {f : FuncId} {args : Array Value} {E : Ending → Prop} (hc : ∀ F, Pm w b S F → Calls Try.prog f args w fun e w' => E e ∧ PmR Pm b S' F w w') : Calls Try.prog f args w fun e w' => E e ∧ Ow Pm F0 w0 w' b S' bs := by
  obtain ⟨F, h1, h2, h3⟩ := h.ex
  refine (hc F h1).mono fun e w' hr => ⟨hr.1, ?_⟩
  obtain ⟨F', g1, g2, g3⟩ := hr.2
  refine ⟨⟨F', g1, fun k hk => ?_, fun q hq e => ?_⟩, h.tch.trans g2 (fun j hj f => (h2 j f).resolve_right (by omega)), fun q hq => ⟨(h.bx q hq).1, (g2.block q.1 (h.lt hq) (h3 q hq)).trans (h.bx q hq).2⟩, h.nd⟩
  · rcases g3 k hk with f | f
    · exact h2 k f
    · exact .inr (Nat.le_trans h.tch.size f)
  · rcases g3 _ e with f | f
    · exact h3 q hq f
    · have := h.lt hq; omega
theorem Ow.fin (h : Ow Pm F0 w0 w b S bs) : PmR Pm b S F0 w0 w := by
  obtain ⟨F, h1, h2, _⟩ := h.ex
  exact ⟨F, h1, h.tch, h2⟩
/-- A contract that makes memory alone. -/
theorem Ow.asks (h : Ow Pm F0 w0 w b S bs) {f : FuncId} {args : Array Value} {E : Ending → World → Prop} (hc : ∀ F, Pm w b S F → Calls Try.prog f args w E) : Calls Try.prog f args w E := by
  obtain ⟨F, h1, _, _⟩ := h.ex
  exact hc F h1
end
end Go.Proofs.Ytdgkofnboeepbaa
