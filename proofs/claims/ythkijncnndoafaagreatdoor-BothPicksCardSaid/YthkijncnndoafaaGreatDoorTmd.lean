import Derived.Test.YthkijncnndoafaaGreatDoorProg
import Derived.Test.YthkijncnndoafaaGreatDoorSgw
import Derived.Test.YthkijncnndoafaaGreatDoorWlm
import Derived.Test.YthkijncnndoafaaGreatDoorMpw
import Derived.Test.YthkijncnndoafaaGreatDoorFrp
import Derived.Test.YthkijncnndoafaaGreatDoorShp
import Derived.Test.YthkijncnndoafaaGreatDoorGen
import Derived.ArgAppend
import Derived.Lib.AppendStr
import Derived.Lib.AppendIntMem
import Derived.Lib.ConvBytes
namespace Go.Proofs.YthkijncnndoafaaGreatDoor
open Go.RowKit
set_option maxRecDepth 100000
theorem updI_twice (W : Nat → Int) (j : Nat) (x z : Int) : updI (updI W j x) j z = updI W j z := by
 funext i
 unfold updI
 split <;> rfl
set_option maxHeartbeats 25600000 in
theorem dby_core {lg : LoG} {F0 : Nat → Prop} {w0 w : World} {b k0 nn : Nat} {S : Ms} (K : Int) (dom : Bool) (hK : ((K : Int) == 2) = dom) (A B : Nat → Int) (h : Od lg F0 w0 w b S []) (hq : Bq k0 S) (hk : k0 + 50 ≤ 100000) (hn : S.n = (nn : Int)) (hn3 : nn ≤ 3) (hA : Wb A) (hB : Wb B) :
  Calls Tryz.prog 48 #[.pointer (some ⟨b, 0, none⟩), .int .i64 K, .agg (wdV A), .agg (wdV B)] w fun e w' => e = .returned (.agg (wdV (tmG dS0 dR0 nn dom A B (S.beginS 3)).2)) ∧ Od lg F0 w0 w' b (tmG dS0 dR0 nn dom A B (S.beginS 3)).1.endS [] := by
 have hS2 : Bn k0 (nn : Int) (S.beginS 3) := ⟨hq.begins 3, (beginS_n S 3).1.trans hn⟩
 have HDO : Hid (∀ (k : Nat) (S' : Ms) (o : Op6) (bs : List (Nat × Obj)) (w' : World), Bn k (nn : Int) S' → k ≤ 100000 → opwf o → Od lg F0 w0 w' b S' bs → Calls Tryz.prog 44 #[.pointer (some ⟨b, 0, none⟩), .agg (opCs o), .int .u64 0] w' fun e w2 => e = .returned (.int .i64 (dR0 S' o)) ∧ Od lg F0 w0 w2 b (dS0 S' o) bs) := hid (fun k S' o bs w' hb hk ho h' => h'.do0 o hb.1 hk ho)
 have HNN : Hid (∀ (k : Nat) (S' : Ms) (bs : List (Nat × Obj)) (w' : World), Bn k (nn : Int) S' → Od lg F0 w0 w' b S' bs → w'.cell? ⟨b, 0, none⟩ = some (.int .i64 (nn : Int))) := hid (fun k S' bs w' hb h' => by have := h'.n; rw [hb.2] at this; exact this)
 have HBG : Hid (∀ (bs : List (Nat × Obj)) (w' : World), Od lg F0 w0 w' b S bs → Calls Tryz.prog 77 #[.pointer (some ⟨b, 0, none⟩), .int .i64 3] w' fun e w2 => e = .returned (.tuple #[]) ∧ Od lg F0 w0 w2 b (S.beginS 3) bs) := hid (fun bs w' h' => h'.begins 3 hq (by omega))
 have HRI : Hid (∀ i, i < nn → ∀ j, j ≤ nn - (i + 1) → Bn (k0 + 12) (nn : Int) (rnI dS0 dR0 (rnG dS0 dR0 (S.beginS 3) nn i).1 (rnG dS0 dR0 (S.beginS 3) nn i).2 i j).1) := hid (fun i hi j hj => by
  obtain ⟨a1, a2⟩ := rnG_bq (n := nn) hn3 hS2 (i := i) (by omega)
  exact (rnI_bq a1 a2 (i := i) (j := j) (by omega)).1.mono (by omega))
 have hR := rnG_bq (n := nn) hn3 hS2 (i := nn) (by omega)
 have HPI : Hid (∀ i, i < nn → ∀ j, j ≤ nn → Bn (k0 + 21) (nn : Int) (pdI dS0 dR0 A B (pdG dS0 dR0 A B (rnG dS0 dR0 (S.beginS 3) nn nn).1 nn i).1 (pdG dS0 dR0 A B (rnG dS0 dR0 (S.beginS 3) nn nn).1 nn i).2 i j).1) := hid (fun i hi j hj => by
  obtain ⟨a1, a2⟩ := pdG_bq (n := nn) hn3 hR.1 hA hB (i := i) (by omega) (by omega)
  exact (pdI_bq a1 (by omega) hA hB a2 (i := i) (j := j) (by omega)).1.mono (by omega))
 have hP := pdG_bq (n := nn) hn3 hR.1 hA hB (i := nn) (by omega) (by omega)
 have HFI : Hid (∀ i, i < nn → ∀ j, j ≤ nn → Bn (k0 + 48) (nn : Int) (fnI dS0 dR0 dom (rnG dS0 dR0 (S.beginS 3) nn nn).2 (pdG dS0 dR0 A B (rnG dS0 dR0 (S.beginS 3) nn nn).1 nn nn).2 (fnG dS0 dR0 dom (rnG dS0 dR0 (S.beginS 3) nn nn).2 (pdG dS0 dR0 A B (rnG dS0 dR0 (S.beginS 3) nn nn).1 nn nn).2 (pdG dS0 dR0 A B (rnG dS0 dR0 (S.beginS 3) nn nn).1 nn nn).1 nn i).1 i j).1 ∧ I64 (fnI dS0 dR0 dom (rnG dS0 dR0 (S.beginS 3) nn nn).2 (pdG dS0 dR0 A B (rnG dS0 dR0 (S.beginS 3) nn nn).1 nn nn).2 (fnG dS0 dR0 dom (rnG dS0 dR0 (S.beginS 3) nn nn).2 (pdG dS0 dR0 A B (rnG dS0 dR0 (S.beginS 3) nn nn).1 nn nn).2 (pdG dS0 dR0 A B (rnG dS0 dR0 (S.beginS 3) nn nn).1 nn nn).1 nn i).1 i j).2) := hid (fun i hi j hj => by
  obtain ⟨a1, a2⟩ := fnG_bq (n := nn) (dom := dom) hn3 hP.1 hR.2 hP.2 (i := i) (by omega) (by omega)
  obtain ⟨b1, b2⟩ := fnI_bq (dom := dom) a1 (i := i) (j := j) (by omega) hR.2 hP.2 (by omega)
  exact ⟨b1.mono (by omega), b2⟩)
 have hF := fnG_bq (n := nn) (dom := dom) hn3 hP.1 hR.2 hP.2 (i := nn) (by omega) (by omega)
 have HEN : Hid (∀ (bs : List (Nat × Obj)) (w' : World), Od lg F0 w0 w' b (fnG dS0 dR0 dom (rnG dS0 dR0 (S.beginS 3) nn nn).2 (pdG dS0 dR0 A B (rnG dS0 dR0 (S.beginS 3) nn nn).1 nn nn).2 (pdG dS0 dR0 A B (rnG dS0 dR0 (S.beginS 3) nn nn).1 nn nn).1 nn nn).1 bs → Calls Tryz.prog 78 #[.pointer (some ⟨b, 0, none⟩)] w' fun e w2 => e = .returned (.tuple #[]) ∧ Od lg F0 w0 w2 b (tmG dS0 dR0 nn dom A B (S.beginS 3)).1.endS bs) := hid (fun bs w' h' => h'.ends hF.1.1 (by omega))
 have HRW : Hid (Wb (rnG dS0 dR0 (S.beginS 3) nn nn).2) := hid hR.2
 have HPW : Hid (Wb (pdG dS0 dR0 A B (rnG dS0 dR0 (S.beginS 3) nn nn).1 nn nn).2) := hid hP.2
 have HUE : Hid ((fnG dS0 dR0 dom (rnG dS0 dR0 (S.beginS 3) nn nn).2 (pdG dS0 dR0 A B (rnG dS0 dR0 (S.beginS 3) nn nn).1 nn nn).2 (pdG dS0 dR0 A B (rnG dS0 dR0 (S.beginS 3) nn nn).1 nn nn).1 nn nn).2 = (tmG dS0 dR0 nn dom A B (S.beginS 3)).2) := hid rfl
 have HN3 := hid hn3
 have HRN : Hid (Bn (k0 + 9) (nn : Int) (rnG dS0 dR0 (S.beginS 3) nn nn).1) := hid (hR.1.mono (by omega))
 have HPN : Hid (Bn (k0 + 18) (nn : Int) (pdG dS0 dR0 A B (rnG dS0 dR0 (S.beginS 3) nn nn).1 nn nn).1) := hid (hP.1.mono (by omega))
 have HFN : Hid (∀ i, i ≤ nn → Bn (k0 + 45) (nn : Int) (fnG dS0 dR0 dom (rnG dS0 dR0 (S.beginS 3) nn nn).2 (pdG dS0 dR0 A B (rnG dS0 dR0 (S.beginS 3) nn nn).1 nn nn).2 (pdG dS0 dR0 A B (rnG dS0 dR0 (S.beginS 3) nn nn).1 nn nn).1 nn i).1) := hid (fun i hi => (fnG_bq (n := nn) (dom := dom) hn3 hP.1 hR.2 hP.2 (i := i) (by omega) (by omega)).1.mono (by omega))
 have HKK : Hid (k0 + 50 ≤ 100000) := hid hk
 have HAW := hid hA
 have HBW := hid hB
 have HKD := hid hK
 obtain ⟨w1, hw1⟩ : ∃ w1, ((w.alloc (.cells (wdV A) 37)).alloc (.cells (wdV B) 37)).alloc (.cells #[.int .i64 0, .int .i64 0, .int .i64 0] 37) = w1 := ⟨_, rfl⟩
 have H1 : Hid (Od lg F0 w0 w1 b S [(w.heap.size + 2, Obj.cells #[.int .i64 0, .int .i64 0, .int .i64 0] 37 (0, 0)), (w.heap.size + 1, Obj.cells (wdV B) 37 (0, 0)), (w.heap.size, Obj.cells (wdV A) 37 (0, 0))]) := hid (by
  have := ((h.new (wdV A) 37).new (wdV B) 37).new #[.int .i64 0, .int .i64 0, .int .i64 0] 37
  rw [hw1] at this
  simp only [sz_al] at this
  exact this)
 have HW := hid hw1
 clear h hq hk hn hn3 hA hB hK hS2 hR hP hF hw1
 generalize (tmG dS0 dR0 nn dom A B (S.beginS 3)).1.endS = S9 at *
 generalize (tmG dS0 dR0 nn dom A B (S.beginS 3)).2 = U9 at *
 generalize S.beginS 3 = S2 at *
 go_enter Tryz.func48, Tryz.ntmps48
 go_upto_region 1 with fail
 rw [HW.out]
 go_upto_region 2 with (go_at_call 43; (with_reducible refine (none_any _).mono ?_); rintro e w2 ⟨rfl, hb⟩; have H2 := hid (H1.out.self hb); clear hb)
 have H3 := hid (((H2.out.new (wdV none3) 37).new (iz 9 zero9) 110).new (iz 9 zero9) 110)
 obtain ⟨g9, hg9⟩ : ∃ g9, w2.heap.size = g9 := ⟨_, rfl⟩
 simp only [sz_al, hg9] at H3
 have H4 : Hid (Od lg F0 w0 (((w2.alloc (.cells #[.int .i64 (none3 0), .int .i64 (none3 1), .int .i64 (none3 2)] 37)).alloc (.cells #[.int .i64 0, .int .i64 0, .int .i64 0, .int .i64 0, .int .i64 0, .int .i64 0, .int .i64 0, .int .i64 0, .int .i64 0] 110)).alloc (.cells #[.int .i64 0, .int .i64 0, .int .i64 0, .int .i64 0, .int .i64 0, .int .i64 0, .int .i64 0, .int .i64 0, .int .i64 0] 110)) b S [(g9 + 1 + 1, .cells (iz 9 zero9) 110 (0, 0)), (g9 + 1, .cells (iz 9 zero9) 110 (0, 0)), (g9, .cells (wdV none3) 37 (0, 0)), (w.heap.size + 2, .cells #[.int .i64 0, .int .i64 0, .int .i64 0] 37 (0, 0)), (w.heap.size + 1, .cells (wdV B) 37 (0, 0)), (w.heap.size, .cells (wdV A) 37 (0, 0))]) := H3
 go_upto_region 3 with fail
 rw [hg9]
 generalize (((w2.alloc (.cells #[.int .i64 (none3 0), .int .i64 (none3 1), .int .i64 (none3 2)] 37)).alloc (.cells #[.int .i64 0, .int .i64 0, .int .i64 0, .int .i64 0, .int .i64 0, .int .i64 0, .int .i64 0, .int .i64 0, .int .i64 0] 110)).alloc (.cells #[.int .i64 0, .int .i64 0, .int .i64 0, .int .i64 0, .int .i64 0, .int .i64 0, .int .i64 0, .int .i64 0, .int .i64 0] 110)) = w4 at *
 clear hg9 H1 H2 H3
 go_upto_region 4 with (go_at_call 77; (with_reducible refine (HBG.out _ _ H4.out).mono ?_); rintro e w5 ⟨rfl, hb⟩; have H5 := hid hb; clear hb)
 obtain ⟨g10, hg10⟩ : ∃ g10, g9 + 1 = g10 := ⟨_, rfl⟩
 obtain ⟨g11, hg11⟩ : ∃ g11, g10 + 1 = g11 := ⟨_, rfl⟩
 simp only [hg10, hg11] at H5 ⊢
 clear hg10 hg11 H4
 obtain ⟨RS, hRS⟩ : ∃ RS : Nat → Ms, ∀ i, (rnG dS0 dR0 S2 nn i).1 = RS i := ⟨_, fun _ => rfl⟩
 obtain ⟨RR, hRR⟩ : ∃ RR : Nat → Nat → Int, ∀ i, (rnG dS0 dR0 S2 nn i).2 = RR i := ⟨_, fun _ => rfl⟩
 have HR0 : Hid (RS 0 = S2 ∧ RR 0 = zero9) := hid ⟨(hRS 0).symm, (hRR 0).symm⟩
 have hRn : ∀ i, (rnI dS0 dR0 (RS i) (RR i) i (nn - (i + 1))).1 = RS (i + 1) ∧ (rnI dS0 dR0 (RS i) (RR i) i (nn - (i + 1))).2 = RR (i + 1) := fun i => by rw [← hRS i, ← hRR i, ← hRS (i + 1), ← hRR (i + 1)]; exact ⟨rfl, rfl⟩
 simp only [hRS, hRR] at HRI HPI HFI HEN HRW HPW HUE HRN HPN HFN
 clear hRS hRR
 obtain ⟨RSI, hRSI⟩ : ∃ RSI : Nat → Nat → Ms, ∀ i j, (rnI dS0 dR0 (RS i) (RR i) i j).1 = RSI i j := ⟨_, fun _ _ => rfl⟩
 obtain ⟨RRI, hRRI⟩ : ∃ RRI : Nat → Nat → Nat → Int, ∀ i j, (rnI dS0 dR0 (RS i) (RR i) i j).2 = RRI i j := ⟨_, fun _ _ => rfl⟩
 have HRi0 : Hid (∀ i, RSI i 0 = RS i ∧ RRI i 0 = RR i) := hid (fun i => ⟨(hRSI i 0).symm, (hRRI i 0).symm⟩)
 have HRj : Hid (∀ i j, RSI i (j + 1) = dS0 (RSI i j) rnd6 ∧ RRI i (j + 1) = updI (updI (RRI i j) (i * 3 + (i + 1 + j)) (dR0 (RSI i j) rnd6)) ((i + 1 + j) * 3 + i) (dR0 (RSI i j) rnd6)) := hid (fun i j => by rw [← hRSI i (j + 1), ← hRRI i (j + 1), ← hRSI i j, ← hRRI i j]; exact ⟨rfl, rfl⟩)
 simp only [hRSI, hRRI] at HRI hRn
 have HRn := hid hRn
 clear hRSI hRRI hRn
 obtain ⟨R9, hR9⟩ : ∃ R9, RR nn = R9 := ⟨_, rfl⟩
 have HR9 := hid hR9
 simp only [hR9] at HFI HEN HRW HUE HFN
 clear hR9
 obtain ⟨PS, hPS⟩ : ∃ PS : Nat → Ms, ∀ i, (pdG dS0 dR0 A B (RS nn) nn i).1 = PS i := ⟨_, fun _ => rfl⟩
 obtain ⟨PP, hPP⟩ : ∃ PP : Nat → Nat → Int, ∀ i, (pdG dS0 dR0 A B (RS nn) nn i).2 = PP i := ⟨_, fun _ => rfl⟩
 have HP0 : Hid (PS 0 = RS nn ∧ PP 0 = zero9) := hid ⟨(hPS 0).symm, (hPP 0).symm⟩
 have hPn : ∀ i, (pdI dS0 dR0 A B (PS i) (PP i) i nn).1 = PS (i + 1) ∧ (pdI dS0 dR0 A B (PS i) (PP i) i nn).2 = PP (i + 1) := fun i => by rw [← hPS i, ← hPP i, ← hPS (i + 1), ← hPP (i + 1)]; exact ⟨rfl, rfl⟩
 simp only [hPS, hPP] at HPI HFI HEN HPW HUE HPN HFN
 clear hPS hPP
 obtain ⟨PSI, hPSI⟩ : ∃ PSI : Nat → Nat → Ms, ∀ i j, (pdI dS0 dR0 A B (PS i) (PP i) i j).1 = PSI i j := ⟨_, fun _ _ => rfl⟩
 obtain ⟨PPI, hPPI⟩ : ∃ PPI : Nat → Nat → Nat → Int, ∀ i j, (pdI dS0 dR0 A B (PS i) (PP i) i j).2 = PPI i j := ⟨_, fun _ _ => rfl⟩
 have HPi0 : Hid (∀ i, PSI i 0 = PS i ∧ PPI i 0 = PP i) := hid (fun i => ⟨(hPSI i 0).symm, (hPPI i 0).symm⟩)
 have HPj : Hid (∀ i j, PSI i (j + 1) = dS0 (PSI i j) (an6 i (A i) (B j)) ∧ PPI i (j + 1) = updI (PPI i j) (i * 3 + j) (dR0 (PSI i j) (an6 i (A i) (B j)))) := hid (fun i j => by rw [← hPSI i (j + 1), ← hPPI i (j + 1), ← hPSI i j, ← hPPI i j]; exact ⟨rfl, rfl⟩)
 simp only [hPSI, hPPI] at HPI hPn
 have HPn := hid hPn
 clear hPSI hPPI hPn
 obtain ⟨P9, hP9⟩ : ∃ P9, PP nn = P9 := ⟨_, rfl⟩
 have HP9 := hid hP9
 simp only [hP9] at HFI HEN HPW HUE HFN
 clear hP9
 obtain ⟨FS, hFS⟩ : ∃ FS : Nat → Ms, ∀ i, (fnG dS0 dR0 dom R9 P9 (PS nn) nn i).1 = FS i := ⟨_, fun _ => rfl⟩
 obtain ⟨FU, hFU⟩ : ∃ FU : Nat → Nat → Int, ∀ i, (fnG dS0 dR0 dom R9 P9 (PS nn) nn i).2 = FU i := ⟨_, fun _ => rfl⟩
 have HF0 : Hid (FS 0 = PS nn ∧ FU 0 = none3) := hid ⟨(hFS 0).symm, (hFU 0).symm⟩
 have hFn : ∀ i, (fnI dS0 dR0 dom R9 P9 (FS i) i nn).1 = FS (i + 1) ∧ updI (FU i) i (fnI dS0 dR0 dom R9 P9 (FS i) i nn).2 = FU (i + 1) := fun i => by rw [← hFS i, ← hFU i, ← hFS (i + 1), ← hFU (i + 1)]; exact ⟨rfl, rfl⟩
 simp only [hFS, hFU] at HFI HEN HUE HFN
 clear hFS hFU
 obtain ⟨FSI, hFSI⟩ : ∃ FSI : Nat → Nat → Ms, ∀ i j, (fnI dS0 dR0 dom R9 P9 (FS i) i j).1 = FSI i j := ⟨_, fun _ _ => rfl⟩
 obtain ⟨FWI, hFWI⟩ : ∃ FWI : Nat → Nat → Int, ∀ i j, (fnI dS0 dR0 dom R9 P9 (FS i) i j).2 = FWI i j := ⟨_, fun _ _ => rfl⟩
 have HFi0 : Hid (∀ i, FSI i 0 = FS i ∧ FWI i 0 = P9 (i * 3 + i)) := hid (fun i => ⟨(hFSI i 0).symm, (hFWI i 0).symm⟩)
 have HFsame : Hid (∀ i, FSI i (i + 1) = FSI i i ∧ FWI i (i + 1) = FWI i i) := hid (fun i => by rw [← hFSI, ← hFSI, ← hFWI, ← hFWI, fnI_same]; exact ⟨rfl, rfl⟩)
 have HFstep : Hid (∀ i k, k ≠ i → ∀ (T : Ms) (x : Int), moG dS0 dR0 dom R9 P9 (FSI i k) i k = (T, x) → FSI i (k + 1) = dS0 T (xr6 i (FWI i k) x) ∧ FWI i (k + 1) = dR0 T (xr6 i (FWI i k) x)) := hid (fun i k hne T x hT => by rw [← hFSI i (k + 1), ← hFWI i (k + 1), fnI_step hne (FSI i k) T (FWI i k) x (hFSI i k) (hFWI i k) hT]; exact ⟨rfl, rfl⟩)
 simp only [hFSI, hFWI] at HFI hFn
 have HFn := hid hFn
 clear hFSI hFWI hFn
 go_wp2
 go_loopw [12] (fun iv wr => ∃ i : Nat, i ≤ nn ∧ iv = .int .i64 i ∧ Od lg F0 w0 wr b (RS i) [(g11, .cells (iz 9 zero9) 110 (0, 0)), (g10, .cells (iz 9 (RR i)) 110 (0, 0)), (g9, .cells (wdV none3) 37 (0, 0)), (w.heap.size + 2, .cells #[.int .i64 0, .int .i64 0, .int .i64 0] 37 (0, 0)), (w.heap.size + 1, .cells (wdV B) 37 (0, 0)), (w.heap.size, .cells (wdV A) 37 (0, 0))]) (fun iv _ => nn - (intOf iv).toNat)
 case atStart => exact ⟨0, by omega, rfl, by rw [HR0.out.1, HR0.out.2]; exact H5.out⟩
 case round =>
  clear H5
  obtain ⟨i, hi, rfl, hI⟩ := hrel
  have HI := hid hI
  clear hI
  have hn3 := HN3.out
  by_cases hlt : i < nn
  ·
   have j1 : (i : Int) < (nn : Int) := by omega
   have j0 : (0 : Int) ≤ (i : Int) := by omega
   have j3 : (i : Int) < 3 := by omega
   have HLT := hid hlt
   have e1 : IntKind.i64.wrap ((i : Int) + 1) = ((i + 1 : Nat) : Int) := by rw [IntKind.wrap_i64]; omega
   have cn := HNN.out _ _ _ _ (by have := HRI.out i hlt 0 (by omega); rw [(HRi0.out i).1] at this; exact this) HI.out
   go_wp2
   obtain ⟨wo, hwo⟩ : ∃ wo, wr = wo := ⟨_, rfl⟩
   subst hwo
   clear cn
   go_loopw [13] (fun kv wr => ∃ j : Nat, j ≤ nn - (i + 1) ∧ kv = .int .i64 ((i + 1 + j : Nat) : Int) ∧ Od lg F0 w0 wr b (RSI i j) [(g11, .cells (iz 9 zero9) 110 (0, 0)), (g10, .cells (iz 9 (RRI i j)) 110 (0, 0)), (g9, .cells (wdV none3) 37 (0, 0)), (w.heap.size + 2, .cells #[.int .i64 0, .int .i64 0, .int .i64 0] 37 (0, 0)), (w.heap.size + 1, .cells (wdV B) 37 (0, 0)), (w.heap.size, .cells (wdV A) 37 (0, 0))]) (fun kv _ => nn - (intOf kv).toNat)
   case atStart => exact ⟨0, by omega, rfl, by rw [(HRi0.out i).1, (HRi0.out i).2]; exact HI.out⟩
   case round =>
    clear HI
    obtain ⟨j, hj, rfl, hJ⟩ := hrel
    have HJ := hid hJ
    clear hJ
    obtain ⟨kk, hkk⟩ : ∃ kk, i + 1 + j = kk := ⟨_, rfl⟩
    rw [hkk]
    have HKE := hid hkk
    have hBn := HRI.out i HLT.out j hj
    have cn := HNN.out _ _ _ _ hBn HJ.out
    by_cases hlk : kk < nn
    ·
     have k1 : (kk : Int) < (nn : Int) := by omega
     have k0_ : (0 : Int) ≤ (kk : Int) := by omega
     have k3 : (kk : Int) < 3 := by omega
     have HIX : Hid (i * 3 + kk < 9) := hid (by omega)
     have HIY : Hid (kk * 3 + i < 9) := hid (by omega)
     have HJJ : Hid (j + 1 ≤ nn - (i + 1)) := hid (by omega)
     have HD := hid (fun bs w' h' => HDO.out _ (RSI i j) rnd6 bs w' hBn (by have := HKK.out; omega) rw1 h')
     have HST := hid (HRj.out i j)
     rw [hkk] at HST
     obtain ⟨x, hx⟩ : ∃ x, dR0 (RSI i j) rnd6 = x := ⟨_, rfl⟩
     rw [hx] at HD HST
     clear hx hkk hBn hj
     go_upto_region 10 with fail
     clear cn
     have G0 := hid (HJ.out.self ((Below.refl _ wr).drew))
     refine wp_region_noPanic ?_
     refine wp_region_held_drew (S := fun w' => True) (by kernel_rfl) (trivial) (fun h0 => ?_)
     generalize wr.drew = y0 at *
     refine tK 0 (.int .i64 (i : Int)) rfl (.inl ⟨by rfl, fun w hw => by clear hw; go_simp⟩) h0 ?_
     try simp only [Act.put, lay_out]
     refine tK 1 (.int .i64 (kk : Int)) rfl (.inl ⟨by rfl, fun w hw => by clear hw; go_simp⟩) h0 ?_
     try simp only [Act.put, lay_out]
     refine tK 2 (.pointer (some ⟨b, 0, none⟩)) rfl (.inl ⟨by rfl, fun w hw => by clear hw; go_simp⟩) h0 ?_
     try simp only [Act.put, lay_out]
     refine tK 5 (.pointer (some ⟨g10, i * 3, none⟩)) rfl (.inl ⟨by rfl, fun w hw => by clear hw; go_simp⟩) h0 ?_
     try simp only [Act.put, lay_out]
     refine wpAnyH_ready (rs := [3]) (by kernel_rfl) (by simp) (AllReadyH.cons rfl (fun K hK => ?_) AllReadyH.nil)
     rw [if_pos (by rfl)]
     go_simp
     go_at_call 45
     (with_reducible refine (dop0_any 1 (-1) (-1) (-1) _).mono ?_); rintro e y1 ⟨rfl, hb⟩
     have G1 := hid (G0.out.self hb)
     clear hb
     refine hK.out _ _ (trivial) (fun h1x => ?_)
     clear hK K
     try simp only [Act.put, lay_out]
     refine wpAnyH_ready (rs := [4]) (by kernel_rfl) (by simp) (AllReadyH.cons rfl (fun K hK => ?_) AllReadyH.nil)
     rw [if_pos (by rfl)]
     go_simp
     go_at_call 44
     (with_reducible refine (HD.out _ _ G1.out).mono ?_); rintro e y2 ⟨rfl, hz⟩
     have G2 := hid hz
     clear hz
     refine hK.out _ _ (trivial) (fun h2x => ?_)
     clear hK K
     try simp only [Act.put, lay_out]
     refine tK 6 (.pointer (some ⟨g10, i * 3 + kk, none⟩)) rfl (.inl ⟨by rfl, fun w hw => by clear hw; go_simp⟩) h2x ?_
     try simp only [Act.put, lay_out]
     have cj := row_c (i := i * 3 + kk) (G2.out.bl 1 rfl) (iz_get _ HIX.out)
     have fj := frozen_of_row y2 g10 (i * 3 + kk) _ _ (G2.out.bl 1 rfl)
     refine wpAnyH_ready (rs := [7]) (by kernel_rfl) (by simp) (AllReadyH.cons rfl (fun K hK => ?_) AllReadyH.nil)
     rw [if_pos (by rfl)]
     go_simp
     clear cj fj
     have G3 : Hid (Od lg F0 w0 (y2.setCell ⟨g10, i * 3 + kk, none⟩ (.int .i64 x)) b (dS0 (RSI i j) rnd6) [(g11, .cells (iz 9 zero9) 110 (0, 0)), (g10, .cells (iz 9 (updI (RRI i j) (i * 3 + kk) x)) 110 (0, 0)), (g9, .cells (wdV none3) 37 (0, 0)), (w.heap.size + 2, .cells #[.int .i64 0, .int .i64 0, .int .i64 0] 37 (0, 0)), (w.heap.size + 1, .cells (wdV B) 37 (0, 0)), (w.heap.size, .cells (wdV A) 37 (0, 0))]) := hid (by have := G2.out.cellI 1 rfl (i * 3 + kk) (.int .i64 x); rw [iz_set] at this; exact this)
     generalize y2.setCell ⟨g10, i * 3 + kk, none⟩ (.int .i64 x) = y3 at *
     refine hK.out _ _ (trivial) (fun h3x => ?_)
     clear hK K
     try simp only [Act.put, lay_out]
     refine wpAnyH_done (by kernel_rfl) ?_ _
     refine NoPanic.normal ?_
     clear h0 h1x h2x h3x
     try simp only [Act.put, lay_out]
     go_wp2_with fail
     have G4 := hid (G3.out.self ((Below.refl _ y3).drew))
     refine wp_region_rt (fun w' => True) (fun w' => w'.cell? ⟨g10, i * 3 + kk, none⟩ = some (.int .i64 x)) 9 (by kernel_rfl) (⟨trivial, by have c := row_c (i := i * 3 + kk) (G4.out.bl 1 rfl) (iz_get _ HIX.out); rw [updI_at] at c; exact c⟩) (fun h0 => ?_)
     generalize y3.drew = y4 at *
     refine rt_takeA (i := 0) (v := .int .i64 (kk : Int)) rfl (by kernel_rfl) (by kernel_rfl) (by kernel_rfl) rfl (fun _ _ _ h => h) (.inl ⟨by rfl, fun w hw => by clear hw; go_simp⟩) h0 ?_
     try simp only [Act.put, lay_out]
     refine rt_takeA (i := 1) (v := .int .i64 (i : Int)) rfl (by kernel_rfl) (by kernel_rfl) (by kernel_rfl) rfl (fun _ _ _ h => h) (.inl ⟨by rfl, fun w hw => by clear hw; go_simp⟩) h0 ?_
     try simp only [Act.put, lay_out]
     refine rt_takeA (i := 2) (v := .int .i64 (i : Int)) rfl (by kernel_rfl) (by kernel_rfl) (by kernel_rfl) rfl (fun _ _ _ h => h) (.inl ⟨by rfl, fun w hw => by clear hw; go_simp⟩) h0 ?_
     try simp only [Act.put, lay_out]
     refine rt_takeA (i := 3) (v := .int .i64 (kk : Int)) rfl (by kernel_rfl) (by kernel_rfl) (by kernel_rfl) rfl (fun _ _ _ h => h) (.inl ⟨by rfl, fun w hw => by clear hw; go_simp⟩) h0 ?_
     try simp only [Act.put, lay_out]
     refine rt_takeA (i := 4) (v := .pointer (some ⟨g10, i * 3, none⟩)) rfl (by kernel_rfl) (by kernel_rfl) (by kernel_rfl) rfl (fun _ _ _ h => h) (.inl ⟨by rfl, fun w hw => by clear hw; go_simp⟩) h0 ?_
     try simp only [Act.put, lay_out]
     refine rt_takeA (i := 5) (v := .pointer (some ⟨g10, i * 3 + kk, none⟩)) rfl (by kernel_rfl) (by kernel_rfl) (by kernel_rfl) rfl (fun _ _ _ h => h) (.inl ⟨by rfl, fun w hw => by clear hw; go_simp⟩) h0 ?_
     try simp only [Act.put, lay_out]
     refine rt_takeT (i := 6) (v := .int .i64 x) rfl (by kernel_rfl) (by kernel_rfl) (by kernel_rfl) rfl (by kernel_rfl) (by kernel_rfl) (fun _ _ _ h => h) (.inl ⟨by rfl, fun w' hw => by have hc := hw; clear hw; go_simp⟩) h0 ?_
     try simp only [Act.put, lay_out]
     refine rt_takeA (i := 7) (v := .pointer (some ⟨g10, kk * 3, none⟩)) rfl (by kernel_rfl) (by kernel_rfl) (by kernel_rfl) rfl (fun _ _ _ h => h) (.inl ⟨by rfl, fun w hw => by clear hw; go_simp⟩) h0 ?_
     try simp only [Act.put, lay_out]
     refine rt_takeA (i := 8) (v := .pointer (some ⟨g10, kk * 3 + i, none⟩)) rfl (by kernel_rfl) (by kernel_rfl) (by kernel_rfl) rfl (fun _ _ _ h => h) (.inl ⟨by rfl, fun w hw => by clear hw; go_simp⟩) h0 ?_
     try simp only [Act.put, lay_out]
     have cj := row_c (i := kk * 3 + i) (G4.out.bl 1 rfl) (iz_get _ HIY.out)
     have fj := frozen_of_row y4 g10 (kk * 3 + i) _ _ (G4.out.bl 1 rfl)
     refine rt_ready (rs := [9]) (by kernel_rfl) (by simp) (RtReady.consS rfl (by kernel_rfl) (fun K hK => ?_) RtReady.nil)
     rw [if_pos (by rfl)]
     go_simp
     clear cj fj
     have G5 : Hid (Od lg F0 w0 (y4.setCell ⟨g10, kk * 3 + i, none⟩ (.int .i64 x)) b (dS0 (RSI i j) rnd6) [(g11, .cells (iz 9 zero9) 110 (0, 0)), (g10, .cells (iz 9 (updI (updI (RRI i j) (i * 3 + kk) x) (kk * 3 + i) x)) 110 (0, 0)), (g9, .cells (wdV none3) 37 (0, 0)), (w.heap.size + 2, .cells #[.int .i64 0, .int .i64 0, .int .i64 0] 37 (0, 0)), (w.heap.size + 1, .cells (wdV B) 37 (0, 0)), (w.heap.size, .cells (wdV A) 37 (0, 0))]) := hid (by have := G4.out.cellI 1 rfl (kk * 3 + i) (.int .i64 x); rw [iz_set] at this; exact this)
     generalize y4.setCell ⟨g10, kk * 3 + i, none⟩ (.int .i64 x) = y5 at *
     refine hK.out _ _ (trivial) (fun h1x => ?_)
     clear hK K
     try simp only [Act.put, lay_out]
     refine rt_done (by kernel_rfl) ?_ _
     try refine NoPanic.normal ?_
     clear h0 h1x
     try simp only [Act.put, lay_out]
     go_wp2
     go_roundw
     case rel => exact ⟨j + 1, HJJ.out, by rw [show i + 1 + (j + 1) = kk + 1 by have := HKE.out; omega]; go_num, by rw [HST.out.1, HST.out.2]; exact G5.out⟩
     case measure => simp [intOf]; omega
    ·
     obtain rfl : j = nn - (i + 1) := by omega
     rw [(HRn.out i).1, (HRn.out i).2] at HJ
     clear hkk hBn hj
     go_wp2
     go_roundw
     case rel => exact ⟨i + 1, by omega, by go_num, HJ.out⟩
     case measure => simp [intOf]; omega
  ·
   obtain rfl : nn = i := by omega
   clear hlt hi
   have cn := HNN.out _ _ _ _ HRN.out HI.out
   rw [HR9.out] at HI
   have H6 : Hid (Od lg F0 w0 wr b (PS 0) [(g11, .cells (iz 9 (PP 0)) 110 (0, 0)), (g10, .cells (iz 9 R9) 110 (0, 0)), (g9, .cells (wdV none3) 37 (0, 0)), (w.heap.size + 2, .cells #[.int .i64 0, .int .i64 0, .int .i64 0] 37 (0, 0)), (w.heap.size + 1, .cells (wdV B) 37 (0, 0)), (w.heap.size, .cells (wdV A) 37 (0, 0))]) := hid (by rw [HP0.out.1, HP0.out.2]; exact HI.out)
   clear HI
   go_wp2
   clear cn
   obtain ⟨wo, hwo⟩ : ∃ wo, wr = wo := ⟨_, rfl⟩
   subst hwo
   go_loopw [14] (fun iv wr => ∃ i : Nat, i ≤ nn ∧ iv = .int .i64 i ∧ Od lg F0 w0 wr b (PS i) [(g11, .cells (iz 9 (PP i)) 110 (0, 0)), (g10, .cells (iz 9 R9) 110 (0, 0)), (g9, .cells (wdV none3) 37 (0, 0)), (w.heap.size + 2, .cells #[.int .i64 0, .int .i64 0, .int .i64 0] 37 (0, 0)), (w.heap.size + 1, .cells (wdV B) 37 (0, 0)), (w.heap.size, .cells (wdV A) 37 (0, 0))]) (fun iv _ => nn - (intOf iv).toNat)
   case atStart => exact ⟨0, by omega, rfl, H6.out⟩
   case round =>
    clear H6
    obtain ⟨i, hi, rfl, hI⟩ := hrel
    have HI := hid hI
    clear hI
    have hn3 := HN3.out
    by_cases hlt : i < nn
    ·
     have j1 : (i : Int) < (nn : Int) := by omega
     have j0 : (0 : Int) ≤ (i : Int) := by omega
     have j3 : (i : Int) < 3 := by omega
     have HLT := hid hlt
     have HI3 : Hid (i < 3) := hid (by omega)
     have cn := HNN.out _ _ _ _ (by have := HPI.out i hlt 0 (by omega); rw [(HPi0.out i).1] at this; exact this) HI.out
     go_wp2
     obtain ⟨wo, hwo⟩ : ∃ wo, wr = wo := ⟨_, rfl⟩
     subst hwo
     clear cn
     go_loopw [15] (fun kv wr => ∃ k : Nat, k ≤ nn ∧ kv = .int .i64 k ∧ Od lg F0 w0 wr b (PSI i k) [(g11, .cells (iz 9 (PPI i k)) 110 (0, 0)), (g10, .cells (iz 9 R9) 110 (0, 0)), (g9, .cells (wdV none3) 37 (0, 0)), (w.heap.size + 2, .cells #[.int .i64 0, .int .i64 0, .int .i64 0] 37 (0, 0)), (w.heap.size + 1, .cells (wdV B) 37 (0, 0)), (w.heap.size, .cells (wdV A) 37 (0, 0))]) (fun kv _ => nn - (intOf kv).toNat)
     case atStart => exact ⟨0, by omega, rfl, by rw [(HPi0.out i).1, (HPi0.out i).2]; exact HI.out⟩
     case round =>
      clear HI
      obtain ⟨k, hk, rfl, hJ⟩ := hrel
      have HJ := hid hJ
      clear hJ
      have hBn := HPI.out i HLT.out k hk
      have cn := HNN.out _ _ _ _ hBn HJ.out
      by_cases hlk : k < nn
      ·
       have k1 : (k : Int) < (nn : Int) := by omega
       have k0_ : (0 : Int) ≤ (k : Int) := by omega
       have k3 : (k : Int) < 3 := by omega
       have HK3 : Hid (k < 3) := hid (by omega)
       have HIX : Hid (i * 3 + k < 9) := hid (by omega)
       have HKX : Hid (k + 1 ≤ nn) := hid (by omega)
       have HD := hid (fun bs w' h' => HDO.out _ (PSI i k) (an6 i (A i) (B k)) bs w' hBn (by have := HKK.out; omega) (an6_wf (by omega) (HAW.out i) (HBW.out k)) h')
       have HST := hid (HPj.out i k)
       obtain ⟨x, hx⟩ : ∃ x, dR0 (PSI i k) (an6 i (A i) (B k)) = x := ⟨_, rfl⟩
       rw [hx] at HD HST
       clear hx hBn hk
       go_upto_region 18 with fail
       clear cn
       have G0 := hid (HJ.out.self ((Below.refl _ wr).drew))
       refine wp_region_noPanic ?_
       refine wp_region_held_drew (S := fun w' => w'.heap[w.heap.size]? = some (.cells (wdV A) 37 (0, 0)) ∧ w'.heap[w.heap.size + 1]? = some (.cells (wdV B) 37 (0, 0))) (by kernel_rfl) (⟨G0.out.bl 5 rfl, G0.out.bl 4 rfl⟩) (fun h0 => ?_)
       generalize wr.drew = y0 at *
       refine tK 0 (.int .i64 (i : Int)) rfl (.inl ⟨by rfl, fun w hw => by clear hw; go_simp⟩) h0 ?_
       try simp only [Act.put, lay_out]
       refine tK 1 (.int .i64 (k : Int)) rfl (.inl ⟨by rfl, fun w hw => by clear hw; go_simp⟩) h0 ?_
       try simp only [Act.put, lay_out]
       refine tK 2 (.pointer (some ⟨b, 0, none⟩)) rfl (.inl ⟨by rfl, fun w hw => by clear hw; go_simp⟩) h0 ?_
       try simp only [Act.put, lay_out]
       refine tK 3 (.int .i64 (i : Int)) rfl (.inl ⟨by rfl, fun w hw => by clear hw; go_simp⟩) h0 ?_
       try simp only [Act.put, lay_out]
       refine tK 4 (.int .i64 (i : Int)) rfl (.inl ⟨by rfl, fun w hw => by clear hw; go_simp⟩) h0 ?_
       try simp only [Act.put, lay_out]
       refine tK 5 (.pointer (some ⟨w.heap.size, 0, none⟩)) rfl (.inl ⟨by rfl, fun w hw => by clear hw; go_simp⟩) h0 ?_
       try simp only [Act.put, lay_out]
       refine tK 6 (.pointer (some ⟨w.heap.size, i, none⟩)) rfl (.inl ⟨by rfl, fun w hw => by clear hw; go_simp⟩) h0 ?_
       try simp only [Act.put, lay_out]
       refine tK 7 (.int .i64 (A i)) rfl (.inl ⟨by rfl, fun w' hw => by have hc := row_c (i := i) (u := .int .i64 (A i)) hw.1 (wdV_at A i HI3.out); clear hw; go_simp⟩) h0 ?_
       try simp only [Act.put, lay_out]
       refine tK 8 (.int .i64 (k : Int)) rfl (.inl ⟨by rfl, fun w hw => by clear hw; go_simp⟩) h0 ?_
       try simp only [Act.put, lay_out]
       refine tK 9 (.pointer (some ⟨w.heap.size + 1, 0, none⟩)) rfl (.inl ⟨by rfl, fun w hw => by clear hw; go_simp⟩) h0 ?_
       try simp only [Act.put, lay_out]
       refine tK 10 (.pointer (some ⟨w.heap.size + 1, k, none⟩)) rfl (.inl ⟨by rfl, fun w hw => by clear hw; go_simp⟩) h0 ?_
       try simp only [Act.put, lay_out]
       refine tK 11 (.int .i64 (B k)) rfl (.inl ⟨by rfl, fun w' hw => by have hc := row_c (i := k) (u := .int .i64 (B k)) hw.2 (wdV_at B k HK3.out); clear hw; go_simp⟩) h0 ?_
       try simp only [Act.put, lay_out]
       refine tK 14 (.pointer (some ⟨g11, i * 3, none⟩)) rfl (.inl ⟨by rfl, fun w hw => by clear hw; go_simp⟩) h0 ?_
       try simp only [Act.put, lay_out]
       refine wpAnyH_ready (rs := [12]) (by kernel_rfl) (by simp) (AllReadyH.cons rfl (fun K hK => ?_) AllReadyH.nil)
       rw [if_pos (by rfl)]
       go_simp
       go_at_call 45
       (with_reducible refine (dop0_any 7 (i : Int) (A i) (B k) _).mono ?_); rintro e y1 ⟨rfl, hb⟩
       have G1 := hid (G0.out.self hb)
       clear hb
       refine hK.out _ _ (⟨G1.out.bl 5 rfl, G1.out.bl 4 rfl⟩) (fun h1x => ?_)
       clear hK K
       try simp only [Act.put, lay_out]
       refine wpAnyH_ready (rs := [13]) (by kernel_rfl) (by simp) (AllReadyH.cons rfl (fun K hK => ?_) AllReadyH.nil)
       rw [if_pos (by rfl)]
       go_simp
       go_at_call 44
       (with_reducible refine (HD.out _ _ G1.out).mono ?_); rintro e y2 ⟨rfl, hz⟩
       have G2 := hid hz
       clear hz
       refine hK.out _ _ (⟨G2.out.bl 5 rfl, G2.out.bl 4 rfl⟩) (fun h2x => ?_)
       clear hK K
       try simp only [Act.put, lay_out]
       refine tK 15 (.pointer (some ⟨g11, i * 3 + k, none⟩)) rfl (.inl ⟨by rfl, fun w hw => by clear hw; go_simp⟩) h2x ?_
       try simp only [Act.put, lay_out]
       have cj := row_c (i := i * 3 + k) (G2.out.bl 0 rfl) (iz_get _ HIX.out)
       have fj := frozen_of_row y2 g11 (i * 3 + k) _ _ (G2.out.bl 0 rfl)
       refine wpAnyH_ready (rs := [16]) (by kernel_rfl) (by simp) (AllReadyH.cons rfl (fun K hK => ?_) AllReadyH.nil)
       rw [if_pos (by rfl)]
       go_simp
       clear cj fj
       have G3 : Hid (Od lg F0 w0 (y2.setCell ⟨g11, i * 3 + k, none⟩ (.int .i64 x)) b (dS0 (PSI i k) (an6 i (A i) (B k))) [(g11, .cells (iz 9 (updI (PPI i k) (i * 3 + k) x)) 110 (0, 0)), (g10, .cells (iz 9 R9) 110 (0, 0)), (g9, .cells (wdV none3) 37 (0, 0)), (w.heap.size + 2, .cells #[.int .i64 0, .int .i64 0, .int .i64 0] 37 (0, 0)), (w.heap.size + 1, .cells (wdV B) 37 (0, 0)), (w.heap.size, .cells (wdV A) 37 (0, 0))]) := hid (by have := G2.out.cellI 0 rfl (i * 3 + k) (.int .i64 x); rw [iz_set] at this; exact this)
       generalize y2.setCell ⟨g11, i * 3 + k, none⟩ (.int .i64 x) = y3 at *
       refine hK.out _ _ (⟨G3.out.bl 5 rfl, G3.out.bl 4 rfl⟩) (fun h3x => ?_)
       clear hK K
       try simp only [Act.put, lay_out]
       refine wpAnyH_done (by kernel_rfl) ?_ _
       refine NoPanic.normal ?_
       clear h0 h1x h2x h3x
       try simp only [Act.put, lay_out]
       go_wp2
       go_roundw
       case rel => exact ⟨k + 1, HKX.out, by go_num, by rw [HST.out.1, HST.out.2]; exact G3.out⟩
       case measure => simp [intOf]; omega
      ·
       obtain rfl : nn = k := by omega
       rw [(HPn.out i).1, (HPn.out i).2] at HJ
       clear hBn hk
       go_wp2
       go_roundw
       case rel => exact ⟨i + 1, by omega, by go_num, HJ.out⟩
       case measure => simp [intOf]; omega
    ·
     obtain rfl : nn = i := by omega
     clear hlt hi
     have cn := HNN.out _ _ _ _ HPN.out HI.out
     rw [HP9.out] at HI
     have H7 : Hid (Od lg F0 w0 wr b (FS 0) [(g11, .cells (iz 9 P9) 110 (0, 0)), (g10, .cells (iz 9 R9) 110 (0, 0)), (g9, .cells (wdV (FU 0)) 37 (0, 0)), (w.heap.size + 2, .cells #[.int .i64 0, .int .i64 0, .int .i64 0] 37 (0, 0)), (w.heap.size + 1, .cells (wdV B) 37 (0, 0)), (w.heap.size, .cells (wdV A) 37 (0, 0))]) := hid (by rw [HF0.out.1, HF0.out.2]; exact HI.out)
     clear HI
     go_wp2
     clear cn
     obtain ⟨wo, hwo⟩ : ∃ wo, wr = wo := ⟨_, rfl⟩
     subst hwo
     go_loopw [16] (fun iv wr => ∃ i : Nat, i ≤ nn ∧ iv = .int .i64 i ∧ Od lg F0 w0 wr b (FS i) [(g11, .cells (iz 9 P9) 110 (0, 0)), (g10, .cells (iz 9 R9) 110 (0, 0)), (g9, .cells (wdV (FU i)) 37 (0, 0)), (w.heap.size + 2, .cells #[.int .i64 0, .int .i64 0, .int .i64 0] 37 (0, 0)), (w.heap.size + 1, .cells (wdV B) 37 (0, 0)), (w.heap.size, .cells (wdV A) 37 (0, 0))]) (fun iv _ => nn - (intOf iv).toNat)
     case atStart => exact ⟨0, by omega, rfl, H7.out⟩
     case round =>
      clear H7
      obtain ⟨i, hi, rfl, hI⟩ := hrel
      have HI := hid hI
      clear hI
      have hn3 := HN3.out
      have hkk := HKK.out
      by_cases hlt : i < nn
      ·
       have j1 : (i : Int) < (nn : Int) := by omega
       have j0 : (0 : Int) ≤ (i : Int) := by omega
       have j3 : (i : Int) < 3 := by omega
       have HLT := hid hlt
       have HI3 : Hid (i < 3) := hid (by omega)
       have HII : Hid (i * 3 + i < 9) := hid (by omega)
       have cn := HNN.out _ _ _ _ (HFN.out i hi) HI.out
       have cP := row_c (i := i * 3 + i) (HI.out.bl 0 rfl) (iz_get _ HII.out)
       have cU := row_c (i := i) (HI.out.bl 2 rfl) (wdV_at _ i HI3.out)
       have fU := frozen_of_row wr g9 i _ _ (HI.out.bl 2 rfl)
       obtain ⟨z0, hz0⟩ : ∃ z0, P9 (i * 3 + i) = z0 := ⟨_, rfl⟩
       rw [hz0] at cP
       go_upto_region 23 with fail
       have H8 : Hid (Od lg F0 w0 (wr.setCell ⟨g9, i, none⟩ (.int .i64 z0)) b (FSI i 0) [(g11, .cells (iz 9 P9) 110 (0, 0)), (g10, .cells (iz 9 R9) 110 (0, 0)), (g9, .cells (wdV (updI (FU i) i (FWI i 0))) 37 (0, 0)), (w.heap.size + 2, .cells #[.int .i64 0, .int .i64 0, .int .i64 0] 37 (0, 0)), (w.heap.size + 1, .cells (wdV B) 37 (0, 0)), (w.heap.size, .cells (wdV A) 37 (0, 0))]) := hid (by have := HI.out.cellI 2 rfl i (.int .i64 z0); rw [wdV_upd _ i _ HI3.out] at this; rw [(HFi0.out i).1, (HFi0.out i).2, hz0]; exact this)
       generalize wr.setCell ⟨g9, i, none⟩ (.int .i64 z0) = w8 at *
       clear cn cP cU fU hz0 HI
       go_wp2
       obtain ⟨wo, hwo⟩ : ∃ wo, wr = wo := ⟨_, rfl⟩
       subst hwo
       go_loopw [17] (fun kv wr => ∃ k : Nat, k ≤ nn ∧ kv = .int .i64 k ∧ Od lg F0 w0 wr b (FSI i k) [(g11, .cells (iz 9 P9) 110 (0, 0)), (g10, .cells (iz 9 R9) 110 (0, 0)), (g9, .cells (wdV (updI (FU i) i (FWI i k))) 37 (0, 0)), (w.heap.size + 2, .cells #[.int .i64 0, .int .i64 0, .int .i64 0] 37 (0, 0)), (w.heap.size + 1, .cells (wdV B) 37 (0, 0)), (w.heap.size, .cells (wdV A) 37 (0, 0))]) (fun kv _ => nn - (intOf kv).toNat)
       case atStart => exact ⟨0, by omega, rfl, H8.out⟩
       case round =>
        clear H8
        obtain ⟨k, hk, rfl, hJ⟩ := hrel
        have HJ := hid hJ
        clear hJ
        have hBn := HFI.out i HLT.out k hk
        have cn := HNN.out _ _ _ _ hBn.1 HJ.out
        by_cases hlk : k < nn
        ·
         have k1 : (k : Int) < (nn : Int) := by omega
         have k0_ : (0 : Int) ≤ (k : Int) := by omega
         have k3 : (k : Int) < 3 := by omega
         have HKX : Hid (k + 1 ≤ nn) := hid (by omega)
         by_cases hik : k = i
         ·
          subst hik
          have q1 : ((k : Int) == (k : Int)) = true := by simp
          clear hBn hk
          go_wp2
          go_roundw
          case rel => exact ⟨k + 1, HKX.out, by go_num, by rw [(HFsame.out k).1, (HFsame.out k).2]; exact HJ.out⟩
          case measure => simp [intOf]; omega
         ·
          skip
          have HIX : Hid (i * 3 + k < 9) := hid (by omega)
          have cR := row_c (i := i * 3 + k) (HJ.out.bl 1 rfl) (iz_get _ HIX.out)
          have q1 : ((k : Int) == (i : Int)) = false := by simp; omega
          cases dom
          ·
           have q2 : ((K : Int) == 2) = false := HKD.out
           by_cases hki : k < i
           ·
            have q3 : decide ((k : Int) < (i : Int)) = true := decide_eq_true (by omega)
            have q4 : decide (k < i) = true := decide_eq_true hki
            have HIY : Hid (k * 3 + i < 9) := hid (by omega)
            obtain ⟨z1, hz1⟩ : ∃ z1, R9 (k * 3 + i) = z1 := ⟨_, rfl⟩
            obtain ⟨z2, hz2⟩ : ∃ z2, P9 (k * 3 + i) = z2 := ⟨_, rfl⟩
            obtain ⟨z3, hz3⟩ : ∃ z3, P9 (i * 3 + k) = z3 := ⟨_, rfl⟩
            have hmo := moG_down (FSI i k) R9 P9 hki
            rw [hz1, hz2, hz3] at hmo
            have w1_ : opwf (xr6 i z1 z2) := xr6_wf (by omega) (hz1 ▸ HRW.out _) (hz2 ▸ HPW.out _)
            have b1_ := hBn.1.does w1_
            have x1_ := hBn.1.reg (by omega) (xr6 i z1 z2)
            have HD1 := hid (fun bs w' h' => HDO.out _ (FSI i k) (xr6 i z1 z2) bs w' hBn.1 (by omega) w1_ h')
            obtain ⟨S1, hS1⟩ : ∃ S1, dS0 (FSI i k) (xr6 i z1 z2) = S1 := ⟨_, rfl⟩
            obtain ⟨x1, hx1⟩ : ∃ x1, dR0 (FSI i k) (xr6 i z1 z2) = x1 := ⟨_, rfl⟩
            rw [hS1] at HD1 b1_ hmo
            rw [hx1] at HD1 hmo x1_
            have w2_ : opwf (xr6 i x1 z3) := xr6_wf (by omega) x1_ (hz3 ▸ HPW.out _)
            have b2_ := b1_.does w2_
            have x2_ := b1_.reg (by omega) (xr6 i x1 z3)
            have HD2 := hid (fun bs w' h' => HDO.out _ S1 (xr6 i x1 z3) bs w' b1_ (by omega) w2_ h')
            obtain ⟨S2', hS2'⟩ : ∃ S2', dS0 S1 (xr6 i x1 z3) = S2' := ⟨_, rfl⟩
            obtain ⟨x2, hx2⟩ : ∃ x2, dR0 S1 (xr6 i x1 z3) = x2 := ⟨_, rfl⟩
            rw [hS2'] at HD2 b2_ hmo
            rw [hx2] at HD2 hmo x2_
            have HST := hid (HFstep.out i k (by omega) S2' x2 hmo)
            have w3_ : opwf (xr6 i (FWI i k) x2) := xr6_wf (by omega) hBn.2 x2_
            have HD3 := hid (fun bs w' h' => HDO.out _ S2' (xr6 i (FWI i k) x2) bs w' b2_ (by omega) w3_ h')
            obtain ⟨x9, hx9⟩ : ∃ x9, dR0 S2' (xr6 i (FWI i k) x2) = x9 := ⟨_, rfl⟩
            rw [hx9] at HD3 HST
            have HUP : Hid (updI (updI (FU i) i (FWI i k)) i x9 = updI (FU i) i x9) := hid (updI_twice _ _ _ _)
            have HZ1 := hid hz1
            have HZ2 := hid hz2
            have HZ3 := hid hz3
            clear hz1 hz2 hz3 hmo w1_ b1_ x1_ hS1 hx1 w2_ b2_ x2_ hS2' hx2 w3_ hx9 hBn hk hki
            go_upto_region 31 with fail
            clear cn cR
            have G0 := hid (HJ.out.self ((Below.refl _ wr).drew))
            refine wp_region_noPanic ?_
            refine wp_region_held_drew (S := fun w' => w'.cell? ⟨g10, k * 3 + i, none⟩ = some (.int .i64 z1) ∧ w'.cell? ⟨g11, k * 3 + i, none⟩ = some (.int .i64 z2)) (by kernel_rfl) (⟨(by have c := row_c (i := k * 3 + i) (G0.out.bl 1 rfl) (iz_get _ HIY.out); rw [HZ1.out] at c; exact c), (by have c := row_c (i := k * 3 + i) (G0.out.bl 0 rfl) (iz_get _ HIY.out); rw [HZ2.out] at c; exact c)⟩) (fun h0 => ?_)
            generalize wr.drew = y0 at *
            refine tK 0 (.pointer (some ⟨b, 0, none⟩)) rfl (.inl ⟨by rfl, fun w hw => by clear hw; go_simp⟩) h0 ?_
            try simp only [Act.put, lay_out]
            refine tK 1 (.int .i64 (i : Int)) rfl (.inl ⟨by rfl, fun w hw => by clear hw; go_simp⟩) h0 ?_
            try simp only [Act.put, lay_out]
            refine tK 2 (.int .i64 (k : Int)) rfl (.inl ⟨by rfl, fun w hw => by clear hw; go_simp⟩) h0 ?_
            try simp only [Act.put, lay_out]
            refine tK 3 (.int .i64 (i : Int)) rfl (.inl ⟨by rfl, fun w hw => by clear hw; go_simp⟩) h0 ?_
            try simp only [Act.put, lay_out]
            refine tK 4 (.pointer (some ⟨g10, k * 3, none⟩)) rfl (.inl ⟨by rfl, fun w hw => by clear hw; go_simp⟩) h0 ?_
            try simp only [Act.put, lay_out]
            refine tK 5 (.pointer (some ⟨g10, k * 3 + i, none⟩)) rfl (.inl ⟨by rfl, fun w hw => by clear hw; go_simp⟩) h0 ?_
            try simp only [Act.put, lay_out]
            refine tK 6 (.int .i64 z1) rfl (.inl ⟨by rfl, fun w' hw => by have hc := hw.1; clear hw; go_simp⟩) h0 ?_
            try simp only [Act.put, lay_out]
            refine tK 7 (.int .i64 (k : Int)) rfl (.inl ⟨by rfl, fun w hw => by clear hw; go_simp⟩) h0 ?_
            try simp only [Act.put, lay_out]
            refine tK 8 (.int .i64 (i : Int)) rfl (.inl ⟨by rfl, fun w hw => by clear hw; go_simp⟩) h0 ?_
            try simp only [Act.put, lay_out]
            refine tK 9 (.pointer (some ⟨g11, k * 3, none⟩)) rfl (.inl ⟨by rfl, fun w hw => by clear hw; go_simp⟩) h0 ?_
            try simp only [Act.put, lay_out]
            refine tK 10 (.pointer (some ⟨g11, k * 3 + i, none⟩)) rfl (.inl ⟨by rfl, fun w hw => by clear hw; go_simp⟩) h0 ?_
            try simp only [Act.put, lay_out]
            refine tK 11 (.int .i64 z2) rfl (.inl ⟨by rfl, fun w' hw => by have hc := hw.2; clear hw; go_simp⟩) h0 ?_
            try simp only [Act.put, lay_out]
            refine wpAnyH_ready (rs := [12]) (by kernel_rfl) (by simp) (AllReadyH.cons rfl (fun K hK => ?_) AllReadyH.nil)
            rw [if_pos (by rfl)]
            go_simp
            go_at_call 45
            (with_reducible refine (dop0_any 5 (i : Int) z1 z2 _).mono ?_); rintro e y1 ⟨rfl, hb⟩
            have G1 := hid (G0.out.self hb)
            clear hb
            refine hK.out _ _ (⟨(by have c := row_c (i := k * 3 + i) (G1.out.bl 1 rfl) (iz_get _ HIY.out); rw [HZ1.out] at c; exact c), (by have c := row_c (i := k * 3 + i) (G1.out.bl 0 rfl) (iz_get _ HIY.out); rw [HZ2.out] at c; exact c)⟩) (fun h1x => ?_)
            clear hK K
            try simp only [Act.put, lay_out]
            refine wpAnyH_ready (rs := [13]) (by kernel_rfl) (by simp) (AllReadyH.cons rfl (fun K hK => ?_) AllReadyH.nil)
            rw [if_pos (by rfl)]
            go_simp
            go_at_call 44
            (with_reducible refine (HD1.out _ _ G1.out).mono ?_); rintro e y2 ⟨rfl, hz⟩
            have G2 := hid hz
            clear hz
            refine hK.out _ _ (⟨(by have c := row_c (i := k * 3 + i) (G2.out.bl 1 rfl) (iz_get _ HIY.out); rw [HZ1.out] at c; exact c), (by have c := row_c (i := k * 3 + i) (G2.out.bl 0 rfl) (iz_get _ HIY.out); rw [HZ2.out] at c; exact c)⟩) (fun h2x => ?_)
            clear hK K
            try simp only [Act.put, lay_out]
            refine tK 14 (.int .i64 x1) rfl (.inl ⟨by rfl, fun w hw => by clear hw; go_simp⟩) h2x ?_
            try simp only [Act.put, lay_out]
            refine wpAnyH_done (by kernel_rfl) ?_ _
            refine NoPanic.normal ?_
            clear h0 h1x h2x
            try simp only [Act.put, lay_out]
            go_upto_region 32 with fail
            have c3 := row_c (i := i * 3 + k) (G2.out.bl 0 rfl) (iz_get P9 HIX.out)
            rw [HZ3.out] at c3
            go_upto_region 33 with (first
             | (go_at_call 45; (with_reducible refine (dop0_any 5 (i : Int) x1 z3 _).mono ?_); rintro e v1 ⟨rfl, hb⟩; have I1 := hid (G2.out.self hb); clear hb)
             | (go_at_call 44; (with_reducible refine (HD2.out _ _ I1.out).mono ?_); rintro e v2 ⟨rfl, hz⟩; have I2 := hid hz; clear hz c3))
            have cU := row_c (i := i) (I2.out.bl 2 rfl) (wdV_at _ i HI3.out)
            rw [updI_at] at cU
            go_wp2_with (first
             | (go_at_call 45; (with_reducible refine (dop0_any 5 (i : Int) (FWI i k) x2 _).mono ?_); rintro e u1 ⟨rfl, hb⟩; have K1 := hid (I2.out.self hb); clear hb)
             | (go_at_call 44; (with_reducible refine (HD3.out _ _ K1.out).mono ?_); rintro e u2 ⟨rfl, hz⟩; have K2 := hid hz; clear hz cU; have cV := row_c (i := i) (K2.out.bl 2 rfl) (wdV_at _ i HI3.out); have fV := frozen_of_row u2 g9 i _ _ (K2.out.bl 2 rfl)))
            have K3 : Hid (Od lg F0 w0 (u2.setCell ⟨g9, i, none⟩ (.int .i64 x9)) b (dS0 S2' (xr6 i (FWI i k) x2)) [(g11, .cells (iz 9 P9) 110 (0, 0)), (g10, .cells (iz 9 R9) 110 (0, 0)), (g9, .cells (wdV (updI (FU i) i x9)) 37 (0, 0)), (w.heap.size + 2, .cells #[.int .i64 0, .int .i64 0, .int .i64 0] 37 (0, 0)), (w.heap.size + 1, .cells (wdV B) 37 (0, 0)), (w.heap.size, .cells (wdV A) 37 (0, 0))]) := hid (by have := K2.out.cellI 2 rfl i (.int .i64 x9); rw [wdV_upd _ i _ HI3.out, HUP.out] at this; exact this)
            go_roundw
            case rel => exact ⟨k + 1, HKX.out, by go_num, by rw [HST.out.1, HST.out.2]; exact K3.out⟩
            case measure => simp [intOf]; omega
           ·
            have q3 : decide ((k : Int) < (i : Int)) = false := decide_eq_false (by omega)
            have q4 : decide (k < i) = false := decide_eq_false hki
            have hki' : i < k := by omega
            obtain ⟨z1, hz1⟩ : ∃ z1, R9 (i * 3 + k) = z1 := ⟨_, rfl⟩
            have hmo := moG_up (FSI i k) R9 P9 hki'
            rw [hz1] at hmo cR
            have HST := hid (HFstep.out i k (by omega) (FSI i k) z1 hmo)
            have w3_ : opwf (xr6 i (FWI i k) z1) := xr6_wf (by omega) hBn.2 (hz1 ▸ HRW.out _)
            have HD3 := hid (fun bs w' h' => HDO.out _ (FSI i k) (xr6 i (FWI i k) z1) bs w' hBn.1 (by omega) w3_ h')
            obtain ⟨x9, hx9⟩ : ∃ x9, dR0 (FSI i k) (xr6 i (FWI i k) z1) = x9 := ⟨_, rfl⟩
            rw [hx9] at HD3 HST
            have HUP : Hid (updI (updI (FU i) i (FWI i k)) i x9 = updI (FU i) i x9) := hid (updI_twice _ _ _ _)
            clear hz1 hmo w3_ hx9 hBn hk hki hki'
            go_upto_region 33 with fail
            clear cn cR
            have cU := row_c (i := i) (HJ.out.bl 2 rfl) (wdV_at _ i HI3.out)
            rw [updI_at] at cU
            go_wp2_with (first
             | (go_at_call 45; (with_reducible refine (dop0_any 5 (i : Int) (FWI i k) z1 _).mono ?_); rintro e u1 ⟨rfl, hb⟩; have K1 := hid (HJ.out.self hb); clear hb)
             | (go_at_call 44; (with_reducible refine (HD3.out _ _ K1.out).mono ?_); rintro e u2 ⟨rfl, hz⟩; have K2 := hid hz; clear hz cU; have cV := row_c (i := i) (K2.out.bl 2 rfl) (wdV_at _ i HI3.out); have fV := frozen_of_row u2 g9 i _ _ (K2.out.bl 2 rfl)))
            have K3 : Hid (Od lg F0 w0 (u2.setCell ⟨g9, i, none⟩ (.int .i64 x9)) b (dS0 (FSI i k) (xr6 i (FWI i k) z1)) [(g11, .cells (iz 9 P9) 110 (0, 0)), (g10, .cells (iz 9 R9) 110 (0, 0)), (g9, .cells (wdV (updI (FU i) i x9)) 37 (0, 0)), (w.heap.size + 2, .cells #[.int .i64 0, .int .i64 0, .int .i64 0] 37 (0, 0)), (w.heap.size + 1, .cells (wdV B) 37 (0, 0)), (w.heap.size, .cells (wdV A) 37 (0, 0))]) := hid (by have := K2.out.cellI 2 rfl i (.int .i64 x9); rw [wdV_upd _ i _ HI3.out, HUP.out] at this; exact this)
            go_roundw
            case rel => exact ⟨k + 1, HKX.out, by go_num, by rw [HST.out.1, HST.out.2]; exact K3.out⟩
            case measure => simp [intOf]; omega
          ·
           have q2 : ((K : Int) == 2) = true := HKD.out
           obtain ⟨z1, hz1⟩ : ∃ z1, P9 (i * 3 + k) = z1 := ⟨_, rfl⟩
           obtain ⟨z2, hz2⟩ : ∃ z2, R9 (i * 3 + k) = z2 := ⟨_, rfl⟩
           have hmo := moG_dom (FSI i k) R9 P9 i k
           rw [hz1, hz2] at hmo
           rw [hz2] at cR
           have w1_ : opwf (xr6 i z1 z2) := xr6_wf (by omega) (hz1 ▸ HPW.out _) (hz2 ▸ HRW.out _)
           have b1_ := hBn.1.does w1_
           have x1_ := hBn.1.reg (by omega) (xr6 i z1 z2)
           have HD1 := hid (fun bs w' h' => HDO.out _ (FSI i k) (xr6 i z1 z2) bs w' hBn.1 (by omega) w1_ h')
           obtain ⟨S1, hS1⟩ : ∃ S1, dS0 (FSI i k) (xr6 i z1 z2) = S1 := ⟨_, rfl⟩
           obtain ⟨x1, hx1⟩ : ∃ x1, dR0 (FSI i k) (xr6 i z1 z2) = x1 := ⟨_, rfl⟩
           rw [hS1] at HD1 b1_ hmo
           rw [hx1] at HD1 hmo x1_
           have HST := hid (HFstep.out i k (by omega) S1 x1 hmo)
           have w3_ : opwf (xr6 i (FWI i k) x1) := xr6_wf (by omega) hBn.2 x1_
           have HD3 := hid (fun bs w' h' => HDO.out _ S1 (xr6 i (FWI i k) x1) bs w' b1_ (by omega) w3_ h')
           obtain ⟨x9, hx9⟩ : ∃ x9, dR0 S1 (xr6 i (FWI i k) x1) = x9 := ⟨_, rfl⟩
           rw [hx9] at HD3 HST
           have HUP : Hid (updI (updI (FU i) i (FWI i k)) i x9 = updI (FU i) i x9) := hid (updI_twice _ _ _ _)
           have HZ1 := hid hz1
           have HZ2 := hid hz2
           clear hz1 hz2 hmo w1_ b1_ x1_ hS1 hx1 w3_ hx9 hBn hk
           go_upto_region 29 with fail
           clear cn cR
           have G0 := hid (HJ.out.self ((Below.refl _ wr).drew))
           refine wp_region_noPanic ?_
           refine wp_region_held_drew (S := fun w' => w'.cell? ⟨g11, i * 3 + k, none⟩ = some (.int .i64 z1) ∧ w'.cell? ⟨g10, i * 3 + k, none⟩ = some (.int .i64 z2)) (by kernel_rfl) (⟨(by have c := row_c (i := i * 3 + k) (G0.out.bl 0 rfl) (iz_get _ HIX.out); rw [HZ1.out] at c; exact c), (by have c := row_c (i := i * 3 + k) (G0.out.bl 1 rfl) (iz_get _ HIX.out); rw [HZ2.out] at c; exact c)⟩) (fun h0 => ?_)
           generalize wr.drew = y0 at *
           refine tK 0 (.pointer (some ⟨b, 0, none⟩)) rfl (.inl ⟨by rfl, fun w hw => by clear hw; go_simp⟩) h0 ?_
           try simp only [Act.put, lay_out]
           refine tK 1 (.int .i64 (i : Int)) rfl (.inl ⟨by rfl, fun w hw => by clear hw; go_simp⟩) h0 ?_
           try simp only [Act.put, lay_out]
           refine tK 2 (.int .i64 (i : Int)) rfl (.inl ⟨by rfl, fun w hw => by clear hw; go_simp⟩) h0 ?_
           try simp only [Act.put, lay_out]
           refine tK 3 (.int .i64 (k : Int)) rfl (.inl ⟨by rfl, fun w hw => by clear hw; go_simp⟩) h0 ?_
           try simp only [Act.put, lay_out]
           refine tK 4 (.pointer (some ⟨g11, i * 3, none⟩)) rfl (.inl ⟨by rfl, fun w hw => by clear hw; go_simp⟩) h0 ?_
           try simp only [Act.put, lay_out]
           refine tK 5 (.pointer (some ⟨g11, i * 3 + k, none⟩)) rfl (.inl ⟨by rfl, fun w hw => by clear hw; go_simp⟩) h0 ?_
           try simp only [Act.put, lay_out]
           refine tK 6 (.int .i64 z1) rfl (.inl ⟨by rfl, fun w' hw => by have hc := hw.1; clear hw; go_simp⟩) h0 ?_
           try simp only [Act.put, lay_out]
           refine tK 7 (.int .i64 (i : Int)) rfl (.inl ⟨by rfl, fun w hw => by clear hw; go_simp⟩) h0 ?_
           try simp only [Act.put, lay_out]
           refine tK 8 (.int .i64 (k : Int)) rfl (.inl ⟨by rfl, fun w hw => by clear hw; go_simp⟩) h0 ?_
           try simp only [Act.put, lay_out]
           refine tK 9 (.pointer (some ⟨g10, i * 3, none⟩)) rfl (.inl ⟨by rfl, fun w hw => by clear hw; go_simp⟩) h0 ?_
           try simp only [Act.put, lay_out]
           refine tK 10 (.pointer (some ⟨g10, i * 3 + k, none⟩)) rfl (.inl ⟨by rfl, fun w hw => by clear hw; go_simp⟩) h0 ?_
           try simp only [Act.put, lay_out]
           refine tK 11 (.int .i64 z2) rfl (.inl ⟨by rfl, fun w' hw => by have hc := hw.2; clear hw; go_simp⟩) h0 ?_
           try simp only [Act.put, lay_out]
           refine wpAnyH_ready (rs := [12]) (by kernel_rfl) (by simp) (AllReadyH.cons rfl (fun K hK => ?_) AllReadyH.nil)
           rw [if_pos (by rfl)]
           go_simp
           go_at_call 45
           (with_reducible refine (dop0_any 5 (i : Int) z1 z2 _).mono ?_); rintro e y1 ⟨rfl, hb⟩
           have G1 := hid (G0.out.self hb)
           clear hb
           refine hK.out _ _ (⟨(by have c := row_c (i := i * 3 + k) (G1.out.bl 0 rfl) (iz_get _ HIX.out); rw [HZ1.out] at c; exact c), (by have c := row_c (i := i * 3 + k) (G1.out.bl 1 rfl) (iz_get _ HIX.out); rw [HZ2.out] at c; exact c)⟩) (fun h1x => ?_)
           clear hK K
           try simp only [Act.put, lay_out]
           refine wpAnyH_ready (rs := [13]) (by kernel_rfl) (by simp) (AllReadyH.cons rfl (fun K hK => ?_) AllReadyH.nil)
           rw [if_pos (by rfl)]
           go_simp
           go_at_call 44
           (with_reducible refine (HD1.out _ _ G1.out).mono ?_); rintro e y2 ⟨rfl, hz⟩
           have G2 := hid hz
           clear hz
           refine hK.out _ _ (⟨(by have c := row_c (i := i * 3 + k) (G2.out.bl 0 rfl) (iz_get _ HIX.out); rw [HZ1.out] at c; exact c), (by have c := row_c (i := i * 3 + k) (G2.out.bl 1 rfl) (iz_get _ HIX.out); rw [HZ2.out] at c; exact c)⟩) (fun h2x => ?_)
           clear hK K
           try simp only [Act.put, lay_out]
           refine tK 14 (.int .i64 x1) rfl (.inl ⟨by rfl, fun w hw => by clear hw; go_simp⟩) h2x ?_
           try simp only [Act.put, lay_out]
           refine wpAnyH_done (by kernel_rfl) ?_ _
           refine NoPanic.normal ?_
           clear h0 h1x h2x
           try simp only [Act.put, lay_out]
           go_upto_region 33 with fail
           have cU := row_c (i := i) (G2.out.bl 2 rfl) (wdV_at _ i HI3.out)
           rw [updI_at] at cU
           go_wp2_with (first
            | (go_at_call 45; (with_reducible refine (dop0_any 5 (i : Int) (FWI i k) x1 _).mono ?_); rintro e u1 ⟨rfl, hb⟩; have K1 := hid (G2.out.self hb); clear hb)
            | (go_at_call 44; (with_reducible refine (HD3.out _ _ K1.out).mono ?_); rintro e u2 ⟨rfl, hz⟩; have K2 := hid hz; clear hz cU; have cV := row_c (i := i) (K2.out.bl 2 rfl) (wdV_at _ i HI3.out); have fV := frozen_of_row u2 g9 i _ _ (K2.out.bl 2 rfl)))
           have K3 : Hid (Od lg F0 w0 (u2.setCell ⟨g9, i, none⟩ (.int .i64 x9)) b (dS0 S1 (xr6 i (FWI i k) x1)) [(g11, .cells (iz 9 P9) 110 (0, 0)), (g10, .cells (iz 9 R9) 110 (0, 0)), (g9, .cells (wdV (updI (FU i) i x9)) 37 (0, 0)), (w.heap.size + 2, .cells #[.int .i64 0, .int .i64 0, .int .i64 0] 37 (0, 0)), (w.heap.size + 1, .cells (wdV B) 37 (0, 0)), (w.heap.size, .cells (wdV A) 37 (0, 0))]) := hid (by have := K2.out.cellI 2 rfl i (.int .i64 x9); rw [wdV_upd _ i _ HI3.out, HUP.out] at this; exact this)
           go_roundw
           case rel => exact ⟨k + 1, HKX.out, by go_num, by rw [HST.out.1, HST.out.2]; exact K3.out⟩
           case measure => simp [intOf]; omega
        ·
         obtain rfl : nn = k := by omega
         clear hBn hk
         go_wp2
         go_roundw
         case rel => exact ⟨i + 1, by omega, by go_num, by rw [← (HFn.out i).1, ← (HFn.out i).2]; exact HJ.out⟩
         case measure => simp [intOf]; omega
      ·
       obtain rfl : nn = i := by omega
       clear hlt hi
       have cn := HNN.out _ _ _ _ (HFN.out nn (Nat.le_refl _)) HI.out
       rw [HUE.out] at HI
       go_upto_region 35 with (go_at_call 78; (with_reducible refine (HEN.out _ _ HI.out).mono ?_); rintro e w8 ⟨rfl, hb⟩; have H8 := hid hb; clear hb cn)
       go_wp2_with (first
        | (refine step_load_row rfl 37 _ rfl g9 37 (wdV U9) _ rfl (H8.out.bl 2 rfl) Tryz.underlying37 rfl (by kernel_rfl) ?_)
        | (refine step_store_row rfl 37 _ _ rfl (w.heap.size + 2) 37 _ (wdV U9) rfl rfl (H8.out.bl 3 rfl) (by kernel_rfl) rfl (by kernel_rfl) ?_))
       have H9 := hid (H8.out.rowI 3 rfl (wdV U9))
       exact bodyPost_ret (results_cell_row (by rfl) _ _ (w.heap.size + 2) 37 (wdV U9) (0, 0) _ rfl (H9.out.bl 3 rfl) Tryz.underlying37 rfl (by kernel_rfl)) rfl ⟨rfl, H9.out.sub (fun q hq => (List.not_mem_nil hq).elim) (by simp)⟩
open Go.RowKit
set_option maxRecDepth 100000
def isDom (K : Int) : Bool := decide (K = 2)
def tmD (n : Int) : Int := if n = 2 then 1 else if n = 3 then 3 else 0
def tmN (K n : Int) : Int := if K = 1 ∨ K = 2 then (if n = 2 then 9 else if n = 3 then 24 else 0) else 0
structure TmI (Pm : World → Nat → Ms → (Nat → Prop) → Prop) (V : World → (Nat → Prop) → Prop) : Prop where
 by_ : ∀ (b k : Nat) (S : Ms) (F : Nat → Prop) (K : Int) (A B : Nat → Int) (w : World), Pm w b S F → V w F → Bq k S → k + 50 ≤ 100000 → (S.n = 2 ∨ S.n = 3) → I64 K → Wb A → Wb B → Calls Tryz.prog 46 #[.pointer (some ⟨b, 0, none⟩), .int .i64 K, .agg (wdV A), .agg (wdV B)] w fun e w' => e = .returned (.agg (wdV (tmR S (isDom K) A B))) ∧ PmR Pm b (tmS S (isDom K) A B) F w w'
 isw : ∀ (b k : Nat) (S : Ms) (F : Nat → Prop) (A B : Nat → Int) (w : World), Pm w b S F → V w F → Bq k S → k + 50 ≤ 100000 → (S.n = 2 ∨ S.n = 3) → Wb A → Wb B → Calls Tryz.prog 74 #[.pointer (some ⟨b, 0, none⟩), .agg (wdV A), .agg (wdV B)] w fun e w' => e = .returned (.agg (wdV (tmR S false A B))) ∧ PmR Pm b (tmS S false A B) F w w'
 dom : ∀ (b k : Nat) (S : Ms) (F : Nat → Prop) (A B : Nat → Int) (w : World), Pm w b S F → V w F → Bq k S → k + 50 ≤ 100000 → (S.n = 2 ∨ S.n = 3) → Wb A → Wb B → Calls Tryz.prog 73 #[.pointer (some ⟨b, 0, none⟩), .agg (wdV A), .agg (wdV B)] w fun e w' => e = .returned (.agg (wdV (tmR S true A B))) ∧ PmR Pm b (tmS S true A B) F w w'
 draws : ∀ (n : Int) (w : World), I64 n → Calls Tryz.prog 37 #[.int .i64 n] w fun e w' => e = .returned (.int .i64 (tmD n)) ∧ Below w.heap.size w w'
 ops : ∀ (K n : Int) (w : World), I64 K → I64 n → Calls Tryz.prog 40 #[.int .i64 K, .int .i64 n] w fun e w' => e = .returned (.int .i64 (tmN K n)) ∧ Below w.heap.size w w'
theorem Od.liftD {lg : LoG} {F0 : Nat → Prop} {w0 w : World} {b k : Nat} {S : Ms} (K : Int) (A B : Nat → Int) (h : Od lg F0 w0 w b S []) (hq : Bq k S) (hk : k + 50 ≤ 100000) (hn : S.n = 2 ∨ S.n = 3) (hA : Wb A) (hB : Wb B) :
  Calls Tryz.prog 48 #[.pointer (some ⟨b, 0, none⟩), .int .i64 K, .agg (wdV A), .agg (wdV B)] w fun e w' => e = .returned (.agg (wdV (tmR S (isDom K) A B))) ∧ Od lg F0 w0 w' b (tmS S (isDom K) A B) [] := by
 obtain ⟨e1, e2⟩ := tm_all (isDom K) A B hn
 have e3 : wdV (tmR S (isDom K) A B) = wdV (tmG dS0 dR0 S.sh (isDom K) A B (S.beginS 3)).2 := by
  show #[_, _, _] = #[_, _, _]
  rw [e2 0 (by omega), e2 1 (by omega), e2 2 (by omega)]
 rw [e3, ← e1]
 exact dby_core K (isDom K) (by unfold isDom; by_cases e : K = 2 <;> simp [e]) A B h hq hk (by unfold Ms.sh; omega) (by unfold Ms.sh; omega) hA hB
section
variable {Pm : World → Nat → Ms → (Nat → Prop) → Prop} (hM : Mach Pm) {lo : Nat} {X : Nat → Prop} {W w : World} {b bd k : Nat} {S S2 : Ms}
include hM
theorem yby (K : Int) (A B : Nat → Int) (h : Bz Pm lo X W w b bd S2 S) (hq : Bq k S) (hk : k + 50 ≤ 100000) (hn : S.n = 2 ∨ S.n = 3) (hA : Wb A) (hB : Wb B) :
  Calls Tryz.prog 48 #[.pointer (some ⟨bd, 0, none⟩), .int .i64 K, .agg (wdV A), .agg (wdV B)] w fun e w' => e = .returned (.agg (wdV (tmR S (isDom K) A B))) ∧ Bz Pm lo X W w' b bd S2 (tmS S (isDom K) A B) ∧ ∀ k, X k → w'.heap[k]? = w.heap[k]? :=
 Bz.docs hM h (fun _ _ h0 => Od.liftD K A B h0 hq hk hn hA hB)
variable {V : World → (Nat → Prop) → Prop} (hT : TmI Pm V)
include hT
theorem qby (K : Int) (A B : Nat → Int) (h : Bz Pm lo X W w b bd S S2) (hV : ∀ F : Nat → Prop, (∀ k, F k → lo ≤ k) → V w F) (hq : Bq k S) (hk : k + 50 ≤ 100000) (hn : S.n = 2 ∨ S.n = 3) (hK : I64 K) (hA : Wb A) (hB : Wb B) :
  Calls Tryz.prog 46 #[.pointer (some ⟨b, 0, none⟩), .int .i64 K, .agg (wdV A), .agg (wdV B)] w fun e w' => e = .returned (.agg (wdV (tmR S (isDom K) A B))) ∧ Bz Pm lo X W w' b bd (tmS S (isDom K) A B) S2 ∧ ∀ k, X k → w'.heap[k]? = w.heap[k]? := by
 obtain ⟨F, G, ov, bv, vv, tv, h1, h2, h3, h4, h5, h6, h7⟩ := h
 exact (hT.by_ b k S F K A B w h1 (hV F (fun k hk => (h3 k hk).1)) hq hk hn hK hA hB).mono fun e w' hr => ⟨hr.1, Bz.prog hM h1 h2 h3 h4 h5 h6 h7 hr.2⟩
end
abbrev w3 (x : Nat → Nat) : Array Value := #[.int .u64 (x 0 : Int), .int .u64 (x 1 : Int), .int .u64 (x 2 : Int)]
open Go.RowKit Go.Lib

theorem setCells_row (g : Nat) (E : TypeId) (fz : Nat × Nat) : ∀ (vs : List Value) (o : Nat) (w : World) (cur : Array Value), w.heap[g]? = some (.cells cur E fz) → o + vs.length ≤ cur.size →
  (w.setCells g o vs).heap[g]? = some (.cells (cur.toList.take o ++ vs ++ cur.toList.drop (o + vs.length)).toArray E fz)
 | [], o, w, cur, h, _ => by
  show w.heap[g]? = _
  rw [h]
  simp
 | v :: r, o, w, cur, h, hl => by
  show ((w.setCell ⟨g, o, none⟩ v).setCells g (o + 1) r).heap[g]? = _
  have hlt : o < cur.size := by simp at hl; omega
  have h1 : (w.setCell ⟨g, o, none⟩ v).heap[g]? = some (.cells (cur.setIfInBounds o v) E fz) := by
   rw [setCell_eq_setRow w g o cur E fz v h]
   exact setRow_heap w g cur _ E fz h
  rw [setCells_row g E fz r (o + 1) _ _ h1 (by simp at hl ⊢; omega)]
  congr 2
  apply Array.ext'
  simp only [Array.toList_setIfInBounds]
  have e1 : (cur.toList.set o v).take (o + 1) = cur.toList.take o ++ [v] := by
   rw [List.take_set, List.take_add_one, List.set_append_right _ _ (by simp; omega)]
   have hm : min o cur.toList.length = o := by simp; omega
   rw [List.length_take, hm, Nat.sub_self]
   have hs : cur.toList[o]? = some cur[o] := by simp [hlt]
   rw [hs]
   simp
  have e2 : (cur.toList.set o v).drop (o + 1 + r.length) = cur.toList.drop (o + (r.length + 1)) := by
   rw [List.drop_set_of_lt (by omega)]
   congr 1
   omega
  rw [e1, e2]
  simp
theorem setCells_apart (g : Nat) : ∀ (vs : List Value) (o : Nat) (w : World) (k : Nat), k ≠ g → (w.setCells g o vs).heap[k]? = w.heap[k]?
 | [], _, _, _, _ => rfl
 | v :: r, o, w, k, h => by
  show ((w.setCell ⟨g, o, none⟩ v).setCells g (o + 1) r).heap[k]? = _
  rw [setCells_apart g r (o + 1) _ k h]
  exact heap_setCell_other w ⟨g, o, none⟩ k v h
theorem setCells_size (g : Nat) : ∀ (vs : List Value) (o : Nat) (w : World), (w.setCells g o vs).heap.size = w.heap.size
 | [], _, _ => rfl
 | v :: r, o, w => by
  show ((w.setCell ⟨g, o, none⟩ v).setCells g (o + 1) r).heap.size = _
  rw [setCells_size g r (o + 1) _]
  simp [World.setCell]
theorem setCells_out (g : Nat) : ∀ (vs : List Value) (o : Nat) (w : World), (w.setCells g o vs).os = w.os ∧ (w.setCells g o vs).tape = w.tape ∧ (w.setCells g o vs).output = w.output
 | [], _, _ => ⟨rfl, rfl, rfl⟩
 | v :: r, o, w => by
  obtain ⟨h1, h2, h3⟩ := setCells_out g r (o + 1) (w.setCell ⟨g, o, none⟩ v)
  exact ⟨h1.trans rfl, h2.trans rfl, h3.trans rfl⟩
section
variable {B : Nat} {E : TypeId} {w w' : World} {v : Value} {xs : List UInt8}
end
section
variable {P : Program} {w : World}
end
end Go.Proofs.YthkijncnndoafaaGreatDoor
