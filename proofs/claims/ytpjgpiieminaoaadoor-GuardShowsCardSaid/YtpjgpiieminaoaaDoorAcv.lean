import Derived.Test.YtpjgpiieminaoaaDoorWdg
import Derived.Deep.MidRow
import Derived.Test.YtpjgpiieminaoaaDoorProg
import Derived.Test.YtpjgpiieminaoaaDoorFsh
import Derived.Test.YtpjgpiieminaoaaDoorWma
/- General: a slice of acts (four ints, a word) that comes in. No program is named. -/
namespace Go.Proofs.YtpjgpiieminaoaaDoor
open Go.ChangeShapes Go.WideShapes Go.ChangeAt Go.RowKit Go.Deep

/-- An act: its kind, three numbers, a word. -/
structure Ac5 where
  K : Int
  A : Int
  B : Int
  D : Int
  C : Nat
abbrev ac5 (a : Ac5) : Array Value := #[.int .i64 a.K, .int .i64 a.A, .int .i64 a.B, .int .i64 a.D, .int .u64 (a.C : Int)]
/-- v reads as the L acts f. -/
structure RA5 (w : World) (v : Value) (L : Nat) (f : Nat → Ac5) : Prop where
  lim : L ≤ 3600000000000
  wf : ∀ i, i < L → (f i).C < 2 ^ 64
  at_ : ∃ a cap, v = .slice a L cap ∧ L ≤ cap ∧ cap ≤ maxLen ∧ (0 < L → ∃ b off, a = some ⟨b, off, none⟩ ∧ b < w.heap.size ∧ ∀ i, i < L → w.rangeAt b (off + i * 5) (ac5 (f i)).toList)
theorem rng_self {w w' : World} {b o : Nat} {cs : List Value} (h : w.rangeAt b o cs) (hlt : b < w.heap.size) (hb : Below w.heap.size w w') : w'.rangeAt b o cs := fun j v hv => by
  rw [World.cell?_of_block (a := ⟨b, o + j, none⟩) (hb.block b hlt)]; exact h j v hv
theorem RA5.self {w w' : World} {v : Value} {L : Nat} {f : Nat → Ac5} (h : RA5 w v L f) (hb : Below w.heap.size w w') : RA5 w' v L f := by
  obtain ⟨a, cap, h1, h2, h3, h4⟩ := h.at_
  refine ⟨h.lim, h.wf, a, cap, h1, h2, h3, fun h0 => ?_⟩
  obtain ⟨b, off, e1, e2, e3⟩ := h4 h0
  exact ⟨b, off, e1, Nat.lt_of_lt_of_le e2 hb.size, fun i hi => rng_self (e3 i hi) e2 hb⟩
end Go.Proofs.YtpjgpiieminaoaaDoor

/- Fresh: the program's functions, over any machine: words made anew. -/
namespace Go.Proofs.YtpjgpiieminaoaaDoor
open Go.RowKit
set_option maxRecDepth 100000
theorem Ow.liftF {Pm : World → Nat → Ms → (Nat → Prop) → Prop} {F0 : Nat → Prop} {w0 w : World} {b : Nat} {S S' : Ms} {bs : List (Nat × Obj)} (h : Ow Pm F0 w0 w b S bs) {f : FuncId} {args : Array Value} {E : Ending → Prop} (hc : ∀ F, Pm w b S F → (∀ k, F k → F0 k ∨ w0.heap.size ≤ k) → Calls Tryd.prog f args w fun e w' => E e ∧ PmR Pm b S' F w w') : Calls Tryd.prog f args w fun e w' => E e ∧ Ow Pm F0 w0 w' b S' bs := by
  obtain ⟨F, h1, h2, h3⟩ := h.ex
  refine (hc F h1 h2).mono fun e w' hr => ⟨hr.1, ?_⟩
  obtain ⟨F', g1, g2, g3⟩ := hr.2
  refine ⟨⟨F', g1, fun k hk => ?_, fun q hq e => ?_⟩, h.tch.trans g2 (fun j hj f => (h2 j f).resolve_right (by omega)), fun q hq => ⟨(h.bx q hq).1, (g2.block q.1 (h.lt hq) (h3 q hq)).trans (h.bx q hq).2⟩, h.nd⟩
  · rcases g3 k hk with f | f
    · exact h2 k f
    · exact .inr (Nat.le_trans h.tch.size f)
  · rcases g3 _ e with f | f
    · exact h3 q hq f
    · have := h.lt hq; omega
theorem dr_n (S : Ms) : ∀ j, (drG dS0 dR0 S j).1.n = S.n
  | 0 => rfl
  | j + 1 => ((doS_ext _ _ _).n).trans (dr_n S j)
theorem covered_any {Pm : World → Nat → Ms → (Nat → Prop) → Prop} (hM : Mach Pm) {F0 : Nat → Prop} {w0 w : World} {b : Nat} {bs : List (Nat × Obj)} (k c i : Nat) (S : Ms) (r : Int) (mk : Nat → Int) (hi : i < 3) (h : Ow Pm F0 w0 w b S bs) (hp : Pv w0) (hF : ¬ F0 gpair) (hq : Bq k S) (hk : k + 3 ≤ 100000) (hr : I64 r) (hm : Wb mk) :
    Calls Tryd.prog 76 #[.pointer (some ⟨b, 0, none⟩), .int .i64 (i : Int), .int .i64 r, .agg (wdV mk), .int .i64 (c : Int)] w fun e w' => e = .returned (.int .i64 (cvG dS0 dR0 c i mk S r 3).2) ∧ Ow Pm F0 w0 w' b (cvG dS0 dR0 c i mk S r 3).1 bs := by
  rcases (by omega : i = 0 ∨ i = 1 ∨ i = 2) with rfl | rfl | rfl
  · exact covered0_any hM k c S r mk h hp hF hq hk hr hm
  · exact covered1_any hM k c S r mk h hp hF hq hk hr hm
  · exact covered2_any hM k c S r mk h hp hF hq hk hr hm
set_option maxHeartbeats 12800000 in
theorem anew_any {Pm : World → Nat → Ms → (Nat → Prop) → Prop} (hM : Mach Pm) (b k n c : Nat) (S : Ms) (F : Nat → Prop) (A : Nat → Int) (w : World) (hm : Pm w b S F) (hp : Pv w) (hF : ¬ F gpair) (hq : Bq k S) (hk : k + 20 ≤ 100000) (hn : S.n = (n : Int)) (hn3 : n ≤ 3) (hc : c ≤ 3) (hA : Wb A) :
    Calls Tryd.prog 66 #[.pointer (some ⟨b, 0, none⟩), .agg (wdV A), .int .i64 (c : Int)] w fun e w' => e = .returned (.agg (wdV (anR n c A S))) ∧ PmR Pm b (anS n c A S) F w w' := by
  have hB := hq.begins 2
  have hD := dr_bq (j := c) hB (by omega)
  have HBG : Hid (∀ (bs : List (Nat × Obj)) (w' : World), Ow Pm F w w' b S bs → Calls Tryd.prog 19 #[.pointer (some ⟨b, 0, none⟩), .int .i64 2] w' fun e w2 => e = .returned (.tuple #[]) ∧ Ow Pm F w w2 b (S.beginS 2) bs) := hid (fun bs w' h' => h'.lift hM (fun F' hF' => hM.begin_ b k S F' 2 w' hF' hq (by omega)))
  have HDR : Hid (∀ (bs : List (Nat × Obj)) (w' : World), Ow Pm F w w' b (S.beginS 2) bs → Calls Tryd.prog 75 #[.pointer (some ⟨b, 0, none⟩), .int .i64 (c : Int)] w' fun e w2 => e = .returned (.agg (wdV (drG dS0 dR0 (S.beginS 2) c).2)) ∧ Ow Pm F w w2 b (drG dS0 dR0 (S.beginS 2) c).1 bs) := hid (fun bs w' h' => drawn_any hM k c _ h' hB (by omega) hc)
  have HNB : Hid (∀ (bs : List (Nat × Obj)) (w' : World), Ow Pm F w w' b (drG dS0 dR0 (S.beginS 2) c).1 bs → Calls Tryd.prog 40 #[.pointer (some ⟨b, 0, none⟩)] w' fun e w2 => e = .returned (.int .i64 (n : Int)) ∧ Below w'.heap.size w' w2) := hid (fun bs w' h' => h'.asks (fun F' hF' => by have := hM.n b (k + c) _ F' w' hF' hD.1 (by omega); rw [dr_n, (beginS_n S 2).1, hn] at this; exact this))
  have HC : Hid (∀ (j : Nat) (bs : List (Nat × Obj)) (w' : World), j < n → Ow Pm F w w' b (nwG dS0 dR0 c (drG dS0 dR0 (S.beginS 2) c).2 A (drG dS0 dR0 (S.beginS 2) c).1 j).1 bs → Calls Tryd.prog 76 #[.pointer (some ⟨b, 0, none⟩), .int .i64 (j : Int), .int .i64 (A j), .agg (wdV (drG dS0 dR0 (S.beginS 2) c).2), .int .i64 (c : Int)] w' fun e w2 => e = .returned (.int .i64 (cvG dS0 dR0 c j (drG dS0 dR0 (S.beginS 2) c).2 (nwG dS0 dR0 c (drG dS0 dR0 (S.beginS 2) c).2 A (drG dS0 dR0 (S.beginS 2) c).1 j).1 (A j) 3).2) ∧ Ow Pm F w w2 b (nwG dS0 dR0 c (drG dS0 dR0 (S.beginS 2) c).2 A (drG dS0 dR0 (S.beginS 2) c).1 (j + 1)).1 bs) :=
    hid (fun j bs w' hj h' => covered_any hM (k + c + 3 * j) c j _ _ _ (by omega) h' hp hF (nw_bq (c := c) hD.1 hD.2 hA (i := j) (by omega) (by omega)).1 (by omega) (hA j) hD.2)
  have HU : Hid (∀ j, (nwG dS0 dR0 c (drG dS0 dR0 (S.beginS 2) c).2 A (drG dS0 dR0 (S.beginS 2) c).1 (j + 1)).2 = updI (nwG dS0 dR0 c (drG dS0 dR0 (S.beginS 2) c).2 A (drG dS0 dR0 (S.beginS 2) c).1 j).2 j (cvG dS0 dR0 c j (drG dS0 dR0 (S.beginS 2) c).2 (nwG dS0 dR0 c (drG dS0 dR0 (S.beginS 2) c).2 A (drG dS0 dR0 (S.beginS 2) c).1 j).1 (A j) 3).2) := hid (fun j => rfl)
  have HEN : Hid (∀ (bs : List (Nat × Obj)) (w' : World), Ow Pm F w w' b (nwG dS0 dR0 c (drG dS0 dR0 (S.beginS 2) c).2 A (drG dS0 dR0 (S.beginS 2) c).1 n).1 bs → Calls Tryd.prog 24 #[.pointer (some ⟨b, 0, none⟩)] w' fun e w2 => e = .returned (.tuple #[]) ∧ Ow Pm F w w2 b (anS n c A S) bs) := hid (fun bs w' h' => h'.lift hM (fun F' hF' => hM.end_ b (k + c + 3 * n) _ F' w' hF' (nw_bq (c := c) hD.1 hD.2 hA (i := n) (by omega) (by omega)).1 (by omega)))
  have HR : Hid ((nwG dS0 dR0 c (drG dS0 dR0 (S.beginS 2) c).2 A (drG dS0 dR0 (S.beginS 2) c).1 n).2 = anR n c A S) := hid rfl
  have HU0 : Hid ((nwG dS0 dR0 c (drG dS0 dR0 (S.beginS 2) c).2 A (drG dS0 dR0 (S.beginS 2) c).1 0).2 = none3) := hid rfl
  have HS0 : Hid ((nwG dS0 dR0 c (drG dS0 dR0 (S.beginS 2) c).2 A (drG dS0 dR0 (S.beginS 2) c).1 0).1 = (drG dS0 dR0 (S.beginS 2) c).1) := hid rfl
  have HN3 : Hid (n ≤ 3) := hid hn3
  obtain ⟨w1, hw1⟩ : ∃ w1, (w.alloc (.cells (wdV A) 35)).alloc (.cells #[.int .i64 0, .int .i64 0, .int .i64 0] 35) = w1 := ⟨_, rfl⟩
  have H1 : Hid (Ow Pm F w w1 b S [(w.heap.size + 1, Obj.cells #[.int .i64 0, .int .i64 0, .int .i64 0] 35 (0, 0)), (w.heap.size, Obj.cells (wdV A) 35 (0, 0))]) := hid (by
    have := ((Ow.start hm).new hM (wdV A) 35).new hM #[.int .i64 0, .int .i64 0, .int .i64 0] 35
    rw [hw1] at this
    simp only [sz_al] at this
    exact this)
  have HW := hid hw1
  clear hm hp hF hq hk hn hn3 hc hA hB hD hw1
  obtain ⟨mk, hmk⟩ : ∃ mk, (drG dS0 dR0 (S.beginS 2) c).2 = mk := ⟨_, rfl⟩
  obtain ⟨Sd, hSd⟩ : ∃ Sd, (drG dS0 dR0 (S.beginS 2) c).1 = Sd := ⟨_, rfl⟩
  rw [hmk] at HDR HC HU HEN HR HU0 HS0
  rw [hSd] at HDR HC HU HEN HR HU0 HS0 HNB
  clear hmk hSd
  obtain ⟨rg, hrg⟩ : ∃ rg : Nat → Int, ∀ j, (cvG dS0 dR0 c j mk (nwG dS0 dR0 c mk A Sd j).1 (A j) 3).2 = rg j := ⟨_, fun _ => rfl⟩
  simp only [hrg] at HC HU
  clear hrg
  obtain ⟨St, hSt⟩ : ∃ St : Nat → Ms, ∀ j, (nwG dS0 dR0 c mk A Sd j).1 = St j := ⟨_, fun _ => rfl⟩
  obtain ⟨U, hU⟩ : ∃ U : Nat → Nat → Int, ∀ j, (nwG dS0 dR0 c mk A Sd j).2 = U j := ⟨_, fun _ => rfl⟩
  simp only [hSt, hU] at HC HU HEN HR HU0 HS0
  clear hSt hU
  rw [← HR.out]
  generalize anS n c A S = S3 at *
  clear HR
  generalize S.beginS 2 = S2 at *
  go_enter Tryd.func66, Tryd.ntmps66
  go_upto_region 1 with fail
  rw [HW.out]
  have H2 := hid (H1.out.new hM (wdV none3) 35)
  go_upto_region 2 with fail
  obtain ⟨g7, hg7⟩ : ∃ g7, w1.heap.size = g7 := ⟨_, rfl⟩
  rw [hg7] at H2
  have H3 : Hid (Ow Pm F w (w1.alloc (.cells #[.int .i64 (-1), .int .i64 (-1), .int .i64 (-1)] 35)) b S [(g7, .cells (wdV none3) 35 (0, 0)), (w.heap.size + 1, Obj.cells #[.int .i64 0, .int .i64 0, .int .i64 0] 35 (0, 0)), (w.heap.size, Obj.cells (wdV A) 35 (0, 0))]) := H2
  generalize w1.alloc (.cells #[.int .i64 (-1), .int .i64 (-1), .int .i64 (-1)] 35) = w3 at *
  rw [hg7]
  clear hg7 H2 H1
  go_upto_region 3 with (go_at_call 19; (with_reducible refine (HBG.out _ _ H3.out).mono ?_); rintro e w4 ⟨rfl, hb⟩; have H4 := hid hb; clear hb)
  go_upto_region 4 with (first
    | (go_at_call 75; (with_reducible refine (HDR.out _ _ H4.out).mono ?_); rintro e w5 ⟨rfl, hb⟩; have H5 := hid hb; clear hb)
    | fail)
  have H6 := hid (H5.out.new hM (wdV mk) 33)
  obtain ⟨g8, hg8⟩ : ∃ g8, w5.heap.size = g8 := ⟨_, rfl⟩
  rw [hg8] at H6
  generalize w5.alloc (.cells #[.int .i64 (mk 0), .int .i64 (mk 1), .int .i64 (mk 2)] 33) = w6 at *
  rw [hg8]
  clear hg8 H5 H4 H3
  rw [← HS0.out, ← HU0.out] at H6
  rw [← HS0.out] at HNB
  go_wp2_with (go_at_call 40; (with_reducible refine (HNB.out _ _ H6.out).mono ?_); rintro e w7 ⟨rfl, hb⟩; have H7 := hid (H6.out.self hM hb); clear hb)
  go_loopw [19] (fun iv wr => ∃ j : Nat, j ≤ n ∧ iv = .int .i64 j ∧ Ow Pm F w wr b (St j) ((g7, .cells (wdV (U j)) 35 (0, 0)) :: (g8, .cells (wdV mk) 33 (0, 0)) :: (w.heap.size + 1, .cells #[.int .i64 0, .int .i64 0, .int .i64 0] 35 (0, 0)) :: (w.heap.size, .cells (wdV A) 35 (0, 0)) :: [])) (fun iv _ => n - (intOf iv).toNat)
  case atStart => exact ⟨0, by omega, rfl, H7.out.swap⟩
  case round =>
    clear H7 H6
    obtain ⟨j, hj, rfl, hI⟩ := hrel
    have HI := hid hI
    clear hI
    have hn3 := HN3.out
    by_cases hlt : j < n
    · have j1 : (j : Int) < (n : Int) := by omega
      have j0 : (0 : Int) ≤ (j : Int) := by omega
      have j3 : (j : Int) < 3 := by omega
      have HJ3 : Hid (j < 3) := hid (by omega)
      have HCJ := hid (fun bs' w' h' => HC.out j bs' w' hlt h')
      have HER : Hid ((wdV (U j)).setIfInBounds j (.int .i64 (rg j)) = wdV (U (j + 1))) := hid (by rw [wdV_upd _ j _ (by omega), HU.out j])
      go_upto_region 7 with fail
      have G0 := hid (HI.out.self hM ((Below.refl _ wr).drew))
      refine wp_region_noPanic ?_
      refine wp_region_held_drew (S := fun w' => w'.heap[w.heap.size]? = some (.cells (wdV A) 35 (0, 0)) ∧ w'.heap[g8]? = some (.cells (wdV mk) 33 (0, 0))) (by kernel_rfl) (⟨G0.out.bl 3 rfl, G0.out.bl 1 rfl⟩) (fun h0 => ?_)
      generalize wr.drew = y0 at *
      refine wpAnyH_take (i := 0) (v := .int .i64 (j : Int)) rfl (by kernel_rfl) (by kernel_rfl) (by kernel_rfl) (fun _ _ _ h => h) (.inl ⟨by rfl, fun w hw => by clear hw; go_simp⟩) h0 ?_
      try simp only [Act.put, lay_out]
      refine wpAnyH_take (i := 1) (v := .pointer (some ⟨b, 0, none⟩)) rfl (by kernel_rfl) (by kernel_rfl) (by kernel_rfl) (fun _ _ _ h => h) (.inl ⟨by rfl, fun w hw => by clear hw; go_simp⟩) h0 ?_
      try simp only [Act.put, lay_out]
      refine wpAnyH_take (i := 2) (v := .int .i64 (j : Int)) rfl (by kernel_rfl) (by kernel_rfl) (by kernel_rfl) (fun _ _ _ h => h) (.inl ⟨by rfl, fun w hw => by clear hw; go_simp⟩) h0 ?_
      try simp only [Act.put, lay_out]
      refine wpAnyH_take (i := 3) (v := .int .i64 (j : Int)) rfl (by kernel_rfl) (by kernel_rfl) (by kernel_rfl) (fun _ _ _ h => h) (.inl ⟨by rfl, fun w hw => by clear hw; go_simp⟩) h0 ?_
      try simp only [Act.put, lay_out]
      refine wpAnyH_take (i := 4) (v := .pointer (some ⟨w.heap.size, 0, none⟩)) rfl (by kernel_rfl) (by kernel_rfl) (by kernel_rfl) (fun _ _ _ h => h) (.inl ⟨by rfl, fun w hw => by clear hw; go_simp⟩) h0 ?_
      try simp only [Act.put, lay_out]
      refine wpAnyH_take (i := 5) (v := .pointer (some ⟨w.heap.size, j, none⟩)) rfl (by kernel_rfl) (by kernel_rfl) (by kernel_rfl) (fun _ _ _ h => h) (.inl ⟨by rfl, fun w hw => by clear hw; go_simp⟩) h0 ?_
      try simp only [Act.put, lay_out]
      refine wpAnyH_take (i := 6) (v := .int .i64 (A j)) rfl (by kernel_rfl) (by kernel_rfl) (by kernel_rfl) (fun _ _ _ h => h) (.inl ⟨by rfl, fun w' hw => by have hc := row_c (i := j) (u := .int .i64 (A j)) hw.1 (wdV_at A j HJ3.out); clear hw; go_simp⟩) h0 ?_
      try simp only [Act.put, lay_out]
      refine wpAnyH_take (i := 7) (v := .agg (wdV mk)) rfl (by kernel_rfl) (by kernel_rfl) (by kernel_rfl) (fun _ _ _ h => h) (yields_load_row (by rfl) 33 _ rfl g8 33 (wdV mk) _ rfl (fun w h => h.2) Tryd.underlying33 rfl (by kernel_rfl)) h0 ?_
      try simp only [Act.put, lay_out]
      refine wpAnyH_take (i := 8) (v := .int .i64 (c : Int)) rfl (by kernel_rfl) (by kernel_rfl) (by kernel_rfl) (fun _ _ _ h => h) (.inl ⟨by rfl, fun w hw => by clear hw; go_simp⟩) h0 ?_
      try simp only [Act.put, lay_out]
      refine wpAnyH_take (i := 10) (v := .pointer (some ⟨g7, 0, none⟩)) rfl (by kernel_rfl) (by kernel_rfl) (by kernel_rfl) (fun _ _ _ h => h) (.inl ⟨by rfl, fun w hw => by clear hw; go_simp⟩) h0 ?_
      try simp only [Act.put, lay_out]
      refine wpAnyH_ready (rs := [9]) (by kernel_rfl) (by simp) (AllReadyH.cons rfl (fun K hK => ?_) AllReadyH.nil)
      rw [if_pos (by rfl)]
      go_simp
      go_at_call 76
      (with_reducible refine (HCJ.out _ _ G0.out).mono ?_); rintro e y2 ⟨rfl, hp⟩
      have G1 := hid hp
      clear hp
      refine hK.out _ _ (⟨G1.out.bl 3 rfl, G1.out.bl 1 rfl⟩) (fun h1x => ?_)
      clear hK K
      try simp only [Act.put, lay_out]
      refine wpAnyH_take (i := 11) (v := .pointer (some ⟨g7, j, none⟩)) rfl (by kernel_rfl) (by kernel_rfl) (by kernel_rfl) (fun _ _ _ h => h) (.inl ⟨by rfl, fun w hw => by clear hw; go_simp⟩) h1x ?_
      try simp only [Act.put, lay_out]
      have cj := row_c (i := j) (G1.out.bl 0 rfl) (wdV_at (U j) j HJ3.out)
      have fj := frozen_of_row y2 g7 j _ _ (G1.out.bl 0 rfl)
      refine wpAnyH_ready (rs := [12]) (by kernel_rfl) (by simp) (AllReadyH.cons rfl (fun K hK => ?_) AllReadyH.nil)
      rw [if_pos (by rfl)]
      go_simp
      have G2 := hid (G1.out.cell hM j (.int .i64 (rg j)))
      rw [HER.out] at G2
      generalize y2.setCell ⟨g7, j, none⟩ (.int .i64 (rg j)) = y3 at *
      refine hK.out _ _ (⟨G2.out.bl 3 rfl, G2.out.bl 1 rfl⟩) (fun h2x => ?_)
      clear hK K
      try simp only [Act.put, lay_out]
      refine wpAnyH_done (by kernel_rfl) ?_ _
      refine NoPanic.normal ?_
      clear h0 h1x h2x
      try simp only [Act.put, lay_out]
      go_wp2
      go_roundw
      case rel => exact ⟨j + 1, by omega, by go_num, G2.out⟩
      case measure => simp [intOf]; omega
    · obtain rfl : j = n := by omega
      clear hlt
      go_upto_region 10 with (go_at_call 24; (with_reducible refine (HEN.out _ _ HI.out).mono ?_); rintro e w8 ⟨rfl, hb⟩; have H8 := hid hb; clear hb)
      go_wp2_with (first
        | (refine step_load_row rfl 35 _ rfl g7 35 (wdV (U j)) _ rfl (H8.out.bl 0 rfl) Tryd.underlying35 rfl (by kernel_rfl) ?_)
        | (refine step_store_row rfl 35 _ _ rfl (w.heap.size + 1) 35 _ (wdV (U j)) rfl rfl (H8.out.bl 2 rfl) (by kernel_rfl) rfl (by kernel_rfl) ?_))
      have H9 := hid (H8.out.drop.swap.row hM (wdV (U j)))
      exact bodyPost_ret (results_cell_row (by rfl) _ _ (w.heap.size + 1) 35 (wdV (U j)) (0, 0) _ rfl (H9.out.bl 0 rfl) Tryd.underlying35 rfl (by kernel_rfl)) rfl ⟨rfl, H9.out.fin⟩
set_option maxHeartbeats 3200000 in
theorem ffull2_any {Pm : World → Nat → Ms → (Nat → Prop) → Prop} (hM : Mach Pm) (b k : Nat) (S : Ms) (F : Nat → Prop) (A : Nat → Int) (w : World) (hm : Pm w b S F) (hp : Pv w) (hF : ¬ F gpair) (hq : Bq k S) (hk : k + 20 ≤ 100000) (hn : S.n = 2) (hA : Wb A) :
    Calls Tryd.prog 59 #[.pointer (some ⟨b, 0, none⟩), .agg (wdV A)] w fun e w' => e = .returned (.agg (wdV (anR 2 1 A S))) ∧ PmR Pm b (anS 2 1 A S) F w w' := by
  have HNB : Hid (∀ (bs : List (Nat × Obj)) (w' : World), Ow Pm F w w' b S bs → Calls Tryd.prog 40 #[.pointer (some ⟨b, 0, none⟩)] w' fun e w2 => e = .returned (.int .i64 2) ∧ Below w'.heap.size w' w2) := hid (fun bs w' h' => h'.asks (fun F' hF' => by have := hM.n b k S F' w' hF' hq (by omega); rw [hn] at this; exact this))
  have HFD : Hid (∀ w', Calls Tryd.prog 67 #[.int .i64 2] w' fun e w2 => e = .returned (.int .i64 1) ∧ w2 = w') := hid (fun w' => fdraws_any 2 w')
  have HAN : Hid (∀ (bs : List (Nat × Obj)) (w' : World), Ow Pm F w w' b S bs → Calls Tryd.prog 66 #[.pointer (some ⟨b, 0, none⟩), .agg (wdV A), .int .i64 1] w' fun e w2 => e = .returned (.agg (wdV (anR 2 1 A S))) ∧ Ow Pm F w w2 b (anS 2 1 A S) bs) := hid (fun bs w' h' => by
    exact h'.liftF (fun F2 hF2 hF3 => anew_any hM b k 2 1 S F2 A w' hF2 (hp.ow hF h') (fun e => (hF3 _ e).elim hF (fun l => by have := hp.1; omega)) hq hk hn (by decide) (by decide) hA))
  obtain ⟨w1, hw1⟩ : ∃ w1, (w.alloc (.cells (wdV A) 35)).alloc (.cells #[.int .i64 0, .int .i64 0, .int .i64 0] 35) = w1 := ⟨_, rfl⟩
  have H1 : Hid (Ow Pm F w w1 b S [(w.heap.size + 1, Obj.cells #[.int .i64 0, .int .i64 0, .int .i64 0] 35 (0, 0)), (w.heap.size, Obj.cells (wdV A) 35 (0, 0))]) := hid (by
    have := ((Ow.start hm).new hM (wdV A) 35).new hM #[.int .i64 0, .int .i64 0, .int .i64 0] 35
    rw [hw1] at this
    simp only [sz_al] at this
    exact this)
  have G0 := hid (H1.out.self hM ((Below.refl _ w1).drew))
  have HW := hid hw1
  clear hm hp hF hq hk hn hA hw1
  generalize anR 2 1 A S = R at *
  generalize anS 2 1 A S = S1 at *
  go_enter Tryd.func59, Tryd.ntmps59
  go_upto_region 1 with fail
  rw [HW.out]
  refine wp_region_noPanic ?_
  refine wp_region_held_drew (S := fun w' => w'.heap[w.heap.size]? = some (.cells (wdV A) 35 (0, 0))) (by kernel_rfl) (G0.out.bl 1 rfl) (fun h0 => ?_)
  generalize w1.drew = y1 at *
  refine wpAnyH_take (i := 0) (v := .pointer (some ⟨b, 0, none⟩)) rfl (by kernel_rfl) (by kernel_rfl) (by kernel_rfl) (fun _ _ _ h => h) (.inl ⟨by rfl, fun w hw => by clear hw; go_simp⟩) h0 ?_
  try simp only [Act.put, lay_out]
  refine wpAnyH_take (i := 1) (v := .agg (wdV A)) rfl (by kernel_rfl) (by kernel_rfl) (by kernel_rfl) (fun _ _ _ h => h) (yields_load_row (by rfl) 35 _ rfl w.heap.size 35 (wdV A) _ rfl (fun w h => h) Tryd.underlying35 rfl (by kernel_rfl)) h0 ?_
  try simp only [Act.put, lay_out]
  refine wpAnyH_take (i := 2) (v := .pointer (some ⟨b, 0, none⟩)) rfl (by kernel_rfl) (by kernel_rfl) (by kernel_rfl) (fun _ _ _ h => h) (.inl ⟨by rfl, fun w hw => by clear hw; go_simp⟩) h0 ?_
  try simp only [Act.put, lay_out]
  refine wpAnyH_ready (rs := [3]) (by kernel_rfl) (by simp) (AllReadyH.cons rfl (fun K hK => ?_) AllReadyH.nil)
  rw [if_pos (by rfl)]
  go_simp
  go_at_call 40
  (with_reducible refine (HNB.out _ _ G0.out).mono ?_); rintro e y2 ⟨rfl, hb⟩
  have G1 := hid (G0.out.self hM hb)
  clear hb
  refine hK.out _ _ (G1.out.bl 1 rfl) (fun h1x => ?_)
  clear hK K
  try simp only [Act.put, lay_out]
  refine wpAnyH_ready (rs := [4]) (by kernel_rfl) (by simp) (AllReadyH.cons rfl (fun K hK => ?_) AllReadyH.nil)
  rw [if_pos (by rfl)]
  go_simp
  go_at_call 67
  (with_reducible refine (HFD.out _).mono ?_); rintro e y3 ⟨rfl, rfl⟩
  have G2 := G1
  refine hK.out _ _ (G2.out.bl 1 rfl) (fun h2x => ?_)
  clear hK K
  try simp only [Act.put, lay_out]
  refine wpAnyH_ready (rs := [5]) (by kernel_rfl) (by simp) (AllReadyH.cons rfl (fun K hK => ?_) AllReadyH.nil)
  rw [if_pos (by rfl)]
  go_simp
  go_at_call 66
  (with_reducible refine (HAN.out _ _ G2.out).mono ?_); rintro e y4 ⟨rfl, hp⟩
  have G3 := hid hp
  clear hp
  refine hK.out _ _ (G3.out.bl 1 rfl) (fun h3x => ?_)
  clear hK K
  try simp only [Act.put, lay_out]
  refine wpAnyH_ready (rs := [6]) (by kernel_rfl) (by simp) (AllReadyH.cons rfl (fun K hK => ?_) AllReadyH.nil)
  rw [if_pos (by rfl)]
  refine wp_store_row 35 _ _ rfl (w.heap.size + 1) (wdV R) rfl rfl 35 _ (G3.out.bl 0 rfl) (by kernel_rfl) rfl (by kernel_rfl) ?_
  have G4 := hid (G3.out.row hM (wdV R))
  generalize y4.setRow (w.heap.size + 1) (wdV R) = y5 at *
  refine hK.out _ _ (G4.out.bl 1 rfl) (fun h4x => ?_)
  clear hK K
  try simp only [Act.put, lay_out]
  refine wpAnyH_done (by kernel_rfl) ?_ _
  refine NoPanic.normal ?_
  clear h0 h1x h2x h3x h4x
  try simp only [Act.put, lay_out]
  go_wp2
  exact bodyPost_ret (results_cell_row (by rfl) _ _ (w.heap.size + 1) 35 (wdV R) (0, 0) _ rfl (G4.out.bl 0 rfl) Tryd.underlying35 rfl (by kernel_rfl)) rfl ⟨rfl, G4.out.fin⟩
set_option maxHeartbeats 3200000 in
theorem ffull3_any {Pm : World → Nat → Ms → (Nat → Prop) → Prop} (hM : Mach Pm) (b k : Nat) (S : Ms) (F : Nat → Prop) (A : Nat → Int) (w : World) (hm : Pm w b S F) (hp : Pv w) (hF : ¬ F gpair) (hq : Bq k S) (hk : k + 20 ≤ 100000) (hn : S.n = 3) (hA : Wb A) :
    Calls Tryd.prog 59 #[.pointer (some ⟨b, 0, none⟩), .agg (wdV A)] w fun e w' => e = .returned (.agg (wdV (anR 3 3 A S))) ∧ PmR Pm b (anS 3 3 A S) F w w' := by
  have HNB : Hid (∀ (bs : List (Nat × Obj)) (w' : World), Ow Pm F w w' b S bs → Calls Tryd.prog 40 #[.pointer (some ⟨b, 0, none⟩)] w' fun e w2 => e = .returned (.int .i64 3) ∧ Below w'.heap.size w' w2) := hid (fun bs w' h' => h'.asks (fun F' hF' => by have := hM.n b k S F' w' hF' hq (by omega); rw [hn] at this; exact this))
  have HFD : Hid (∀ w', Calls Tryd.prog 67 #[.int .i64 3] w' fun e w2 => e = .returned (.int .i64 3) ∧ w2 = w') := hid (fun w' => fdraws_any 3 w')
  have HAN : Hid (∀ (bs : List (Nat × Obj)) (w' : World), Ow Pm F w w' b S bs → Calls Tryd.prog 66 #[.pointer (some ⟨b, 0, none⟩), .agg (wdV A), .int .i64 3] w' fun e w2 => e = .returned (.agg (wdV (anR 3 3 A S))) ∧ Ow Pm F w w2 b (anS 3 3 A S) bs) := hid (fun bs w' h' => by
    exact h'.liftF (fun F2 hF2 hF3 => anew_any hM b k 3 3 S F2 A w' hF2 (hp.ow hF h') (fun e => (hF3 _ e).elim hF (fun l => by have := hp.1; omega)) hq hk hn (by decide) (by decide) hA))
  obtain ⟨w1, hw1⟩ : ∃ w1, (w.alloc (.cells (wdV A) 35)).alloc (.cells #[.int .i64 0, .int .i64 0, .int .i64 0] 35) = w1 := ⟨_, rfl⟩
  have H1 : Hid (Ow Pm F w w1 b S [(w.heap.size + 1, Obj.cells #[.int .i64 0, .int .i64 0, .int .i64 0] 35 (0, 0)), (w.heap.size, Obj.cells (wdV A) 35 (0, 0))]) := hid (by
    have := ((Ow.start hm).new hM (wdV A) 35).new hM #[.int .i64 0, .int .i64 0, .int .i64 0] 35
    rw [hw1] at this
    simp only [sz_al] at this
    exact this)
  have G0 := hid (H1.out.self hM ((Below.refl _ w1).drew))
  have HW := hid hw1
  clear hm hp hF hq hk hn hA hw1
  generalize anR 3 3 A S = R at *
  generalize anS 3 3 A S = S1 at *
  go_enter Tryd.func59, Tryd.ntmps59
  go_upto_region 1 with fail
  rw [HW.out]
  refine wp_region_noPanic ?_
  refine wp_region_held_drew (S := fun w' => w'.heap[w.heap.size]? = some (.cells (wdV A) 35 (0, 0))) (by kernel_rfl) (G0.out.bl 1 rfl) (fun h0 => ?_)
  generalize w1.drew = y1 at *
  refine wpAnyH_take (i := 0) (v := .pointer (some ⟨b, 0, none⟩)) rfl (by kernel_rfl) (by kernel_rfl) (by kernel_rfl) (fun _ _ _ h => h) (.inl ⟨by rfl, fun w hw => by clear hw; go_simp⟩) h0 ?_
  try simp only [Act.put, lay_out]
  refine wpAnyH_take (i := 1) (v := .agg (wdV A)) rfl (by kernel_rfl) (by kernel_rfl) (by kernel_rfl) (fun _ _ _ h => h) (yields_load_row (by rfl) 35 _ rfl w.heap.size 35 (wdV A) _ rfl (fun w h => h) Tryd.underlying35 rfl (by kernel_rfl)) h0 ?_
  try simp only [Act.put, lay_out]
  refine wpAnyH_take (i := 2) (v := .pointer (some ⟨b, 0, none⟩)) rfl (by kernel_rfl) (by kernel_rfl) (by kernel_rfl) (fun _ _ _ h => h) (.inl ⟨by rfl, fun w hw => by clear hw; go_simp⟩) h0 ?_
  try simp only [Act.put, lay_out]
  refine wpAnyH_ready (rs := [3]) (by kernel_rfl) (by simp) (AllReadyH.cons rfl (fun K hK => ?_) AllReadyH.nil)
  rw [if_pos (by rfl)]
  go_simp
  go_at_call 40
  (with_reducible refine (HNB.out _ _ G0.out).mono ?_); rintro e y2 ⟨rfl, hb⟩
  have G1 := hid (G0.out.self hM hb)
  clear hb
  refine hK.out _ _ (G1.out.bl 1 rfl) (fun h1x => ?_)
  clear hK K
  try simp only [Act.put, lay_out]
  refine wpAnyH_ready (rs := [4]) (by kernel_rfl) (by simp) (AllReadyH.cons rfl (fun K hK => ?_) AllReadyH.nil)
  rw [if_pos (by rfl)]
  go_simp
  go_at_call 67
  (with_reducible refine (HFD.out _).mono ?_); rintro e y3 ⟨rfl, rfl⟩
  have G2 := G1
  refine hK.out _ _ (G2.out.bl 1 rfl) (fun h2x => ?_)
  clear hK K
  try simp only [Act.put, lay_out]
  refine wpAnyH_ready (rs := [5]) (by kernel_rfl) (by simp) (AllReadyH.cons rfl (fun K hK => ?_) AllReadyH.nil)
  rw [if_pos (by rfl)]
  go_simp
  go_at_call 66
  (with_reducible refine (HAN.out _ _ G2.out).mono ?_); rintro e y4 ⟨rfl, hp⟩
  have G3 := hid hp
  clear hp
  refine hK.out _ _ (G3.out.bl 1 rfl) (fun h3x => ?_)
  clear hK K
  try simp only [Act.put, lay_out]
  refine wpAnyH_ready (rs := [6]) (by kernel_rfl) (by simp) (AllReadyH.cons rfl (fun K hK => ?_) AllReadyH.nil)
  rw [if_pos (by rfl)]
  refine wp_store_row 35 _ _ rfl (w.heap.size + 1) (wdV R) rfl rfl 35 _ (G3.out.bl 0 rfl) (by kernel_rfl) rfl (by kernel_rfl) ?_
  have G4 := hid (G3.out.row hM (wdV R))
  generalize y4.setRow (w.heap.size + 1) (wdV R) = y5 at *
  refine hK.out _ _ (G4.out.bl 1 rfl) (fun h4x => ?_)
  clear hK K
  try simp only [Act.put, lay_out]
  refine wpAnyH_done (by kernel_rfl) ?_ _
  refine NoPanic.normal ?_
  clear h0 h1x h2x h3x h4x
  try simp only [Act.put, lay_out]
  go_wp2
  exact bodyPost_ret (results_cell_row (by rfl) _ _ (w.heap.size + 1) 35 (wdV R) (0, 0) _ rfl (G4.out.bl 0 rfl) Tryd.underlying35 rfl (by kernel_rfl)) rfl ⟨rfl, G4.out.fin⟩
theorem wdV_eq {A B : Nat → Int} (h : ∀ i, i < 3 → A i = B i) : wdV A = wdV B := by
  show #[_, _, _] = #[_, _, _]
  rw [h 0 (by omega), h 1 (by omega), h 2 (by omega)]
theorem ffull_any {Pm : World → Nat → Ms → (Nat → Prop) → Prop} (hM : Mach Pm) (b k : Nat) (S : Ms) (F : Nat → Prop) (A : Nat → Int) (w : World) (hm : Pm w b S F) (hp : Pv w) (hF : ¬ F gpair) (hq : Bq k S) (hk : k + 20 ≤ 100000) (hn : S.n = 2 ∨ S.n = 3) (hA : Wb A) :
    Calls Tryd.prog 59 #[.pointer (some ⟨b, 0, none⟩), .agg (wdV A)] w fun e w' => e = .returned (.agg (wdV (frR S false A))) ∧ PmR Pm b (frS S false A) F w w' := by
  obtain ⟨e1, e2⟩ := an_fr (sm := false) (A := A) hn
  rw [← e1, ← wdV_eq e2]
  rcases hn with e | e
  · rw [show S.sh = 2 by unfold Ms.sh; omega, show frC S.n false = 1 by unfold frC; rw [if_neg (by omega)]]
    exact ffull2_any hM b k S F A w hm hp hF hq hk e hA
  · rw [show S.sh = 3 by unfold Ms.sh; omega, show frC S.n false = 3 by unfold frC; rw [if_pos e]; rfl]
    exact ffull3_any hM b k S F A w hm hp hF hq hk e hA
end Go.Proofs.YtpjgpiieminaoaaDoor

/- Two machines in one world, and boxes of any kind beside them; the document's machine alone, and boxes. -/
namespace Go.Proofs.YtpjgpiieminaoaaDoor
open Go.RowKit
set_option maxRecDepth 100000
/-- Both machines, and boxes (new since w0) beside them; X0: what is left alone. -/
structure Gy (Pm : World → Nat → Ms → (Nat → Prop) → Prop) (lo : Nat) (X0 : Nat → Prop) (W w0 wx : World) (p b : Nat) (S1 S2 : Ms) (bs : List (Nat × Obj)) : Prop where
  z : Bz Pm lo (fun k => X0 k ∨ ∃ q ∈ bs, q.1 = k) W wx p b S1 S2
  bx : ∀ q ∈ bs, w0.heap.size ≤ q.1 ∧ wx.heap[q.1]? = some q.2
  st : ∀ k, X0 k → k < w0.heap.size ∧ wx.heap[k]? = w0.heap[k]?
  lo : lo ≤ w0.heap.size
  le : w0.heap.size ≤ wx.heap.size
  nd : (bs.map (·.1)).Nodup
section
variable {Pm : World → Nat → Ms → (Nat → Prop) → Prop} {lo : Nat} {X0 : Nat → Prop} {W w0 wx wy : World} {p b : Nat} {S1 S2 S1' S2' : Ms} {bs : List (Nat × Obj)}
theorem Gy.start (h : Bz Pm lo X0 W w0 p b S1 S2) : Gy Pm lo X0 W w0 w0 p b S1 S2 [] := by
  have hX : ∀ k, X0 k → k < w0.heap.size := by
    obtain ⟨F, G, ov, bv, vv, tv, h1, h2, h3, h4, h5, h6, h7⟩ := h
    exact fun k hk => (h4 k hk).1
  refine ⟨h.less (fun k hk => ?_), fun q hq => (List.not_mem_nil hq).elim, fun k hk => ⟨hX k hk, rfl⟩, h.los, Nat.le_refl _, by simp⟩
  rcases hk with e | ⟨q, hq, _⟩
  · exact e
  · exact (List.not_mem_nil hq).elim
theorem Gy.lt (h : Gy Pm lo X0 W w0 wx p b S1 S2 bs) {q : Nat × Obj} (hq : q ∈ bs) : q.1 < wx.heap.size := (Array.getElem?_eq_some_iff.1 (h.bx q hq).2).1
theorem Gy.self (hM : Mach Pm) (h : Gy Pm lo X0 W w0 wx p b S1 S2 bs) (hb : Below wx.heap.size wx wy) : Gy Pm lo X0 W w0 wy p b S1 S2 bs :=
  ⟨h.z.self hM hb, fun q hq => ⟨(h.bx q hq).1, (hb.block _ (h.lt hq)).trans (h.bx q hq).2⟩, fun k hk => ⟨(h.st k hk).1, (hb.block k (Nat.lt_of_lt_of_le (h.st k hk).1 h.le)).trans (h.st k hk).2⟩, h.lo, Nat.le_trans h.le hb.size, h.nd⟩
theorem Gy.new (hM : Mach Pm) (h : Gy Pm lo X0 W w0 wx p b S1 S2 bs) (cs : Array Value) (T : TypeId) : Gy Pm lo X0 W w0 (wx.alloc (.cells cs T)) p b S1 S2 ((wx.heap.size, .cells cs T (0, 0)) :: bs) := by
  have hb := (Below.refl wx.heap.size wx).alloc (Nat.le_refl _) (.cells cs T)
  have h' := h.self hM hb
  refine ⟨(h.z.more hM hb).less (fun k hk => ?_), fun q hq => ?_, h'.st, h.lo, h'.le, ?_⟩
  · rcases hk with e | ⟨q, hq, rfl⟩
    · exact .inl (.inl e)
    · rcases List.mem_cons.1 hq with rfl | hq
      · exact .inr ⟨Nat.le_refl _, by simp⟩
      · exact .inl (.inr ⟨q, hq, rfl⟩)
  · rcases List.mem_cons.1 hq with rfl | hq
    · exact ⟨h.le, heap_alloc_new _ _⟩
    · exact h'.bx q hq
  · rw [List.map_cons, List.nodup_cons]
    refine ⟨fun e => ?_, h.nd⟩
    obtain ⟨q, hq, e⟩ := List.mem_map.1 e
    have := h.lt hq
    have e' : q.1 = wx.heap.size := e
    omega
theorem Gy.sub {bs' : List (Nat × Obj)} (h : Gy Pm lo X0 W w0 wx p b S1 S2 bs) (hs : ∀ q ∈ bs', q ∈ bs) (hn : (bs'.map (·.1)).Nodup) : Gy Pm lo X0 W w0 wx p b S1 S2 bs' :=
  ⟨h.z.less (fun _ hk => hk.imp id (fun ⟨q, hq, e⟩ => ⟨q, hs q hq, e⟩)), fun q hq => h.bx q (hs q hq), h.st, h.lo, h.le, hn⟩
theorem Gy.drop {q : Nat × Obj} (h : Gy Pm lo X0 W w0 wx p b S1 S2 (q :: bs)) : Gy Pm lo X0 W w0 wx p b S1 S2 bs := h.sub (fun _ hz => List.mem_cons_of_mem _ hz) (by have := h.nd; rw [List.map_cons, List.nodup_cons] at this; exact this.2)
theorem Gy.swap {q r : Nat × Obj} (h : Gy Pm lo X0 W w0 wx p b S1 S2 (q :: r :: bs)) : Gy Pm lo X0 W w0 wx p b S1 S2 (r :: q :: bs) := h.sub (fun z hz => by simp at hz ⊢; rcases hz with e | e | e <;> simp [e]) (by
  have := h.nd
  simp only [List.map_cons, List.nodup_cons, List.mem_cons, not_or] at this ⊢
  exact ⟨⟨fun e => this.1.1 e.symm, this.2.1⟩, this.1.2, this.2.2⟩)
/-- The first box is turned. -/
theorem Gy.turn (hM : Mach Pm) {n : Nat} {o o' : Obj} (h : Gy Pm lo X0 W w0 wx p b S1 S2 ((n, o) :: bs)) (hn : wy.heap[n]? = some o') (ho : ∀ k, k ≠ n → wy.heap[k]? = wx.heap[k]?) (hs : wx.heap.size ≤ wy.heap.size) (hos : wy.os = wx.os ∧ wy.tape = wx.tape ∧ wy.output = wx.output) : Gy Pm lo X0 W w0 wy p b S1 S2 ((n, o') :: bs) := by
  have hb := h.bx _ (List.mem_cons_self ..)
  have hnd := h.nd
  rw [List.map_cons, List.nodup_cons] at hnd
  have hT : Tch (fun k => k = n) wx wy := ⟨hos.1, hos.2.1, hos.2.2, hs, fun k _ hk => ho k hk⟩
  refine ⟨(h.z.apart hM hT (fun k hk => ?_)).less (fun k hk => ?_), fun q hq => ?_, fun k hk => ⟨(h.st k hk).1, (ho k (by have := (h.st k hk).1; have e : w0.heap.size ≤ n := hb.1; omega)).trans (h.st k hk).2⟩, h.lo, Nat.le_trans h.le hs, ?_⟩
  · subst hk
    exact ⟨.inr ⟨(k, o), List.mem_cons_self .., rfl⟩, Nat.le_trans h.lo hb.1⟩
  · rcases hk with e | ⟨q, hq, rfl⟩
    · exact .inl e
    · rcases List.mem_cons.1 hq with rfl | hq
      · exact .inr ⟨(n, o), List.mem_cons_self .., rfl⟩
      · exact .inr ⟨q, List.mem_cons_of_mem _ hq, rfl⟩
  · rcases List.mem_cons.1 hq with rfl | hq
    · exact ⟨hb.1, hn⟩
    · exact ⟨(h.bx q (List.mem_cons_of_mem _ hq)).1, (ho q.1 (fun e => hnd.1 (List.mem_map.2 ⟨q, hq, e⟩))).trans (h.bx q (List.mem_cons_of_mem _ hq)).2⟩
  · rw [List.map_cons, List.nodup_cons]; exact hnd
theorem Gy.row (hM : Mach Pm) {n : Nat} {cs : Array Value} {T : TypeId} (h : Gy Pm lo X0 W w0 wx p b S1 S2 ((n, .cells cs T (0, 0)) :: bs)) (cs' : Array Value) : Gy Pm lo X0 W w0 (wx.setRow n cs') p b S1 S2 ((n, .cells cs' T (0, 0)) :: bs) :=
  h.turn hM (setRow_heap wx n cs cs' T _ (h.bx _ (List.mem_cons_self ..)).2) (fun k hk => setRow_other wx n k cs' hk) (by simp [World.setRow]) ⟨rfl, rfl, rfl⟩
theorem Gy.cell (hM : Mach Pm) {n : Nat} {cs : Array Value} {T : TypeId} (h : Gy Pm lo X0 W w0 wx p b S1 S2 ((n, .cells cs T (0, 0)) :: bs)) (i : Nat) (v : Value) : Gy Pm lo X0 W w0 (wx.setCell ⟨n, i, none⟩ v) p b S1 S2 ((n, .cells (cs.setIfInBounds i v) T (0, 0)) :: bs) :=
  h.turn hM (heap_setCell_same wx n i cs T v (h.bx _ (List.mem_cons_self ..)).2) (fun k hk => heap_setCell_other wx ⟨n, i, none⟩ k v hk) (by simp [World.setCell]) ⟨rfl, rfl, rfl⟩
theorem Gy.bl (h : Gy Pm lo X0 W w0 wx p b S1 S2 bs) (i : Nat) {n : Nat} {u : Obj} (hi : bs[i]? = some (n, u)) : wx.heap[n]? = some u := (h.bx (n, u) (List.mem_of_getElem? hi)).2
theorem Gy.mem (h : Gy Pm lo X0 W w0 wx p b S1 S2 bs) {n : Nat} {u : Obj} (hq : (n, u) ∈ bs) : wx.heap[n]? = some u := (h.bx _ hq).2
theorem Bz.base {X : Nat → Prop} (h : Bz Pm lo X W wx p b S1 S2) : Bz Pm lo X wx wx p b S1 S2 := by
  obtain ⟨F, G, ov, bv, vv, tv, h1, h2, h3, h4, h5, h6, h7⟩ := h
  exact ⟨F, G, ov, bv, vv, tv, h1, h2, h3, h4, h5, Below.refl _ _, h7⟩
theorem Bz.up {X : Nat → Prop} (h : Bz Pm lo X wx wy p b S1 S2) (hb : Below lo W wx) : Bz Pm lo X W wy p b S1 S2 := by
  obtain ⟨F, G, ov, bv, vv, tv, h1, h2, h3, h4, h5, h6, h7⟩ := h
  exact ⟨F, G, ov, bv, vv, tv, h1, h2, h3, h4, h5, hb.trans h6, h7⟩
/-- A call of either machine's. -/
theorem Gy.lift (h : Gy Pm lo X0 W w0 wx p b S1 S2 bs) {p' : Nat} {f : FuncId} {args : Array Value} {E : Ending → Prop} (hc : ∀ X W, Bz Pm lo X W wx p b S1 S2 → Calls Tryd.prog f args wx fun e w' => E e ∧ Bz Pm lo X W w' p' b S1' S2' ∧ ∀ k, X k → w'.heap[k]? = wx.heap[k]?) :
    Calls Tryd.prog f args wx fun e w' => E e ∧ Gy Pm lo X0 W w0 w' p' b S1' S2' bs :=
  (hc _ wx h.z.base).mono fun _ _ hr => ⟨hr.1, hr.2.1.up h.z.low, fun q hq => ⟨(h.bx q hq).1, (hr.2.2 _ (.inr ⟨q, hq, rfl⟩)).trans (h.bx q hq).2⟩, fun k hk => ⟨(h.st k hk).1, (hr.2.2 k (.inl hk)).trans (h.st k hk).2⟩, h.lo, Nat.le_trans h.le hr.2.1.low.size, h.nd⟩
/-- A call that makes memory alone. -/
theorem Gy.asks (hM : Mach Pm) (h : Gy Pm lo X0 W w0 wx p b S1 S2 bs) {f : FuncId} {args : Array Value} {E : Ending → World → Prop} (hc : ∀ X W, Bz Pm lo X W wx p b S1 S2 → Calls Tryd.prog f args wx fun e w' => E e w' ∧ Below wx.heap.size wx w') :
    Calls Tryd.prog f args wx fun e w' => E e w' ∧ Gy Pm lo X0 W w0 w' p b S1 S2 bs :=
  (hc _ wx h.z.base).mono fun _ _ hr => ⟨hr.1, h.self hM hr.2⟩
theorem Gy.fin (h : Gy Pm lo X0 W w0 wx p b S1 S2 bs) : Bz Pm lo X0 W wx p b S1 S2 ∧ ∀ k, X0 k → wx.heap[k]? = w0.heap[k]? := ⟨h.z.less (fun _ hk => .inl hk), fun k hk => (h.st k hk).2⟩
end
end Go.Proofs.YtpjgpiieminaoaaDoor

/- The document's machine alone, and boxes. -/
namespace Go.Proofs.YtpjgpiieminaoaaDoor
open Go.RowKit
set_option maxRecDepth 100000
/-- From w0, with the blocks F0, the document's machine has come to S at w; bs: boxes that were made since. -/
structure Od (lg : LoG) (F0 : Nat → Prop) (w0 w : World) (b : Nat) (S : Ms) (bs : List (Nat × Obj)) : Prop where
  ex : ∃ ov bv vv tv, Dm lg w b S ov bv vv tv ∧ (∀ k, Ft b ov bv vv k → F0 k ∨ w0.heap.size ≤ k) ∧ ∀ q ∈ bs, ¬ Ft b ov bv vv q.1
  tch : Tch F0 w0 w
  g : ∀ k, lg.G k → k < w0.heap.size
  bx : ∀ q ∈ bs, w0.heap.size ≤ q.1 ∧ w.heap[q.1]? = some q.2
  nd : (bs.map (·.1)).Nodup
section
variable {lg : LoG} {F0 : Nat → Prop} {w0 w w' : World} {b : Nat} {S S' : Ms} {bs : List (Nat × Obj)}
theorem Od.start {ov bv vv tv : Value} (h : Dm lg w b S ov bv vv tv) (hg : ∀ k, lg.G k → k < w.heap.size) : Od lg (Ft b ov bv vv) w w b S [] :=
  ⟨⟨ov, bv, vv, tv, h, fun _ q => .inl q, fun q hq => (List.not_mem_nil hq).elim⟩, Tch.refl _ _, hg, fun q hq => (List.not_mem_nil hq).elim, by simp⟩
theorem Od.lt (h : Od lg F0 w0 w b S bs) {q : Nat × Obj} (hq : q ∈ bs) : q.1 < w.heap.size := (Array.getElem?_eq_some_iff.1 (h.bx q hq).2).1
theorem Od.self (h : Od lg F0 w0 w b S bs) (hb : Below w.heap.size w w') : Od lg F0 w0 w' b S bs := by
  obtain ⟨ov, bv, vv, tv, h1, h2, h3⟩ := h.ex
  exact ⟨⟨ov, bv, vv, tv, h1.self hb, h2, h3⟩, h.tch.trans (Tch.of_below (F := F0) hb) (fun _ _ f => f), h.g, fun q hq => ⟨(h.bx q hq).1, (hb.block _ (h.lt hq)).trans (h.bx q hq).2⟩, h.nd⟩
theorem Od.new (h : Od lg F0 w0 w b S bs) (cs : Array Value) (T : TypeId) : Od lg F0 w0 (w.alloc (.cells cs T)) b S ((w.heap.size, .cells cs T (0, 0)) :: bs) := by
  have hb := (Below.refl w.heap.size w).alloc (Nat.le_refl _) (.cells cs T)
  have h' := h.self hb
  obtain ⟨ov, bv, vv, tv, h1, h2, h3⟩ := h.ex
  refine ⟨⟨ov, bv, vv, tv, h1.self hb, h2, fun q hq => ?_⟩, h'.tch, h.g, fun q hq => ?_, ?_⟩
  · rcases List.mem_cons.1 hq with rfl | hq
    · exact fun e => by have := h1.ftlt e; omega
    · exact h3 q hq
  · rcases List.mem_cons.1 hq with rfl | hq
    · exact ⟨h.tch.size, heap_alloc_new _ _⟩
    · exact h'.bx q hq
  · rw [List.map_cons, List.nodup_cons]
    refine ⟨fun e => ?_, h.nd⟩
    obtain ⟨q, hq, e⟩ := List.mem_map.1 e
    have := h.lt hq
    have e' : q.1 = w.heap.size := e
    omega
theorem Od.sub {bs' : List (Nat × Obj)} (h : Od lg F0 w0 w b S bs) (hs : ∀ q ∈ bs', q ∈ bs) (hn : (bs'.map (·.1)).Nodup) : Od lg F0 w0 w b S bs' := by
  obtain ⟨ov, bv, vv, tv, h1, h2, h3⟩ := h.ex
  exact ⟨⟨ov, bv, vv, tv, h1, h2, fun q hq => h3 q (hs q hq)⟩, h.tch, h.g, fun q hq => h.bx q (hs q hq), hn⟩
theorem Od.drop {q : Nat × Obj} (h : Od lg F0 w0 w b S (q :: bs)) : Od lg F0 w0 w b S bs := h.sub (fun _ hz => List.mem_cons_of_mem _ hz) (by have := h.nd; rw [List.map_cons, List.nodup_cons] at this; exact this.2)
theorem Od.swap {q r : Nat × Obj} (h : Od lg F0 w0 w b S (q :: r :: bs)) : Od lg F0 w0 w b S (r :: q :: bs) := h.sub (fun z hz => by simp at hz ⊢; rcases hz with e | e | e <;> simp [e]) (by
  have := h.nd
  simp only [List.map_cons, List.nodup_cons, List.mem_cons, not_or] at this ⊢
  exact ⟨⟨fun e => this.1.1 e.symm, this.2.1⟩, this.1.2, this.2.2⟩)
/-- The first box is turned. -/
theorem Od.turn {n : Nat} {o o' : Obj} (h : Od lg F0 w0 w b S ((n, o) :: bs)) (hn : w'.heap[n]? = some o') (ho : ∀ k, k ≠ n → w'.heap[k]? = w.heap[k]?) (hs : w.heap.size ≤ w'.heap.size) (hos : w'.os = w.os ∧ w'.tape = w.tape ∧ w'.output = w.output) : Od lg F0 w0 w' b S ((n, o') :: bs) := by
  have hb := h.bx _ (List.mem_cons_self ..)
  have hnd := h.nd
  rw [List.map_cons, List.nodup_cons] at hnd
  obtain ⟨ov, bv, vv, tv, h1, h2, h3⟩ := h.ex
  have hn0 : w0.heap.size ≤ n := hb.1
  have hne : ∀ k, Ft b ov bv vv k → k ≠ n := fun k hk e => h3 _ (List.mem_cons_self ..) (by show Ft b ov bv vv n; rw [← e]; exact hk)
  refine ⟨⟨ov, bv, vv, tv, h1.stays hs (fun k hk => ho k (hne k hk)) (fun k hk _ => ho k (by have := h.g k hk; omega)), h2, fun q hq => ?_⟩, ?_, h.g, fun q hq => ?_, ?_⟩
  · rcases List.mem_cons.1 hq with rfl | hq
    · exact h3 (n, o) (List.mem_cons_self ..)
    · exact h3 q (List.mem_cons_of_mem _ hq)
  · exact h.tch.trans ⟨hos.1, hos.2.1, hos.2.2, hs, fun k hk hF => ho k (fun e => hF (by show n = k; exact e.symm))⟩ (G := fun k => n = k) (fun j hj e => by have e' : n = j := e; omega)
  · rcases List.mem_cons.1 hq with rfl | hq
    · exact ⟨hb.1, hn⟩
    · exact ⟨(h.bx q (List.mem_cons_of_mem _ hq)).1, (ho q.1 (fun e => hnd.1 (List.mem_map.2 ⟨q, hq, e⟩))).trans (h.bx q (List.mem_cons_of_mem _ hq)).2⟩
  · rw [List.map_cons, List.nodup_cons]; exact hnd
theorem Od.row {n : Nat} {cs : Array Value} {T : TypeId} (h : Od lg F0 w0 w b S ((n, .cells cs T (0, 0)) :: bs)) (cs' : Array Value) : Od lg F0 w0 (w.setRow n cs') b S ((n, .cells cs' T (0, 0)) :: bs) :=
  h.turn (setRow_heap w n cs cs' T _ (h.bx _ (List.mem_cons_self ..)).2) (fun k hk => setRow_other w n k cs' hk) (by simp [World.setRow]) ⟨rfl, rfl, rfl⟩
theorem Od.cell {n : Nat} {cs : Array Value} {T : TypeId} (h : Od lg F0 w0 w b S ((n, .cells cs T (0, 0)) :: bs)) (i : Nat) (v : Value) : Od lg F0 w0 (w.setCell ⟨n, i, none⟩ v) b S ((n, .cells (cs.setIfInBounds i v) T (0, 0)) :: bs) :=
  h.turn (heap_setCell_same w n i cs T v (h.bx _ (List.mem_cons_self ..)).2) (fun k hk => heap_setCell_other w ⟨n, i, none⟩ k v hk) (by simp [World.setCell]) ⟨rfl, rfl, rfl⟩
theorem Od.bl (h : Od lg F0 w0 w b S bs) (i : Nat) {n : Nat} {u : Obj} (hi : bs[i]? = some (n, u)) : w.heap[n]? = some u := (h.bx (n, u) (List.mem_of_getElem? hi)).2
theorem Od.mem (h : Od lg F0 w0 w b S bs) {n : Nat} {u : Obj} (hq : (n, u) ∈ bs) : w.heap[n]? = some u := (h.bx _ hq).2
/-- The shares' number. -/
theorem Od.n (h : Od lg F0 w0 w b S bs) : w.cell? ⟨b, 0, none⟩ = some (.int .i64 S.n) := by
  obtain ⟨ov, bv, vv, tv, h1, _⟩ := h.ex
  exact h1.c_n
/-- A method's contract. -/
theorem Od.lift (h : Od lg F0 w0 w b S bs) {f : FuncId} {args : Array Value} {E : Ending → Prop} (hc : ∀ ov bv vv tv, Dm lg w b S ov bv vv tv → Calls Tryd.prog f args w fun e w' => E e ∧ DmR lg b ov bv vv S' w w') : Calls Tryd.prog f args w fun e w' => E e ∧ Od lg F0 w0 w' b S' bs := by
  obtain ⟨ov, bv, vv, tv, h1, h2, h3⟩ := h.ex
  refine (hc ov bv vv tv h1).mono fun e w' hr => ⟨hr.1, ?_⟩
  obtain ⟨ov', bv', vv', tv', g1, g2, g3⟩ := hr.2
  refine ⟨⟨ov', bv', vv', tv', g1, fun k hk => ?_, fun q hq e => ?_⟩, h.tch.trans g2 (fun j hj f => (h2 j f).resolve_right (by omega)), h.g, fun q hq => ⟨(h.bx q hq).1, (g2.block q.1 (h.lt hq) (h3 q hq)).trans (h.bx q hq).2⟩, h.nd⟩
  · rcases g3 k hk with f | f
    · exact h2 k f
    · exact .inr (Nat.le_trans h.tch.size f)
  · rcases g3 _ e with f | f
    · exact h3 q hq f
    · have := h.lt hq; omega
theorem Od.fin {ov bv vv : Value} (h : Od lg (Ft b ov bv vv) w0 w b S bs) : DmR lg b ov bv vv S w0 w := by
  obtain ⟨ov', bv', vv', tv', h1, h2, _⟩ := h.ex
  exact ⟨ov', bv', vv', tv', h1, h.tch, h2⟩
end
end Go.Proofs.YtpjgpiieminaoaaDoor

/- Share: the program's functions of words, over any machine: the functions that are handed on. -/
namespace Go.Proofs.YtpjgpiieminaoaaDoor
open Go.RowKit
set_option maxRecDepth 100000
theorem Ow.mem {Pm : World → Nat → Ms → (Nat → Prop) → Prop} {F0 : Nat → Prop} {w0 w : World} {b : Nat} {S : Ms} {bs : List (Nat × Obj)} (h : Ow Pm F0 w0 w b S bs) {n : Nat} {u : Obj} (hq : (n, u) ∈ bs) : w.heap[n]? = some u := (h.bx _ hq).2
theorem clo_enc0 {Pm : World → Nat → Ms → (Nat → Prop) → Prop} (hM : Mach Pm) {F0 : Nat → Prop} {w0 w : World} {b : Nat} {S : Ms} {bs : List (Nat × Obj)} (p1 : Nat) (h : Ow Pm F0 w0 w b S bs) :
    Calls Tryd.prog 21 #[.int .i64 0, .pointer (some ⟨p1, 0, none⟩)] w fun e w2 => e = .returned (.int .i64 (-1)) ∧ Ow Pm F0 w0 w2 b S bs := by
  have HP := hid (h.self hM (Below.refl _ w))
  clear h
  go_enter Tryd.func21, Tryd.ntmps21
  go_wp2
  go_ret
  exact ⟨rfl, HP.out⟩
set_option maxHeartbeats 1600000 in
theorem clo_enc {Pm : World → Nat → Ms → (Nat → Prop) → Prop} (hM : Mach Pm) {F0 : Nat → Prop} {w0 w : World} {b k : Nat} {S : Ms} {bs : List (Nat × Obj)} (p1 j : Nat) (h : Ow Pm F0 w0 w b S bs) (h1 : (p1, Obj.cells #[.pointer (some ⟨b, 0, none⟩)] 25 (0, 0)) ∈ bs) (hq : Bq k S) (hk : k ≤ 1000000) (hj : j ≤ 100) (h0 : 0 < j) :
    Calls Tryd.prog 21 #[.int .i64 (j : Int), .pointer (some ⟨p1, 0, none⟩)] w fun e w2 => e = .returned (.int .i64 (S.doR (opRand j))) ∧ Ow Pm F0 w0 w2 b (S.doS (opRand j) 0) bs := by
  have c1 := row_c (i := 0) (u := .pointer (some ⟨b, 0, none⟩)) (h.mem h1) rfl
  have HC : Hid (Calls Tryd.prog 22 #[.pointer (some ⟨b, 0, none⟩), .int .i64 (j : Int)] w fun e w2 => e = .returned (.int .i64 (S.doR (opRand j))) ∧ Ow Pm F0 w0 w2 b (S.doS (opRand j) 0) bs) := hid (h.lift hM (fun F hF => hM.rand b k S F (j : Int) w hF hq hk (opRand_wf hj)))
  have q0 : ((j : Int) == 0) = false := by simp; omega
  clear h h1 hq hk hj
  generalize S.doR (opRand j) = r at *
  generalize S.doS (opRand j) 0 = S1 at *
  go_enter Tryd.func21, Tryd.ntmps21
  go_wp2_with (go_at_call 22; (with_reducible refine HC.out.mono ?_); rintro e w2 ⟨rfl, hp⟩; have HP := hid hp; clear hp c1)
  go_ret
  exact ⟨rfl, HP.out⟩
set_option maxHeartbeats 1600000 in
theorem clo_pub {Pm : World → Nat → Ms → (Nat → Prop) → Prop} (hM : Mach Pm) {F0 : Nat → Prop} {w0 w : World} {b k : Nat} {S : Ms} {bs : List (Nat × Obj)} (p1 p2 p3 c j : Nat) (h : Ow Pm F0 w0 w b S bs) (h1 : (p1, Obj.cells #[.func (.func 26) #[.pointer (some ⟨b, 0, none⟩)] #[]] 67 (0, 0)) ∈ bs) (h2 : (p2, Obj.cells #[.int .u64 (c : Int)] 22 (0, 0)) ∈ bs) (h3 : (p3, Obj.cells #[.pointer (some ⟨b, 0, none⟩)] 25 (0, 0)) ∈ bs) (hq : Bq k S) (hk : k ≤ 1000000) (hc : c < 2 ^ 64) (hj : j ≤ 100) :
    Calls Tryd.prog 44 #[.int .i64 (j : Int), .pointer (some ⟨p1, 0, none⟩), .pointer (some ⟨p2, 0, none⟩), .pointer (some ⟨p3, 0, none⟩)] w fun e w2 => e = .returned (.int .i64 (S.doR (opCst 3 c j))) ∧ Ow Pm F0 w0 w2 b (S.doS (opCst 3 c j) 0) bs := by
  have c1 := row_c (i := 0) (u := .func (.func 26) #[.pointer (some ⟨b, 0, none⟩)] #[]) (h.mem h1) rfl
  have c2 := row_c (i := 0) (u := .int .u64 (c : Int)) (h.mem h2) rfl
  have c3 := row_c (i := 0) (u := .pointer (some ⟨b, 0, none⟩)) (h.mem h3) rfl
  by_cases h0 : 0 < j
  · have e : opCst 3 c j = ⟨3, (j : Int), -1, -1, -1, 0⟩ := by unfold opCst; rw [if_neg (by omega)]
    have hwf : opwf ⟨3, (j : Int), -1, -1, -1, 0⟩ := ⟨i64c 3 (by decide) (by decide), by show _ ≤ (j : Int) ∧ (j : Int) ≤ _; omega, I64.m1, I64.m1, I64.m1, by show 0 < _; omega⟩
    rw [e]
    have HC : Hid (Calls Tryd.prog 26 #[.pointer (some ⟨b, 0, none⟩), .int .i64 (j : Int), .int .u64 0] w fun e w2 => e = .returned (.int .i64 (S.doR ⟨3, (j : Int), -1, -1, -1, 0⟩)) ∧ Ow Pm F0 w0 w2 b (S.doS ⟨3, (j : Int), -1, -1, -1, 0⟩ 0) bs) := hid (h.lift hM (fun F hF => hM.const_ b k S F (j : Int) 0 w hF hq hk hwf))
    have q0 : ((j : Int) == 0) = false := by simp; omega
    clear h h1 h2 h3 hq hk hc hj e hwf
    generalize S.doR ⟨3, (j : Int), -1, -1, -1, 0⟩ = r at *
    generalize S.doS ⟨3, (j : Int), -1, -1, -1, 0⟩ 0 = S1 at *
    go_enter Tryd.func44, Tryd.ntmps44
    go_wp2_with (go_at_call 26; (with_reducible refine HC.out.mono ?_); rintro e w2 ⟨rfl, hp⟩; have HP := hid hp; clear hp c1 c2 c3)
    go_ret
    exact ⟨rfl, HP.out⟩
  · obtain rfl : j = 0 := by omega
    have e : opCst 3 c 0 = ⟨3, 0, -1, -1, -1, c⟩ := if_pos rfl
    have hwf : opwf ⟨3, 0, -1, -1, -1, c⟩ := ⟨i64c 3 (by decide) (by decide), i64c 0 (by decide) (by decide), I64.m1, I64.m1, I64.m1, by show c < _; omega⟩
    rw [e]
    have HC : Hid (Calls Tryd.prog 26 #[.pointer (some ⟨b, 0, none⟩), .int .i64 0, .int .u64 (c : Int)] w fun e w2 => e = .returned (.int .i64 (S.doR ⟨3, 0, -1, -1, -1, c⟩)) ∧ Ow Pm F0 w0 w2 b (S.doS ⟨3, 0, -1, -1, -1, c⟩ 0) bs) := hid (h.lift hM (fun F hF => hM.const_ b k S F 0 c w hF hq hk hwf))
    clear h h1 h2 h3 hq hk hc hj h0 e hwf
    generalize S.doR ⟨3, 0, -1, -1, -1, c⟩ = r at *
    generalize S.doS ⟨3, 0, -1, -1, -1, c⟩ 0 = S1 at *
    go_enter Tryd.func44, Tryd.ntmps44
    go_wp2_with (go_at_call 26; (with_reducible refine HC.out.mono ?_); rintro e w2 ⟨rfl, hp⟩; have HP := hid hp; clear hp c1 c2 c3)
    go_ret
    exact ⟨rfl, HP.out⟩
set_option maxHeartbeats 1600000 in
theorem clo_one {Pm : World → Nat → Ms → (Nat → Prop) → Prop} (hM : Mach Pm) {F0 : Nat → Prop} {w0 w : World} {b k : Nat} {S : Ms} {bs : List (Nat × Obj)} (p1 p2 p3 p4 j : Nat) (K : Int) (A : Nat → Int) (c : Nat) (h : Ow Pm F0 w0 w b S bs) (h1 : (p1, Obj.cells #[.pointer (some ⟨b, 0, none⟩)] 25 (0, 0)) ∈ bs) (h2 : (p2, Obj.cells #[.int .i64 K] 3 (0, 0)) ∈ bs) (h3 : (p3, Obj.cells (wdV A) 35 (0, 0)) ∈ bs) (h4 : (p4, Obj.cells #[.int .u64 (c : Int)] 22 (0, 0)) ∈ bs) (hq : Bq k S) (hk : k ≤ 1000000) (hK : I64 K) (hA : Wb A) (hc : c < 2 ^ 64) (hj : j < 3) :
    Calls Tryd.prog 61 #[.int .i64 (j : Int), .pointer (some ⟨p1, 0, none⟩), .pointer (some ⟨p2, 0, none⟩), .pointer (some ⟨p3, 0, none⟩), .pointer (some ⟨p4, 0, none⟩)] w fun e w2 => e = .returned (.int .i64 (S.doR (opOne K A c j))) ∧ Ow Pm F0 w0 w2 b (S.doS (opOne K A c j) 0) bs := by
  have HC : Hid (∀ w', Ow Pm F0 w0 w' b S bs → Calls Tryd.prog 49 #[.pointer (some ⟨b, 0, none⟩), .int .i64 K, .int .i64 (j : Int), .int .i64 (A j), .int .u64 (c : Int)] w' fun e w2 => e = .returned (.int .i64 (S.doR (opOne K A c j))) ∧ Ow Pm F0 w0 w2 b (S.doS (opOne K A c j) 0) bs) := hid (fun w' h' => h'.lift hM (fun F hF => hM.one b k S F K (j : Int) (A j) c w' hF hq hk (opOne_wf hK hA hc (by omega))))
  have M1 := hid h1
  have M2 := hid h2
  have M3 := hid h3
  have M4 := hid h4
  have HJ := hid hj
  have j0 : (0 : Int) ≤ (j : Int) := by omega
  have j1 : (j : Int) < 3 := by omega
  have G0 := hid (h.self hM ((Below.refl _ w).drew))
  generalize S.doR (opOne K A c j) = r at *
  generalize S.doS (opOne K A c j) 0 = S1 at *
  clear h h1 h2 h3 h4 hq hk hA hc hK hj
  go_enter Tryd.func61, Tryd.ntmps61
  go_wp2_with fail
  refine wp_region_noPanic ?_
  refine wp_region_held_drew (S := fun w' => w'.cell? ⟨p1, 0, none⟩ = some (.pointer (some ⟨b, 0, none⟩)) ∧ w'.cell? ⟨p2, 0, none⟩ = some (.int .i64 K) ∧ w'.cell? ⟨p3, j, none⟩ = some (.int .i64 (A j)) ∧ w'.cell? ⟨p4, 0, none⟩ = some (.int .u64 (c : Int))) (by kernel_rfl) (⟨row_c (i := 0) (G0.out.mem M1.out) rfl, row_c (i := 0) (G0.out.mem M2.out) rfl, row_c (i := j) (G0.out.mem M3.out) (wdV_at A j HJ.out), row_c (i := 0) (G0.out.mem M4.out) rfl⟩) (fun h0 => ?_)
  generalize w.drew = y1 at *
  refine wpAnyH_take (i := 0) (v := .pointer (some ⟨b, 0, none⟩)) rfl (by kernel_rfl) (by kernel_rfl) (by kernel_rfl) (fun _ _ _ h => h) (.inl ⟨by rfl, fun w' hw => by have hc := hw.1; clear hw; go_simp⟩) h0 ?_
  try simp only [Act.put, lay_out]
  refine wpAnyH_take (i := 1) (v := .int .i64 K) rfl (by kernel_rfl) (by kernel_rfl) (by kernel_rfl) (fun _ _ _ h => h) (.inl ⟨by rfl, fun w' hw => by have hc := hw.2.1; clear hw; go_simp⟩) h0 ?_
  try simp only [Act.put, lay_out]
  refine wpAnyH_take (i := 2) (v := .int .i64 (j : Int)) rfl (by kernel_rfl) (by kernel_rfl) (by kernel_rfl) (fun _ _ _ h => h) (.inl ⟨by rfl, fun w hw => by clear hw; go_simp⟩) h0 ?_
  try simp only [Act.put, lay_out]
  refine wpAnyH_take (i := 3) (v := .int .i64 (j : Int)) rfl (by kernel_rfl) (by kernel_rfl) (by kernel_rfl) (fun _ _ _ h => h) (.inl ⟨by rfl, fun w hw => by clear hw; go_simp⟩) h0 ?_
  try simp only [Act.put, lay_out]
  refine wpAnyH_take (i := 4) (v := .pointer (some ⟨p3, 0, none⟩)) rfl (by kernel_rfl) (by kernel_rfl) (by kernel_rfl) (fun _ _ _ h => h) (.inl ⟨by rfl, fun w hw => by clear hw; go_simp⟩) h0 ?_
  try simp only [Act.put, lay_out]
  refine wpAnyH_take (i := 5) (v := .pointer (some ⟨p3, j, none⟩)) rfl (by kernel_rfl) (by kernel_rfl) (by kernel_rfl) (fun _ _ _ h => h) (.inl ⟨by rfl, fun w hw => by clear hw; go_simp⟩) h0 ?_
  try simp only [Act.put, lay_out]
  refine wpAnyH_take (i := 6) (v := .int .i64 (A j)) rfl (by kernel_rfl) (by kernel_rfl) (by kernel_rfl) (fun _ _ _ h => h) (.inl ⟨by rfl, fun w' hw => by have hc := hw.2.2.1; clear hw; go_simp⟩) h0 ?_
  try simp only [Act.put, lay_out]
  refine wpAnyH_take (i := 7) (v := .int .u64 (c : Int)) rfl (by kernel_rfl) (by kernel_rfl) (by kernel_rfl) (fun _ _ _ h => h) (.inl ⟨by rfl, fun w' hw => by have hc := hw.2.2.2; clear hw; go_simp⟩) h0 ?_
  try simp only [Act.put, lay_out]
  refine wpAnyH_ready (rs := [8]) (by kernel_rfl) (by simp) (AllReadyH.cons rfl (fun K hK => ?_) AllReadyH.nil)
  rw [if_pos (by rfl)]
  go_simp
  go_at_call 49
  (with_reducible refine (HC.out _ G0.out).mono ?_); rintro e w2 ⟨rfl, hp⟩
  have HP := hid hp
  clear hp
  refine hK.out _ _ (⟨row_c (i := 0) (HP.out.mem M1.out) rfl, row_c (i := 0) (HP.out.mem M2.out) rfl, row_c (i := j) (HP.out.mem M3.out) (wdV_at A j HJ.out), row_c (i := 0) (HP.out.mem M4.out) rfl⟩) (fun h1x => ?_)
  clear hK K
  try simp only [Act.put, lay_out]
  refine wpAnyH_take (i := 9) (v := .int .i64 r) rfl (by kernel_rfl) (by kernel_rfl) (by kernel_rfl) (fun _ _ _ h => h) (.inl ⟨by rfl, fun w hw => by clear hw; go_simp⟩) h1x ?_
  try simp only [Act.put, lay_out]
  refine wpAnyH_done (by kernel_rfl) ?_ _
  refine NoPanic.normal ?_
  clear h0 h1x
  try simp only [Act.put, lay_out]
  go_wp2
  go_ret
  exact ⟨rfl, HP.out⟩
end Go.Proofs.YtpjgpiieminaoaaDoor

/- Share: the program's functions of words, over any machine: the interface is met. -/
namespace Go.Proofs.YtpjgpiieminaoaaDoor
open Go.RowKit
set_option maxRecDepth 100000
set_option maxHeartbeats 3200000 in
theorem salone_pub_any {Pm : World → Nat → Ms → (Nat → Prop) → Prop} (hM : Mach Pm) (b k : Nat) (S : Ms) (F : Nat → Prop) (c : Nat) (w : World) (hm : Pm w b S F) (hq : Bq k S) (hk : k + 10 ≤ 100000) (hn : S.n = 2 ∨ S.n = 3) (hc : c < 2 ^ 64) :
    Calls Tryd.prog 25 #[.pointer (some ⟨b, 0, none⟩), .func (.func 26) #[.pointer (some ⟨b, 0, none⟩)] #[], .int .u64 (c : Int)] w fun e w' => e = .returned (.agg (wdV (cstR S 3 c))) ∧ PmR Pm b (cstS S 3 c) F w w' := by
  have hsb := sh_bd hn
  obtain ⟨w1, hw1⟩ : ∃ w1, ((((w.alloc (.cells #[.pointer (some ⟨b, 0, none⟩)] 25)).alloc (.cells #[.func (.func 26) #[.pointer (some ⟨b, 0, none⟩)] #[]] 67)).alloc (.cells #[.int .u64 (c : Int)] 22)).alloc (.cells #[.int .i64 0, .int .i64 0, .int .i64 0] 35)) = w1 := ⟨_, rfl⟩
  have H1 : Hid (Ow Pm F w w1 b S [(w.heap.size + 1 + 1 + 1, Obj.cells #[.int .i64 0, .int .i64 0, .int .i64 0] 35 (0, 0)), (w.heap.size + 1 + 1, Obj.cells #[.int .u64 (c : Int)] 22 (0, 0)), (w.heap.size + 1, Obj.cells #[.func (.func 26) #[.pointer (some ⟨b, 0, none⟩)] #[]] 67 (0, 0)), (w.heap.size, Obj.cells #[.pointer (some ⟨b, 0, none⟩)] 25 (0, 0))]) := hid (by
    have := ((((Ow.start hm).new hM #[.pointer (some ⟨b, 0, none⟩)] 25).new hM #[.func (.func 26) #[.pointer (some ⟨b, 0, none⟩)] #[]] 67).new hM #[.int .u64 (c : Int)] 22).new hM #[.int .i64 0, .int .i64 0, .int .i64 0] 35
    rw [hw1] at this
    simp only [sz_al] at this
    exact this)
  have HSQ : Hid (∀ j, j ≤ 3 → Bq (k + j) (eaS S (opCst 3 c) 0 j)) := hid (fun j hj => eaS_bq hq 0 j (fun i hi => by rw [Nat.zero_add]; exact opCst_wf (i64k 3 (by decide) (by decide)) hc (by omega)))
  have HE := hid (each_alone hM (w.heap.size + 1) (w.heap.size + 1 + 1) (w.heap.size) S.sh k (eaS S (opCst 3 c) 0) (eaR S (opCst 3 c) 0 none3) (fun j => (eaS S (opCst 3 c) 0 j).doR ((opCst 3 c) j)) H1.out (by omega) hq (by omega) (by show S.n = _; unfold Ms.sh; omega) rfl (fun j _ => eaR_0 _ _ _ _)
    (fun j bs' w' hj hs h' => by rw [eaS_0]; exact clo_pub hM _ _ _ c j h' (hs _ (by simp)) (hs _ (by simp)) (hs _ (by simp)) (HSQ.out j (by omega)) (by omega) hc (by omega)))
  have c1 := row_c (i := 0) (u := .pointer (some ⟨b, 0, none⟩)) (H1.out.bl 3 rfl) rfl
  have HW := hid hw1
  have e1 : eaR S (opCst 3 c) 0 none3 S.sh = cstR S 3 c := rfl
  have e2 : eaS S (opCst 3 c) 0 S.sh = cstS S 3 c := rfl
  rw [e1, e2] at HE
  clear hm hq hk hn hw1 e1 e2 HSQ hsb
  generalize cstR S 3 c = R at *
  generalize cstS S 3 c = S1 at *
  go_enter Tryd.func25, Tryd.ntmps25
  go_upto_region 1 with fail
  rw [HW.out]
  go_wp2_with (first
    | (go_at_call 20; (with_reducible refine HE.out.mono ?_); rintro e w2 ⟨rfl, h2⟩; have H2 := hid h2; clear h2 c1)
    | (refine step_store_row rfl 35 _ _ rfl (w.heap.size + 1 + 1 + 1) 35 _ (wdV R) rfl rfl (H2.out.bl 0 rfl) (by kernel_rfl) rfl (by kernel_rfl) ?_))
  have H3 := hid (H2.out.row hM (wdV R))
  exact bodyPost_ret (results_cell_row (by rfl) _ _ (w.heap.size + 1 + 1 + 1) 35 (wdV R) (0, 0) _ rfl (H3.out.bl 0 rfl) Tryd.underlying35 rfl (by kernel_rfl)) rfl ⟨rfl, H3.out.fin⟩
set_option maxHeartbeats 3200000 in
theorem spub_any {Pm : World → Nat → Ms → (Nat → Prop) → Prop} (hM : Mach Pm) (b k : Nat) (S : Ms) (F : Nat → Prop) (c : Nat) (w : World) (hm : Pm w b S F) (hq : Bq k S) (hk : k + 10 ≤ 100000) (hn : S.n = 2 ∨ S.n = 3) (hc : c < 2 ^ 64) :
    Calls Tryd.prog 6 #[.pointer (some ⟨b, 0, none⟩), .int .u64 (c : Int)] w fun e w' => e = .returned (.agg (wdV (cstR S 3 c))) ∧ PmR Pm b (cstS S 3 c) F w w' := by
  obtain ⟨w1, hw1⟩ : ∃ w1, w.alloc (.cells #[.int .i64 0, .int .i64 0, .int .i64 0] 35) = w1 := ⟨_, rfl⟩
  have H1 : Hid (Ow Pm F w w1 b S [(w.heap.size, Obj.cells #[.int .i64 0, .int .i64 0, .int .i64 0] 35 (0, 0))]) := hid (by
    have := (Ow.start hm).new hM #[.int .i64 0, .int .i64 0, .int .i64 0] 35
    rw [hw1] at this
    exact this)
  have HE := hid (H1.out.lift hM (fun F' hF => salone_pub_any hM b k S F' c w1 hF hq hk hn hc))
  have HW := hid hw1
  have hmf : ∀ (fn : Fn) (first cap : Array Value) (w : World), (Instr.makeFunc fn first cap).run Tryd.prog w = .ok (.func fn first cap) w := fun _ _ _ _ => rfl
  clear hm hq hk hn hw1 hc
  generalize cstR S 3 c = R at *
  generalize cstS S 3 c = S1 at *
  go_enter Tryd.func6, Tryd.ntmps6
  go_upto_region 1 with fail
  rw [HW.out]
  go_wp2_with (first
    | (go_at_call 25; (with_reducible refine HE.out.mono ?_); rintro e w2 ⟨rfl, h2⟩; have H2 := hid h2; clear h2)
    | (refine step_store_row rfl 35 _ _ rfl w.heap.size 35 _ (wdV R) rfl rfl (H2.out.bl 0 rfl) (by kernel_rfl) rfl (by kernel_rfl) ?_))
  have H3 := hid (H2.out.row hM (wdV R))
  exact bodyPost_ret (results_cell_row (by rfl) _ _ w.heap.size 35 (wdV R) (0, 0) _ rfl (H3.out.bl 0 rfl) Tryd.underlying35 rfl (by kernel_rfl)) rfl ⟨rfl, H3.out.fin⟩
set_option maxHeartbeats 3200000 in
theorem sone_any {Pm : World → Nat → Ms → (Nat → Prop) → Prop} (hM : Mach Pm) (b k : Nat) (S : Ms) (F : Nat → Prop) (K : Int) (A : Nat → Int) (c : Nat) (w : World) (hm : Pm w b S F) (hq : Bq k S) (hk : k + 10 ≤ 100000) (hn : S.n = 2 ∨ S.n = 3) (hK : I64 K) (hA : Wb A) (hc : c < 2 ^ 64) :
    Calls Tryd.prog 53 #[.pointer (some ⟨b, 0, none⟩), .int .i64 K, .agg (wdV A), .int .u64 (c : Int)] w fun e w' => e = .returned (.agg (wdV (oneR S K A c))) ∧ PmR Pm b (oneS S K A c) F w w' := by
  have hsb := sh_bd hn
  obtain ⟨w1, hw1⟩ : ∃ w1, (((((w.alloc (.cells #[.pointer (some ⟨b, 0, none⟩)] 25)).alloc (.cells #[.int .i64 K] 3)).alloc (.cells (wdV A) 35)).alloc (.cells #[.int .u64 (c : Int)] 22)).alloc (.cells #[.int .i64 0, .int .i64 0, .int .i64 0] 35)) = w1 := ⟨_, rfl⟩
  have H1 : Hid (Ow Pm F w w1 b S [(w.heap.size + 1 + 1 + 1 + 1, Obj.cells #[.int .i64 0, .int .i64 0, .int .i64 0] 35 (0, 0)), (w.heap.size + 1 + 1 + 1, Obj.cells #[.int .u64 (c : Int)] 22 (0, 0)), (w.heap.size + 1 + 1, Obj.cells (wdV A) 35 (0, 0)), (w.heap.size + 1, Obj.cells #[.int .i64 K] 3 (0, 0)), (w.heap.size, Obj.cells #[.pointer (some ⟨b, 0, none⟩)] 25 (0, 0))]) := hid (by
    have := (((((Ow.start hm).new hM #[.pointer (some ⟨b, 0, none⟩)] 25).new hM #[.int .i64 K] 3).new hM (wdV A) 35).new hM #[.int .u64 (c : Int)] 22).new hM #[.int .i64 0, .int .i64 0, .int .i64 0] 35
    rw [hw1] at this
    simp only [sz_al] at this
    exact this)
  have HSQ : Hid (∀ j, j ≤ 3 → Bq (k + j) (eaS S (opOne K A c) 0 j)) := hid (fun j hj => eaS_bq hq 0 j (fun i hi => by rw [Nat.zero_add]; exact opOne_wf hK hA hc (by omega)))
  have HE := hid (each_one hM (w.heap.size) (w.heap.size + 1) (w.heap.size + 1 + 1) (w.heap.size + 1 + 1 + 1) S.sh k (eaS S (opOne K A c) 0) (eaR S (opOne K A c) 0 none3) (fun j => (eaS S (opOne K A c) 0 j).doR ((opOne K A c) j)) H1.out (by omega) hq (by omega) (by show S.n = _; unfold Ms.sh; omega) rfl (fun j _ => eaR_0 _ _ _ _)
    (fun j bs' w' hj hs h' => by rw [eaS_0]; exact clo_one hM _ _ _ _ j K A c h' (hs _ (by simp)) (hs _ (by simp)) (hs _ (by simp)) (hs _ (by simp)) (HSQ.out j (by omega)) (by omega) hK hA hc (by omega)))
  have c1 := row_c (i := 0) (u := .pointer (some ⟨b, 0, none⟩)) (H1.out.bl 4 rfl) rfl
  have HW := hid hw1
  have e1 : eaR S (opOne K A c) 0 none3 S.sh = oneR S K A c := rfl
  have e2 : eaS S (opOne K A c) 0 S.sh = oneS S K A c := rfl
  rw [e1, e2] at HE
  clear hm hq hk hn hw1 e1 e2 HSQ hsb
  generalize oneR S K A c = R at *
  generalize oneS S K A c = S1 at *
  go_enter Tryd.func53, Tryd.ntmps53
  go_upto_region 1 with fail
  rw [HW.out]
  go_wp2_with (first
    | (go_at_call 20; (with_reducible refine HE.out.mono ?_); rintro e w2 ⟨rfl, h2⟩; have H2 := hid h2; clear h2 c1)
    | (refine step_store_row rfl 35 _ _ rfl (w.heap.size + 1 + 1 + 1 + 1) 35 _ (wdV R) rfl rfl (H2.out.bl 0 rfl) (by kernel_rfl) rfl (by kernel_rfl) ?_))
  have H3 := hid (H2.out.row hM (wdV R))
  exact bodyPost_ret (results_cell_row (by rfl) _ _ (w.heap.size + 1 + 1 + 1 + 1) 35 (wdV R) (0, 0) _ rfl (H3.out.bl 0 rfl) Tryd.underlying35 rfl (by kernel_rfl)) rfl ⟨rfl, H3.out.fin⟩
/-- What Encode's closure leaves, share by share. -/
def enSt (S : Ms) (j : Nat) : Ms := eaS (S.beginS 1) opRand 1 (j - 1)
def enU (S : Ms) (j : Nat) : Nat → Int := eaR (S.beginS 1) opRand 1 none3 (j - 1)
def enRg (S : Ms) : Nat → Int
  | 0 => -1
  | j + 1 => (eaS (S.beginS 1) opRand 1 j).doR (opRand (j + 1))
theorem enU_step (S : Ms) (j : Nat) : enU S (j + 1) = updI (enU S j) j (enRg S j) := by
  cases j with
  | zero =>
    funext i
    show none3 i = updI none3 0 (-1) i
    unfold updI none3
    split <;> rfl
  | succ j =>
    show updI (eaR (S.beginS 1) opRand 1 none3 j) (1 + j) ((eaS (S.beginS 1) opRand 1 j).doR (opRand (1 + j))) = updI (eaR (S.beginS 1) opRand 1 none3 j) (j + 1) ((eaS (S.beginS 1) opRand 1 j).doR (opRand (j + 1)))
    rw [Nat.add_comm 1 j]
set_option maxHeartbeats 6400000 in
theorem senc_any {Pm : World → Nat → Ms → (Nat → Prop) → Prop} (hM : Mach Pm) (b k : Nat) (S : Ms) (F : Nat → Prop) (x : Nat) (w : World) (hm : Pm w b S F) (hq : Bq k S) (hk : k + 10 ≤ 100000) (hn : S.n = 2 ∨ S.n = 3) (hx : x < 2 ^ 64) :
    Calls Tryd.prog 5 #[.pointer (some ⟨b, 0, none⟩), .int .u64 (x : Int)] w fun e w' => e = .returned (.agg (wdV (encR S))) ∧ PmR Pm b (encS S x) F w w' := by
  have hsb := sh_bd hn
  obtain ⟨n, hnn⟩ : ∃ n, S.sh = n := ⟨_, rfl⟩
  have hnI : S.n = (n : Int) := by unfold Ms.sh at hnn; omega
  have HQB : Hid (Bq k (S.beginS 1)) := hid (hq.begins 1)
  have HSQ : Hid (∀ m, m ≤ 3 → Bq (k + m) (eaS (S.beginS 1) opRand 1 m)) := hid (fun m hm => eaS_bq HQB.out 1 m (fun j hj => opRand_wf (by omega)))
  have HSN : Hid (∀ m, (eaS (S.beginS 1) opRand 1 m).n = (n : Int)) := hid (fun m => (eaS_n _ _ 1 m).trans ((beginS_n S 1).1.trans hnI))
  have HQE := hid (enS1_bq hq hn)
  have HOE := hid (opEn_wf hq hk hn)
  have HBG : Hid (∀ (bs : List (Nat × Obj)) (w' : World), Ow Pm F w w' b S bs → Calls Tryd.prog 19 #[.pointer (some ⟨b, 0, none⟩), .int .i64 1] w' fun e w2 => e = .returned (.tuple #[]) ∧ Ow Pm F w w2 b (S.beginS 1) bs) := hid (fun bs w' h' => h'.lift hM (fun F' hF => hM.begin_ b k S F' 1 w' hF hq (by omega)))
  have HEA : Hid (∀ (bs : List (Nat × Obj)) (w' : World), Ow Pm F w w' b (S.beginS 1) bs → (w.heap.size, Obj.cells #[.pointer (some ⟨b, 0, none⟩)] 25 (0, 0)) ∈ bs → Calls Tryd.prog 20 #[.pointer (some ⟨b, 0, none⟩), .func (.func 21) #[] #[.pointer (some ⟨w.heap.size, 0, none⟩)]] w' fun e w2 => e = .returned (.agg (wdV (enR1 S))) ∧ Ow Pm F w w2 b (enS1 S) bs) := hid (fun bs w' h' hb => by
    have e1 : enU S n = enR1 S := by unfold enU enR1; rw [hnn]
    have e2 : enSt S n = enS1 S := by unfold enSt enS1; rw [hnn]
    rw [← e1, ← e2]
    refine each_enc hM w.heap.size n k (enSt S) (enU S) (enRg S) h' (by omega) HQB.out (by omega) (HSN.out 0) rfl (fun j _ => enU_step S j) (fun j bs' w2 hj hs h2 => ?_)
    cases j with
    | zero => exact clo_enc0 hM _ h2
    | succ j =>
      have := clo_enc hM w.heap.size (j + 1) h2 (hs _ hb) (HSQ.out j (by omega)) (by omega) (by omega) (by omega)
      have e3 : enSt S (j + 1 + 1) = (eaS (S.beginS 1) opRand 1 j).doS (opRand (j + 1)) 0 := by
        show (eaS (S.beginS 1) opRand 1 j).doS (opRand (1 + j)) 0 = _
        rw [Nat.add_comm 1 j]
      rw [e3]
      exact this)
  have HCE : Hid (∀ (bs : List (Nat × Obj)) (w' : World), Ow Pm F w w' b (enS1 S) bs → Calls Tryd.prog 23 #[.pointer (some ⟨b, 0, none⟩), .int .u64 (x : Int), .int .i64 (enR1 S 1), .int .i64 (enR1 S 2)] w' fun e w2 => e = .returned (.int .i64 ((enS1 S).doR (opEn S))) ∧ Ow Pm F w w2 b ((enS1 S).doS (opEn S) x) bs) := hid (fun bs w' h' => h'.lift hM (fun F' hF => hM.key b (k + 2) (enS1 S) F' x (enR1 S 1) (enR1 S 2) w' hF HQE.out (by omega) HOE.out hx))
  have HEN : Hid (∀ (bs : List (Nat × Obj)) (w' : World), Ow Pm F w w' b ((enS1 S).doS (opEn S) x) bs → Calls Tryd.prog 24 #[.pointer (some ⟨b, 0, none⟩)] w' fun e w2 => e = .returned (.tuple #[]) ∧ Ow Pm F w w2 b (encS S x) bs) := hid (fun bs w' h' => h'.lift hM (fun F' hF => hM.end_ b (k + 2 + 1) ((enS1 S).doS (opEn S) x) F' w' hF (HQE.out.does HOE.out hx) (by omega)))
  have HR : Hid ((wdV (enR1 S)).setIfInBounds 0 (.int .i64 ((enS1 S).doR (opEn S))) = wdV (encR S)) := hid (wdV_upd (enR1 S) 0 _ (by omega))
  obtain ⟨w1, hw1⟩ : ∃ w1, (w.alloc (.cells #[.pointer (some ⟨b, 0, none⟩)] 25)).alloc (.cells #[.int .i64 0, .int .i64 0, .int .i64 0] 35) = w1 := ⟨_, rfl⟩
  have H1 : Hid (Ow Pm F w w1 b S [(w.heap.size + 1, Obj.cells #[.int .i64 0, .int .i64 0, .int .i64 0] 35 (0, 0)), (w.heap.size, Obj.cells #[.pointer (some ⟨b, 0, none⟩)] 25 (0, 0))]) := hid (by
    have := ((Ow.start hm).new hM #[.pointer (some ⟨b, 0, none⟩)] 25).new hM #[.int .i64 0, .int .i64 0, .int .i64 0] 35
    rw [hw1] at this
    simp only [sz_al] at this
    exact this)
  have c1 := row_c (i := 0) (u := .pointer (some ⟨b, 0, none⟩)) (H1.out.bl 1 rfl) rfl
  have HW := hid hw1
  clear hm hq hk hn hsb hnI hw1 hx HQE HOE HQB HSQ HSN
  generalize (enS1 S).doR (opEn S) = r at *
  generalize (enS1 S).doS (opEn S) x = S2 at *
  generalize encS S x = S3 at *
  generalize encR S = R at *
  generalize enS1 S = V at *
  generalize enR1 S = U at *
  go_enter Tryd.func5, Tryd.ntmps5
  go_upto_region 1 with fail
  rw [HW.out]
  go_upto_region 2 with (go_at_call 19; (with_reducible refine (HBG.out _ _ H1.out).mono ?_); rintro e w2 ⟨rfl, hb⟩; have H2 := hid hb; clear hb c1; have c1 := row_c (i := 0) (u := .pointer (some ⟨b, 0, none⟩)) (H2.out.bl 1 rfl) rfl)
  go_upto_region 3 with (go_at_call 20; (with_reducible refine (HEA.out _ _ H2.out (by simp)).mono ?_); rintro e w3 ⟨rfl, hb⟩; have H3 := hid hb; clear hb c1)
  have H4 := hid (H3.out.new hM (wdV U) 35)
  obtain ⟨g5, hg5⟩ : ∃ g5, w3.heap.size = g5 := ⟨_, rfl⟩
  rw [hg5] at H4
  generalize w3.alloc (.cells (wdV U) 35) = w4 at *
  rw [hg5]
  clear hg5
  have k0 := row_c (i := 0) (u := .pointer (some ⟨b, 0, none⟩)) (H4.out.bl 2 rfl) rfl
  have k1 := row_c (i := 1) (u := .int .i64 (U 1)) (H4.out.bl 0 rfl) rfl
  have k2 := row_c (i := 2) (u := .int .i64 (U 2)) (H4.out.bl 0 rfl) rfl
  go_upto_region 4 with (go_at_call 23; (with_reducible refine (HCE.out _ _ H4.out).mono ?_); rintro e y2 ⟨rfl, hp⟩; have G1 := hid hp; have c0 := row_c (i := 0) (u := .int .i64 (U 0)) (G1.out.bl 0 rfl) rfl; have f0 := frozen_of_row y2 g5 0 _ _ (G1.out.bl 0 rfl); clear hp k0 k1 k2)
  have G2 := hid (G1.out.cell hM 0 (.int .i64 r))
  rw [HR.out] at G2
  clear c0 f0
  generalize y2.setCell ⟨g5, 0, none⟩ (.int .i64 r) = y3 at *
  have k0 := row_c (i := 0) (u := .pointer (some ⟨b, 0, none⟩)) (G2.out.bl 2 rfl) rfl
  go_upto_region 5 with (go_at_call 24; (with_reducible refine (HEN.out _ _ G2.out).mono ?_); rintro e y4 ⟨rfl, hp⟩; have G3 := hid hp; clear hp k0)
  go_wp2_with (first
    | (refine step_load_row rfl 35 _ rfl g5 35 (wdV R) _ rfl (G3.out.bl 0 rfl) Tryd.underlying35 rfl (by kernel_rfl) ?_)
    | (refine step_store_row rfl 35 _ _ rfl (w.heap.size + 1) 35 _ (wdV R) rfl rfl (G3.out.bl 1 rfl) (by kernel_rfl) rfl (by kernel_rfl) ?_))
  have H8 := hid (G3.out.swap.row hM (wdV R))
  exact bodyPost_ret (results_cell_row (by rfl) _ _ (w.heap.size + 1) 35 (wdV R) (0, 0) _ rfl (H8.out.bl 0 rfl) Tryd.underlying35 rfl (by kernel_rfl)) rfl ⟨rfl, H8.out.fin⟩
/-- The program's functions of words meet the interface. -/
theorem shI {Pm : World → Nat → Ms → (Nat → Prop) → Prop} (hM : Mach Pm) : ShI Pm where
  enc b k S F x w := senc_any hM b k S F x w
  pub b k S F c w := spub_any hM b k S F c w
  one b k S F K A c w := sone_any hM b k S F K A c w
end Go.Proofs.YtpjgpiieminaoaaDoor
