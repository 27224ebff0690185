import Derived.Test.YtffoinnllihdeaaProg
import Derived.Test.YtffoinnllihdeaaWma
import Derived.Test.YtffoinnllihdeaaTrf
import Derived.Test.YtffoinnllihdeaaOpa
/- Wire: are a trace's words what its ops make? -/
namespace Go.Proofs.Ytffoinnllihdeaa
open Go.RowKit
set_option maxRecDepth 100000
/-- A register's word by the document, of whatever lies around the words. -/
theorem dat_row (b L cap : Nat) (a : Option Addr) (v : Nat → Nat) (r : Int) (w : World) (c10 : w.cell? ⟨b, 10, none⟩ = some (.slice a L cap)) (hc : 0 < L → ∃ g off, a = some ⟨g, off, none⟩ ∧ ∀ i, i < L → w.cell? ⟨g, off + i, none⟩ = some (.int .u64 (v i : Int))) :
    Calls Try.prog 51 #[.pointer (some ⟨b, 0, none⟩), .int .i64 r] w fun e w' => e = .returned (.int .u64 (wordAt v L r : Nat)) ∧ w' = w := by
  by_cases h0 : r < 0
  · have e : wordAt v L r = 0 := if_neg (by omega)
    rw [e]
    have q1 : decide (r < 0) = true := decide_eq_true h0
    clear hc h0
    go_enter Try.func51, Try.ntmps51
    go_wp2
    go_ret
    exact ⟨rfl, rfl⟩
  · have q1 : decide (r < 0) = false := decide_eq_false h0
    by_cases h1 : r < (L : Int)
    · obtain ⟨k, rfl⟩ := Int.eq_ofNat_of_zero_le (by omega : 0 ≤ r)
      have e : wordAt v L (k : Int) = v k := by unfold wordAt; rw [if_pos ⟨by omega, h1⟩]; simp
      rw [e]
      obtain ⟨g, off, rfl, hcc⟩ := hc (by omega)
      have hk := hcc k (by omega)
      have j1 : (0 : Int) ≤ (k : Int) := by omega
      have q2 : decide ((L : Int) ≤ (k : Int)) = false := decide_eq_false (by omega)
      clear hc hcc e
      generalize v k = z at *
      go_enter Try.func51, Try.ntmps51
      go_wp2
      go_ret
      exact ⟨rfl, rfl⟩
    · have e : wordAt v L r = 0 := if_neg (by omega)
      rw [e]
      have q2 : decide ((L : Int) ≤ r) = true := decide_eq_true (by omega)
      clear hc
      go_enter Try.func51, Try.ntmps51
      go_wp2
      go_ret
      exact ⟨rfl, rfl⟩
/-- A row of words that is read, whatever is new. -/
structure Wr (w : World) (v : Value) (L : Nat) (f : Nat → Nat) : Prop where
  at_ : ∃ a cap, v = .slice a L cap ∧ (0 < L → ∃ g off, a = some ⟨g, off, none⟩ ∧ g < w.heap.size ∧ ∀ i, i < L → w.cell? ⟨g, off + i, none⟩ = some (.int .u64 (f i : Int)))
theorem rd_wr {w : World} {v : Value} {L : Nat} {f : Nat → Nat} (h : Rd .u64 w v (wdL f L)) : Wr w v L f := by
  obtain ⟨a, cap, e, _, _, hc⟩ := h
  rw [wdL_len] at e hc
  refine ⟨a, cap, e, fun h0 => ?_⟩
  obtain ⟨g, off, e1, e2, e3⟩ := hc h0
  exact ⟨g, off, e1, e2, fun i hi => by rw [e3 i hi, wdL_nth f hi]⟩
/-- What the law's loop holds: the trace's box, the machine's box. -/
structure Hb (W wr : World) (n bm : Nat) (A B : Array Value) : Prop where
  one : wr.heap[n]? = some (.cells A 57 (0, 0))
  two : wr.heap[bm]? = some (.cells B 40 (0, 0))
  low : Below W.heap.size W wr
theorem Hb.self {W wr wy : World} {n bm : Nat} {A B : Array Value} (h : Hb W wr n bm A B) (hb : Below wr.heap.size wr wy) : Hb W wy n bm A B :=
  ⟨(hb.block _ (Array.getElem?_eq_some_iff.1 h.one).1).trans h.one, (hb.block _ (Array.getElem?_eq_some_iff.1 h.two).1).trans h.two, h.low.trans (hb.mono h.low.size)⟩
abbrev hmC (v : Value) : Array Value := #[.int .i64 0, .int .i64 0, .int .i64 0, .int .i64 0, .int .i64 0, .int .i64 0, .int .i64 0, .int .i64 0, .slice none 0 0, .slice none 0 0, v, .slice none 0 0, .int .i64 0, .int .i64 0, .bool false]
/-- What a round holds. -/
structure Hr (W wr : World) (n bm : Nat) (A : Array Value) (v : Value) (bo : Nat) (o : Op6) (gv ov L : Nat) (vv : Nat → Nat) : Prop where
  b : Hb W wr n bm A (hmC v)
  op : wr.heap[bo]? = some (.cells (opCs o) 43 (0, 0))
  word : ∀ i, i < L → wr.cell? ⟨gv, ov + i, none⟩ = some (.int .u64 (vv i : Int))
theorem Hr.self {W wr wy : World} {n bm : Nat} {A : Array Value} {v : Value} {bo : Nat} {o : Op6} {gv ov L : Nat} {vv : Nat → Nat} (h : Hr W wr n bm A v bo o gv ov L vv) (hb : Below wr.heap.size wr wy) : Hr W wy n bm A v bo o gv ov L vv :=
  ⟨h.b.self hb, (hb.block _ (Array.getElem?_eq_some_iff.1 h.op).1).trans h.op, fun i hi => tcell_self (h.word i hi) hb⟩
theorem Hr.drew {W wr : World} {n bm : Nat} {A : Array Value} {v : Value} {bo : Nat} {o : Op6} {gv ov L : Nat} {vv : Nat → Nat} (h : Hr W wr n bm A v bo o gv ov L vv) : Hr W wr.drew n bm A v bo o gv ov L vv := h.self ((Below.refl _ _).drew)
theorem cnt_le2 {p : Op6 → Bool} {f : Nat → Op6} {i : Nat} : ∀ {L : Nat}, i ≤ L → cnt p f i ≤ cnt p f L
  | 0, h => by obtain rfl : i = 0 := by omega
               exact Nat.le_refl _
  | L + 1, h => by
    by_cases e : i = L + 1
    · subst e; exact Nat.le_refl _
    · have := cnt_le2 (p := p) (f := f) (i := i) (L := L) (by omega)
      rw [cnt]; split <;> omega
abbrev isR (o : Op6) : Bool := decide (o.K = 1)
set_option maxHeartbeats 12800000 in
theorem lholds_any (N : Int) (v0 v1 v mv kv : Value) (L M TN KN : Nat) (f : Nat → Op6) (g : Nat → Sp3) (vv mk ks : Nat → Nat) (w : World) (h : ROp w v0 L f) (h1 : RSp w v1 M g) (hv : Rd .u64 w v (wdL vv L)) (hm : Rd .u64 w mv (wdL mk TN)) (hk : Rd .u64 w kv (wdL ks KN))
    (ht : trB N L M f g = true) (hw : ∀ i, i < L → okW f vv L mk TN ks KN i) (hc : cnt isR f L ≤ TN) (l1 : L ≤ 100000) (l2 : TN ≤ 100000) (l3 : KN ≤ 100000) (hvv : ∀ i, i < L → vv i < 2 ^ 64) (hmk : ∀ i, i < TN → mk i < 2 ^ 64) (hks : ∀ i, i < KN → ks i < 2 ^ 64) :
    Calls Try.prog 21 #[.agg #[.int .i64 N, v0, v1], v, mv, kv] w fun e w' => e = .returned (.bool true) ∧ Below w.heap.size w w' := by
  obtain ⟨a, cap, rfl, _⟩ := id h.at_
  obtain ⟨a', cap', rfl, _⟩ := id h1.at_
  have hV := rd_wr hv
  have hMk := rd_wr hm
  have hKs := rd_wr hk
  obtain ⟨va, cv, rfl, hVc⟩ := hV.at_
  obtain ⟨ma, cm, rfl, hMc⟩ := hMk.at_
  obtain ⟨ka, ck, rfl, hKc⟩ := hKs.at_
  have HTR := hid (fun w' (hb : Below w.heap.size w w') => reftrace_any N (.slice a L cap) (.slice a' M cap') L M f g w' (h.self hb) (h1.self hb))
  rw [ht] at HTR
  obtain ⟨w1, hw1⟩ : ∃ w1, w.alloc (.cells #[.int .i64 N, .slice a L cap, .slice a' M cap'] 57) = w1 := ⟨_, rfl⟩
  have HB1 : Hid (Below w.heap.size w w1) := hid (by rw [← hw1]; exact (Below.refl _ _).alloc (Nat.le_refl _) _)
  have HX1 : Hid (w1.heap[w.heap.size]? = some (.cells #[.int .i64 N, .slice a L cap, .slice a' M cap'] 57 (0, 0))) := hid (by rw [← hw1]; exact heap_alloc_new _ _)
  have HW1 := hid hw1
  have HH := hid h
  have HOK := hid hw
  have HCN := hid hc
  have HVc := hid hVc
  have HMc := hid hMc
  have HKc := hid hKc
  have HVV := hid hvv
  have HMK := hid hmk
  have HKS := hid hks
  clear h h1 hv hm hk hV hMk hKs hVc hMc hKc hw1 hw ht hc hvv hmk hks
  go_enter Try.func21, Try.ntmps21
  go_upto_region 1 with fail
  rw [HW1.out]
  obtain ⟨x0, x1, x2⟩ := tbx3 HX1.out
  go_wp2_with (go_at_call 49; (with_reducible refine (HTR.out _ HB1.out).mono ?_); rintro e w2 ⟨rfl, hb⟩; have HB2 := hid (HB1.out.trans (hb.mono HB1.out.size)); have HX2 := hid ((hb.block _ (Array.getElem?_eq_some_iff.1 HX1.out).1).trans HX1.out); obtain ⟨z0, z1, z2⟩ := tbx3 HX2.out; clear hb)
  have HX3 : Hid (Hb w (w2.alloc (.cells (hmC (.slice va L cv)) 40)) w.heap.size w2.heap.size #[.int .i64 N, .slice a L cap, .slice a' M cap'] (hmC (.slice va L cv))) := hid ⟨(heap_alloc_old w2 (.cells (hmC (.slice va L cv)) 40) (Array.getElem?_eq_some_iff.1 HX2.out).1).trans HX2.out, heap_alloc_new _ _, HB2.out.alloc HB2.out.size _⟩
  clear x0 x1 x2
  go_loopw [10, 11] (fun d i wr => ∃ j : Nat, j ≤ L ∧ i = .int .i64 j ∧ d = .int .i64 (cnt isR f j : Nat) ∧ Hb w wr w.heap.size w2.heap.size #[.int .i64 N, .slice a L cap, .slice a' M cap'] (hmC (.slice va L cv))) (fun _ i _ => L - (intOf i).toNat)
  case atStart => exact ⟨0, by omega, rfl, rfl, HX3.out⟩
  case round =>
    obtain ⟨j, hj, rfl, rfl, hI⟩ := hrel
    have HI := hid hI
    clear hI z0 z1 z2
    obtain ⟨x0, x1, x2⟩ := tbx3 HI.out.one
    by_cases hlt : j < L
    · obtain ⟨b, off, ha, hb, hs⟩ := wrop_ops HH.out
      have hae := ha (by omega)
      subst hae
      obtain ⟨k0, k1, k2, k3, k4, k5⟩ := (hs j hlt).self HI.out.low
      obtain ⟨gv, ov, rfl, hgv, hvc⟩ := HVc.out (by omega)
      have j1 : (0 : Int) ≤ (j : Int) := by omega
      have j2 : (j : Int) < (L : Int) := by omega
      have HPF := hid (HH.out.wf j hlt)
      have hlow := (Below.refl wr.heap.size wr).alloc (Nat.le_refl _) (.cells (opCs (f j)) 43)
      obtain ⟨wB, hwB⟩ : ∃ wB, wr.alloc (.cells (opCs (f j)) 43) = wB := ⟨_, rfl⟩
      have YB : Hid (Hr w wB w.heap.size w2.heap.size #[.int .i64 N, .slice (some ⟨b, off, none⟩) L cap, .slice a' M cap'] (.slice (some ⟨gv, ov, none⟩) L cv) wr.heap.size (f j) gv ov L vv) := hid (by
        rw [← hwB]
        exact ⟨HI.out.self hlow, heap_alloc_new _ _, fun i hi => tcell_self (tcell_self (hvc i hi) HI.out.low) hlow⟩)
      have HSB := hid hwB
      have HWB := hid hwB
      clear hs ha hb hvc hgv hlow hwB
      have HST : Hid (cnt isR f (j + 1) = cnt isR f j + if isR (f j) = true then 1 else 0) := hid rfl
      have HAT : Hid (∀ (r : Int) wx, Hr w wx w.heap.size w2.heap.size #[.int .i64 N, .slice (some ⟨b, off, none⟩) L cap, .slice a' M cap'] (.slice (some ⟨gv, ov, none⟩) L cv) wr.heap.size (f j) gv ov L vv → Calls Try.prog 51 #[.pointer (some ⟨w2.heap.size, 0, none⟩), .int .i64 r] wx fun e w' => e = .returned (.int .u64 (wordAt vv L r : Nat)) ∧ w' = wx) := hid (fun r wx hx => dat_row w2.heap.size L cv (some ⟨gv, ov, none⟩) vv r wx (row_c (i := 10) hx.b.two rfl) (fun _ => ⟨gv, ov, rfl, hx.word⟩))
      have HEG : Hid (∀ wx, Calls Try.prog 50 #[.agg (opCs (f j)), .int .u64 (wordAt vv L (f j).A : Nat), .int .u64 (wordAt vv L (f j).B : Nat), .int .u64 (wordAt vv L (f j).E : Nat), .int .u64 (wdAt f mk TN ks KN j : Nat)] wx fun e w' => e = .returned (.int .u64 (vv j : Nat)) ∧ Below wx.heap.size wx w') := hid (fun wx => by
        have := refev_any (f j).K (f j).D (f j).A (f j).B (f j).E (f j).C (wordAt vv L (f j).A) (wordAt vv L (f j).B) (wordAt vv L (f j).E) (wdAt f mk TN ks KN j) wx (by have := HPF.out.2.2.2.2.2; omega) (wordAt_lt HVV.out _) (wordAt_lt HVV.out _) (wordAt_lt HVV.out _) (by
          unfold wdAt
          split
          · rename_i e; exact HMK.out _ e.2
          · split
            · rename_i e; exact HKS.out _ e.2
            · decide)
        have e := HOK.out j hlt
        unfold okW at e
        rw [← e] at this
        exact this)
      go_upto_region 10 with fail
      rw [HWB.out]
      have p0 := row_c (i := 0) (u := .int .i64 (f j).K) YB.out.op rfl
      have p5 := row_c (i := 5) (u := .int .u64 ((f j).C : Int)) YB.out.op rfl
      clear x0 x1 x2 k0 k1 k2 k3 k4 k5
      by_cases hk1 : (f j).K = 1
      · have hs : cnt isR f (j + 1) = cnt isR f j + 1 := by rw [HST.out, if_pos (decide_eq_true hk1)]
        have hle : cnt isR f (j + 1) ≤ cnt isR f L := cnt_le2 (by omega)
        have hlt2 : cnt isR f j < TN := by have := HCN.out; omega
        have hwd : wdAt f mk TN ks KN j = mk (cnt isR f j) := if_pos ⟨hk1, hlt2⟩
        obtain ⟨gm, om, rfl, hgm, hmc⟩ := HMc.out (by omega)
        have m1 : wB.cell? ⟨gm, om + cnt isR f j, none⟩ = some (.int .u64 (mk (cnt isR f j) : Int)) := tcell_self (hmc _ hlt2) YB.out.b.low
        have HG := hid hs
        have HEV : Hid (∀ wx, Calls Try.prog 50 #[.agg (opCs (f j)), .int .u64 (wordAt vv L (f j).A : Nat), .int .u64 (wordAt vv L (f j).B : Nat), .int .u64 (wordAt vv L (f j).E : Nat), .int .u64 (mk (cnt isR f j) : Nat)] wx fun e w' => e = .returned (.int .u64 (vv j : Nat)) ∧ Below wx.heap.size wx w') := hid (fun wx => by have := HEG.out wx; rw [hwd] at this; exact this)
        have hcb : cnt isR f j ≤ 100000 := by omega
        rw [hk1] at p0
        clear hs hle hwd hmc hgm hk1 HST HEG
        generalize mk (cnt isR f j) = z at *
        generalize cnt isR f j = c at *
        have c1 : (0 : Int) ≤ (c : Int) := by omega
        have c2 : (c : Int) < (TN : Int) := by omega
        go_wp2_with fail
        have Y0 := hid YB.out.drew
        refine wp_region_noPanic ?_
        refine wp_region_held_drew (S := fun w' => w'.heap[wr.heap.size]? = some (.cells (opCs (f j)) 43 (0, 0)) ∧ w'.cell? ⟨gv, ov + j, none⟩ = some (.int .u64 (vv j : Int))) (by kernel_rfl) (⟨Y0.out.op, Y0.out.word j hlt⟩) (fun h0 => ?_)
        generalize wB.drew = y1 at *
        refine wpAnyH_take (i := 0) (v := .slice (some ⟨gv, ov, none⟩) L cv) rfl (by kernel_rfl) (by kernel_rfl) (by kernel_rfl) (fun _ _ _ h => h) (.inl ⟨by rfl, fun w hw => by clear hw; go_simp⟩) h0 ?_
        try simp only [Act.put, lay_out]
        refine wpAnyH_take (i := 1) (v := .int .i64 (j : Int)) rfl (by kernel_rfl) (by kernel_rfl) (by kernel_rfl) (fun _ _ _ h => h) (.inl ⟨by rfl, fun w hw => by clear hw; go_simp⟩) h0 ?_
        try simp only [Act.put, lay_out]
        refine wpAnyH_take (i := 2) (v := .pointer (some ⟨gv, ov + j, none⟩)) rfl (by kernel_rfl) (by kernel_rfl) (by kernel_rfl) (fun _ _ _ h => h) (.inl ⟨by rfl, fun w hw => by clear hw; go_simp⟩) h0 ?_
        try simp only [Act.put, lay_out]
        refine wpAnyH_take (i := 3) (v := .int .u64 (vv j : Int)) rfl (by kernel_rfl) (by kernel_rfl) (by kernel_rfl) (fun _ _ _ h => h) (.inl ⟨by rfl, fun w' hw => by have hc := hw.2; clear hw; go_simp⟩) h0 ?_
        try simp only [Act.put, lay_out]
        refine wpAnyH_take (i := 4) (v := .agg (opCs (f j))) rfl (by kernel_rfl) (by kernel_rfl) (by kernel_rfl) (fun _ _ _ h => h) (yields_load_row (by rfl) 43 _ rfl wr.heap.size 43 (opCs (f j)) _ rfl (fun w h => h.1) Try.underlying43 rfl (by kernel_rfl)) h0 ?_
        try simp only [Act.put, lay_out]
        refine wpAnyH_take (i := 5) (v := .pointer (some ⟨wr.heap.size, 2, none⟩)) rfl (by kernel_rfl) (by kernel_rfl) (by kernel_rfl) (fun _ _ _ h => h) (.inl ⟨by rfl, fun w hw => by clear hw; go_simp⟩) h0 ?_
        try simp only [Act.put, lay_out]
        refine wpAnyH_take (i := 6) (v := .int .i64 (f j).A) rfl (by kernel_rfl) (by kernel_rfl) (by kernel_rfl) (fun _ _ _ h => h) (.inl ⟨by rfl, fun w' hw => by have hc := row_c (i := 2) (u := .int .i64 (f j).A) hw.1 rfl; clear hw; go_simp⟩) h0 ?_
        try simp only [Act.put, lay_out]
        refine wpAnyH_take (i := 8) (v := .pointer (some ⟨wr.heap.size, 3, none⟩)) rfl (by kernel_rfl) (by kernel_rfl) (by kernel_rfl) (fun _ _ _ h => h) (.inl ⟨by rfl, fun w hw => by clear hw; go_simp⟩) h0 ?_
        try simp only [Act.put, lay_out]
        refine wpAnyH_take (i := 9) (v := .int .i64 (f j).B) rfl (by kernel_rfl) (by kernel_rfl) (by kernel_rfl) (fun _ _ _ h => h) (.inl ⟨by rfl, fun w' hw => by have hc := row_c (i := 3) (u := .int .i64 (f j).B) hw.1 rfl; clear hw; go_simp⟩) h0 ?_
        try simp only [Act.put, lay_out]
        refine wpAnyH_take (i := 11) (v := .pointer (some ⟨wr.heap.size, 4, none⟩)) rfl (by kernel_rfl) (by kernel_rfl) (by kernel_rfl) (fun _ _ _ h => h) (.inl ⟨by rfl, fun w hw => by clear hw; go_simp⟩) h0 ?_
        try simp only [Act.put, lay_out]
        refine wpAnyH_take (i := 12) (v := .int .i64 (f j).E) rfl (by kernel_rfl) (by kernel_rfl) (by kernel_rfl) (fun _ _ _ h => h) (.inl ⟨by rfl, fun w' hw => by have hc := row_c (i := 4) (u := .int .i64 (f j).E) hw.1 rfl; clear hw; go_simp⟩) h0 ?_
        try simp only [Act.put, lay_out]
        refine wpAnyH_take (i := 14) (v := .int .u64 (z : Nat)) rfl (by kernel_rfl) (by kernel_rfl) (by kernel_rfl) (fun _ _ _ h => h) (.inl ⟨by rfl, fun w hw => by clear hw; go_simp⟩) h0 ?_
        try simp only [Act.put, lay_out]
        refine wpAnyH_ready (rs := [7]) (by kernel_rfl) (by simp) (AllReadyH.cons rfl (fun K hK => ?_) AllReadyH.nil)
        rw [if_pos (by rfl)]
        go_simp
        go_at_call 51
        (with_reducible refine (HAT.out (f j).A _ Y0.out).mono ?_); rintro e wc0 ⟨rfl, rfl⟩
        refine hK.out _ _ (⟨Y0.out.op, Y0.out.word j hlt⟩) (fun h1x => ?_)
        clear hK K
        try simp only [Act.put, lay_out]
        refine wpAnyH_ready (rs := [10]) (by kernel_rfl) (by simp) (AllReadyH.cons rfl (fun K hK => ?_) AllReadyH.nil)
        rw [if_pos (by rfl)]
        go_simp
        go_at_call 51
        (with_reducible refine (HAT.out (f j).B _ Y0.out).mono ?_); rintro e wc1 ⟨rfl, rfl⟩
        refine hK.out _ _ (⟨Y0.out.op, Y0.out.word j hlt⟩) (fun h2x => ?_)
        clear hK K
        try simp only [Act.put, lay_out]
        refine wpAnyH_ready (rs := [13]) (by kernel_rfl) (by simp) (AllReadyH.cons rfl (fun K hK => ?_) AllReadyH.nil)
        rw [if_pos (by rfl)]
        go_simp
        go_at_call 51
        (with_reducible refine (HAT.out (f j).E _ Y0.out).mono ?_); rintro e wc2 ⟨rfl, rfl⟩
        refine hK.out _ _ (⟨Y0.out.op, Y0.out.word j hlt⟩) (fun h3x => ?_)
        clear hK K
        try simp only [Act.put, lay_out]
        refine wpAnyH_ready (rs := [15]) (by kernel_rfl) (by simp) (AllReadyH.cons rfl (fun K hK => ?_) AllReadyH.nil)
        rw [if_pos (by rfl)]
        go_simp
        go_at_call 50
        (with_reducible refine (HEV.out _).mono ?_); rintro e we ⟨rfl, hb1⟩
        have YE := hid (Y0.out.self hb1)
        clear hb1
        refine hK.out _ _ (⟨YE.out.op, YE.out.word j hlt⟩) (fun h4x => ?_)
        clear hK K
        try simp only [Act.put, lay_out]
        refine wpAnyH_take (i := 16) (v := .bool false) rfl (by kernel_rfl) (by kernel_rfl) (by kernel_rfl) (fun _ _ _ h => h) (.inl ⟨by rfl, fun w hw => by clear hw; go_simp⟩) h4x ?_
        try simp only [Act.put, lay_out]
        refine wpAnyH_done (by kernel_rfl) ?_ _
        refine NoPanic.normal ?_
        clear h0 h1x h2x h3x h4x
        try simp only [Act.put, lay_out]
        go_wp2
        go_roundw
        case rel => exact ⟨j + 1, by omega, by go_num, by rw [HG.out]; go_num, YE.out.b⟩
        case measure => simp [intOf]; omega
      · have hs : cnt isR f (j + 1) = cnt isR f j := by rw [HST.out, if_neg (by simpa using hk1)]; rfl
        have HG := hid hs
        have e1 : ((f j).K == 1) = false := by simp [hk1]
        by_cases hk2 : (f j).K = 2
        · by_cases hkn : (f j).C < KN
          · have hwd : wdAt f mk TN ks KN j = ks (f j).C := by unfold wdAt; rw [if_neg (fun q => hk1 q.1), if_pos ⟨hk2, hkn⟩]
            obtain ⟨gk, ok, rfl, hgk, hkc⟩ := HKc.out (by omega)
            have m1 : wB.cell? ⟨gk, ok + (f j).C, none⟩ = some (.int .u64 (ks (f j).C : Int)) := tcell_self (hkc _ hkn) YB.out.b.low
            have e2 : ((f j).K == 2) = true := by simp [hk2]
            have wk : IntKind.u64.wrap (KN : Int) = (KN : Int) := by rw [IntKind.wrap_u64]; omega
            have HEV : Hid (∀ wx, Calls Try.prog 50 #[.agg (opCs (f j)), .int .u64 (wordAt vv L (f j).A : Nat), .int .u64 (wordAt vv L (f j).B : Nat), .int .u64 (wordAt vv L (f j).E : Nat), .int .u64 (ks (f j).C : Nat)] wx fun e w' => e = .returned (.int .u64 (vv j : Nat)) ∧ Below wx.heap.size wx w') := hid (fun wx => by have := HEG.out wx; rw [hwd] at this; exact this)
            clear hs hwd hkc hgk hk1 hk2 HST HEG
            generalize ks (f j).C = z at *
            generalize cnt isR f j = c at *
            have c1 : (0 : Int) ≤ ((f j).C : Int) := by omega
            have c2 : ((f j).C : Int) < (KN : Int) := by omega
            go_wp2_with fail
            have Y0 := hid YB.out.drew
            refine wp_region_noPanic ?_
            refine wp_region_held_drew (S := fun w' => w'.heap[wr.heap.size]? = some (.cells (opCs (f j)) 43 (0, 0)) ∧ w'.cell? ⟨gv, ov + j, none⟩ = some (.int .u64 (vv j : Int))) (by kernel_rfl) (⟨Y0.out.op, Y0.out.word j hlt⟩) (fun h0 => ?_)
            generalize wB.drew = y1 at *
            refine wpAnyH_take (i := 0) (v := .slice (some ⟨gv, ov, none⟩) L cv) rfl (by kernel_rfl) (by kernel_rfl) (by kernel_rfl) (fun _ _ _ h => h) (.inl ⟨by rfl, fun w hw => by clear hw; go_simp⟩) h0 ?_
            try simp only [Act.put, lay_out]
            refine wpAnyH_take (i := 1) (v := .int .i64 (j : Int)) rfl (by kernel_rfl) (by kernel_rfl) (by kernel_rfl) (fun _ _ _ h => h) (.inl ⟨by rfl, fun w hw => by clear hw; go_simp⟩) h0 ?_
            try simp only [Act.put, lay_out]
            refine wpAnyH_take (i := 2) (v := .pointer (some ⟨gv, ov + j, none⟩)) rfl (by kernel_rfl) (by kernel_rfl) (by kernel_rfl) (fun _ _ _ h => h) (.inl ⟨by rfl, fun w hw => by clear hw; go_simp⟩) h0 ?_
            try simp only [Act.put, lay_out]
            refine wpAnyH_take (i := 3) (v := .int .u64 (vv j : Int)) rfl (by kernel_rfl) (by kernel_rfl) (by kernel_rfl) (fun _ _ _ h => h) (.inl ⟨by rfl, fun w' hw => by have hc := hw.2; clear hw; go_simp⟩) h0 ?_
            try simp only [Act.put, lay_out]
            refine wpAnyH_take (i := 4) (v := .agg (opCs (f j))) rfl (by kernel_rfl) (by kernel_rfl) (by kernel_rfl) (fun _ _ _ h => h) (yields_load_row (by rfl) 43 _ rfl wr.heap.size 43 (opCs (f j)) _ rfl (fun w h => h.1) Try.underlying43 rfl (by kernel_rfl)) h0 ?_
            try simp only [Act.put, lay_out]
            refine wpAnyH_take (i := 5) (v := .pointer (some ⟨wr.heap.size, 2, none⟩)) rfl (by kernel_rfl) (by kernel_rfl) (by kernel_rfl) (fun _ _ _ h => h) (.inl ⟨by rfl, fun w hw => by clear hw; go_simp⟩) h0 ?_
            try simp only [Act.put, lay_out]
            refine wpAnyH_take (i := 6) (v := .int .i64 (f j).A) rfl (by kernel_rfl) (by kernel_rfl) (by kernel_rfl) (fun _ _ _ h => h) (.inl ⟨by rfl, fun w' hw => by have hc := row_c (i := 2) (u := .int .i64 (f j).A) hw.1 rfl; clear hw; go_simp⟩) h0 ?_
            try simp only [Act.put, lay_out]
            refine wpAnyH_take (i := 8) (v := .pointer (some ⟨wr.heap.size, 3, none⟩)) rfl (by kernel_rfl) (by kernel_rfl) (by kernel_rfl) (fun _ _ _ h => h) (.inl ⟨by rfl, fun w hw => by clear hw; go_simp⟩) h0 ?_
            try simp only [Act.put, lay_out]
            refine wpAnyH_take (i := 9) (v := .int .i64 (f j).B) rfl (by kernel_rfl) (by kernel_rfl) (by kernel_rfl) (fun _ _ _ h => h) (.inl ⟨by rfl, fun w' hw => by have hc := row_c (i := 3) (u := .int .i64 (f j).B) hw.1 rfl; clear hw; go_simp⟩) h0 ?_
            try simp only [Act.put, lay_out]
            refine wpAnyH_take (i := 11) (v := .pointer (some ⟨wr.heap.size, 4, none⟩)) rfl (by kernel_rfl) (by kernel_rfl) (by kernel_rfl) (fun _ _ _ h => h) (.inl ⟨by rfl, fun w hw => by clear hw; go_simp⟩) h0 ?_
            try simp only [Act.put, lay_out]
            refine wpAnyH_take (i := 12) (v := .int .i64 (f j).E) rfl (by kernel_rfl) (by kernel_rfl) (by kernel_rfl) (fun _ _ _ h => h) (.inl ⟨by rfl, fun w' hw => by have hc := row_c (i := 4) (u := .int .i64 (f j).E) hw.1 rfl; clear hw; go_simp⟩) h0 ?_
            try simp only [Act.put, lay_out]
            refine wpAnyH_take (i := 14) (v := .int .u64 (z : Nat)) rfl (by kernel_rfl) (by kernel_rfl) (by kernel_rfl) (fun _ _ _ h => h) (.inl ⟨by rfl, fun w hw => by clear hw; go_simp⟩) h0 ?_
            try simp only [Act.put, lay_out]
            refine wpAnyH_ready (rs := [7]) (by kernel_rfl) (by simp) (AllReadyH.cons rfl (fun K hK => ?_) AllReadyH.nil)
            rw [if_pos (by rfl)]
            go_simp
            go_at_call 51
            (with_reducible refine (HAT.out (f j).A _ Y0.out).mono ?_); rintro e wc0 ⟨rfl, rfl⟩
            refine hK.out _ _ (⟨Y0.out.op, Y0.out.word j hlt⟩) (fun h1x => ?_)
            clear hK K
            try simp only [Act.put, lay_out]
            refine wpAnyH_ready (rs := [10]) (by kernel_rfl) (by simp) (AllReadyH.cons rfl (fun K hK => ?_) AllReadyH.nil)
            rw [if_pos (by rfl)]
            go_simp
            go_at_call 51
            (with_reducible refine (HAT.out (f j).B _ Y0.out).mono ?_); rintro e wc1 ⟨rfl, rfl⟩
            refine hK.out _ _ (⟨Y0.out.op, Y0.out.word j hlt⟩) (fun h2x => ?_)
            clear hK K
            try simp only [Act.put, lay_out]
            refine wpAnyH_ready (rs := [13]) (by kernel_rfl) (by simp) (AllReadyH.cons rfl (fun K hK => ?_) AllReadyH.nil)
            rw [if_pos (by rfl)]
            go_simp
            go_at_call 51
            (with_reducible refine (HAT.out (f j).E _ Y0.out).mono ?_); rintro e wc2 ⟨rfl, rfl⟩
            refine hK.out _ _ (⟨Y0.out.op, Y0.out.word j hlt⟩) (fun h3x => ?_)
            clear hK K
            try simp only [Act.put, lay_out]
            refine wpAnyH_ready (rs := [15]) (by kernel_rfl) (by simp) (AllReadyH.cons rfl (fun K hK => ?_) AllReadyH.nil)
            rw [if_pos (by rfl)]
            go_simp
            go_at_call 50
            (with_reducible refine (HEV.out _).mono ?_); rintro e we ⟨rfl, hb1⟩
            have YE := hid (Y0.out.self hb1)
            clear hb1
            refine hK.out _ _ (⟨YE.out.op, YE.out.word j hlt⟩) (fun h4x => ?_)
            clear hK K
            try simp only [Act.put, lay_out]
            refine wpAnyH_take (i := 16) (v := .bool false) rfl (by kernel_rfl) (by kernel_rfl) (by kernel_rfl) (fun _ _ _ h => h) (.inl ⟨by rfl, fun w hw => by clear hw; go_simp⟩) h4x ?_
            try simp only [Act.put, lay_out]
            refine wpAnyH_done (by kernel_rfl) ?_ _
            refine NoPanic.normal ?_
            clear h0 h1x h2x h3x h4x
            try simp only [Act.put, lay_out]
            go_wp2
            go_roundw
            case rel => exact ⟨j + 1, by omega, by go_num, by rw [HG.out], YE.out.b⟩
            case measure => simp [intOf]; omega
          · have hwd : wdAt f mk TN ks KN j = 0 := by unfold wdAt; rw [if_neg (fun q => hk1 q.1), if_neg (fun q => hkn q.2)]
            have e2 : ((f j).K == 2) = true := by simp [hk2]
            have wk : IntKind.u64.wrap (KN : Int) = (KN : Int) := by rw [IntKind.wrap_u64]; omega
            have c2 : ¬ ((f j).C : Int) < (KN : Int) := by omega
            have HEV : Hid (∀ wx, Calls Try.prog 50 #[.agg (opCs (f j)), .int .u64 (wordAt vv L (f j).A : Nat), .int .u64 (wordAt vv L (f j).B : Nat), .int .u64 (wordAt vv L (f j).E : Nat), .int .u64 0] wx fun e w' => e = .returned (.int .u64 (vv j : Nat)) ∧ Below wx.heap.size wx w') := hid (fun wx => by have := HEG.out wx; rw [hwd] at this; exact this)
            clear hs hwd hk1 hk2 HST hkn HEG
            generalize cnt isR f j = c at *
            go_wp2_with fail
            have Y0 := hid YB.out.drew
            refine wp_region_noPanic ?_
            refine wp_region_held_drew (S := fun w' => w'.heap[wr.heap.size]? = some (.cells (opCs (f j)) 43 (0, 0)) ∧ w'.cell? ⟨gv, ov + j, none⟩ = some (.int .u64 (vv j : Int))) (by kernel_rfl) (⟨Y0.out.op, Y0.out.word j hlt⟩) (fun h0 => ?_)
            generalize wB.drew = y1 at *
            refine wpAnyH_take (i := 0) (v := .slice (some ⟨gv, ov, none⟩) L cv) rfl (by kernel_rfl) (by kernel_rfl) (by kernel_rfl) (fun _ _ _ h => h) (.inl ⟨by rfl, fun w hw => by clear hw; go_simp⟩) h0 ?_
            try simp only [Act.put, lay_out]
            refine wpAnyH_take (i := 1) (v := .int .i64 (j : Int)) rfl (by kernel_rfl) (by kernel_rfl) (by kernel_rfl) (fun _ _ _ h => h) (.inl ⟨by rfl, fun w hw => by clear hw; go_simp⟩) h0 ?_
            try simp only [Act.put, lay_out]
            refine wpAnyH_take (i := 2) (v := .pointer (some ⟨gv, ov + j, none⟩)) rfl (by kernel_rfl) (by kernel_rfl) (by kernel_rfl) (fun _ _ _ h => h) (.inl ⟨by rfl, fun w hw => by clear hw; go_simp⟩) h0 ?_
            try simp only [Act.put, lay_out]
            refine wpAnyH_take (i := 3) (v := .int .u64 (vv j : Int)) rfl (by kernel_rfl) (by kernel_rfl) (by kernel_rfl) (fun _ _ _ h => h) (.inl ⟨by rfl, fun w' hw => by have hc := hw.2; clear hw; go_simp⟩) h0 ?_
            try simp only [Act.put, lay_out]
            refine wpAnyH_take (i := 4) (v := .agg (opCs (f j))) rfl (by kernel_rfl) (by kernel_rfl) (by kernel_rfl) (fun _ _ _ h => h) (yields_load_row (by rfl) 43 _ rfl wr.heap.size 43 (opCs (f j)) _ rfl (fun w h => h.1) Try.underlying43 rfl (by kernel_rfl)) h0 ?_
            try simp only [Act.put, lay_out]
            refine wpAnyH_take (i := 5) (v := .pointer (some ⟨wr.heap.size, 2, none⟩)) rfl (by kernel_rfl) (by kernel_rfl) (by kernel_rfl) (fun _ _ _ h => h) (.inl ⟨by rfl, fun w hw => by clear hw; go_simp⟩) h0 ?_
            try simp only [Act.put, lay_out]
            refine wpAnyH_take (i := 6) (v := .int .i64 (f j).A) rfl (by kernel_rfl) (by kernel_rfl) (by kernel_rfl) (fun _ _ _ h => h) (.inl ⟨by rfl, fun w' hw => by have hc := row_c (i := 2) (u := .int .i64 (f j).A) hw.1 rfl; clear hw; go_simp⟩) h0 ?_
            try simp only [Act.put, lay_out]
            refine wpAnyH_take (i := 8) (v := .pointer (some ⟨wr.heap.size, 3, none⟩)) rfl (by kernel_rfl) (by kernel_rfl) (by kernel_rfl) (fun _ _ _ h => h) (.inl ⟨by rfl, fun w hw => by clear hw; go_simp⟩) h0 ?_
            try simp only [Act.put, lay_out]
            refine wpAnyH_take (i := 9) (v := .int .i64 (f j).B) rfl (by kernel_rfl) (by kernel_rfl) (by kernel_rfl) (fun _ _ _ h => h) (.inl ⟨by rfl, fun w' hw => by have hc := row_c (i := 3) (u := .int .i64 (f j).B) hw.1 rfl; clear hw; go_simp⟩) h0 ?_
            try simp only [Act.put, lay_out]
            refine wpAnyH_take (i := 11) (v := .pointer (some ⟨wr.heap.size, 4, none⟩)) rfl (by kernel_rfl) (by kernel_rfl) (by kernel_rfl) (fun _ _ _ h => h) (.inl ⟨by rfl, fun w hw => by clear hw; go_simp⟩) h0 ?_
            try simp only [Act.put, lay_out]
            refine wpAnyH_take (i := 12) (v := .int .i64 (f j).E) rfl (by kernel_rfl) (by kernel_rfl) (by kernel_rfl) (fun _ _ _ h => h) (.inl ⟨by rfl, fun w' hw => by have hc := row_c (i := 4) (u := .int .i64 (f j).E) hw.1 rfl; clear hw; go_simp⟩) h0 ?_
            try simp only [Act.put, lay_out]
            refine wpAnyH_take (i := 14) (v := .int .u64 0) rfl (by kernel_rfl) (by kernel_rfl) (by kernel_rfl) (fun _ _ _ h => h) (.inl ⟨by rfl, fun w hw => by clear hw; go_simp⟩) h0 ?_
            try simp only [Act.put, lay_out]
            refine wpAnyH_ready (rs := [7]) (by kernel_rfl) (by simp) (AllReadyH.cons rfl (fun K hK => ?_) AllReadyH.nil)
            rw [if_pos (by rfl)]
            go_simp
            go_at_call 51
            (with_reducible refine (HAT.out (f j).A _ Y0.out).mono ?_); rintro e wc0 ⟨rfl, rfl⟩
            refine hK.out _ _ (⟨Y0.out.op, Y0.out.word j hlt⟩) (fun h1x => ?_)
            clear hK K
            try simp only [Act.put, lay_out]
            refine wpAnyH_ready (rs := [10]) (by kernel_rfl) (by simp) (AllReadyH.cons rfl (fun K hK => ?_) AllReadyH.nil)
            rw [if_pos (by rfl)]
            go_simp
            go_at_call 51
            (with_reducible refine (HAT.out (f j).B _ Y0.out).mono ?_); rintro e wc1 ⟨rfl, rfl⟩
            refine hK.out _ _ (⟨Y0.out.op, Y0.out.word j hlt⟩) (fun h2x => ?_)
            clear hK K
            try simp only [Act.put, lay_out]
            refine wpAnyH_ready (rs := [13]) (by kernel_rfl) (by simp) (AllReadyH.cons rfl (fun K hK => ?_) AllReadyH.nil)
            rw [if_pos (by rfl)]
            go_simp
            go_at_call 51
            (with_reducible refine (HAT.out (f j).E _ Y0.out).mono ?_); rintro e wc2 ⟨rfl, rfl⟩
            refine hK.out _ _ (⟨Y0.out.op, Y0.out.word j hlt⟩) (fun h3x => ?_)
            clear hK K
            try simp only [Act.put, lay_out]
            refine wpAnyH_ready (rs := [15]) (by kernel_rfl) (by simp) (AllReadyH.cons rfl (fun K hK => ?_) AllReadyH.nil)
            rw [if_pos (by rfl)]
            go_simp
            go_at_call 50
            (with_reducible refine (HEV.out _).mono ?_); rintro e we ⟨rfl, hb1⟩
            have YE := hid (Y0.out.self hb1)
            clear hb1
            refine hK.out _ _ (⟨YE.out.op, YE.out.word j hlt⟩) (fun h4x => ?_)
            clear hK K
            try simp only [Act.put, lay_out]
            refine wpAnyH_take (i := 16) (v := .bool false) rfl (by kernel_rfl) (by kernel_rfl) (by kernel_rfl) (fun _ _ _ h => h) (.inl ⟨by rfl, fun w hw => by clear hw; go_simp⟩) h4x ?_
            try simp only [Act.put, lay_out]
            refine wpAnyH_done (by kernel_rfl) ?_ _
            refine NoPanic.normal ?_
            clear h0 h1x h2x h3x h4x
            try simp only [Act.put, lay_out]
            go_wp2
            go_roundw
            case rel => exact ⟨j + 1, by omega, by go_num, by rw [HG.out], YE.out.b⟩
            case measure => simp [intOf]; omega
        · have hwd : wdAt f mk TN ks KN j = 0 := by unfold wdAt; rw [if_neg (fun q => hk1 q.1), if_neg (fun q => hk2 q.1)]
          have e2 : ((f j).K == 2) = false := by simp [hk2]
          have HEV : Hid (∀ wx, Calls Try.prog 50 #[.agg (opCs (f j)), .int .u64 (wordAt vv L (f j).A : Nat), .int .u64 (wordAt vv L (f j).B : Nat), .int .u64 (wordAt vv L (f j).E : Nat), .int .u64 0] wx fun e w' => e = .returned (.int .u64 (vv j : Nat)) ∧ Below wx.heap.size wx w') := hid (fun wx => by have := HEG.out wx; rw [hwd] at this; exact this)
          clear hs hwd hk1 hk2 HST HEG
          generalize cnt isR f j = c at *
          go_wp2_with fail
          have Y0 := hid YB.out.drew
          refine wp_region_noPanic ?_
          refine wp_region_held_drew (S := fun w' => w'.heap[wr.heap.size]? = some (.cells (opCs (f j)) 43 (0, 0)) ∧ w'.cell? ⟨gv, ov + j, none⟩ = some (.int .u64 (vv j : Int))) (by kernel_rfl) (⟨Y0.out.op, Y0.out.word j hlt⟩) (fun h0 => ?_)
          generalize wB.drew = y1 at *
          refine wpAnyH_take (i := 0) (v := .slice (some ⟨gv, ov, none⟩) L cv) rfl (by kernel_rfl) (by kernel_rfl) (by kernel_rfl) (fun _ _ _ h => h) (.inl ⟨by rfl, fun w hw => by clear hw; go_simp⟩) h0 ?_
          try simp only [Act.put, lay_out]
          refine wpAnyH_take (i := 1) (v := .int .i64 (j : Int)) rfl (by kernel_rfl) (by kernel_rfl) (by kernel_rfl) (fun _ _ _ h => h) (.inl ⟨by rfl, fun w hw => by clear hw; go_simp⟩) h0 ?_
          try simp only [Act.put, lay_out]
          refine wpAnyH_take (i := 2) (v := .pointer (some ⟨gv, ov + j, none⟩)) rfl (by kernel_rfl) (by kernel_rfl) (by kernel_rfl) (fun _ _ _ h => h) (.inl ⟨by rfl, fun w hw => by clear hw; go_simp⟩) h0 ?_
          try simp only [Act.put, lay_out]
          refine wpAnyH_take (i := 3) (v := .int .u64 (vv j : Int)) rfl (by kernel_rfl) (by kernel_rfl) (by kernel_rfl) (fun _ _ _ h => h) (.inl ⟨by rfl, fun w' hw => by have hc := hw.2; clear hw; go_simp⟩) h0 ?_
          try simp only [Act.put, lay_out]
          refine wpAnyH_take (i := 4) (v := .agg (opCs (f j))) rfl (by kernel_rfl) (by kernel_rfl) (by kernel_rfl) (fun _ _ _ h => h) (yields_load_row (by rfl) 43 _ rfl wr.heap.size 43 (opCs (f j)) _ rfl (fun w h => h.1) Try.underlying43 rfl (by kernel_rfl)) h0 ?_
          try simp only [Act.put, lay_out]
          refine wpAnyH_take (i := 5) (v := .pointer (some ⟨wr.heap.size, 2, none⟩)) rfl (by kernel_rfl) (by kernel_rfl) (by kernel_rfl) (fun _ _ _ h => h) (.inl ⟨by rfl, fun w hw => by clear hw; go_simp⟩) h0 ?_
          try simp only [Act.put, lay_out]
          refine wpAnyH_take (i := 6) (v := .int .i64 (f j).A) rfl (by kernel_rfl) (by kernel_rfl) (by kernel_rfl) (fun _ _ _ h => h) (.inl ⟨by rfl, fun w' hw => by have hc := row_c (i := 2) (u := .int .i64 (f j).A) hw.1 rfl; clear hw; go_simp⟩) h0 ?_
          try simp only [Act.put, lay_out]
          refine wpAnyH_take (i := 8) (v := .pointer (some ⟨wr.heap.size, 3, none⟩)) rfl (by kernel_rfl) (by kernel_rfl) (by kernel_rfl) (fun _ _ _ h => h) (.inl ⟨by rfl, fun w hw => by clear hw; go_simp⟩) h0 ?_
          try simp only [Act.put, lay_out]
          refine wpAnyH_take (i := 9) (v := .int .i64 (f j).B) rfl (by kernel_rfl) (by kernel_rfl) (by kernel_rfl) (fun _ _ _ h => h) (.inl ⟨by rfl, fun w' hw => by have hc := row_c (i := 3) (u := .int .i64 (f j).B) hw.1 rfl; clear hw; go_simp⟩) h0 ?_
          try simp only [Act.put, lay_out]
          refine wpAnyH_take (i := 11) (v := .pointer (some ⟨wr.heap.size, 4, none⟩)) rfl (by kernel_rfl) (by kernel_rfl) (by kernel_rfl) (fun _ _ _ h => h) (.inl ⟨by rfl, fun w hw => by clear hw; go_simp⟩) h0 ?_
          try simp only [Act.put, lay_out]
          refine wpAnyH_take (i := 12) (v := .int .i64 (f j).E) rfl (by kernel_rfl) (by kernel_rfl) (by kernel_rfl) (fun _ _ _ h => h) (.inl ⟨by rfl, fun w' hw => by have hc := row_c (i := 4) (u := .int .i64 (f j).E) hw.1 rfl; clear hw; go_simp⟩) h0 ?_
          try simp only [Act.put, lay_out]
          refine wpAnyH_take (i := 14) (v := .int .u64 0) rfl (by kernel_rfl) (by kernel_rfl) (by kernel_rfl) (fun _ _ _ h => h) (.inl ⟨by rfl, fun w hw => by clear hw; go_simp⟩) h0 ?_
          try simp only [Act.put, lay_out]
          refine wpAnyH_ready (rs := [7]) (by kernel_rfl) (by simp) (AllReadyH.cons rfl (fun K hK => ?_) AllReadyH.nil)
          rw [if_pos (by rfl)]
          go_simp
          go_at_call 51
          (with_reducible refine (HAT.out (f j).A _ Y0.out).mono ?_); rintro e wc0 ⟨rfl, rfl⟩
          refine hK.out _ _ (⟨Y0.out.op, Y0.out.word j hlt⟩) (fun h1x => ?_)
          clear hK K
          try simp only [Act.put, lay_out]
          refine wpAnyH_ready (rs := [10]) (by kernel_rfl) (by simp) (AllReadyH.cons rfl (fun K hK => ?_) AllReadyH.nil)
          rw [if_pos (by rfl)]
          go_simp
          go_at_call 51
          (with_reducible refine (HAT.out (f j).B _ Y0.out).mono ?_); rintro e wc1 ⟨rfl, rfl⟩
          refine hK.out _ _ (⟨Y0.out.op, Y0.out.word j hlt⟩) (fun h2x => ?_)
          clear hK K
          try simp only [Act.put, lay_out]
          refine wpAnyH_ready (rs := [13]) (by kernel_rfl) (by simp) (AllReadyH.cons rfl (fun K hK => ?_) AllReadyH.nil)
          rw [if_pos (by rfl)]
          go_simp
          go_at_call 51
          (with_reducible refine (HAT.out (f j).E _ Y0.out).mono ?_); rintro e wc2 ⟨rfl, rfl⟩
          refine hK.out _ _ (⟨Y0.out.op, Y0.out.word j hlt⟩) (fun h3x => ?_)
          clear hK K
          try simp only [Act.put, lay_out]
          refine wpAnyH_ready (rs := [15]) (by kernel_rfl) (by simp) (AllReadyH.cons rfl (fun K hK => ?_) AllReadyH.nil)
          rw [if_pos (by rfl)]
          go_simp
          go_at_call 50
          (with_reducible refine (HEV.out _).mono ?_); rintro e we ⟨rfl, hb1⟩
          have YE := hid (Y0.out.self hb1)
          clear hb1
          refine hK.out _ _ (⟨YE.out.op, YE.out.word j hlt⟩) (fun h4x => ?_)
          clear hK K
          try simp only [Act.put, lay_out]
          refine wpAnyH_take (i := 16) (v := .bool false) rfl (by kernel_rfl) (by kernel_rfl) (by kernel_rfl) (fun _ _ _ h => h) (.inl ⟨by rfl, fun w hw => by clear hw; go_simp⟩) h4x ?_
          try simp only [Act.put, lay_out]
          refine wpAnyH_done (by kernel_rfl) ?_ _
          refine NoPanic.normal ?_
          clear h0 h1x h2x h3x h4x
          try simp only [Act.put, lay_out]
          go_wp2
          go_roundw
          case rel => exact ⟨j + 1, by omega, by go_num, by rw [HG.out], YE.out.b⟩
          case measure => simp [intOf]; omega
    · obtain rfl : j = L := by omega
      go_wp2
      go_ret
      exact ⟨rfl, HI.out.low⟩
end Go.Proofs.Ytffoinnllihdeaa
