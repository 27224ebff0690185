import Derived.Test.YtdgkofnboeepbaaProg
import Derived.Test.YtdgkofnboeepbaaMgai
import Derived.Deep.CutRange
import Derived.Deep.CutBlock
/- Share: ShareHides over any machine. -/
namespace Go.Proofs.Ytdgkofnboeepbaa
open Go.RowKit
set_option maxRecDepth 100000
/-- Two words as a row. -/
def twAB (a b : Nat) : Nat → Nat := fun i => if i = 0 then a else b
/-- The machine that encodes. -/
def hidS (nn : Nat) (a b : Nat) : Ms := startD (nn : Int) 9 (twAB a b) 2 0 2
def hidK (nn a b : Nat) : Nat := if nn = 2 then a ^^^ 0 else a ^^^ b
theorem hid2 (tw : Nat → Nat) (x : Nat) : (encS (startD 2 9 tw 2 0 2) x).e = 0 ∧ (encS (startD 2 9 tw 2 0 2) x).L = 2 ∧ (encS (startD 2 9 tw 2 0 2) x).dry = false ∧ (encS (startD 2 9 tw 2 0 2) x).v 0 = tw 0 ∧ (encS (startD 2 9 tw 2 0 2) x).v 1 = x ^^^ tw 0 ^^^ 0 := ⟨by kernel_rfl, by kernel_rfl, by kernel_rfl, by kernel_rfl, by kernel_rfl⟩
theorem hid3 (tw : Nat → Nat) (x : Nat) : (encS (startD 3 9 tw 2 0 2) x).e = 0 ∧ (encS (startD 3 9 tw 2 0 2) x).L = 3 ∧ (encS (startD 3 9 tw 2 0 2) x).dry = false ∧ (encS (startD 3 9 tw 2 0 2) x).v 0 = tw 0 ∧ (encS (startD 3 9 tw 2 0 2) x).v 1 = tw 1 ∧ (encS (startD 3 9 tw 2 0 2) x).v 2 = x ^^^ tw 0 ^^^ tw 1 := ⟨by kernel_rfl, by kernel_rfl, by kernel_rfl, by kernel_rfl, by kernel_rfl, by kernel_rfl⟩
/-- What is encoded: no error, as many words as shares, all but the last one the masks. -/
theorem hid_all {nn : Nat} (hn : nn = 2 ∨ nn = 3) (a b x : Nat) : (encS (hidS nn a b) x).e = 0 ∧ (encS (hidS nn a b) x).L = nn ∧ (encS (hidS nn a b) x).dry = false ∧ (∀ j, j + 1 < nn → (encS (hidS nn a b) x).v j = twAB a b j) ∧ (encS (hidS nn a b) x).v (nn - 1) = x ^^^ hidK nn a b := by
  rcases hn with rfl | rfl
  · have e : hidS 2 a b = startD 2 9 (twAB a b) 2 0 2 := rfl
    rw [e]
    obtain ⟨h1, h2, h3, h4, h5⟩ := hid2 (twAB a b) x
    generalize encS (startD 2 9 (twAB a b) 2 0 2) x = V at *
    refine ⟨h1, h2, h3, fun j hj => ?_, h5.trans (Nat.xor_assoc _ _ _)⟩
    obtain rfl : j = 0 := by omega
    exact h4
  · have e : hidS 3 a b = startD 3 9 (twAB a b) 2 0 2 := rfl
    rw [e]
    obtain ⟨h1, h2, h3, h4, h5, h6⟩ := hid3 (twAB a b) x
    generalize encS (startD 3 9 (twAB a b) 2 0 2) x = V at *
    refine ⟨h1, h2, h3, fun j hj => ?_, h6.trans (Nat.xor_assoc _ _ _)⟩
    rcases (by omega : j = 0 ∨ j = 1) with rfl | rfl
    · exact h4
    · exact h5
/-- How many are unlike among the first j. -/
def unl (nn x y j : Nat) : Nat := if j < nn then 0 else if x = y then 0 else 1
theorem unl_step {nn a b x y j : Nat} (hn : nn = 2 ∨ nn = 3) (hj : j < nn) : unl nn x y (j + 1) = unl nn x y j + (if (((encS (hidS nn a b) x).v j : Int) != ((encS (hidS nn a b) y).v j : Int)) = true then 1 else 0) := by
  obtain ⟨_, _, _, p4, p5⟩ := hid_all hn a b x
  obtain ⟨_, _, _, q4, q5⟩ := hid_all hn a b y
  have u0 : unl nn x y j = 0 := if_pos hj
  rw [u0]
  by_cases h : j + 1 < nn
  · have u1 : unl nn x y (j + 1) = 0 := if_pos h
    rw [u1, p4 j h, q4 j h]
    simp
  · obtain rfl : j = nn - 1 := by omega
    rw [p5, q5]
    unfold unl
    rw [if_neg (by omega)]
    by_cases e : x = y
    · subst e; simp
    · rw [if_neg e]
      have hne : x ^^^ hidK nn a b ≠ y ^^^ hidK nn a b := fun q => e (by have h2 := congrArg (fun z => z ^^^ hidK nn a b) q; simpa [Nat.xor_assoc] using h2)
      have : ((((x ^^^ hidK nn a b : Nat) : Int)) != (((y ^^^ hidK nn a b : Nat) : Int))) = true := by simp only [bne_iff_ne, ne_eq, Int.natCast_inj]; exact hne
      rw [this]; rfl
/-- Two programs' machines and boxes beside them. -/
structure Hw (Pm : World → Nat → Ms → (Nat → Prop) → Prop) (lo : Nat) (W w : World) (pa pb : Nat) (SA SB : Ms) (bs : List (Nat × Obj)) : Prop where
  ex : ∃ FA FB, Pm w pa SA FA ∧ Pm w pb SB FB ∧ (∀ k, FA k → lo ≤ k ∧ ¬ FB k ∧ ∀ q ∈ bs, q.1 ≠ k) ∧ (∀ k, FB k → lo ≤ k ∧ ∀ q ∈ bs, q.1 ≠ k)
  bx : ∀ q ∈ bs, lo ≤ q.1 ∧ w.heap[q.1]? = some q.2
  nd : (bs.map (·.1)).Nodup
  low : Below lo W w
  los : lo ≤ w.heap.size
section
variable {Pm : World → Nat → Ms → (Nat → Prop) → Prop} {lo : Nat} {W w w' : World} {pa pb : Nat} {SA SB : Ms} {bs : List (Nat × Obj)}
theorem Hw.lt (h : Hw Pm lo W w pa pb SA SB bs) {q : Nat × Obj} (hq : q ∈ bs) : q.1 < w.heap.size := (Array.getElem?_eq_some_iff.1 (h.bx q hq).2).1
theorem Hw.self (hM : Mach Pm) (h : Hw Pm lo W w pa pb SA SB bs) (hb : Below w.heap.size w w') : Hw Pm lo W w' pa pb SA SB bs := by
  obtain ⟨FA, FB, h1, h2, h3, h4⟩ := h.ex
  exact ⟨⟨FA, FB, hM.stays h1 hb.size (fun k hk => hb.block k (hM.lt h1 k hk)), hM.stays h2 hb.size (fun k hk => hb.block k (hM.lt h2 k hk)), h3, h4⟩, fun q hq => ⟨(h.bx q hq).1, (hb.block _ (h.lt hq)).trans (h.bx q hq).2⟩, h.nd, h.low.trans (hb.mono h.los), Nat.le_trans h.los hb.size⟩
theorem Hw.new (hM : Mach Pm) (h : Hw Pm lo W w pa pb SA SB bs) (cs : Array Value) (T : TypeId) : Hw Pm lo W (w.alloc (.cells cs T)) pa pb SA SB ((w.heap.size, .cells cs T (0, 0)) :: bs) := by
  have h' := h.self hM ((Below.refl w.heap.size w).alloc (Nat.le_refl _) (.cells cs T))
  obtain ⟨FA, FB, h1, h2, h3, h4⟩ := h.ex
  have hs : w.heap.size ≤ (w.alloc (.cells cs T)).heap.size := by rw [sz_al]; omega
  refine ⟨⟨FA, FB, hM.stays h1 hs (fun k hk => Below.heap_alloc w _ k (hM.lt h1 k hk)), hM.stays h2 hs (fun k hk => Below.heap_alloc w _ k (hM.lt h2 k hk)), fun k hk => ⟨(h3 k hk).1, (h3 k hk).2.1, fun q hq => ?_⟩, fun k hk => ⟨(h4 k hk).1, fun q hq => ?_⟩⟩, fun q hq => ?_, ?_, h'.low, h'.los⟩
  · rcases List.mem_cons.1 hq with rfl | hq
    · have := hM.lt h1 k hk; show w.heap.size ≠ k; omega
    · exact (h3 k hk).2.2 q hq
  · rcases List.mem_cons.1 hq with rfl | hq
    · have := hM.lt h2 k hk; show w.heap.size ≠ k; omega
    · exact (h4 k hk).2 q hq
  · rcases List.mem_cons.1 hq with rfl | hq
    · exact ⟨h.los, heap_alloc_new _ _⟩
    · exact h'.bx q hq
  · rw [List.map_cons, List.nodup_cons]
    refine ⟨fun e => ?_, h.nd⟩
    obtain ⟨q, hq, e⟩ := List.mem_map.1 e
    have := h.lt hq
    have e' : q.1 = w.heap.size := e
    omega
theorem Hw.swap {q r : Nat × Obj} (h : Hw Pm lo W w pa pb SA SB (q :: r :: bs)) : Hw Pm lo W w pa pb SA SB (r :: q :: bs) := by
  have hm : ∀ z, z ∈ r :: q :: bs → z ∈ q :: r :: bs := fun z hz => by simp at hz ⊢; rcases hz with e | e | e <;> simp [e]
  obtain ⟨FA, FB, h1, h2, h3, h4⟩ := h.ex
  refine ⟨⟨FA, FB, h1, h2, fun k hk => ⟨(h3 k hk).1, (h3 k hk).2.1, fun z hz => (h3 k hk).2.2 z (hm z hz)⟩, fun k hk => ⟨(h4 k hk).1, fun z hz => (h4 k hk).2 z (hm z hz)⟩⟩, fun z hz => h.bx z (hm z hz), ?_, h.low, h.los⟩
  have := h.nd
  simp only [List.map_cons, List.nodup_cons, List.mem_cons, not_or] at this ⊢
  exact ⟨⟨fun e => this.1.1 e.symm, this.2.1⟩, this.1.2, this.2.2⟩
theorem Hw.row (hM : Mach Pm) {n : Nat} {cs : Array Value} {T : TypeId} (h : Hw Pm lo W w pa pb SA SB ((n, .cells cs T (0, 0)) :: bs)) (cs' : Array Value) : Hw Pm lo W (w.setRow n cs') pa pb SA SB ((n, .cells cs' T (0, 0)) :: bs) := by
  have ho : ∀ k, k ≠ n → (w.setRow n cs').heap[k]? = w.heap[k]? := fun k hk => setRow_other w n k cs' hk
  have hs : w.heap.size ≤ (w.setRow n cs').heap.size := by simp [World.setRow]
  have hn := h.bx _ (List.mem_cons_self ..)
  obtain ⟨FA, FB, h1, h2, h3, h4⟩ := h.ex
  have hnd := h.nd
  rw [List.map_cons, List.nodup_cons] at hnd
  have a1 : ∀ k, FA k → k ≠ n := fun k hk e => (h3 k hk).2.2 _ (List.mem_cons_self ..) e.symm
  have a2 : ∀ k, FB k → k ≠ n := fun k hk e => (h4 k hk).2 _ (List.mem_cons_self ..) e.symm
  refine ⟨⟨FA, FB, hM.stays h1 hs (fun k hk => ho k (a1 k hk)), hM.stays h2 hs (fun k hk => ho k (a2 k hk)), fun k hk => ⟨(h3 k hk).1, (h3 k hk).2.1, fun q hq => ?_⟩, fun k hk => ⟨(h4 k hk).1, fun q hq => ?_⟩⟩, fun q hq => ?_, ?_, below_setRow h.low hn.1 cs', Nat.le_trans h.los hs⟩
  · rcases List.mem_cons.1 hq with rfl | hq
    · exact fun e => a1 k hk e.symm
    · exact (h3 k hk).2.2 q (List.mem_cons_of_mem _ hq)
  · rcases List.mem_cons.1 hq with rfl | hq
    · exact fun e => a2 k hk e.symm
    · exact (h4 k hk).2 q (List.mem_cons_of_mem _ hq)
  · rcases List.mem_cons.1 hq with rfl | hq
    · exact ⟨hn.1, setRow_heap w n cs cs' T _ hn.2⟩
    · exact ⟨(h.bx q (List.mem_cons_of_mem _ hq)).1, (ho q.1 (fun e => hnd.1 (List.mem_map.2 ⟨q, hq, e⟩))).trans (h.bx q (List.mem_cons_of_mem _ hq)).2⟩
  · rw [List.map_cons, List.nodup_cons]; exact hnd
theorem Hw.bl (h : Hw Pm lo W w pa pb SA SB bs) (i : Nat) {n : Nat} {u : Obj} (hi : bs[i]? = some (n, u)) : w.heap[n]? = some u := (h.bx (n, u) (List.mem_of_getElem? hi)).2
theorem hencA (hM : Mach Pm) (hS : ShI Pm) {k : Nat} (x : Nat) (h : Hw Pm lo W w pa pb SA SB bs) (hq : Bq k SA) (hk : k + 10 ≤ 100000) (hn : SA.n = 2 ∨ SA.n = 3) (hx : x < 2 ^ 64) :
    Calls Try.prog 13 #[.pointer (some ⟨pa, 0, none⟩), .int .u64 (x : Int)] w fun e w' => e = .returned (.agg (wdV (encR SA))) ∧ Hw Pm lo W w' pa pb (encS SA x) SB bs := by
  obtain ⟨FA, FB, h1, h2, h3, h4⟩ := h.ex
  refine (hS.enc pa k SA FA x w h1 hq hk hn hx).mono fun e w' hr => ⟨hr.1, ?_⟩
  obtain ⟨F', g1, g2, g3⟩ := hr.2
  have hB : ∀ k, FB k → w'.heap[k]? = w.heap[k]? := fun k hk => g2.block k (hM.lt h2 k hk) (fun e => (h3 k e).2.1 hk)
  refine ⟨⟨F', FB, g1, hM.stays h2 g2.size hB, fun k hk => ?_, h4⟩, fun q hq => ⟨(h.bx q hq).1, (g2.block q.1 (h.lt hq) (fun e => (h3 _ e).2.2 q hq rfl)).trans (h.bx q hq).2⟩, h.nd, h.low.trans (g2.below (fun k f => (h3 k f).1) h.los), Nat.le_trans h.los g2.size⟩
  rcases g3 k hk with f | f
  · exact h3 k f
  · exact ⟨Nat.le_trans h.los f, fun e => by have := hM.lt h2 k e; omega, fun q hq e => by have := h.lt hq; omega⟩
theorem hencB (hM : Mach Pm) (hS : ShI Pm) {k : Nat} (x : Nat) (h : Hw Pm lo W w pa pb SA SB bs) (hq : Bq k SB) (hk : k + 10 ≤ 100000) (hn : SB.n = 2 ∨ SB.n = 3) (hx : x < 2 ^ 64) :
    Calls Try.prog 13 #[.pointer (some ⟨pb, 0, none⟩), .int .u64 (x : Int)] w fun e w' => e = .returned (.agg (wdV (encR SB))) ∧ Hw Pm lo W w' pa pb SA (encS SB x) bs := by
  obtain ⟨FA, FB, h1, h2, h3, h4⟩ := h.ex
  refine (hS.enc pb k SB FB x w h2 hq hk hn hx).mono fun e w' hr => ⟨hr.1, ?_⟩
  obtain ⟨F', g1, g2, g3⟩ := hr.2
  have hA : ∀ k, FA k → w'.heap[k]? = w.heap[k]? := fun k hk => g2.block k (hM.lt h1 k hk) (fun e => (h3 k hk).2.1 e)
  refine ⟨⟨FA, F', hM.stays h1 g2.size hA, g1, fun k hk => ⟨(h3 k hk).1, fun e => ?_, (h3 k hk).2.2⟩, fun k hk => ?_⟩, fun q hq => ⟨(h.bx q hq).1, (g2.block q.1 (h.lt hq) (fun e => (h4 _ e).2 q hq rfl)).trans (h.bx q hq).2⟩, h.nd, h.low.trans (g2.below (fun k f => (h4 k f).1) h.los), Nat.le_trans h.los g2.size⟩
  · rcases g3 k e with f | f
    · exact (h3 k hk).2.1 f
    · have := hM.lt h1 k hk; omega
  · rcases g3 k hk with f | f
    · exact h4 k f
    · exact ⟨Nat.le_trans h.los f, fun q hq e => by have := h.lt hq; omega⟩
theorem hvalA (hM : Mach Pm) {k : Nat} (h : Hw Pm lo W w pa pb SA SB bs) (hq : Bq k SA) (hk : k ≤ 1000000) :
    Calls Try.prog 11 #[.pointer (some ⟨pa, 0, none⟩)] w fun e w' => ∃ v, e = .returned v ∧ Rd .u64 w' v (wdL SA.v (SA.keep SA.L)) ∧ Below w.heap.size w w' := by
  obtain ⟨FA, FB, h1, h2, h3, h4⟩ := h.ex
  exact hM.values pa k SA FA w h1 hq hk
theorem hvalB (hM : Mach Pm) {k : Nat} (h : Hw Pm lo W w pa pb SA SB bs) (hq : Bq k SB) (hk : k ≤ 1000000) :
    Calls Try.prog 11 #[.pointer (some ⟨pb, 0, none⟩)] w fun e w' => ∃ v, e = .returned v ∧ Rd .u64 w' v (wdL SB.v (SB.keep SB.L)) ∧ Below w.heap.size w w' := by
  obtain ⟨FA, FB, h1, h2, h3, h4⟩ := h.ex
  exact hM.values pb k SB FB w h2 hq hk
end
theorem exec_neWd {w : World} {o : Oper} {a : Act} (u v : Operand) (ho : o.op = .binOp .neq 33 u v 33) (W : Nat → Int) (hx : a.eval u = .agg (wdV W)) (hy : a.eval v = .agg (wdV W)) :
    (execOp a.eval o).run Try.prog w = .ok (.value (.bool false)) w := by
  have heq := fun w => eqWd W W w
  have hguard : Try.prog.eqGuardType Try.prog.depth 33 = false := by kernel_rfl
  have hd : decide (W 0 = W 0 ∧ W 1 = W 1 ∧ W 2 = W 2) = true := decide_eq_true ⟨rfl, rfl, rfl⟩
  rw [hd] at heq
  clear hd
  unfold execOp
  rw [ho]
  simp only [hx, hy]
  generalize wdV W = A at *
  go_simp
theorem wpList_neWd {w : World} {ops : Array Oper} {rest : List Oper} {o : Oper} {a : Act} {Q : Exit → Act → World → Prop} (hgd : o.guard = none) (u v : Operand) (ho : o.op = .binOp .neq 33 u v 33) (W : Nat → Int) (hx : a.eval u = .agg (wdV W)) (hy : a.eval v = .agg (wdV W))
    (h : wpList Try.prog ops Q rest (a.put o.dst (.bool false)) w) : wpList Try.prog ops Q (o :: rest) a w :=
  wpList_plain hgd fun _ hK => by
    unfold Oper.wp
    rw [exec_neWd u v ho W hx hy]
    exact hK _ _ h
end Go.Proofs.Ytdgkofnboeepbaa
