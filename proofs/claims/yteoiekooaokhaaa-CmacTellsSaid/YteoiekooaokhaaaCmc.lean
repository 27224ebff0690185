import Derived.Test.YteoiekooaokhaaaProg
import Derived.Test.YteoiekooaokhaaaCmb
/- through. -/
namespace Go.Proofs.Yteoiekooaokhaaa
open Go.RowKit
set_option maxRecDepth 100000

theorem kept_head {b M n c : Nat} {a : Option Addr} {δ : Nat → Nat} {w : World} (h : Kept b w (.slice a M c) (ns M δ)) (hn : n ≤ M) : Kept b w (.slice a n n) (ns n δ) := fun W hW => by
  obtain ⟨a', c', e, h1, h2, h3⟩ := kept_prefix h hn W hW
  injection e with e1 e2 e3
  subst e1
  exact ⟨a, n, by rw [ns_len], h1, h2, h3⟩
theorem kept_rest {b M n c : Nat} {a : Option Addr} {δ : Nat → Nat} {w : World} (h : Kept b w (.slice a M c) (ns M δ)) (hM : M ≤ c) (hn : n ≤ M) : Kept b w (.slice (restA a n c) (M - n) (c - n)) (ns (M - n) (fun j => δ (n + j))) := by
  by_cases h0 : M - n = 0
  · rw [h0]; exact kept_zero _ _ _
  · obtain ⟨a', c', e, _, _, hc⟩ := h.rd
    injection e with e1 e2 e3
    subst e1
    obtain ⟨g, off, rfl, _⟩ := hc (by rw [ns_len]; omega)
    have hr : restA (some ⟨g, off, none⟩) n c = some ⟨g, off + n, none⟩ := by
      unfold restA; rw [if_neg (by omega), Option.map_some, Addr.add_mid]
    rw [hr]
    exact kept_suffix h hn
/-- A cut, of rows that were there at w0. -/
theorem kcut_any (b : Nat) (a : Option Addr) (M c n n0 : Nat) (δ : Nat → Nat) (w0 w : World) (hM : M ≤ c) (hn : n = min n0 M) (h : Kept b w0 (.slice a M c) (ns M δ)) :
    Calls Try.prog 37 #[.slice a M c, .int .i64 n0] w fun e w' => ∃ a', e = .returned (.tuple #[.slice a n n, .slice a' (M - n) (c - n)]) ∧
      Kept b w0 (.slice a n n) (ns n δ) ∧ Kept b w0 (.slice a' (M - n) (c - n)) (ns (M - n) (fun j => δ (n + j))) ∧ Below w.heap.size w w' := by
  refine (mcut_any a M c n n0 w hM hn).mono ?_
  rintro e w' ⟨rfl, hlow⟩
  exact ⟨_, rfl, kept_head h (by omega), kept_rest h hM (by omega), hlow⟩
theorem kcut16_any (b : Nat) (a : Option Addr) (M c n : Nat) (δ : Nat → Nat) (w0 w : World) (hM : M ≤ c) (hn : n = min 16 M) (h : Kept b w0 (.slice a M c) (ns M δ)) :
    Calls Try.prog 37 #[.slice a M c, .int .i64 16] w fun e w' => ∃ a', e = .returned (.tuple #[.slice a n n, .slice a' (M - n) (c - n)]) ∧
      Kept b w0 (.slice a n n) (ns n δ) ∧ Kept b w0 (.slice a' (M - n) (c - n)) (ns (M - n) (fun j => δ (n + j))) ∧ Below w.heap.size w w' := kcut_any b a M c n 16 δ w0 w hM hn h

/-- Blocks gone through: k of them; the next one, of n bytes; and m bytes behind it. -/
structure Th (w0 w : World) (d b c cap R R1 : Nat) (Y : Nat → Nat → Nat) (s δ : Nat → Nat) (M : Nat) (wr : World) (k : Nat) (a a' : Option Addr) (n m e : Nat) : Prop where
  base : Gc w d b c cap R R1 Y
  gc : Gc wr d b c cap R R1 Y
  low : Only b w wr
  var : At wr w.heap.size 16 39 (cbF Y R s δ k)
  out : At wr (w.heap.size + 1) 16 39 (fun _ => 0)
  cut : 16 * k + n + m = M ∧ n ≤ 16 ∧ (0 < m → n = 16) ∧ (k = 0 ∨ 0 < n) ∧ m ≤ e
  blk : Kept b w0 (.slice a n n) (ns n (fun j => δ (16 * k + j)))
  rest : Kept b w0 (.slice a' m e) (ns m (fun j => δ (16 * k + n + j)))
section
variable {w0 w wr w1 : World} {d b c cap R R1 M k n m e : Nat} {Y : Nat → Nat → Nat} {s δ : Nat → Nat} {a a' : Option Addr}
theorem Th.asked (h : Th w0 w d b c cap R R1 Y s δ M wr k a a' n m e) (hg : Gc w1 d b c cap R R1 Y) (o : Only b wr w1) : Th w0 w d b c cap R R1 Y s δ M w1 k a a' n m e :=
  ⟨h.base, hg, h.low.trans o, (o.block _ h.var.lt (by have := h.base.lt; omega)).trans h.var, (o.block _ h.out.lt (by have := h.base.lt; omega)).trans h.out, h.cut, h.blk, h.rest⟩
theorem Th.self (h : Th w0 w d b c cap R R1 Y s δ M wr k a a' n m e) (hb : Below wr.heap.size wr w1) : Th w0 w d b c cap R R1 Y s δ M w1 k a a' n m e := h.asked (h.gc.self hb) (Only.of_below hb)
/-- One block more is gone through, and the next one is cut off. -/
theorem Th.next (h : Th w0 w d b c cap R R1 Y s δ M wr k a a' 16 m e) (hm : 0 < m) {f : Nat → Nat} (hf : f = cbF Y R s δ (k + 1)) {n' : Nat} (hn : n' = min 16 m) {a2 : Option Addr} {w2 : World}
    (h1 : Kept b w0 (.slice a' n' n') (ns n' (fun j => δ (16 * k + 16 + j)))) (h2 : Kept b w0 (.slice a2 (m - n') (e - n')) (ns (m - n') (fun j => δ (16 * k + 16 + (n' + j)))))
    (hb : Below (wr.setRow w.heap.size (ba 16 f)).heap.size (wr.setRow w.heap.size (ba 16 f)) w2) : Th w0 w d b c cap R R1 Y s δ M w2 (k + 1) a' a2 n' (m - n') (e - n') := by
  have hr := h.base.row h.gc h.low (Nat.le_refl _) (ba 16 f)
  have hc := h.cut
  have hv : At (wr.setRow w.heap.size (ba 16 f)) w.heap.size 16 39 f := h.var.row f
  have ho : At (wr.setRow w.heap.size (ba 16 f)) (w.heap.size + 1) 16 39 (fun _ => 0) := h.out.rowApart (by omega) _
  subst hf
  refine ⟨h.base, hr.1.self hb, hr.2.trans (Only.of_below hb), hv.self hb, ho.self hb, by omega, ?_, ?_⟩
  · rw [show 16 * (k + 1) = 16 * k + 16 by omega]; exact h1
  · rw [show (fun j => δ (16 * (k + 1) + n' + j)) = (fun j => δ (16 * k + 16 + (n' + j))) from funext fun j => by rw [show 16 * (k + 1) + n' + j = 16 * k + 16 + (n' + j) by omega]]; exact h2
end

set_option maxHeartbeats 1600000 in
theorem through_any (d b c cap R R1 M e : Nat) (Y : Nat → Nat → Nat) (s δ : Nat → Nat) (a : Option Addr) (w0 w : World) (hob : Only b w0 w) (h : Gc w d b c cap R R1 Y) (hs : B16 s) (hδ : ∀ j, j < M → δ j < 256) (hM : M ≤ e) (hv : Kept b w0 (.slice a M e) (ns M δ)) :
    Calls Try.prog 39 #[.pointer (some ⟨d, 0, none⟩), .agg (ba 16 s), .slice a M e] w fun x w' => ∃ a', x = .returned (.tuple #[.agg (ba 16 (cbF Y R s δ (bkN M))), .slice a' (M - 16 * bkN M) (M - 16 * bkN M)]) ∧
      Kept b w0 (.slice a' (M - 16 * bkN M) (M - 16 * bkN M)) (ns (M - 16 * bkN M) (fun j => δ (16 * bkN M + j))) ∧ Gc w' d b c cap R R1 Y ∧ Only b w w' := by
  have HX := hid (bx2_zero w s)
  have HG := hid (h.self HX.out.low)
  have HG0 := hid h
  have HC := hid (fun W => kcut16_any b a M e (min 16 M) δ w0 W hM rfl hv)
  have HB : Hid (∀ k, 16 * k ≤ M → B16 (cbF Y R s δ k)) := hid (fun k hk => cbF_b h.yb hs k fun j hj => hδ j (by omega))
  have HD := hid hδ
  have HLT := hid h.lt
  have HOB := hid hob
  have HME := hid hM
  clear h hs hδ hM hv hob
  go_enter Try.func39, Try.ntmps39
  go_wp2_with (first
    | (go_at_call 37; (with_reducible refine (HC.out _).mono ?_); rintro x w1 ⟨a', rfl, hk1, hk2, hlow⟩
       have HT : Hid (Th w0 w d b c cap R R1 Y s δ M w1 0 a a' (min 16 M) (M - min 16 M) (e - min 16 M)) := hid (by
         refine ⟨HG0.out, HG.out.self hlow, (Only.of_below HX.out.low).trans (Only.of_below hlow), HX.out.key.self hlow, HX.out.beg.self hlow, by have := HME.out; omega, ?_, ?_⟩
         · simpa using hk1
         · simpa using hk2)
       clear hk1 hk2 hlow))
  go_loopw [8, 9] (fun x y wr => ∃ (k n m e1 : Nat) (a1 a2 : Option Addr), x = .slice a1 n n ∧ y = .slice a2 m e1 ∧ Th w0 w d b c cap R R1 Y s δ M wr k a1 a2 n m e1) (fun _ y _ => match y with | .slice _ L _ => L | _ => 0)
  case atStart => exact ⟨0, _, _, _, _, _, rfl, rfl, HT.out⟩
  case round =>
    obtain ⟨k, n, m, e1, a1, a2, rfl, rfl, hT⟩ := hrel
    have HI := hid hT
    clear hT HT HX HG HC
    by_cases h0 : 0 < m
    · obtain rfl : n = 16 := HI.out.cut.2.2.1 h0
      have h1 : (m : Int) > 0 := by omega
      have hcut := HI.out.cut
      have HS := hid (HB.out k (by omega))
      have HBD : Hid (B16 (fun j => δ (16 * k + j))) := hid (fun j hj => HD.out _ (by omega))
      have HF : Hid (cbF Y R s δ (k + 1) = blkF Y R (xorF (cbF Y R s δ k) (fun j => δ (16 * k + j)))) := hid rfl
      have HC := hid (fun W => kcut16_any b a2 m e1 (min 16 m) (fun j => δ (16 * k + 16 + j)) w0 W hcut.2.2.2.2 rfl HI.out.rest)
      have HRD := hid (HI.out.blk wr (HOB.out.trans HI.out.low))
      have H0 := hid h0
      clear hcut h0
      go_wp2_with (first
        | (refine step_load_ba rfl 39 _ rfl w.heap.size 16 39 5 (cbF Y R s δ k) rfl HI.out.var Try.underlying39 infoa ?_)
        | (go_at_call 40; (with_reducible refine (entered_any d b c cap R R1 Y (cbF Y R s δ k) (fun j => δ (16 * k + j)) _ wr HI.out.gc HS.out HBD.out HRD.out).mono ?_); rintro x w2 ⟨rfl, hg2, ho⟩
           have HI2 := hid (HI.out.asked hg2 ho)
           clear hg2 ho)
        | (refine step_store_ba rfl 39 (.tmp 4) (.tmp 21) rfl w.heap.size 16 39 (cbF Y R s δ k) (blkF Y R (xorF (cbF Y R s δ k) (fun j => δ (16 * k + j)))) rfl rfl HI2.out.var infoa ?_)
        | (go_at_call 37; (with_reducible refine (HC.out _).mono ?_); rintro x w4 ⟨a4, rfl, hk1, hk2, hlow⟩
           have HI4 := hid (HI2.out.next H0.out HF.out.symm rfl hk1 hk2 hlow)
           clear hk1 hk2 hlow))
      go_roundw
      case rel => exact ⟨k + 1, _, _, _, _, _, rfl, rfl, HI4.out⟩
      case measure => have := H0.out; show m - min 16 m < m; omega
    · obtain rfl : m = 0 := by omega
      have hcut := HI.out.cut
      have HM : Hid (bkN M = k ∧ M - 16 * k = n) := hid (by
        have hq := bkN_of hcut.2.1 hcut.2.2.2.1
        have hM : M = 16 * k + n := by omega
        rw [hM, hq]; omega)
      clear hcut h0
      go_wp2_with (first
        | (refine step_load_ba rfl 39 _ rfl w.heap.size 16 39 5 (cbF Y R s δ k) rfl HI.out.var Try.underlying39 infoa ?_)
        | (refine step_store_ba rfl 39 _ _ rfl (w.heap.size + 1) 16 39 (fun _ => 0) (cbF Y R s δ k) rfl rfl HI.out.out infoa ?_))
      have hr := HG0.out.row HI.out.gc HI.out.low (show w.heap.size ≤ w.heap.size + 1 by omega) (ba 16 (cbF Y R s δ k))
      refine ret_ba_tmp rfl rfl Try.underlying39 infoa rfl (HI.out.out.row (cbF Y R s δ k)) ?_
      rw [HM.out.1, HM.out.2]
      exact ⟨a1, rfl, HI.out.blk, hr.1, hr.2⟩
end Go.Proofs.Yteoiekooaokhaaa
