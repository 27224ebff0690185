import Derived.Test.YteoiekooaokhaaaProg
import Derived.Test.YteoiekooaokhaaaCmn
/- Says and Begins. -/
namespace Go.Proofs.Yteoiekooaokhaaa
open Go.RowKit
set_option maxRecDepth 100000

/-- Does z, of 16 bytes, begin with L bytes τ? -/
def saysB (z : Nat → Nat) (L : Nat) (τ : Nat → Nat) : Bool := decide (1 ≤ L ∧ L ≤ 16 ∧ ns L z = ns L τ)
theorem says_none {z τ : Nat → Nat} {L : Nat} (h : L = 0 ∨ 16 < L) : saysB z L τ = false := decide_eq_false (by omega)
theorem says_some {z τ : Nat → Nat} {L : Nat} (h1 : 0 < L) (h2 : L ≤ 16) : saysB z L τ = decide (ns L z = ns L τ) := by
  unfold saysB
  exact decide_eq_decide.2 ⟨fun h => h.2.2, fun h => ⟨h1, h2, h⟩⟩
theorem says_self {z : Nat → Nat} {L : Nat} (h2 : L ≤ 16) : saysB z L z = decide (0 < (L : Int)) := by
  unfold saysB
  exact decide_eq_decide.2 ⟨fun h => by omega, fun h => ⟨by omega, h2, rfl⟩⟩
theorem osame_ns (v v' : Value) (L : Nat) (x y : Nat → Nat) (w : World) (h : Rd .u8 w v (ns L x)) (h' : Rd .u8 w v' (ns L y)) (hx : ∀ j, j < L → x j < 256) (hy : ∀ j, j < L → y j < 256) :
    Calls Try.prog 30 #[v, v'] w fun e w' => e = .returned (.bool (decide (ns L x = ns L y))) ∧ Below w.heap.size w w' := by
  have := same_any v v' _ _ w h h'
  rwa [same_math (bs_ns hx) (bs_ns hy)] at this
set_option maxHeartbeats 800000 in
theorem begins_any (g gc L c : Nat) (z τ : Nat → Nat) (a : Option Addr) (w : World) (hz : Rd .u8 w (.slice (some ⟨g, 0, none⟩) 16 gc) (ns 16 z)) (ht : Rd .u8 w (.slice a L c) (ns L τ)) (hgc : 16 ≤ gc) :
    Calls Try.prog 17 #[.slice (some ⟨g, 0, none⟩) 16 gc, .slice a L c] w fun e w' => e = .returned (.bool (saysB z L τ)) ∧ w' = w := by
  by_cases h0 : L = 0
  · subst h0
    rw [says_none (.inl rfl)]
    clear hz ht
    go_enter Try.func17, Try.ntmps17
    go_wp2
    go_ret
    exact ⟨rfl, rfl⟩
  · by_cases h1 : 16 < L
    · rw [says_none (.inr h1)]
      have h2 : ¬ (L : Int) < 1 := by omega
      have h3 : (L : Int) > 16 := by omega
      clear hz ht h0 h1
      go_enter Try.func17, Try.ntmps17
      go_wp2
      go_ret
      exact ⟨rfl, rfl⟩
    · rw [says_some (by omega) (by omega)]
      have h2 : ¬ (L : Int) < 1 := by omega
      have h3 : ¬ (L : Int) > 16 := by omega
      have h4 : (L : Int) ≤ gc := by omega
      have HC := hid (refsame_any (.slice (some ⟨g, 0, none⟩) L gc) (.slice a L c) (ns L z) (ns L τ) w (rd_prefix hz (by omega) (by omega)) ht)
      clear hz ht h0 h1
      go_enter Try.func17, Try.ntmps17
      go_wp2_with (first
        | (go_at_call 11; (with_reducible refine HC.out.mono ?_); rintro q w1 ⟨rfl, rfl⟩))
      go_ret
      exact ⟨rfl, rfl⟩
set_option maxHeartbeats 800000 in
theorem says_any (d b c cap R R1 M e L tc : Nat) (Y : Nat → Nat → Nat) (δ τ : Nat → Nat) (a ta : Option Addr) (w : World) (h : Gc w d b c cap R R1 Y) (hδ : ∀ j, j < M → δ j < 256) (hM : M ≤ e) (hv : Kept b w (.slice a M e) (ns M δ))
    (hτ : ∀ j, j < L → τ j < 256) (ht : Kept b w (.slice ta L tc) (ns L τ)) :
    Calls Try.prog 16 #[.pointer (some ⟨d, 0, none⟩), .slice a M e, .slice ta L tc] w fun q w' => q = .returned (.bool (saysB (tagF Y R (fun _ => 0) M δ) L τ)) ∧ Gc w' d b c cap R R1 Y ∧ Only b w w' := by
  by_cases h0 : L = 0
  · subst h0
    rw [says_none (.inl rfl)]
    have HG := hid h
    clear h hv ht
    go_enter Try.func16, Try.ntmps16
    go_wp2
    go_ret
    exact ⟨rfl, HG.out, Only.refl _ _⟩
  · by_cases h1 : 16 < L
    · rw [says_none (.inr h1)]
      have h2 : ¬ (L : Int) < 1 := by omega
      have h3 : (L : Int) > 16 := by omega
      have HG := hid h
      clear h hv ht h0 h1 hδ hτ
      go_enter Try.func16, Try.ntmps16
      go_wp2
      go_ret
      exact ⟨rfl, HG.out, Only.refl _ _⟩
    · rw [says_some (by omega) (by omega)]
      have h2 : ¬ (L : Int) < 1 := by omega
      have h3 : ¬ (L : Int) > 16 := by omega
      have HL := hid (show 0 < L ∧ L ≤ 16 by omega)
      have HS := hid (msum_any d b c cap R R1 M e Y δ a w h hδ hM hv)
      have HZ := hid (tagF_b h.yb B16.zero hδ)
      have HZL : Hid (∀ j, j < L → tagF Y R (fun _ => 0) M δ j < 256) := hid (fun j hj => HZ.out j (by omega))
      have HT := hid ht
      have HTB := hid hτ
      have h4 : (L : Int) ≤ 16 := by omega
      generalize tagF Y R (fun _ => 0) M δ = z at *
      clear h hv ht h0 h1 hδ hτ
      go_enter Try.func16, Try.ntmps16
      go_wp2_with (first
        | (go_at_call 12; (with_reducible refine HS.out.mono ?_); rintro q w1 ⟨g, rfl, hte⟩
           have HE := hid hte
           have HR1 : Hid (Rd .u8 w1 (.slice (some ⟨g, 0, none⟩) L 16) (ns L z)) := hid (rd_prefix ((Wd.of_at hte.tag HZ.out).rd 16 (by decide)) HL.out.2 HL.out.1)
           have HR2 := hid (HT.out.later hte.low).rd
           clear hte)
        | (go_at_call 30; (with_reducible refine (osame_ns (.slice (some ⟨g, 0, none⟩) L 16) (.slice ta L tc) L z τ w1 HR1.out HR2.out HZL.out HTB.out).mono ?_); rintro q w2 ⟨rfl, hlow⟩
           have HE2 := hid (And.intro (HE.out.gc.self hlow) (HE.out.low.trans (Only.of_below hlow)))
           clear hlow))
      go_ret
      exact ⟨rfl, HE2.out⟩
end Go.Proofs.Yteoiekooaokhaaa
