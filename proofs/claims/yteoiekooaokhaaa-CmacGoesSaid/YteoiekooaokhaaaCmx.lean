import Derived.Test.YteoiekooaokhaaaProg
import Derived.Test.YteoiekooaokhaaaCmt
import Derived.Test.YteoiekooaokhaaaCmu
import Derived.Test.YteoiekooaokhaaaCmv
import Derived.Test.YteoiekooaokhaaaCmw
/- CmacGoes, all together. -/
namespace Go.Proofs.Yteoiekooaokhaaa
open Go.RowKit

theorem goes_core (κ β : Nat → Nat) (mv : Value) (ms : List Int) (w : World) (hκ : ∀ i, i < 16 → κ i < 256) (hβ : ∀ i, i < 16 → β i < 256) (hm : Rd .u8 w mv ms) (hcap : ∀ a n c, mv = .slice a n c → n ≤ c ∧ c ≤ maxLen) :
    Calls Try.prog 4 #[.agg (ba 16 κ), .agg (ba 16 β), mv] w fun e w' => e = .returned (.bool true) ∧ Below w.heap.size w w' := by
  have hmn := ns_of hm
  have hmb : ∀ j, j < ms.length → (fun j => (nth ms j).toNat) j < 256 := fun j _ => nth_lt hm j
  generalize (fun j => (nth ms j).toNat) = δ at *
  obtain ⟨ma, mc, rfl, -⟩ := id hm
  have hc := hcap _ _ _ rfl
  generalize ms.length = M at *
  subst hmn
  by_cases h1 : M > 500 ∨ M = 0
  · exact goes_box κ β δ M mc ma w hκ hβ h1
  · by_cases h2 : M < 16
    · exact goes_small κ β δ M mc ma w hκ hβ hm hmb ⟨by omega, h2, hc.1⟩
    · by_cases h3 : M = 16
      · subst h3
        exact goes_eq κ β δ mc ma w hκ hβ hm hmb hc.1
      · exact goes_big κ β δ M mc ma w hκ hβ hm hmb ⟨by omega, by omega, hc.1⟩
end Go.Proofs.Yteoiekooaokhaaa
