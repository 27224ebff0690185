import Derived.Test.YtiejaedljebbfaaProg
import Derived.Test.YtiejaedljebbfaaCts
import Derived.Test.YtiejaedljebbfaaCtt
import Derived.Test.YtiejaedljebbfaaCtu
import Derived.Test.YtiejaedljebbfaaCtv
/- CtrParts, all together. -/
namespace Go.Proofs.Ytiejaedljebbfaa
open Go.RowKit
set_option maxRecDepth 100000

theorem cparts_core (κ : Nat → Nat) (bv dv : Value) (bs ds : List Int) (n : Int) (w : World) (hκ : ∀ i, i < 16 → κ i < 256) (hb : Rd .u8 w bv bs) (hd : Rd .u8 w dv ds) (hcap : ∀ a n c, dv = .slice a n c → n ≤ c ∧ c ≤ maxLen) (hn : -9223372036854775808 ≤ n ∧ n ≤ 9223372036854775807) :
    Calls Try.prog 5 #[.agg (ba 16 κ), bv, dv, .int .i64 n] w fun e w' => e = .returned (.bool true) ∧ Below w.heap.size w w' := by
  by_cases hbad : bs.length = 16 ∧ n < 0 ∨ bs.length ≠ 16
  · obtain ⟨ba_, bc, rfl, -⟩ := hb
    obtain ⟨da, dc, rfl, -⟩ := hd
    exact parts_bad κ bc dc _ _ n ba_ da w hκ hbad (hcap _ _ _ rfl).1
  · have hl : bs.length = 16 := by omega
    obtain ⟨k, rfl⟩ : ∃ k : Nat, n = k := ⟨n.toNat, by omega⟩
    have hk : k < 9223372036854775808 := by omega
    obtain ⟨bb, bo, bc, rfl, hw⟩ := Wd.of_rd hb (by omega)
    rw [hl] at hw ⊢
    generalize (fun j => (nth bs j).toNat) = f at *
    have hdn := ns_of hd
    have hdb : ∀ j, j < ds.length → (fun j => (nth ds j).toNat) j < 256 := fun j _ => nth_lt hd j
    generalize (fun j => (nth ds j).toNat) = δ at *
    generalize ds.length = M at *
    subst hdn
    obtain ⟨da, dc, rfl, -⟩ := id hd
    rw [ns_len] at *
    obtain ⟨hc1, _⟩ := hcap _ _ _ rfl
    have hsome : 0 < M → ∃ g off, da = some ⟨g, off, none⟩ := fun h0 => by
      obtain ⟨a', c', e, _, _, hc⟩ := hd
      injection e with e1 e2 e3
      subst e1
      rw [ns_len] at hc
      obtain ⟨g, off, rfl, _⟩ := hc h0
      exact ⟨g, off, rfl⟩
    by_cases hM : M ≤ 300
    · by_cases hkM : k > M
      · exact parts_out κ f δ bb bo bc dc k _ _ M da w hκ hw hd hdb ⟨hM, hc1⟩ hk rfl rfl hkM
      · by_cases h0 : M = 0
        · subst h0
          obtain rfl : k = 0 := by omega
          exact parts_zero κ f δ bb bo bc dc da w hκ hw hd hdb
        · obtain ⟨g, off, rfl⟩ := hsome (by omega)
          by_cases hkd : k < dc
          · exact parts_in κ f δ bb bo bc dc k _ _ M g off w hκ hw hd hdb ⟨hM, hc1⟩ hk rfl rfl ⟨by omega, hkd⟩ (by omega)
          · obtain rfl : M = k := by omega
            obtain rfl : dc = M := by omega
            exact parts_full κ f δ bb bo bc dc _ _ g off w hκ hw hd hdb ⟨hM, hc1⟩ hk rfl rfl ⟨Nat.le_refl _, by omega⟩ (by omega)
    · have hd' := rd_prefix hd (show 300 ≤ M by omega) (by decide)
      by_cases hkM : k > 300
      · exact parts_out3 κ f δ bb bo bc dc k _ _ M da w hκ hw hd' (fun j hj => hdb j (by omega)) ⟨by omega, hc1⟩ hk rfl rfl hkM
      · obtain ⟨g, off, rfl⟩ := hsome (by omega)
        exact parts_in3 κ f δ bb bo bc dc k _ _ M g off w hκ hw hd' (fun j hj => hdb j (by omega)) ⟨by omega, hc1⟩ hk rfl rfl ⟨by omega, by omega⟩
end Go.Proofs.Ytiejaedljebbfaa
