import Derived.Test.YthkanhhpkaigoaaProg
import Derived.Test.YthkanhhpkaigoaaAer
namespace Go.Proofs.Ythkanhhpkaigoaa
open Go.RowKit

theorem newok_at (g K L R R1 M N : Nat) (k : Nat → Nat) (w : World) (hL : L = 4 * K) (hR : rnd (L : Int) = R) (hR1 : R1 = R + 1) (hM : M = 4 * R1) (hMN : M = K + N) (hK : 4 ≤ K) (hK8 : K ≤ 8) (hN : N ≤ 900) (hR0 : 0 < R) (hc : L ≤ 32)
    (hk : ∀ x, k x < 256) (h : At w g 32 33 k) : NewOk (.slice (some ⟨g, 0, none⟩) L 32) R1 (rkey K k N) w :=
  new_ok g 0 32 K L R R1 M N k w hL hR hR1 hM hMN hK hK8 hN hR0 hc (by decide) hk ⟨h.lt, fun j hj => by rw [Nat.zero_add]; exact h.cell (by omega), fun j _ => hk j⟩
theorem aesback_core (k a b : Nat → Nat) (m : Nat) (w : World) (hk : ∀ x, k x < 256) (ha : B16 a) (hb : B16 b) (hm : m < 256) :
    Calls Try.prog 4 #[.agg (ba 32 k), .int .u8 (m : Int), .agg (ba 16 a), .agg (ba 16 b)] w fun e w' => e = .returned (.bool true) ∧ Below w.heap.size w w' := by
  have h3 : m % 3 = 0 ∨ m % 3 = 1 ∨ m % 3 = 2 := by omega
  rcases h3 with h | h | h
  · exact back_at k a b m 16 10 11 (rkey 4 k 40) w ha hb hm (by rw [h]) ⟨rfl, by decide, by decide⟩ (fun r _ j _ => rkey_lt hk 40 r j) (fun w' h' => newok_at _ 4 16 10 11 44 40 k w' rfl rfl rfl rfl rfl (by decide) (by decide) (by decide) (by decide) (by decide) hk h')
  · exact back_at k a b m 24 12 13 (rkey 6 k 46) w ha hb hm (by rw [h]) ⟨rfl, by decide, by decide⟩ (fun r _ j _ => rkey_lt hk 46 r j) (fun w' h' => newok_at _ 6 24 12 13 52 46 k w' rfl rfl rfl rfl rfl (by decide) (by decide) (by decide) (by decide) (by decide) hk h')
  · exact back_at k a b m 32 14 15 (rkey 8 k 52) w ha hb hm (by rw [h]) ⟨rfl, by decide, by decide⟩ (fun r _ j _ => rkey_lt hk 52 r j) (fun w' h' => newok_at _ 8 32 14 15 60 52 k w' rfl rfl rfl rfl rfl (by decide) (by decide) (by decide) (by decide) (by decide) hk h')
theorem aesback_any (k a b : Nat → Nat) (m : Nat) (w : World) (hk : ∀ x, x < 32 → k x < 256) (ha : ∀ x, x < 16 → a x < 256) (hb : ∀ x, x < 16 → b x < 256) (hm : m < 256) :
    Calls Try.prog 4 #[.agg (ba 32 k), .int .u8 (m : Int), .agg (ba 16 a), .agg (ba 16 b)] w fun e w' => e = .returned (.bool true) ∧ Below w.heap.size w w' := by
  have e : ba 32 k = ba 32 (fun x => if x < 32 then k x else 0) := ba_ext (fun x hx => (if_pos hx).symm)
  rw [e]
  exact aesback_core _ a b m w (fun x => by split; exact hk x ‹_›; decide) ha hb hm
end Go.Proofs.Ythkanhhpkaigoaa
