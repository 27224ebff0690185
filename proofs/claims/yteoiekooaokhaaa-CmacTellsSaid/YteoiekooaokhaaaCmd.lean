import Derived.Test.YteoiekooaokhaaaProg
import Derived.Test.YteoiekooaokhaaaApz
import Derived.Test.YteoiekooaokhaaaCmc
/- filled, tagOf, Sum. -/
namespace Go.Proofs.Yteoiekooaokhaaa
open Go.RowKit
set_option maxRecDepth 100000

theorem pad_ns {n k : Nat} (l : Nat → Nat) (h : n + 1 + k = 16) : (ns n l ++ [(128 : Int)]) ++ List.replicate k 0 = ns 16 (padF n l) := by
  apply List.ext_getElem?
  intro i
  by_cases hi : i < 16
  · rw [ns_at _ hi]
    unfold padF
    by_cases h1 : i < n
    · rw [List.getElem?_append_left (by simp [ns_len]; omega), List.getElem?_append_left (by rw [ns_len]; exact h1), ns_at l h1, if_pos h1]
    · rw [if_neg h1]
      by_cases h2 : i = n
      · subst h2
        rw [List.getElem?_append_left (by simp [ns_len]), List.getElem?_append_right (by rw [ns_len]; omega), ns_len, if_pos rfl]
        simp
      · rw [List.getElem?_append_right (by simp [ns_len]; omega), if_neg h2, List.getElem?_replicate, if_pos (by simp [ns_len]; omega)]
        rfl
  · rw [List.getElem?_eq_none (by simp [ns_len]; omega), List.getElem?_eq_none (by rw [ns_len]; omega)]

set_option maxHeartbeats 800000 in
theorem filled_any (a : Option Addr) (n : Nat) (l : Nat → Nat) (w : World) (hn : n < 16) (h : Rd .u8 w (.slice a n n) (ns n l)) :
    Calls Try.prog 47 #[.slice a n n] w fun e w' => ∃ g c, e = .returned (.slice (some ⟨g, 0, none⟩) 16 c) ∧ Own .u8 w.heap.size 5 w' (.slice (some ⟨g, 0, none⟩) 16 c) (ns 16 (padF n l)) ∧ Below w.heap.size w w' := by
  have hb1 : Below w.heap.size w (w.alloc (.cells #[.int .u8 128] 5)) := (Below.refl _ _).alloc (Nat.le_refl _) _
  have h1 := h.self hb1
  obtain ⟨g, c, w2, hr1, ho1, hb2⟩ := run_append_full_at (P := Try.prog) (w.alloc (.cells #[.int .u8 128] 5)) .u8 22 22 5 Try.underlying22 info8 (by decide) a (ns n l) n (ns_len n l) h1 ⟨w.heap.size, 0, none⟩ 1 1 [(128 : Int)] rfl (cell_new_int w .u8 128 5) (by decide)
    (by show (n + 1) * 1 ≤ _; omega)
  obtain ⟨k, hk⟩ : ∃ k, n + 1 + k = 16 := ⟨15 - n, by omega⟩
  obtain ⟨g3, c3, w3, hr2, ho2, hg3⟩ := run_append_own_zeros (P := Try.prog) w2 (w.alloc (.cells #[.int .u8 128] 5)).heap.size 22 3 22 5 .i64 .i64 Try.underlying22 Try.underlying3 info8 g (n + 1) c (ns n l ++ [(128 : Int)]) (by simp [ns_len]) ho1 k (by omega) hb2.size
  rw [pad_ns l hk, hk] at ho2
  rw [hk] at hr2
  have HO : Hid (Own .u8 w.heap.size 5 w3 (.slice (some ⟨g3, 0, none⟩) 16 c3) (ns 16 (padF n l))) := hid (own_base ho2 (by simp))
  have HL : Hid (Below w.heap.size w w3) := hid (by
    have hgl := (ho1.lt g rfl).1
    simp only [World.size_alloc] at hgl
    exact (hb1.trans (hb2.mono (by simp))).grown hg3 (Nat.le_trans hb1.size hb2.size) (fun j e => by injection e with e; subst e; omega))
  have HR1 := hid hr1
  have HR2 := hid hr2
  obtain ⟨p, hp⟩ : ∃ p, n + 1 = p := ⟨_, rfl⟩
  rw [hp] at HR1 HR2
  have e1 : (16 : Int) - (p : Int) = (k : Int) := by omega
  have e2 : IntKind.i64.wrap (k : Int) = (k : Int) := by rw [IntKind.wrap_i64]; omega
  clear hb1 h1 hr1 ho1 hb2 hr2 ho2 hg3 h hk hp hn
  go_enter Try.func47, Try.ntmps47
  go_wp2_with (first
    | (at_builtin; refine wpList_append_run rfl (.tmp 4) (.tmp 5) 22 22 22 rfl rfl _ _ _ rfl rfl HR1.out ?_)
    | (at_builtin; refine wpList_append_run rfl (.tmp 7) (.tmp 10) 22 3 22 rfl rfl _ _ _ rfl rfl HR2.out ?_))
  go_ret
  exact ⟨g3, c3, rfl, HO.out, HL.out⟩
end Go.Proofs.Yteoiekooaokhaaa
