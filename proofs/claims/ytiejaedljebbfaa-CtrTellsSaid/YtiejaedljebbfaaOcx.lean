import Derived.Test.YtiejaedljebbfaaProg
import Derived.Test.YtiejaedljebbfaaOcw
namespace Go.Proofs.Ytiejaedljebbfaa
open Go.RowKit

/-! ### Inc -/
def incAt : List Int → Nat → List Int
  | L, 0 => L
  | L, i + 1 => if nth L i < 255 then L.set i (nth L i + 1) else incAt (L.set i 0) i
def Bs (L : List Int) : Prop := ∀ z ∈ L, 0 ≤ z ∧ z ≤ 255
theorem Bs.nth {L : List Int} (h : Bs L) (j : Nat) : 0 ≤ nth L j ∧ nth L j ≤ 255 := by
  by_cases hj : j < L.length
  · rw [nth_of hj]; exact h _ (List.getElem_mem hj)
  · simp only [Go.Proofs.Ytiejaedljebbfaa.nth, List.getD, List.getElem?_eq_none (Nat.le_of_not_lt hj)]; simp
theorem Bs.set {L : List Int} (h : Bs L) (j : Nat) {z : Int} (hz : 0 ≤ z ∧ z ≤ 255) : Bs (L.set j z) := by
  intro x hx
  rcases List.mem_or_eq_of_mem_set hx with hx | rfl
  · exact h x hx
  · exact hz
theorem bs_of {L : List Int} (h : ∀ z ∈ L, (Lit.int .u8 z).wf = true) : Bs L := fun z hz => wf_u8 (h z hz)

set_option maxHeartbeats 800000 in
theorem inc_any (v : Value) (zs : List Int) (w : World) (h : Rd .u8 w v zs) :
    Calls Try.prog 33 #[v] w fun e w' => ∃ u, e = .returned u ∧ Own .u8 w.heap.size 5 w' u (incAt zs zs.length) ∧ Below w.heap.size w w' := by
  have hl := u8lim h
  have HC := hid (copied_any v zs w h)
  obtain ⟨a, cap, rfl, _, hz, hc⟩ := h
  have HB := hid (bs_of hz)
  clear hz hc
  go_enter Try.func33, Try.ntmps33
  go_wp2_with (go_at_call 49; refine HC.out.mono ?_; rintro e w1 ⟨u, rfl, hown, hlow⟩; obtain ⟨p, cap1, rfl, hcp, hg⟩ := hown.slice; clear hcp; have HO := hid hown; have HL := hid hlow; have hsz1 := hlow.size; clear hown hlow)
  go_loopw [4] (fun i wr => ∃ (j : Nat) (L : List Int), j ≤ zs.length ∧ i = .int .i64 (j - 1) ∧ L.length = zs.length ∧ Bs L ∧ incAt L j = incAt zs zs.length ∧ Own .u8 w.heap.size 5 wr (.slice p zs.length cap1) L ∧ Below w.heap.size w wr) (fun i _ => (intOf i + 1).toNat)
  case atStart => exact ⟨zs.length, zs, by omega, rfl, rfl, HB.out, rfl, HO.out, HL.out⟩
  case round =>
    obtain ⟨j, L, hj, rfl, hLl, hLb, hinc, hown, hlow⟩ := hrel
    cases j with
    | zero =>
      have HI := hid hinc; have HO := hid hown; have HLl := hid hLl
      clear hinc hown hLl
      go_wp2
      go_ret
      exact ⟨_, rfl, by rw [← HI.out]; exact HO.out, hlow⟩
    | succ j =>
      obtain ⟨g, rfl, hgB, _⟩ := hg (by omega)
      obtain ⟨g', cap', hv, hg1, hg2, hcell, hfr, hset⟩ := hown.part (by omega)
      rw [hLl] at hcell hset hv
      simp only [Value.slice.injEq, Option.some.injEq, Addr.mk.injEq] at hv
      obtain ⟨⟨rfl, _, _⟩, _, rfl⟩ := hv
      have c1 := hcell j (by omega)
      have c2 := hfr j
      have HS := hid (fun z => hset j z (by omega))
      have hn1 := (hLb.nth j).1
      have hn2 := (hLb.nth j).2
      have HLb := hid hLb; have HLl := hid hLl; have HL := hid hlow
      clear hcell hfr hset hown hlow hLb hLl
      by_cases hq : nth L j < 255
      · have HI := hid (show incAt zs zs.length = L.set j (nth L j + 1) by rw [← hinc]; simp [incAt, hq])
        have ht : ((nth L j + 1) != 0) = true := by rw [bne_iff_ne]; omega
        clear hinc
        go_wp2
        go_ret
        exact ⟨_, rfl, by rw [HI.out]; exact HS.out _, HL.out.setCell hg1 _⟩
      · have hq' : nth L j = 255 := by omega
        have HI := hid (show incAt (L.set j 0) j = incAt zs zs.length by rw [← hinc]; simp [incAt, hq])
        rw [hq'] at c1
        clear hinc hq hq' hn1 hn2
        go_wp2
        go_roundw
        case rel => exact ⟨j, L.set j 0, by omega, by go_num, by rw [List.length_set]; exact HLl.out, HLb.out.set j (by omega), HI.out, HS.out 0, HL.out.setCell hg1 _⟩
        case measure => (simp [intOf] <;> omega)

set_option maxHeartbeats 800000 in
theorem refinc_any (v : Value) (zs : List Int) (w : World) (h : Rd .u8 w v zs) :
    Calls Try.prog 25 #[v] w fun e w' => ∃ u, e = .returned u ∧ Own .u8 w.heap.size 5 w' u (incAt zs zs.length) ∧ Below w.heap.size w w' := by
  have hl := u8lim h
  have HZ := hid (h.self (w' := w.alloc (.cells #[] 5)) ((Below.refl _ _).alloc (Nat.le_refl _) _))
  obtain ⟨a, cap, rfl, _, hz, hc⟩ := h
  have HB := hid (bs_of hz)
  clear hz hc
  have HLI := hid (show (0 + zs.length) * (IntKind.u8.bits / 8) ≤ 140737488355328 by simp [IntKind.bits]; omega)
  go_enter Try.func25, Try.ntmps25
  go_wp2_with (refine wpList_append_rd rfl (.tmp 5) (.tmp 6) 22 rfl .u8 w.heap.size 5 Try.underlying22 info8 (by decide) _ [] rfl (own_empty w (Nat.le_refl _)) _ zs rfl HZ.out HLI.out (by simp) w.heap.size w ((Below.refl _ _).alloc (Nat.le_refl _) _) (Nat.le_refl _) ?_; intro u w1 hown hlow hsz1; obtain ⟨p, cap1, rfl, hcp, hg⟩ := hown.slice; clear hcp; rw [List.nil_append] at hown hg ⊢; have HO := hid hown; have HL := hid hlow; clear hown hlow)
  go_loopw [4] (fun i wr => ∃ (j : Nat) (L : List Int), j ≤ zs.length ∧ i = .int .i64 (j - 1) ∧ L.length = zs.length ∧ Bs L ∧ incAt L j = incAt zs zs.length ∧ Own .u8 w.heap.size 5 wr (.slice p zs.length cap1) L ∧ Below w.heap.size w wr) (fun i _ => (intOf i + 1).toNat)
  case atStart => exact ⟨zs.length, zs, by omega, rfl, rfl, HB.out, rfl, HO.out, HL.out⟩
  case round =>
    obtain ⟨j, L, hj, rfl, hLl, hLb, hinc, hown, hlow⟩ := hrel
    cases j with
    | zero =>
      have HI := hid hinc; have HO := hid hown; have HLl := hid hLl
      clear hinc hown hLl
      go_wp2
      go_ret
      exact ⟨_, rfl, by rw [← HI.out]; exact HO.out, hlow⟩
    | succ j =>
      obtain ⟨g, rfl, hgB, _⟩ := hg (by omega)
      obtain ⟨g', cap', hv, hg1, hg2, hcell, hfr, hset⟩ := hown.part (by omega)
      rw [hLl] at hcell hset hv
      simp only [Value.slice.injEq, Option.some.injEq, Addr.mk.injEq] at hv
      obtain ⟨⟨rfl, _, _⟩, _, rfl⟩ := hv
      have c1 := hcell j (by omega)
      have c2 := hfr j
      have HS := hid (fun z => hset j z (by omega))
      have hn1 := (hLb.nth j).1
      have hn2 := (hLb.nth j).2
      have HLb := hid hLb; have HLl := hid hLl; have HL := hid hlow
      clear hcell hfr hset hown hlow hLb hLl
      by_cases hq : nth L j < 255
      · have HI := hid (show incAt zs zs.length = L.set j (nth L j + 1) by rw [← hinc]; simp [incAt, hq])
        clear hinc
        go_wp2
        go_ret
        exact ⟨_, rfl, by rw [HI.out]; exact HS.out _, HL.out.setCell hg1 _⟩
      · have HI := hid (show incAt (L.set j 0) j = incAt zs zs.length by rw [← hinc]; simp [incAt, hq])
        clear hinc
        go_wp2
        go_roundw
        case rel => exact ⟨j, L.set j 0, by omega, by go_num, by rw [List.length_set]; exact HLl.out, HLb.out.set j (by omega), HI.out, HS.out 0, HL.out.setCell hg1 _⟩
        case measure => (simp [intOf] <;> omega)
end Go.Proofs.Ytiejaedljebbfaa
