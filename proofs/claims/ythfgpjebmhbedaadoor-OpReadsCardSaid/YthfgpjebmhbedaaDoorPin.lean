import Derived.Test.YthfgpjebmhbedaaDoorProg
import Derived.Test.YthfgpjebmhbedaaDoorAin
/- Op: strconv.ParseInt and ParseUint at any string; the variables that they read. -/
namespace Go.Proofs.YthfgpjebmhbedaaDoor
open Go.RowKit
/-- What the package-level variables read as. -/
structure VP (w : World) : Prop where
  len : ∃ m, w.cell? ⟨2, 0, none⟩ = some (.int .i64 m)
  tab : Lib.TabIs Tryd.prog w "internal/strconv.uint64pow10" .u64 Lib.pow10Tab
  syn : ∃ t p, w.cell? ⟨0, 0, none⟩ = some (.iface t p)
  rng : ∃ t p, w.cell? ⟨1, 0, none⟩ = some (.iface t p)
theorem cell_lt {w : World} {b o : Nat} {v : Value} (h : w.cell? ⟨b, o, none⟩ = some v) : b < w.heap.size := by
  unfold World.cell? at h
  rcases Nat.lt_or_ge b w.heap.size with h1 | h1
  · exact h1
  · simp only at h
    rw [Array.getElem?_eq_none h1] at h
    cases h
theorem cell_stays {w w' : World} {b o : Nat} {v : Value} (h : w.cell? ⟨b, o, none⟩ = some v) (hb : Below w.heap.size w w') : w'.cell? ⟨b, o, none⟩ = some v := by
  rw [World.cell?_of_block (hb.block b (cell_lt h))]
  exact h
theorem VP.self {w w' : World} (h : VP w) (hb : Below w.heap.size w w') : VP w' := by
  obtain ⟨⟨m, hm⟩, ht, ⟨t, p, hs⟩, ⟨t2, p2, hr⟩⟩ := h
  exact ⟨⟨m, cell_stays hm hb⟩, Lib.tabBelow_of_tabIs ht w' hb, ⟨t, p, cell_stays hs hb⟩, ⟨t2, p2, cell_stays hr hb⟩⟩
theorem VP.tabB {w : World} (h : VP w) : TabB w.heap.size w := fun _ hb => (h.self hb).tab
theorem pint_any (s : ByteArray) (w : World) (h : VP w) (hs : s.size ≤ 1000) : Calls Tryd.prog 21 #[.string s, .int .i64 10, .int .i64 64] w fun e w' =>
    ((∃ z, Lib.parseIntB 64 s.data.toList = .ok z ∧ e = .returned (.tuple #[.int .i64 z, .nilIface])) ∨ (∃ z N, (∀ v, Lib.parseIntB 64 s.data.toList ≠ .ok v) ∧ e = .returned (.tuple #[.int .i64 z, .iface 61 (.pointer (some ⟨N, 0, none⟩))]))) ∧ Below w.heap.size w w' := by
  obtain ⟨_, _, ⟨t, p, hy⟩, ⟨t2, p2, hr⟩⟩ := h
  cases hq : Lib.parseIntB 64 s.data.toList with
  | ok z =>
    refine (Tryd.strconv_ParseInt_10_at64_ok s (by omega) z hq w).mono ?_
    rintro e w' ⟨rfl, rfl | ⟨u, rfl⟩⟩
    · exact ⟨.inl ⟨z, rfl, rfl⟩, Below.refl _ _⟩
    · exact ⟨.inl ⟨z, rfl, rfl⟩, Lib.bytesWorld_below _ _ _⟩
  | range =>
    refine (Tryd.strconv_ParseInt_10_at64_range s (by omega) hq _ w hr (.inr ⟨_, _, rfl⟩)).mono ?_
    rintro e w' ⟨N, rfl, _, _, hb⟩
    exact ⟨.inr ⟨_, N, by simp, rfl⟩, hb⟩
  | _ =>
    refine (Tryd.strconv_ParseInt_10_at64_syntax s (by omega) (by simp [hq]) (by simp [hq]) _ w hy (.inr ⟨_, _, rfl⟩)).mono ?_
    rintro e w' ⟨N, rfl, _, _, hb⟩
    exact ⟨.inr ⟨_, N, by simp, rfl⟩, hb⟩
theorem puint_any (s : ByteArray) (w : World) (h : VP w) (hs : s.size ≤ 1000) : Calls Tryd.prog 12 #[.string s, .int .i64 10, .int .i64 64] w fun e w' =>
    ((∃ z : Nat, Lib.parseUintB 64 s.data.toList = .ok z ∧ z < 18446744073709551616 ∧ e = .returned (.tuple #[.int .u64 (z : Int), .nilIface])) ∨ (∃ (z : Nat) (N : Nat), (∀ v, Lib.parseUintB 64 s.data.toList ≠ .ok v) ∧ e = .returned (.tuple #[.int .u64 (z : Int), .iface 61 (.pointer (some ⟨N, 0, none⟩))]))) ∧ Below w.heap.size w w' := by
  obtain ⟨_, _, ⟨t, p, hy⟩, ⟨t2, p2, hr⟩⟩ := h
  cases hq : Lib.parseUintB 64 s.data.toList with
  | ok z =>
    have hz := Lib.parseUintB_le hq
    refine (Tryd.strconv_ParseUint_10_at64_ok s (by omega) z hq w).mono ?_
    rintro e w' ⟨rfl, rfl | rfl⟩
    · exact ⟨.inl ⟨z, rfl, by omega, rfl⟩, Below.refl _ _⟩
    · exact ⟨.inl ⟨z, rfl, by omega, rfl⟩, Lib.bytesWorld_below _ _ _⟩
  | range =>
    refine (Tryd.strconv_ParseUint_10_at64_range s (by omega) hq _ w hr (.inr ⟨_, _, rfl⟩)).mono ?_
    rintro e w' ⟨N, rfl, _, _, hb⟩
    exact ⟨.inr ⟨18446744073709551615, N, by simp, rfl⟩, hb⟩
  | _ =>
    refine (Tryd.strconv_ParseUint_10_at64_syntax s (by omega) (by simp [hq]) (by simp [hq]) _ w hy (.inr ⟨_, _, rfl⟩)).mono ?_
    rintro e w' ⟨N, rfl, _, _, hb⟩
    exact ⟨.inr ⟨0, N, by simp, rfl⟩, hb⟩
theorem pint_ok (s : ByteArray) (w : World) (h : VP w) (hs : s.size ≤ 1000) {z : Int} (hz : Lib.parseIntB 64 s.data.toList = .ok z) : Calls Tryd.prog 21 #[.string s, .int .i64 10, .int .i64 64] w fun e w' =>
    e = .returned (.tuple #[.int .i64 z, .nilIface]) ∧ Below w.heap.size w w' := by
  refine (pint_any s w h hs).mono ?_
  rintro e w' ⟨⟨z', h1, rfl⟩ | ⟨z', N, h1, rfl⟩, hb⟩
  · rw [hz] at h1
    injection h1 with h1
    subst h1
    exact ⟨rfl, hb⟩
  · exact absurd hz (h1 z)
theorem pint_no (s : ByteArray) (w : World) (h : VP w) (hs : s.size ≤ 1000) (hz : ¬ ∃ z, Lib.parseIntB 64 s.data.toList = .ok z) : Calls Tryd.prog 21 #[.string s, .int .i64 10, .int .i64 64] w fun e w' =>
    ∃ z N, e = .returned (.tuple #[.int .i64 z, .iface 61 (.pointer (some ⟨N, 0, none⟩))]) ∧ Below w.heap.size w w' := by
  refine (pint_any s w h hs).mono ?_
  rintro e w' ⟨⟨z', h1, rfl⟩ | ⟨z', N, h1, rfl⟩, hb⟩
  · exact absurd ⟨z', h1⟩ hz
  · exact ⟨z', N, rfl, hb⟩
theorem puint_ok (s : ByteArray) (w : World) (h : VP w) (hs : s.size ≤ 1000) {z : Nat} (hz : Lib.parseUintB 64 s.data.toList = .ok z) : Calls Tryd.prog 12 #[.string s, .int .i64 10, .int .i64 64] w fun e w' =>
    e = .returned (.tuple #[.int .u64 (z : Int), .nilIface]) ∧ Below w.heap.size w w' := by
  refine (puint_any s w h hs).mono ?_
  rintro e w' ⟨⟨z', h1, _, rfl⟩ | ⟨z', N, h1, rfl⟩, hb⟩
  · rw [hz] at h1
    injection h1 with h1
    subst h1
    exact ⟨rfl, hb⟩
  · exact absurd hz (h1 z)
theorem puint_no (s : ByteArray) (w : World) (h : VP w) (hs : s.size ≤ 1000) (hz : ¬ ∃ z, Lib.parseUintB 64 s.data.toList = .ok z) : Calls Tryd.prog 12 #[.string s, .int .i64 10, .int .i64 64] w fun e w' =>
    ∃ (z N : Nat), e = .returned (.tuple #[.int .u64 (z : Int), .iface 61 (.pointer (some ⟨N, 0, none⟩))]) ∧ Below w.heap.size w w' := by
  refine (puint_any s w h hs).mono ?_
  rintro e w' ⟨⟨z', h1, _, rfl⟩ | ⟨z', N, h1, rfl⟩, hb⟩
  · exact absurd ⟨z', h1⟩ hz
  · exact ⟨z', N, rfl, hb⟩
end Go.Proofs.YthfgpjebmhbedaaDoor
