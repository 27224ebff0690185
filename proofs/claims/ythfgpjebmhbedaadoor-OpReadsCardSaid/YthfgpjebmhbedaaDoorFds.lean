import Derived.Test.YthfgpjebmhbedaaDoorProg
import Derived.Test.YthfgpjebmhbedaaDoorOkd
import Derived.Test.YthfgpjebmhbedaaDoorWho
import Derived.Test.YthfgpjebmhbedaaDoorLne
import Derived.Test.YthfgpjebmhbedaaDoorPrs
/- Op: a line's fields. -/
namespace Go.Proofs.YthfgpjebmhbedaaDoor
open Go.RowKit
theorem fields_line (o : Op6) : Lib.splitB ⟨#[32]⟩ 0 6 (sB (lnL o)) = [sB (knL o.K), sB (Lib.itoa o.D), sB (Lib.itoa o.A), sB (Lib.itoa o.B), sB (Lib.itoa o.E), sB (Lib.decDigits o.C)] := by
  have h := Lib.splitB_data ⟨#[32]⟩ 0 6 (sB (lnL o))
  have e : Lib.splitK [32] 0 6 (lnL o) = [knL o.K, Lib.itoa o.D, Lib.itoa o.A, Lib.itoa o.B, Lib.itoa o.E, Lib.decDigits o.C] := by
    unfold lnL
    simp only [List.append_assoc, List.cons_append, List.nil_append]
    rw [split_word (knL_blank _) 5, split_word (itoa_blank _) 4, split_word (itoa_blank _) 3, split_word (itoa_blank _) 2, split_word (itoa_blank _) 1, split_last (dec_blank _)]
  have h2 : (Lib.splitB ⟨#[32]⟩ 0 6 (sB (lnL o))).map (·.data.toList) = [knL o.K, Lib.itoa o.D, Lib.itoa o.A, Lib.itoa o.B, Lib.itoa o.E, Lib.decDigits o.C] := h.trans e
  have h3 := congrArg (List.map sB) h2
  rw [List.map_map] at h3
  have h4 : (sB ∘ fun x : ByteArray => x.data.toList) = id := funext fun x => sB_of x
  rw [h4, List.map_id] at h3
  exact h3
theorem itoa_pos (i : Int) : 1 ≤ (Lib.itoa i).length := by
  unfold Lib.itoa
  split
  · simp
  · exact List.length_pos_iff.2 (dec_ne _)
theorem line_long (o : Op6) : 6 ≤ (sB (lnL o)).size := by
  rw [sB_size]
  unfold lnL
  have h1 := itoa_pos o.D
  have h2 := itoa_pos o.A
  have h3 := itoa_pos o.B
  have h4 := itoa_pos o.E
  have h5 : 1 ≤ (Lib.decDigits o.C).length := List.length_pos_iff.2 (dec_ne _)
  simp only [List.length_append, List.length_singleton]
  omega
/-- The fields of a string: what SplitN by blanks, into seven at most, lays. -/
def fdL (s : ByteArray) : List ByteArray := Lib.splitB ⟨#[32]⟩ 0 (min 7 (s.size + 1) - 1) s
theorem fd_line (o : Op6) : fdL (sB (lnL o)) = [sB (knL o.K), sB (Lib.itoa o.D), sB (Lib.itoa o.A), sB (Lib.itoa o.B), sB (Lib.itoa o.E), sB (Lib.decDigits o.C)] := by
  have h := line_long o
  unfold fdL
  rw [show min 7 ((sB (lnL o)).size + 1) - 1 = 6 by omega]
  exact fields_line o
theorem split_small (sep : ByteArray) : ∀ (k : Nat) (s : ByteArray), ∀ x ∈ Lib.splitB sep 0 k s, x.size ≤ s.size
  | 0, s, x, hx => by
    rw [Lib.splitB_zero, List.mem_singleton] at hx
    subst hx
    exact Nat.le_refl _
  | k + 1, s, x, hx => by
    unfold Lib.splitB at hx
    split at hx
    · rw [List.mem_singleton] at hx
      subst hx
      exact Nat.le_refl _
    · rcases List.mem_cons.1 hx with rfl | hx
      · rw [ByteArray.size_extract]; omega
      · have := split_small sep k _ x hx
        rw [ByteArray.size_extract] at this
        omega
theorem fd_small {s x : ByteArray} (h : x ∈ fdL s) : x.size ≤ s.size := split_small _ _ _ _ h
theorem fd_len (s : ByteArray) : (fdL s).length ≤ min 7 (s.size + 1) := by
  have := Lib.splitB_length_le ⟨#[32]⟩ 0 (min 7 (s.size + 1) - 1) s
  unfold fdL
  omega
theorem cells_get (F : List ByteArray) (N j : Nat) (f : ByteArray) (h : F[j]? = some f) : (Lib.cellsOf F N)[j]? = some (.string f) := by
  have hj := (List.getElem?_eq_some_iff.1 h).1
  unfold Lib.cellsOf
  rw [List.getElem?_toArray, List.getElem?_append_left (by simpa using hj), List.getElem?_map, h]
  rfl
/-- What follows if a string is the line of an op that may be read. -/
theorem line_is {s : ByteArray} {o : Op6} (ho : mayP o) (h : sB (lnL o) = s) {f0 f1 f2 f3 f4 f5 : ByteArray} (hf : fdL s = [f0, f1, f2, f3, f4, f5]) :
    f0 = nmB o.K ∧ FdP f1 o.D ∧ FdP f2 o.A ∧ FdP f3 o.B ∧ FdP f4 o.E ∧ Lib.parseUintB 64 f5.data.toList = .ok o.C := by
  subst h
  rw [fd_line o] at hf
  simp only [List.cons.injEq, and_true] at hf
  obtain ⟨rfl, rfl, rfl, rfl, rfl, rfl⟩ := hf
  obtain ⟨hK, hD, hA, hB, hE, hC⟩ := ho
  refine ⟨(nm_kn o.K).symm, ⟨int_itoa (by omega) (by omega), hD⟩, ⟨int_itoa (by omega) (by omega), hA⟩, ⟨int_itoa (by omega) (by omega), hB⟩, ⟨int_itoa (by omega) (by omega), hE⟩, uint_dec hC⟩
theorem fd_one {f : ByteArray} {a b : Int} (ha : FdP f a) (hb : FdP f b) : a = b := by
  have := ha.1.symm.trans hb.1
  injection this
theorem nm_one {a b : Nat} (ha : 1 ≤ a) (ha2 : a < 13) (h : nmB (a : Int) = nmB (b : Int)) : a = b := by
  have h2 : (a : Int) = (b : Int) := knL_inj ⟨by omega, by omega⟩ (by rw [nm_kn, nm_kn] at h; exact sB_inj h)
  omega
theorem okind_yes (k : Nat) (h1 : 1 ≤ k) (h2 : k < 13) (w : World) : Calls Tryd.prog 10 #[.string (nmB (k : Int))] w fun e w' => e = .returned (.int .i64 (k : Int)) ∧ Below w.heap.size w w' := by
  refine (okind_any (nmB (k : Int)) w).mono ?_
  rintro e w' ⟨⟨j, ⟨hj, hy, hn⟩, rfl⟩, hb⟩
  by_cases h0 : j = 0
  · exact absurd rfl (hn h0 k h1 h2)
  · have := nm_one (by omega) hj (hy (by omega))
    subst this
    exact ⟨rfl, hb⟩
theorem okind_no (s : ByteArray) (h : ∀ k : Nat, 1 ≤ k → k < 13 → nmB (k : Int) ≠ s) (w : World) : Calls Tryd.prog 10 #[.string s] w fun e w' => e = .returned (.int .i64 0) ∧ Below w.heap.size w w' := by
  refine (okind_any s w).mono ?_
  rintro e w' ⟨⟨j, ⟨hj, hy, hn⟩, rfl⟩, hb⟩
  by_cases h0 : j = 0
  · subst h0; exact ⟨rfl, hb⟩
  · exact absurd (hy (by omega)) (h j (by omega) hj)
section
variable {g off cap : Nat} {f : Nat → ByteArray} {w : World}
theorem owhole_some (hc : ∀ j, j < 4 → w.cell? ⟨g, off + j, none⟩ = some (.string (f j))) (hs : ∀ j, j < 4 → (f j).size ≤ 1000) (hv : VP w) :
    Calls Tryd.prog 11 #[.slice (some ⟨g, off, none⟩) 4 cap] w fun e w' => ∃ (a b c d : Int) (x : Bool), e = .returned (.tuple #[.agg #[.int .i64 a, .int .i64 b, .int .i64 c, .int .i64 d], .bool x]) ∧ Below w.heap.size w w' := by
  refine (owhole_any g off cap f w hc hs hv).mono ?_
  rintro e w' ⟨⟨z, _, rfl⟩ | ⟨_, rfl⟩, hb⟩
  · exact ⟨_, _, _, _, _, rfl, hb⟩
  · exact ⟨_, _, _, _, _, rfl, hb⟩
theorem owhole_yes (hc : ∀ j, j < 4 → w.cell? ⟨g, off + j, none⟩ = some (.string (f j))) (hs : ∀ j, j < 4 → (f j).size ≤ 1000) (hv : VP w) {a b c d : Int} (ha : FdP (f 0) a) (hb : FdP (f 1) b) (hc2 : FdP (f 2) c) (hd : FdP (f 3) d) :
    Calls Tryd.prog 11 #[.slice (some ⟨g, off, none⟩) 4 cap] w fun e w' => e = .returned (.tuple #[.agg #[.int .i64 a, .int .i64 b, .int .i64 c, .int .i64 d], .bool true]) ∧ Below w.heap.size w w' := by
  refine (owhole_any g off cap f w hc hs hv).mono ?_
  rintro e w' ⟨⟨z, hz, rfl⟩ | ⟨hn, rfl⟩, hl⟩
  · rw [fd_one ha (hz 0 (by decide)), fd_one hb (hz 1 (by decide)), fd_one hc2 (hz 2 (by decide)), fd_one hd (hz 3 (by decide))]
    exact ⟨rfl, hl⟩
  · refine absurd (fun j hj => ?_) hn
    rcases (by omega : j = 0 ∨ j = 1 ∨ j = 2 ∨ j = 3) with rfl | rfl | rfl | rfl
    · exact ⟨a, ha⟩
    · exact ⟨b, hb⟩
    · exact ⟨c, hc2⟩
    · exact ⟨d, hd⟩
theorem owhole_no (hc : ∀ j, j < 4 → w.cell? ⟨g, off + j, none⟩ = some (.string (f j))) (hs : ∀ j, j < 4 → (f j).size ≤ 1000) (hv : VP w) (hn : ¬ ∃ a b c d, FdP (f 0) a ∧ FdP (f 1) b ∧ FdP (f 2) c ∧ FdP (f 3) d) :
    Calls Tryd.prog 11 #[.slice (some ⟨g, off, none⟩) 4 cap] w fun e w' => e = .returned (.tuple #[.agg #[.int .i64 0, .int .i64 0, .int .i64 0, .int .i64 0], .bool false]) ∧ Below w.heap.size w w' := by
  refine (owhole_any g off cap f w hc hs hv).mono ?_
  rintro e w' ⟨⟨z, hz, rfl⟩ | ⟨_, rfl⟩, hl⟩
  · exact absurd ⟨_, _, _, _, hz 0 (by decide), hz 1 (by decide), hz 2 (by decide), hz 3 (by decide)⟩ hn
  · exact ⟨rfl, hl⟩
end
theorem puint_some (s : ByteArray) (w : World) (h : VP w) (hs : s.size ≤ 1000) : Calls Tryd.prog 12 #[.string s, .int .i64 10, .int .i64 64] w fun e w' =>
    ∃ (z : Nat) (v : Value), e = .returned (.tuple #[.int .u64 (z : Int), v]) ∧ Below w.heap.size w w' := by
  refine (puint_any s w h hs).mono ?_
  rintro e w' ⟨⟨z', _, _, rfl⟩ | ⟨z', N, _, rfl⟩, hb⟩
  · exact ⟨_, _, rfl, hb⟩
  · exact ⟨_, _, rfl, hb⟩
end Go.Proofs.YthfgpjebmhbedaaDoor
