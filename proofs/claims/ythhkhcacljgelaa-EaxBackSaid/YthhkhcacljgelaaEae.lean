import Derived.Test.YthhkhcacljgelaaProg
import Derived.Test.YthhkhcacljgelaaEad
/- EaxBack: what it holds. -/
namespace Go.Proofs.Ythhkhcacljgelaa
open Go.RowKit
set_option maxRecDepth 100000

/-- A key's box and the box of three rows, new. -/
structure Bx3 (w w0 : World) (κ : Nat → Nat) (v0 v1 v2 : Value) : Prop where
  key : At w0 w.heap.size 16 22 κ
  blk : w0.heap[w.heap.size + 1]? = some (.cells #[v0, v1, v2] 24 (0, 0))
  low : Below w.heap.size w w0
theorem Bx3.start (w : World) (κ : Nat → Nat) (v0 v1 v2 : Value) : Bx3 w ((w.alloc (.cells (ba 16 κ) 22)).alloc (.cells #[v0, v1, v2] 24)) κ v0 v1 v2 := by
  refine ⟨(At.new w 16 22 κ).alloc _, ?_, ((Below.refl _ w).alloc (Nat.le_refl _) _).alloc (by simp) _⟩
  have := heap_alloc_new (w.alloc (.cells (ba 16 κ) 22)) (.cells #[v0, v1, v2] 24)
  rwa [World.size_alloc] at this
theorem blk3 {w : World} {nb : Nat} {v0 v1 v2 : Value} (h : w.heap[nb]? = some (.cells #[v0, v1, v2] 24 (0, 0))) : w.cell? ⟨nb, 0, none⟩ = some v0 ∧ w.cell? ⟨nb, 1, none⟩ = some v1 ∧ w.cell? ⟨nb, 2, none⟩ = some v2 :=
  ⟨cell_of_row w nb 0 _ 24 _ h, cell_of_row w nb 1 _ 24 _ h, cell_of_row w nb 2 _ 24 _ h⟩
/-- What EaxBack holds behind New. -/
structure Eh (b : Nat) (w wr : World) (d c cap R R1 : Nat) (Y : Nat → Nat → Nat) (nb : Nat) (v0 v1 v2 : Value) : Prop where
  lw : Lw b w wr
  gc : Gc wr d b c cap R R1 Y
  blk : wr.heap[nb]? = some (.cells #[v0, v1, v2] 24 (0, 0))
  ne : nb ≠ b
section
variable {b : Nat} {w wr w' : World} {d c cap R R1 nb : Nat} {Y : Nat → Nat → Nat} {v0 v1 v2 : Value}
theorem Eh.later (h : Eh b w wr d c cap R R1 Y nb v0 v1 v2) (hg : Gc w' d b c cap R R1 Y) (o : Only b wr w') : Eh b w w' d c cap R R1 Y nb v0 v1 v2 :=
  ⟨h.lw.later o, hg, (o.block nb (Array.getElem?_eq_some_iff.1 h.blk).1 h.ne).trans h.blk, h.ne⟩
theorem Eh.self (h : Eh b w wr d c cap R R1 Y nb v0 v1 v2) (hb : Below wr.heap.size wr w') : Eh b w w' d c cap R R1 Y nb v0 v1 v2 := h.later (h.gc.self hb) (Only.of_below hb)
theorem Eh.cell (h : Eh b w wr d c cap R R1 Y nb v0 v1 v2) : wr.cell? ⟨nb, 0, none⟩ = some v0 ∧ wr.cell? ⟨nb, 1, none⟩ = some v1 ∧ wr.cell? ⟨nb, 2, none⟩ = some v2 := blk3 h.blk
end
theorem mg_open {b : Nat} {w w1 : World} {a : Option Addr} {N e : Nat} {ν : Nat → Nat} (h : Rd .u8 w (.slice a N e) (ns N ν)) (hν : ∀ j, j < N → ν j < 256) (hN : N ≤ 500 ∧ N ≤ e) (hb : w.heap.size ≤ b) (hl : Below w.heap.size w w1) : Mg b w1 a N e ν :=
  ⟨(kept_rd h hb).later (Only.of_below hl), hν, hN.2, by omega⟩
theorem esl_16 (d b c cap R R1 N ne H he M e : Nat) (Y : Nat → Nat → Nat) (ν η δ : Nat → Nat) (na ha a : Option Addr) (w : World) (h : Gc w d b c cap R R1 Y) (mn : Mg b w na N ne ν) (mh : Mg b w ha H he η) (m : Mg b w a M e δ) :
    Calls Try.prog 6 #[.pointer (some ⟨d, 0, none⟩), .slice na N ne, .slice ha H he, .slice a M e, .int .i64 16] w fun q w' =>
      ∃ ua uc g, q = .returned (.tuple #[.slice ua M uc, .slice (some ⟨g, 0, none⟩) 16 16, .int .i64 0]) ∧ Sl w w' d b c cap R R1 Y ua M uc (covF Y R N ν δ) g 16 (eaxF Y R N ν H η M (covF Y R N ν δ)) :=
  esl_any d b c cap R R1 N ne H he M e 16 Y ν η δ na ha a w h mn mh m (by decide)
theorem covF_twice (Y : Nat → Nat → Nat) (R N : Nat) (ν δ : Nat → Nat) : covF Y R N ν (covF Y R N ν δ) = δ := xorF_twice _ _
theorem eaxF_e {Y : Nat → Nat → Nat} {R N H M : Nat} {ν η δ δ' : Nat → Nat} (h : ∀ j, j < M → δ j = δ' j) : Eq16 (eaxF Y R N ν H η M δ) (eaxF Y R N ν H η M δ') := xorF_e (Eq16.refl _) (namF_e h)
/-- With another byte the tag is another one, or what is told of it. -/
theorem tamper {Y : Nat → Nat → Nat} {R N H M p y : Nat} {ν η κ : Nat → Nat} (hY : YB Y R) (hκ : ∀ j, j < M → κ j < 256) (hp : p < 16 + M) (hy : 0 < y ∧ y < 256) {F : Nat → Nat} (hF : thenF 16 (eaxF Y R N ν H η M κ) κ = F) (hb : ∀ j, j < 16 + M → F j < 256) :
    ¬ ns 16 (eaxF Y R N ν H η M (fun j => upd F p (F p ^^^ y) (16 + j))) = ns 16 (upd F p (F p ^^^ y)) := by
  intro h
  have h1 := ns_eq h
  have hne : F p ^^^ y ≠ F p := fun e => by
    have := xor_off (a := F p) (b := y) (c := 0) (by rw [e, Nat.xor_zero])
    omega
  have hu : ∀ j, j ≠ p → upd F p (F p ^^^ y) j = F j := fun j hj => if_neg hj
  have hs : upd F p (F p ^^^ y) p = F p ^^^ y := if_pos rfl
  have hold : ∀ j, j < 16 → F j = eaxF Y R N ν H η M κ j := fun j hj => by rw [← hF]; exact thenF_old hj
  have hnew : ∀ j, F (16 + j) = κ j := fun j => by rw [← hF]; exact thenF_new j
  by_cases hq : p < 16
  · have h2 : Eq16 (eaxF Y R N ν H η M (fun j => upd F p (F p ^^^ y) (16 + j))) (eaxF Y R N ν H η M κ) := eaxF_e fun j _ => by
      show upd F p (F p ^^^ y) (16 + j) = κ j
      rw [hu _ (by omega), hnew]
    have h3 := (h1 p hq).symm.trans (h2 p hq)
    rw [hs, ← hold p hq] at h3
    exact hne h3
  · obtain ⟨q, rfl⟩ : ∃ q, p = 16 + q := ⟨p - 16, by omega⟩
    have h2 : Eq16 (eaxF Y R N ν H η M (fun j => upd F (16 + q) (F (16 + q) ^^^ y) (16 + j))) (eaxF Y R N ν H η M κ) := fun j hj => by
      rw [h1 j hj, hu j (by omega), hold j hj]
    have h3 := eax_diff hY (p := q) (by omega) (fun j hj => ?_) hκ (fun j _ hj => ?_) h2
    · rw [hs] at h3
      exact hne (h3.trans (hnew q).symm)
    · show upd F (16 + q) (F (16 + q) ^^^ y) (16 + j) < 256
      by_cases hjq : j = q
      · subst hjq
        rw [hs]
        exact Nat.xor_lt_two_pow (n := 8) (hb _ (by omega)) hy.2
      · rw [hu _ (by omega)]; exact hb _ (by omega)
    · show upd F (16 + q) (F (16 + q) ^^^ y) (16 + j) = κ j
      rw [hu _ (by omega), hnew]
end Go.Proofs.Ythhkhcacljgelaa
