import Derived.Test.YtolagogfjfcmaaaTap
namespace Go.Proofs.Ytolagogfjfcmaaa
open Go.RowKit

/-! ### a slice whose cells lie in a block of a kind -/
/-- v reads, in w, as zs, and its cells (if there are any) lie in a block that S knows. -/
def RdS (k : IntKind) (w : World) (S : Nat → Prop) (v : Value) (zs : List Int) : Prop :=
  ∃ a cap, v = .slice a zs.length cap ∧ zs.length ≤ cap ∧ cap ≤ maxLen ∧ zs.length * (k.bits / 8) ≤ 140737488351232 ∧ (∀ z ∈ zs, (Lit.int k z).wf = true) ∧
    (0 < zs.length → ∃ g off, a = some ⟨g, off, none⟩ ∧ S g ∧ g < w.heap.size ∧ ∀ j, j < zs.length → w.cell? ⟨g, off + j, none⟩ = some (.int k (nth zs j)))

/-- But for block g (and new ones) w' is as w was. -/
structure Only (g : Nat) (w w' : World) : Prop where
  os : w'.os = w.os
  tape : w'.tape = w.tape
  output : w'.output = w.output
  size : w.heap.size ≤ w'.heap.size
  block : ∀ j, j < w.heap.size → j ≠ g → w'.heap[j]? = w.heap[j]?

theorem Only.below {g B : Nat} {w w' : World} (h : Only g w w') (hg : B ≤ g) (hB : B ≤ w.heap.size) : Below B w w' :=
  ⟨h.os, h.tape, h.output, h.size, fun j hj => h.block j (by omega) (by omega)⟩
theorem Only.of_below {g : Nat} {w w' : World} (h : Below w.heap.size w w') : Only g w w' := ⟨h.os, h.tape, h.output, h.size, fun j hj _ => h.block j hj⟩
theorem Only.refl (g : Nat) (w : World) : Only g w w := Only.of_below (Below.refl _ _)
theorem Only.trans {g : Nat} {a b c : World} (h : Only g a b) (k : Only g b c) : Only g a c :=
  ⟨k.os.trans h.os, k.tape.trans h.tape, k.output.trans h.output, Nat.le_trans h.size k.size, fun j hj hn => (k.block j (Nat.lt_of_lt_of_le hj h.size) hn).trans (h.block j hj hn)⟩
theorem Only.set {g : Nat} (w : World) {p : Addr} (hp : p.block = g) (u : Value) : Only g w (w.setCell p u) :=
  ⟨rfl, rfl, rfl, by simp [World.setCell], fun j _ hj => Below.heap_setCell _ _ _ _ (by omega)⟩
theorem Only.drew {g : Nat} {a w : World} (h : Only g a w) : Only g a w.drew := ⟨h.os, h.tape, h.output, h.size, h.block⟩
theorem Only.drewN (g : Nat) (w : World) (n : Nat) : Only g w (w.drewN n) := ⟨rfl, rfl, rfl, Nat.le_refl _, fun _ _ _ => rfl⟩
theorem Only.undrewN {g : Nat} {a w : World} {n : Nat} (h : Only g (a.drewN n) w) : Only g a w := ⟨h.os, h.tape, h.output, h.size, h.block⟩
theorem Only.cell {g : Nat} {w w' : World} (h : Only g w w') {p : Addr} (hp : p.block < w.heap.size) (hn : p.block ≠ g) : w'.cell? p = w.cell? p := World.cell?_of_block (w := w) (h.block p.block hp hn)
theorem Only.undrew {g : Nat} {a w : World} (h : Only g a.drew w) : Only g a w := ⟨h.os, h.tape, h.output, h.size, h.block⟩

theorem RdS.same {k : IntKind} {w w' : World} {S : Nat → Prop} {v : Value} {zs : List Int} (h : RdS k w S v zs) (hs : w.heap.size ≤ w'.heap.size) (hg : ∀ g, S g → g < w.heap.size → w'.heap[g]? = w.heap[g]?) : RdS k w' S v zs := by
  obtain ⟨a, cap, h1, h2, h3, h4, h5, h7⟩ := h
  refine ⟨a, cap, h1, h2, h3, h4, h5, fun hp => ?_⟩
  obtain ⟨g, off, e, hS, hlt, hc⟩ := h7 hp
  exact ⟨g, off, e, hS, Nat.lt_of_lt_of_le hlt hs, fun j hj => (World.cell?_of_block (w := w) (hg g hS hlt)).trans (hc j hj)⟩
theorem RdS.imp {k : IntKind} {w : World} {S T : Nat → Prop} {v : Value} {zs : List Int} (h : RdS k w S v zs) (hT : ∀ g, S g → g < w.heap.size → T g) : RdS k w T v zs := by
  obtain ⟨a, cap, h1, h2, h3, h4, h5, h7⟩ := h
  refine ⟨a, cap, h1, h2, h3, h4, h5, fun hp => ?_⟩
  obtain ⟨g, off, e, hS, hlt, hc⟩ := h7 hp
  exact ⟨g, off, e, hT g hS hlt, hlt, hc⟩
theorem RdS.only {k : IntKind} {w w' : World} {S : Nat → Prop} {c : Nat} {v : Value} {zs : List Int} (h : RdS k w S v zs) (o : Only c w w') (hn : ∀ g, S g → g ≠ c) : RdS k w' S v zs :=
  h.same o.size fun g hg hlt => o.block g hlt (hn g hg)
theorem RdS.below {k : IntKind} {w w' : World} {S : Nat → Prop} {v : Value} {zs : List Int} (h : RdS k w S v zs) (o : Below w.heap.size w w') : RdS k w' S v zs :=
  h.same o.size fun g _ hlt => o.block g hlt
theorem RdS.rd {k : IntKind} {w : World} {S : Nat → Prop} {v : Value} {zs : List Int} (h : RdS k w S v zs) : Rd k w v zs := by
  obtain ⟨a, cap, h1, h2, h3, h4, h5, h7⟩ := h
  exact ⟨a, cap, h1, h4, h5, fun hp => by obtain ⟨g, off, e, _, h6, hc⟩ := h7 hp; exact ⟨g, off, e, h6, hc⟩⟩

/-- What the call owns. -/
theorem Own.rds {k : IntKind} {B : Nat} {E : TypeId} {w : World} {v : Value} {zs : List Int} (h : Own k B E w v zs) (hb : zs.length * (k.bits / 8) ≤ 140737488351232) (hw : ∀ z ∈ zs, (Lit.int k z).wf = true) :
    RdS k w (fun g => B ≤ g ∧ g < w.heap.size) v zs := by
  obtain ⟨p, c, e, hlc, _⟩ := h.slice
  have hcap : c ≤ maxLen := by
    obtain ⟨_, h2⟩ := h
    rcases h2 with ⟨h2, _⟩ | ⟨g, cap, cur, h2, _, _, _, hc, _⟩
    · rw [h2] at e; injection e with e1 e2 e3; subst e3; unfold maxLen; omega
    · rw [h2] at e; injection e with e1 e2 e3; subst e3; exact hc
  refine ⟨p, c, e, hlc, hcap, hb, hw, fun hp => ?_⟩
  obtain ⟨g, cap, e', hgB, hg, hcell, _⟩ := h.part hp
  rw [e] at e'
  injection e' with e1 e2 e3; subst e1
  exact ⟨g, 0, rfl, ⟨hgB, hg⟩, hg, fun j hj => by rw [Nat.zero_add]; exact hcell j hj⟩

/-! ### a tape -/
/-- At block b lies a tape: of the words zs d were drawn, and it may be drawn up to e. It and its words lie in the blocks from lo to hi. -/
def TapeAt (w : World) (lo hi b : Nat) (zs : List Int) (d e : Nat) : Prop :=
  ∃ wv, w.heap[b]? = some (.cells #[wv, .int .i64 d, .int .i64 e] 46 (0, 0)) ∧ RdS .u64 w (fun g => lo ≤ g ∧ g < hi ∧ g ≠ b) wv zs ∧ d ≤ e ∧ e ≤ zs.length ∧ lo ≤ b ∧ b < hi ∧ hi ≤ w.heap.size

theorem TapeAt.lt {w : World} {lo hi b : Nat} {zs : List Int} {d e : Nat} (h : TapeAt w lo hi b zs d e) : lo ≤ b ∧ b < hi ∧ hi ≤ w.heap.size := by
  obtain ⟨_, _, _, _, _, h⟩ := h; exact h
theorem TapeAt.only {w w' : World} {lo hi b c : Nat} {zs : List Int} {d e : Nat} (h : TapeAt w lo hi b zs d e) (o : Only c w w') (hn : c < lo ∨ hi ≤ c) : TapeAt w' lo hi b zs d e := by
  obtain ⟨wv, hb, hr, h3, h4, h5, h6, h7⟩ := h
  exact ⟨wv, (o.block b (by omega) (by omega)).trans hb, hr.only o (fun g hg => by omega), h3, h4, h5, h6, Nat.le_trans h7 o.size⟩
theorem TapeAt.below {w w' : World} {lo hi b : Nat} {zs : List Int} {d e : Nat} (h : TapeAt w lo hi b zs d e) (o : Below w.heap.size w w') : TapeAt w' lo hi b zs d e := by
  obtain ⟨wv, hb, hr, h3, h4, h5, h6, h7⟩ := h
  exact ⟨wv, (o.block b (by omega)).trans hb, hr.below o, h3, h4, h5, h6, Nat.le_trans h7 o.size⟩
theorem TapeAt.drew {w : World} {lo hi b : Nat} {zs : List Int} {d e : Nat} (h : TapeAt w lo hi b zs d e) : TapeAt w.drew lo hi b zs d e := h.below ((Below.refl _ _).drew)
theorem TapeAt.drewN {w : World} {lo hi b : Nat} {zs : List Int} {d e : Nat} (h : TapeAt w lo hi b zs d e) (n : Nat) : TapeAt (w.drewN n) lo hi b zs d e := h.below ⟨rfl, rfl, rfl, Nat.le_refl _, fun _ _ => rfl⟩
theorem TapeAt.len {w : World} {lo hi b : Nat} {zs : List Int} {d e : Nat} (h : TapeAt w lo hi b zs d e) : d ≤ e ∧ e ≤ zs.length ∧ zs.length ≤ 17592186043904 := by
  obtain ⟨_, _, ⟨_, _, _, _, _, h, _⟩, h1, h2, _⟩ := h
  refine ⟨h1, h2, ?_⟩
  simp [IntKind.bits] at h; omega

theorem cells3 {w : World} {b : Nat} {x y z : Value} {t : TypeId} (h : w.heap[b]? = some (.cells #[x, y, z] t (0, 0))) :
    w.cell? ⟨b, 0, none⟩ = some x ∧ w.cell? ⟨b, 1, none⟩ = some y ∧ w.cell? ⟨b, 2, none⟩ = some z ∧ ∀ o, w.frozen? ⟨b, o, none⟩ = false := by
  refine ⟨?_, ?_, ?_, fun o => ?_⟩ <;> simp [World.cell?, World.frozen?, h]
theorem set3_1 {w : World} {b : Nat} {x y z u : Value} {t : TypeId} (h : w.heap[b]? = some (.cells #[x, y, z] t (0, 0))) : (w.setCell ⟨b, 1, none⟩ u).heap[b]? = some (.cells #[x, u, z] t (0, 0)) := by
  simp [World.setCell, Array.getElem?_modify, h]
theorem set3_2 {w : World} {b : Nat} {x y z u : Value} {t : TypeId} (h : w.heap[b]? = some (.cells #[x, y, z] t (0, 0))) : (w.setCell ⟨b, 2, none⟩ u).heap[b]? = some (.cells #[x, y, u] t (0, 0)) := by
  simp [World.setCell, Array.getElem?_modify, h]
theorem set3_0 {w : World} {b : Nat} {x y z u : Value} {t : TypeId} (h : w.heap[b]? = some (.cells #[x, y, z] t (0, 0))) : (w.setCell ⟨b, 0, none⟩ u).heap[b]? = some (.cells #[u, y, z] t (0, 0)) := by
  simp [World.setCell, Array.getElem?_modify, h]

theorem TapeAt.setD {w : World} {lo hi b : Nat} {zs : List Int} {d e : Nat} (h : TapeAt w lo hi b zs d e) (d' : Nat) (hd : d' ≤ e) : TapeAt (w.setCell ⟨b, 1, none⟩ (.int .i64 d')) lo hi b zs d' e := by
  obtain ⟨wv, hb, hr, h3, h4, h5, h6, h7⟩ := h
  exact ⟨wv, set3_1 hb, hr.only (Only.set (g := b) w (p := ⟨b, 1, none⟩) rfl _) (fun g hg => hg.2.2), hd, h4, h5, h6, by simpa [World.setCell] using h7⟩
theorem TapeAt.setE {w : World} {lo hi b : Nat} {zs : List Int} {d e : Nat} (h : TapeAt w lo hi b zs d e) (e' : Nat) (hd : d ≤ e') (he : e' ≤ zs.length) : TapeAt (w.setCell ⟨b, 2, none⟩ (.int .i64 e')) lo hi b zs d e' := by
  obtain ⟨wv, hb, hr, h3, h4, h5, h6, h7⟩ := h
  exact ⟨wv, set3_2 hb, hr.only (Only.set (g := b) w (p := ⟨b, 2, none⟩) rfl _) (fun g hg => hg.2.2), hd, he, h5, h6, by simpa [World.setCell] using h7⟩

/-! ### the tape's functions -/
theorem used_any (lo hi b : Nat) (zs : List Int) (d e : Nat) (w : World) (h : TapeAt w lo hi b zs d e) :
    Calls Try.prog 8 #[.pointer (some ⟨b, 0, none⟩)] w fun r w' => r = .returned (.int .i64 d) ∧ w = w' := by
  obtain ⟨wv, hb, hr, h3, h4, h5, h6, h7⟩ := h
  obtain ⟨c0, c1, c2, hz⟩ := cells3 hb
  have C1 := hid c1
  clear hb hr hz
  go_enter Try.func8, Try.ntmps8
  go_wp2_with (go_at_call 16; refine (aload_any b 1 d _ C1.out).mono ?_; rintro r w' ⟨rfl, rfl⟩)
  go_ret
  exact ⟨rfl, rfl⟩

theorem used_nil (w : World) : Calls Try.prog 8 #[.pointer none] w fun r w' => r = .returned (.int .i64 0) ∧ w = w' := by
  go_enter Try.func8, Try.ntmps8
  go_wp2
  go_ret
  exact ⟨rfl, rfl⟩
theorem left_nil (w : World) : Calls Try.prog 7 #[.pointer none] w fun r w' => r = .returned (.int .i64 0) ∧ w = w' := by
  go_enter Try.func7, Try.ntmps7
  go_wp2
  go_ret
  exact ⟨rfl, rfl⟩
theorem allowed_nil (w : World) : Calls Try.prog 9 #[.pointer none] w fun r w' => r = .returned (.int .i64 0) ∧ w = w' := by
  go_enter Try.func9, Try.ntmps9
  go_wp2
  go_ret
  exact ⟨rfl, rfl⟩
theorem draw_nil (w : World) : Calls Try.prog 5 #[.pointer none] w fun r w' => r = .returned (.tuple #[.int .u64 0, .bool false]) ∧ w = w' := by
  go_enter Try.func5, Try.ntmps5
  go_wp2_with (go_at_call 9; refine (allowed_nil _).mono ?_; rintro r w' ⟨rfl, rfl⟩)
  go_ret2
  exact ⟨rfl, rfl⟩
theorem reserve_nil (n : Int) (w : World) : Calls Try.prog 6 #[.pointer none, .int .i64 n] w fun r w' => r = .returned (.int .i64 1) ∧ w = w' := by
  go_enter Try.func6, Try.ntmps6
  go_wp2
  go_ret
  exact ⟨rfl, rfl⟩
theorem clone_nil (w : World) : Calls Try.prog 10 #[.pointer none] w fun r w' => r = .returned (.pointer none) ∧ w = w' := by
  go_enter Try.func10, Try.ntmps10
  go_wp2
  go_ret
  exact ⟨rfl, rfl⟩
end Go.Proofs.Ytolagogfjfcmaaa
