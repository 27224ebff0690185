import Derived.Test.YthhkhcacljgelaaGreatProg
import Derived.Test.YthhkhcacljgelaaGreatAes
import Derived.Test.YthhkhcacljgelaaGreatArd
import Derived.Test.YthhkhcacljgelaaGreatGen
/- A key that may be, in all that comes; boxes at a law's start. -/
namespace Go.Proofs.YthhkhcacljgelaaGreat
open Go.RowKit
set_option maxRecDepth 100000
/-- New's contract at a key that may be. -/
def NewD (v : Value) (R1 : Nat) (Y : Nat → Nat → Nat) (w : World) : Prop := Calls Tryz.prog 6 #[v] w fun e w' =>
  ∃ d b c cap, e = .returned (.tuple #[.pointer (some ⟨d, 0, none⟩), .int .i64 0]) ∧ Ci w' d b c cap R1 Y ∧ w.heap.size ≤ b ∧ Below w.heap.size w w'
/-- A key that may be, in all that comes after w. -/
structure Ky (w : World) (v : Value) (R R1 : Nat) (Y : Nat → Nat → Nat) : Prop where
  num : R1 = R + 1 ∧ 0 < R ∧ R ≤ 1000
  yb : YB Y R
  new : ∀ W, Below w.heap.size w W → NewD v R1 Y W
  exp : ∀ W, Below w.heap.size w W → ExpD v R1 Y W
theorem Ky.later {w w' : World} {v : Value} {R R1 : Nat} {Y : Nat → Nat → Nat} (h : Ky w v R R1 Y) (hb : Below w.heap.size w w') : Ky w' v R R1 Y :=
  ⟨h.num, h.yb, fun W hW => h.new W (hb.trans (hW.mono hb.size)), fun W hW => h.exp W (hb.trans (hW.mono hb.size))⟩
theorem ky_at (g off c K L R R1 M N : Nat) (k : Nat → Nat) (w : World) (hL : L = 4 * K) (hR : rnd (L : Int) = R) (hR1 : R1 = R + 1) (hM : M = 4 * R1) (hMN : M = K + N) (hK : 4 ≤ K) (hK8 : K ≤ 8) (hN : N ≤ 900) (hR0 : 0 < R) (hl : R ≤ 1000) (hc : L ≤ c) (hkc : c ≤ maxLen)
    (hk : ∀ x, k x < 256) (hA : Wd w L g off k) : Ky w (.slice (some ⟨g, off, none⟩) L c) R R1 (rkey K k N) :=
  ⟨⟨hR1, hR0, hl⟩, fun r _ m _ => rkey_lt hk N r m, fun w' h => new_ok g off c K L R R1 M N k w' hL hR hR1 hM hMN hK hK8 hN hR0 hc hkc hk (hA.self h),
    fun w' h => refexpand_new g off c K L R R1 M N k w' hL hR hR1 hM hMN hK hK8 hN hR0 hk (hA.self h)⟩
theorem ky_any (v : Value) (zs : List Int) (w : World) (h : Rd .u8 w v zs) (hcap : ∀ a n c, v = .slice a n c → n ≤ c ∧ c ≤ maxLen) (h0 : rnd (zs.length : Int) ≠ 0) :
    ∃ g off c R R1 Y, v = .slice (some ⟨g, off, none⟩) zs.length c ∧ rnd (zs.length : Int) = R ∧ Ky w v R R1 Y := by
  have hL := rnd_cases h0
  obtain ⟨g, off, c, rfl, hw⟩ := Wd.of_rd h (by omega)
  have hk := nth_lt h
  obtain ⟨h1, h2⟩ := hcap _ _ _ rfl
  generalize zs.length = L at *
  rcases hL with rfl | rfl | rfl
  · exact ⟨g, off, c, 10, 11, _, rfl, rfl, ky_at g off c 4 16 10 11 44 40 _ w rfl rfl rfl rfl rfl (by decide) (by decide) (by decide) (by decide) (by decide) h1 h2 hk hw⟩
  · exact ⟨g, off, c, 12, 13, _, rfl, rfl, ky_at g off c 6 24 12 13 52 46 _ w rfl rfl rfl rfl rfl (by decide) (by decide) (by decide) (by decide) (by decide) h1 h2 hk hw⟩
  · exact ⟨g, off, c, 14, 15, _, rfl, rfl, ky_at g off c 8 32 14 15 60 52 _ w rfl rfl rfl rfl rfl (by decide) (by decide) (by decide) (by decide) (by decide) h1 h2 hk hw⟩
/-- A key of 16 bytes that lies in a block of its own. -/
theorem ky_box {w : World} {g : Nat} {k : Nat → Nat} (hA : At w g 16 48 k) (hk : ∀ i, i < 16 → k i < 256) : ∃ Y, Ky w (.slice (some ⟨g, 0, none⟩) 16 16) 10 11 Y :=
  ⟨_, ky_at g 0 16 4 16 10 11 44 40 (fun x => if x < 16 then k x else 0) w rfl rfl rfl rfl rfl (by decide) (by decide) (by decide) (by decide) (by decide) (Nat.le_refl _) (by decide)
    (fun x => by show (if x < 16 then k x else 0) < 256; split; exact hk x (by assumption); decide) ((Wd.of_at hA hk).ext fun j hj => (if_pos hj).symm)⟩
/-- Two boxes at a law's start. -/
structure Bx2 (w w0 : World) (k f : Nat → Nat) : Prop where
  key : At w0 w.heap.size 16 48 k
  beg : At w0 (w.heap.size + 1) 16 48 f
  low : Below w.heap.size w w0
theorem Bx2.start (w : World) (k f : Nat → Nat) : Bx2 w ((w.alloc (.cells (ba 16 k) 48)).alloc (.cells (ba 16 f) 48)) k f := by
  refine ⟨(At.new w 16 48 k).alloc _, ?_, ((Below.refl _ w).alloc (Nat.le_refl _) _).alloc (by simp) _⟩
  have := At.new (w.alloc (.cells (ba 16 k) 48)) 16 48 f
  rwa [World.size_alloc] at this
/-- One box at a law's start. -/
structure Bx1 (w w0 : World) (k : Nat → Nat) : Prop where
  key : At w0 w.heap.size 16 48 k
  low : Below w.heap.size w w0
theorem Bx1.start (w : World) (k : Nat → Nat) : Bx1 w (w.alloc (.cells (ba 16 k) 48)) k := ⟨At.new w 16 48 k, (Below.refl _ w).alloc (Nat.le_refl _) _⟩
end Go.Proofs.YthhkhcacljgelaaGreat
