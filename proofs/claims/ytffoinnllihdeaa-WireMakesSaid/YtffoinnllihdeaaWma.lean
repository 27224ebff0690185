import Derived.Test.YtffoinnllihdeaaProg
import Derived.Test.YtffoinnllihdeaaWlm
/- Wire: the program's machine alone; nobody's machine, a new one; the example. -/
namespace Go.Proofs.Ytffoinnllihdeaa
open Go.RowKit
set_option maxRecDepth 100000
/-- A machine over a tape of which d words were drawn, and which may be drawn up to e. -/
def startD (n most : Int) (tw : Nat → Nat) (TN d e : Nat) : Ms :=
  ⟨n, most, 0, 0, 0, 0, 0, 0, 0, fun _ => ⟨0, 0, 0, 0, 0, 0⟩, 0, fun _ => ⟨0, 0, 0⟩, fun _ => 0, tw, TN, d, e - d, false⟩
/-- Nobody's machine, and new ones. -/
structure MachN (Pm : World → Nat → Ms → (Nat → Prop) → Prop) : Prop where
  nbegin : ∀ w, Calls Try.prog 18 #[.pointer none, .int .i64 1] w fun e w' => e = .returned (.tuple #[]) ∧ Below w.heap.size w w'
  nend : ∀ w, Calls Try.prog 20 #[.pointer none] w fun e w' => e = .returned (.tuple #[]) ∧ Below w.heap.size w w'
  nrand : ∀ w, Calls Try.prog 27 #[.pointer none, .int .i64 0] w fun e w' => e = .returned (.int .i64 (-1)) ∧ Below w.heap.size w w'
  nkey : ∀ w, Calls Try.prog 16 #[.pointer none, .int .u64 1, .int .i64 0, .int .i64 0] w fun e w' => e = .returned (.int .i64 (-1)) ∧ Below w.heap.size w w'
  nopen : ∀ w, Calls Try.prog 28 #[.pointer none, .int .i64 0, .int .i64 0, .int .i64 0] w fun e w' => e = .returned (.int .u64 0) ∧ Below w.heap.size w w'
  nlen : ∀ w, Calls Try.prog 15 #[.pointer none] w fun e w' => e = .returned (.int .i64 0) ∧ Below w.heap.size w w'
  nerr : ∀ w, Calls Try.prog 19 #[.pointer none] w fun e w' => e = .returned (.int .i64 1) ∧ Below w.heap.size w w'
  ndry : ∀ w, Calls Try.prog 11 #[.pointer none] w fun e w' => e = .returned (.pointer none) ∧ Below w.heap.size w w'
  nvalues : ∀ w, Calls Try.prog 23 #[.pointer none] w fun e w' => ∃ a c, e = .returned (.slice a 0 c) ∧ Below w.heap.size w w'
  nn : ∀ w, Calls Try.prog 29 #[.pointer none] w fun e w' => e = .returned (.int .i64 0) ∧ Below w.heap.size w w'
  ndraws : ∀ w, Calls Try.prog 30 #[.pointer none] w fun e w' => e = .returned (.int .i64 0) ∧ Below w.heap.size w w'
  ntrace : ∀ w, Calls Try.prog 22 #[.pointer none] w fun e w' => ∃ n a c v, e = .returned (.agg #[.int .i64 n, .slice a 0 c, v]) ∧ Below w.heap.size w w'
  bad : ∀ (n most : Int) (q : Nat) (w : World), ¬ ((n = 2 ∨ n = 3) ∧ 0 ≤ most ∧ most ≤ 1048576) → Calls Try.prog 8 #[.int .i64 n, .pointer (some ⟨q, 0, none⟩), .int .i64 most] w fun e w' => e = .returned (.tuple #[.pointer none, .int .i64 1]) ∧ Below w.heap.size w w'
  new : ∀ (lo hi q d e : Nat) (n most : Int) (tw : Nat → Nat) (TN : Nat) (w : World), TapeAt w lo hi q (wdL tw TN) d e → (n = 2 ∨ n = 3) → 0 ≤ most → most ≤ 1048576 →
    Calls Try.prog 8 #[.int .i64 n, .pointer (some ⟨q, 0, none⟩), .int .i64 most] w fun r w' => ∃ b, r = .returned (.tuple #[.pointer (some ⟨b, 0, none⟩), .int .i64 0]) ∧ Below w.heap.size w w' ∧ ∃ F, Pm w' b (startD n most tw TN d e) F ∧ ∀ k, F k → (lo ≤ k ∧ k < hi) ∨ w.heap.size ≤ k
/-- The program's machine, alone. -/
def Pz (Pm : World → Nat → Ms → (Nat → Prop) → Prop) (lo : Nat) (X : Nat → Prop) (W wx : World) (p : Nat) (S : Ms) : Prop :=
  ∃ F, Pm wx p S F ∧ (∀ k, F k → lo ≤ k ∧ ¬ X k) ∧ (∀ k, X k → k < wx.heap.size) ∧ Below lo W wx ∧ lo ≤ wx.heap.size
section
variable {Pm : World → Nat → Ms → (Nat → Prop) → Prop} {lo : Nat} {X : Nat → Prop} {W wx wy : World} {p : Nat} {S S' : Ms}
theorem Pz.low (h : Pz Pm lo X W wx p S) : Below lo W wx := by obtain ⟨_, _, _, _, h, _⟩ := h; exact h
theorem Pz.los (h : Pz Pm lo X W wx p S) : lo ≤ wx.heap.size := by obtain ⟨_, _, _, _, _, h⟩ := h; exact h
theorem Pz.self (hM : Mach Pm) (h : Pz Pm lo X W wx p S) (hb : Below wx.heap.size wx wy) : Pz Pm lo X W wy p S := by
  obtain ⟨F, h1, h2, h3, h4, h5⟩ := h
  exact ⟨F, hM.stays h1 hb.size (fun k hk => hb.block k (hM.lt h1 k hk)), h2, fun k hk => Nat.lt_of_lt_of_le (h3 k hk) hb.size, h4.trans (hb.mono h5), Nat.le_trans h5 hb.size⟩
/-- What is not the machine's is turned. -/
theorem Pz.apart (hM : Mach Pm) {G : Nat → Prop} (h : Pz Pm lo X W wx p S) (hb : Tch G wx wy) (hG : ∀ k, G k → X k ∧ lo ≤ k) : Pz Pm lo X W wy p S := by
  obtain ⟨F, h1, h2, h3, h4, h5⟩ := h
  exact ⟨F, hM.stays h1 hb.size (fun k hk => hb.block k (hM.lt h1 k hk) (fun g => (h2 k hk).2 (hG k g).1)), h2, fun k hk => Nat.lt_of_lt_of_le (h3 k hk) hb.size, h4.trans (hb.below (fun k g => (hG k g).2) h5), Nat.le_trans h5 hb.size⟩
/-- More blocks that are not the machine's: new ones. -/
theorem Pz.more (hM : Mach Pm) {Y : Nat → Prop} (h : Pz Pm lo X W wx p S) (hb : Below wx.heap.size wx wy) (hY : ∀ k, Y k → X k ∨ wx.heap.size ≤ k ∧ k < wy.heap.size) : Pz Pm lo Y W wy p S := by
  obtain ⟨F, h1, h2, h3, h4, h5⟩ := h
  refine ⟨F, hM.stays h1 hb.size (fun k hk => hb.block k (hM.lt h1 k hk)), fun k hk => ⟨(h2 k hk).1, fun hy => ?_⟩, fun k hk => ?_, h4.trans (hb.mono h5), Nat.le_trans h5 hb.size⟩
  · rcases hY k hy with e | e
    · exact (h2 k hk).2 e
    · have := hM.lt h1 k hk; omega
  · rcases hY k hk with e | e
    · exact Nat.lt_of_lt_of_le (h3 k e) hb.size
    · exact e.2
theorem Pz.on {F : Nat → Prop} {p' : Nat} (h2 : ∀ k, F k → lo ≤ k ∧ ¬ X k) (h3 : ∀ k, X k → k < wx.heap.size) (h4 : Below lo W wx) (h5 : lo ≤ wx.heap.size) (hr : PmR Pm p' S' F wx wy) : Pz Pm lo X W wy p' S' ∧ ∀ k, X k → wy.heap[k]? = wx.heap[k]? := by
  obtain ⟨F', g1, g2, g3⟩ := hr
  refine ⟨⟨F', g1, fun k hk => ?_, fun k hk => Nat.lt_of_lt_of_le (h3 k hk) g2.size, h4.trans (g2.below (fun k f => (h2 k f).1) h5), Nat.le_trans h5 g2.size⟩, fun k hk => g2.block k (h3 k hk) (fun f => (h2 k f).2 hk)⟩
  rcases g3 k hk with f | f
  · exact h2 k f
  · exact ⟨by omega, fun e => by have := h3 k e; omega⟩
end
section
variable {Pm : World → Nat → Ms → (Nat → Prop) → Prop} (hM : Mach Pm) {lo : Nat} {X : Nat → Prop} {W w : World} {b k : Nat} {S : Ms}
include hM
theorem pdo_ (o : Op6) (x : Nat) (h : Pz Pm lo X W w b S) (hq : Bq k S) (hk : k ≤ 1000000) (ho : opwf o) (hx : x < 2 ^ 64) :
    Calls Try.prog 17 #[.pointer (some ⟨b, 0, none⟩), .agg (opCs o), .int .u64 (x : Int)] w fun e w' => e = .returned (.int .i64 (S.doR o)) ∧ Pz Pm lo X W w' b (S.doS o x) ∧ ∀ k, X k → w'.heap[k]? = w.heap[k]? := by
  obtain ⟨F, h1, h2, h3, h4, h5⟩ := h
  exact (hM.do_ b k S F o x w h1 hq hk ho hx).mono fun e w' hr => ⟨hr.1, Pz.on h2 h3 h4 h5 hr.2⟩
theorem prand (dom : Int) (h : Pz Pm lo X W w b S) (hq : Bq k S) (hk : k ≤ 1000000) (ho : opwf ⟨1, dom, -1, -1, -1, 0⟩) :
    Calls Try.prog 27 #[.pointer (some ⟨b, 0, none⟩), .int .i64 dom] w fun e w' => e = .returned (.int .i64 (S.doR ⟨1, dom, -1, -1, -1, 0⟩)) ∧ Pz Pm lo X W w' b (S.doS ⟨1, dom, -1, -1, -1, 0⟩ 0) ∧ ∀ k, X k → w'.heap[k]? = w.heap[k]? := by
  obtain ⟨F, h1, h2, h3, h4, h5⟩ := h
  exact (hM.rand b k S F dom w h1 hq hk ho).mono fun e w' hr => ⟨hr.1, Pz.on h2 h3 h4 h5 hr.2⟩
theorem pkey (x : Nat) (p q : Int) (h : Pz Pm lo X W w b S) (hq : Bq k S) (hk : k ≤ 1000000) (ho : opwf ⟨2, 0, p, q, -1, S.words⟩) (hx : x < 2 ^ 64) :
    Calls Try.prog 16 #[.pointer (some ⟨b, 0, none⟩), .int .u64 (x : Int), .int .i64 p, .int .i64 q] w fun e w' => e = .returned (.int .i64 (S.doR ⟨2, 0, p, q, -1, S.words⟩)) ∧ Pz Pm lo X W w' b (S.doS ⟨2, 0, p, q, -1, S.words⟩ x) ∧ ∀ k, X k → w'.heap[k]? = w.heap[k]? := by
  obtain ⟨F, h1, h2, h3, h4, h5⟩ := h
  exact (hM.key b k S F x p q w h1 hq hk ho hx).mono fun e w' hr => ⟨hr.1, Pz.on h2 h3 h4 h5 hr.2⟩
theorem pconst_ (dom : Int) (c : Nat) (h : Pz Pm lo X W w b S) (hq : Bq k S) (hk : k ≤ 1000000) (ho : opwf ⟨3, dom, -1, -1, -1, c⟩) :
    Calls Try.prog 31 #[.pointer (some ⟨b, 0, none⟩), .int .i64 dom, .int .u64 (c : Int)] w fun e w' => e = .returned (.int .i64 (S.doR ⟨3, dom, -1, -1, -1, c⟩)) ∧ Pz Pm lo X W w' b (S.doS ⟨3, dom, -1, -1, -1, c⟩ 0) ∧ ∀ k, X k → w'.heap[k]? = w.heap[k]? := by
  obtain ⟨F, h1, h2, h3, h4, h5⟩ := h
  exact (hM.const_ b k S F dom c w h1 hq hk ho).mono fun e w' hr => ⟨hr.1, Pz.on h2 h3 h4 h5 hr.2⟩
theorem ptold (dom : Int) (c : Nat) (h : Pz Pm lo X W w b S) (hq : Bq k S) (hk : k ≤ 1000000) (ho : opwf ⟨4, dom, -1, -1, -1, c⟩) :
    Calls Try.prog 37 #[.pointer (some ⟨b, 0, none⟩), .int .i64 dom, .int .u64 (c : Int)] w fun e w' => e = .returned (.int .i64 (S.doR ⟨4, dom, -1, -1, -1, c⟩)) ∧ Pz Pm lo X W w' b (S.doS ⟨4, dom, -1, -1, -1, c⟩ 0) ∧ ∀ k, X k → w'.heap[k]? = w.heap[k]? := by
  obtain ⟨F, h1, h2, h3, h4, h5⟩ := h
  exact (hM.told b k S F dom c w h1 hq hk ho).mono fun e w' hr => ⟨hr.1, Pz.on h2 h3 h4 h5 hr.2⟩
theorem ptwo (kd dom p q : Int) (h : Pz Pm lo X W w b S) (hq : Bq k S) (hk : k ≤ 1000000) (ho : opwf ⟨kd, dom, p, q, -1, 0⟩) :
    Calls Try.prog 32 #[.pointer (some ⟨b, 0, none⟩), .int .i64 kd, .int .i64 dom, .int .i64 p, .int .i64 q] w fun e w' => e = .returned (.int .i64 (S.doR ⟨kd, dom, p, q, -1, 0⟩)) ∧ Pz Pm lo X W w' b (S.doS ⟨kd, dom, p, q, -1, 0⟩ 0) ∧ ∀ k, X k → w'.heap[k]? = w.heap[k]? := by
  obtain ⟨F, h1, h2, h3, h4, h5⟩ := h
  exact (hM.two b k S F kd dom p q w h1 hq hk ho).mono fun e w' hr => ⟨hr.1, Pz.on h2 h3 h4 h5 hr.2⟩
theorem pone (kd dom p : Int) (c : Nat) (h : Pz Pm lo X W w b S) (hq : Bq k S) (hk : k ≤ 1000000) (ho : opwf ⟨kd, dom, p, -1, -1, c⟩) :
    Calls Try.prog 38 #[.pointer (some ⟨b, 0, none⟩), .int .i64 kd, .int .i64 dom, .int .i64 p, .int .u64 (c : Int)] w fun e w' => e = .returned (.int .i64 (S.doR ⟨kd, dom, p, -1, -1, c⟩)) ∧ Pz Pm lo X W w' b (S.doS ⟨kd, dom, p, -1, -1, c⟩ 0) ∧ ∀ k, X k → w'.heap[k]? = w.heap[k]? := by
  obtain ⟨F, h1, h2, h3, h4, h5⟩ := h
  exact (hM.one b k S F kd dom p c w h1 hq hk ho).mono fun e w' hr => ⟨hr.1, Pz.on h2 h3 h4 h5 hr.2⟩
theorem pbegin_ (kd : Int) (h : Pz Pm lo X W w b S) (hq : Bq k S) (hk : k ≤ 1000000) :
    Calls Try.prog 18 #[.pointer (some ⟨b, 0, none⟩), .int .i64 kd] w fun e w' => e = .returned (.tuple #[]) ∧ Pz Pm lo X W w' b (S.beginS kd) ∧ ∀ k, X k → w'.heap[k]? = w.heap[k]? := by
  obtain ⟨F, h1, h2, h3, h4, h5⟩ := h
  exact (hM.begin_ b k S F kd w h1 hq hk).mono fun e w' hr => ⟨hr.1, Pz.on h2 h3 h4 h5 hr.2⟩
theorem pend_ (h : Pz Pm lo X W w b S) (hq : Bq k S) (hk : k ≤ 1000000) :
    Calls Try.prog 20 #[.pointer (some ⟨b, 0, none⟩)] w fun e w' => e = .returned (.tuple #[]) ∧ Pz Pm lo X W w' b S.endS ∧ ∀ k, X k → w'.heap[k]? = w.heap[k]? := by
  obtain ⟨F, h1, h2, h3, h4, h5⟩ := h
  exact (hM.end_ b k S F w h1 hq hk).mono fun e w' hr => ⟨hr.1, Pz.on h2 h3 h4 h5 hr.2⟩
theorem plen (h : Pz Pm lo X W w b S) (hq : Bq k S) (hk : k ≤ 1000000) : Calls Try.prog 15 #[.pointer (some ⟨b, 0, none⟩)] w fun e w' => e = .returned (.int .i64 (S.len : Nat)) ∧ Below w.heap.size w w' := by
  obtain ⟨F, h1, h2, h3, h4, h5⟩ := h
  exact hM.len b k S F w h1 hq hk
theorem perr (h : Pz Pm lo X W w b S) (hq : Bq k S) (hk : k ≤ 1000000) : Calls Try.prog 19 #[.pointer (some ⟨b, 0, none⟩)] w fun e w' => e = .returned (.int .i64 (S.e : Nat)) ∧ Below w.heap.size w w' := by
  obtain ⟨F, h1, h2, h3, h4, h5⟩ := h
  exact hM.err b k S F w h1 hq hk
theorem ptrace (h : Pz Pm lo X W w b S) (hq : Bq k S) (hk : k ≤ 1000000) : Calls Try.prog 22 #[.pointer (some ⟨b, 0, none⟩)] w fun e w' => ∃ v0 v1, e = .returned (.agg #[.int .i64 S.n, v0, v1]) ∧ ROp w' v0 (S.keep S.L) S.f ∧ RSp w' v1 (S.keep S.M) S.g ∧ Below w.heap.size w w' := by
  obtain ⟨F, h1, h2, h3, h4, h5⟩ := h
  exact hM.trace b k S F w h1 hq hk
theorem pvalues (h : Pz Pm lo X W w b S) (hq : Bq k S) (hk : k ≤ 1000000) : Calls Try.prog 23 #[.pointer (some ⟨b, 0, none⟩)] w fun e w' => ∃ v, e = .returned v ∧ Rd .u64 w' v (wdL S.v (S.keep S.L)) ∧ Below w.heap.size w w' := by
  obtain ⟨F, h1, h2, h3, h4, h5⟩ := h
  exact hM.values b k S F w h1 hq hk
end
theorem startD_bq (n most : Int) (tw : Nat → Nat) (TN d e k : Nat) (hn : n = 2 ∨ n = 3) (hm : 0 ≤ most) (hm' : most ≤ 1048576) (hT : TN ≤ 20000000000000) (htw : ∀ i, i < TN → tw i < 2 ^ 64) (hd : d ≤ e) (he : e ≤ TN) : Bq k (startD n most tw TN d e) := by
  refine ⟨Nat.zero_le _, Nat.zero_le _, Nat.zero_le _, Nat.zero_le _, Nat.zero_le _, by show d ≤ _; omega, by show e - d ≤ _; omega, hT, fun i hi => absurd hi (Nat.not_lt_zero i), htw, fun _ => rfl, fun i hi => absurd hi (Nat.not_lt_zero i), fun i hi => absurd hi (Nat.not_lt_zero i), by show (0 : Int) ≤ 0 ∧ (0 : Int) ≤ 3; decide, by show _ ≤ n ∧ n ≤ _; omega, by show _ ≤ most ∧ most ≤ _; omega, by show 0 ≤ 4; omega⟩
/-- The example's machines. -/
def exS0 : Ms := startD 2 9 (fun _ => 0) 0 0 0
def exS1 : Ms := exS0.doS ⟨3, 0, -1, -1, -1, 5⟩ 0
def exS2 : Ms := exS1.doS ⟨3, 0, -1, -1, -1, 6⟩ 0
def exS3 : Ms := exS2.doS ⟨5, 0, 0, 1, -1, 0⟩ 0
theorem exR1 : exS0.doR ⟨3, 0, -1, -1, -1, 5⟩ = 0 := by decide +kernel
theorem exR2 : exS1.doR ⟨3, 0, -1, -1, -1, 6⟩ = 1 := by decide +kernel
theorem exV : wdL exS3.v (exS3.keep exS3.L) = [5, 6, 3] := by decide +kernel
theorem exB0 : Bq 0 exS0 := startD_bq 2 9 _ 0 0 0 0 (.inl rfl) (by decide) (by decide) (by decide) (fun i hi => absurd hi (Nat.not_lt_zero i)) (by decide) (by decide)
theorem exw3 : opwf ⟨3, 0, -1, -1, -1, 5⟩ := ⟨by decide, by decide, by decide, by decide, by decide, by decide⟩
theorem exw4 : opwf ⟨3, 0, -1, -1, -1, 6⟩ := ⟨by decide, by decide, by decide, by decide, by decide, by decide⟩
theorem exw5 : opwf ⟨5, 0, 0, 1, -1, 0⟩ := ⟨by decide, by decide, by decide, by decide, by decide, by decide⟩
theorem exB1 : Bq 1 exS1 := exB0.does exw3 (by decide)
theorem exB2 : Bq 2 exS2 := exB1.does exw4 (by decide)
theorem exB3 : Bq 3 exS3 := exB2.does exw5 (by decide)
theorem rd_nil64 (w : World) : Rd .u64 w (.slice none 0 0) [] := ⟨none, 0, rfl, by decide, fun z hz => (List.not_mem_nil hz).elim, fun h => absurd h (by decide)⟩
set_option maxHeartbeats 6400000 in
theorem lawake_any {Pm : World → Nat → Ms → (Nat → Prop) → Prop} (hM : Mach Pm) (hN : MachN Pm) (w : World) :
    Calls Try.prog 9 #[] w fun e w' => e = .returned (.bool true) ∧ Below w.heap.size w w' := by
  have B0 : Hid (Below w.heap.size w w) := hid (Below.refl _ _)
  have HN := hid hN
  have HT := hid (fun (w : World) => new_any (.slice none 0 0) [] w (rd_nil64 w))
  have HC5 : Hid (∀ {b : Nat} wx, Pz Pm w.heap.size (fun _ => False) w wx b exS0 → Calls Try.prog 31 #[.pointer (some ⟨b, 0, none⟩), .int .i64 0, .int .u64 5] wx fun e w' => e = .returned (.int .i64 0) ∧ Pz Pm w.heap.size (fun _ => False) w w' b exS1 ∧ ∀ k, False → w'.heap[k]? = wx.heap[k]?) := hid (fun wx h => by have := pconst_ hM 0 5 h exB0 (by decide) exw3; rw [exR1] at this; exact this)
  have HC6 : Hid (∀ {b : Nat} wx, Pz Pm w.heap.size (fun _ => False) w wx b exS1 → Calls Try.prog 31 #[.pointer (some ⟨b, 0, none⟩), .int .i64 0, .int .u64 6] wx fun e w' => e = .returned (.int .i64 1) ∧ Pz Pm w.heap.size (fun _ => False) w w' b exS2 ∧ ∀ k, False → w'.heap[k]? = wx.heap[k]?) := hid (fun wx h => by have := pconst_ hM 0 6 h exB1 (by decide) exw4; rw [exR2] at this; exact this)
  have HC7 : Hid (∀ {b : Nat} wx, Pz Pm w.heap.size (fun _ => False) w wx b exS2 → Calls Try.prog 32 #[.pointer (some ⟨b, 0, none⟩), .int .i64 5, .int .i64 0, .int .i64 0, .int .i64 1] wx fun e w' => e = .returned (.int .i64 (exS2.doR ⟨5, 0, 0, 1, -1, 0⟩)) ∧ Pz Pm w.heap.size (fun _ => False) w w' b exS3 ∧ ∀ k, False → w'.heap[k]? = wx.heap[k]?) := hid (fun wx h => ptwo hM 5 0 0 1 h exB2 (by decide) exw5)
  have HC8 : Hid (∀ {b : Nat} wx, Pz Pm w.heap.size (fun _ => False) w wx b exS3 → Calls Try.prog 23 #[.pointer (some ⟨b, 0, none⟩)] wx fun e w' => ∃ v, e = .returned v ∧ Rd .u64 w' v [5, 6, 3] ∧ Below wx.heap.size wx w') := hid (fun wx h => by have := pvalues hM h exB3 (by decide); rw [exV] at this; exact this)
  have HRN : Hid (∀ w : World, Rd .u64 (w.alloc (.cells #[.int .u64 5, .int .u64 6, .int .u64 3] 41)) (.slice (some ⟨w.heap.size, 0, none⟩) 3 3) [5, 6, 3]) := hid (fun w => rd_new (k := .u64) w 41 [5, 6, 3] _ 3 rfl rfl (by decide) (by intro z hz; simp at hz; rcases hz with rfl | rfl | rfl <;> rfl))
  have hfd : ∀ (n : Int) (a : Option Addr) (c : Nat) (v : Value) (w : World), (Instr.field 57 (.agg #[.int .i64 n, .slice a 0 c, v]) 1).run Try.prog w = .ok (.slice a 0 c) w := fun _ _ _ _ _ => by kernel_rfl
  clear hN
  go_enter Try.func9, Try.ntmps9
  go_wp2_with (first
    | (go_at_call 18; (with_reducible refine (HN.out.nbegin _).mono ?_); rintro e w1 ⟨rfl, hb⟩; have B1 := hid (B0.out.trans (hb.mono B0.out.size)); clear hb)
    | (go_at_call 20; (with_reducible refine (HN.out.nend _).mono ?_); rintro e w2 ⟨rfl, hb⟩; have B2 := hid (B1.out.trans (hb.mono B1.out.size)); clear hb)
    | (go_at_call 27; (with_reducible refine (HN.out.nrand _).mono ?_); rintro e w3 ⟨rfl, hb⟩; have B3 := hid (B2.out.trans (hb.mono B2.out.size)); clear hb)
    | (go_at_call 16; (with_reducible refine (HN.out.nkey _).mono ?_); rintro e w4 ⟨rfl, hb⟩; have B4 := hid (B3.out.trans (hb.mono B3.out.size)); clear hb)
    | (go_at_call 28; (with_reducible refine (HN.out.nopen _).mono ?_); rintro e w5 ⟨rfl, hb⟩; have B5 := hid (B4.out.trans (hb.mono B4.out.size)); clear hb)
    | (go_at_call 15; (with_reducible refine (HN.out.nlen _).mono ?_); rintro e w6 ⟨rfl, hb⟩; have B6 := hid (B5.out.trans (hb.mono B5.out.size)); clear hb)
    | (go_at_call 19; (with_reducible refine (HN.out.nerr _).mono ?_); rintro e w7 ⟨rfl, hb⟩; have B7 := hid (B6.out.trans (hb.mono B6.out.size)); clear hb)
    | (go_at_call 11; (with_reducible refine (HN.out.ndry _).mono ?_); rintro e w8 ⟨rfl, hb⟩; have B8 := hid (B7.out.trans (hb.mono B7.out.size)); clear hb)
    | (go_at_call 23; (with_reducible refine (HN.out.nvalues _).mono ?_); rintro e w9 ⟨a9, c9, rfl, hb⟩; have B9 := hid (B8.out.trans (hb.mono B8.out.size)); clear hb)
    | (go_at_call 29; (with_reducible refine (HN.out.nn _).mono ?_); rintro e w10 ⟨rfl, hb⟩; have B10 := hid (B9.out.trans (hb.mono B9.out.size)); clear hb)
    | (go_at_call 30; (with_reducible refine (HN.out.ndraws _).mono ?_); rintro e w11 ⟨rfl, hb⟩; have B11 := hid (B10.out.trans (hb.mono B10.out.size)); clear hb)
    | (go_at_call 22; (with_reducible refine (HN.out.ntrace _).mono ?_); rintro e w12 ⟨n12, a12, c12, v12, rfl, hb⟩; have B12 := hid (B11.out.trans (hb.mono B11.out.size)); clear hb)
    | (go_at_call 5; (with_reducible refine (HT.out _).mono ?_); rintro e w13 ⟨q, rfl, ht, hb⟩; have B13 := hid (B12.out.trans (hb.mono B12.out.size)); have T13 := hid ht; clear ht; clear hb)
    | (go_at_call 8; (with_reducible refine (HN.out.new _ _ _ 0 0 2 9 (fun _ => 0) 0 _ T13.out (.inl rfl) (by decide) (by decide)).mono ?_); rintro e w14 ⟨p, rfl, hb, F, hp, hF⟩; have B14 := hid (B13.out.trans (hb.mono B13.out.size)); have P14 : Hid (Pz Pm w.heap.size (fun _ => False) w w14 p exS0) := hid ⟨F, hp, fun k hk => ⟨by have := hF k hk; have := B12.out.size; have := B13.out.size; omega, fun h => h⟩, fun k hk => hk.elim, B14.out, B14.out.size⟩; clear hp hF; clear hb)
    | (go_at_call 31; (with_reducible refine (HC5.out _ P14.out).mono ?_); rintro e w15 ⟨rfl, hz, _⟩; have P15 := hid hz; clear hz)
    | (go_at_call 31; (with_reducible refine (HC6.out _ P15.out).mono ?_); rintro e w16 ⟨rfl, hz, _⟩; have P16 := hid hz; clear hz)
    | (go_at_call 32; (with_reducible refine (HC7.out _ P16.out).mono ?_); rintro e w17 ⟨rfl, hz, _⟩; have P17 := hid hz; clear hz)
    | (go_at_call 23; (with_reducible refine (HC8.out _ P17.out).mono ?_); rintro e w18 ⟨v, rfl, hv, hb⟩; have V18 := hid hv; have B18 := hid (P17.out.low.trans (hb.mono P17.out.los)); clear hv hb)
    | (go_at_call 33; (with_reducible refine (lwords_eq _ _ [5, 6, 3] _ (V18.out.self ((Below.refl _ w18).alloc (Nat.le_refl _) (.cells #[.int .u64 5, .int .u64 6, .int .u64 3] 41))) (HRN.out w18) (by decide)).mono ?_); rintro e w19 ⟨rfl, hb⟩; have B19 := hid ((B18.out.alloc B18.out.size (.cells #[.int .u64 5, .int .u64 6, .int .u64 3] 41)).trans (hb.mono (by have := B18.out.size; simp; omega))); clear hb))
  go_ret
  exact ⟨rfl, B19.out⟩
end Go.Proofs.Ytffoinnllihdeaa
