import Derived.Test.YteoiekooaokhaaaProg
import Derived.Test.YteoiekooaokhaaaCmg
/- Write, where nothing is left over. -/
namespace Go.Proofs.Yteoiekooaokhaaa
open Go.RowKit
set_option maxRecDepth 100000

theorem cells_two (w : World) (v0 v1 : Value) (E : TypeId) : ∀ i, i < 2 → (w.alloc (.cells #[v0, v1] E)).cell? ⟨w.heap.size, 0 + i, none⟩ = some (if i = 0 then v0 else v1) := by
  intro i hi
  have e := heap_alloc_new w (.cells #[v0, v1] E)
  rw [Nat.zero_add, cell_of_row _ _ i _ E (0, 0) e]
  have : i = 0 ∨ i = 1 := by omega
  rcases this with rfl | rfl <;> rfl
theorem mconcat_any (w : World) (v0 v1 : Value) (n q k : Nat) (f g : Nat → Nat) (h0 : Rd .u8 w v0 (ns n f)) (h1 : Rd .u8 w v1 (ns q g)) (hk : n + q = k) (hk2 : k ≤ 65536) :
    Calls Try.prog 38 #[.slice (some ⟨w.heap.size, 0, none⟩) 2 2] (w.alloc (.cells #[v0, v1] 22)) fun x w' => ∃ a e, x = .returned (.slice a k e) ∧ Own .u8 w.heap.size 5 w' (.slice a k e) (ns k (thenF n f g)) ∧ k ≤ e ∧ Below w.heap.size w w' := by
  have hb : Below w.heap.size w (w.alloc (.cells #[v0, v1] 22)) := (Below.refl _ _).alloc (Nat.le_refl _) _
  have hcat : cat (fun i => if i = 0 then ns n f else ns q g) 2 = ns k (thenF n f g) := by
    show ([] ++ ns n f) ++ ns q g = _
    rw [List.nil_append, ns_then, hk]
  refine (concat_any w.heap.size 0 2 2 (fun i => if i = 0 then v0 else v1) (fun i => if i = 0 then ns n f else ns q g) _ (by decide) (cells_two w v0 v1 22) (fun i hi => ?_) (by rw [hcat, ns_len]; omega) (by simp)).mono ?_
  · have : i = 0 ∨ i = 1 := by omega
    rcases this with rfl | rfl
    · exact h0.self hb
    · exact h1.self hb
  · rintro x w' ⟨v, rfl, hown, hlow⟩
    rw [hcat] at hown
    obtain ⟨p, c, rfl, hc, _⟩ := hown.slice
    rw [ns_len] at *
    exact ⟨p, c, rfl, own_base hown (by simp), hc, hb.trans (hlow.mono hb.size)⟩

theorem Kb.head {b m n c M : Nat} {a : Option Addr} {δ : Nat → Nat} {w : World} (h : Kb b m w (.slice a M c) (ns M δ)) (hn : n ≤ M) : Kb b m w (.slice a n n) (ns n δ) := fun _ hW => (kept_head (h.later hW).kept hn).rd
theorem Kb.rest {b m n c M : Nat} {a : Option Addr} {δ : Nat → Nat} {w : World} (h : Kb b m w (.slice a M c) (ns M δ)) (hM : M ≤ c) (hn : n ≤ M) : Kb b m w (.slice (restA a n c) (M - n) (c - n)) (ns (M - n) (fun j => δ (n + j))) := fun _ hW => (kept_rest (h.later hW).kept hM hn).rd

/-- v reads as xs, as long as what was made from N on stays. -/
def Late (N : Nat) (w : World) (v : Value) (xs : List Int) : Prop := ∀ W, w.heap.size ≤ W.heap.size → (∀ j, N ≤ j → j < w.heap.size → W.heap[j]? = w.heap[j]?) → Rd .u8 W v xs
theorem Late.later {N : Nat} {w w' : World} {v : Value} {xs : List Int} (h : Late N w v xs) (hs : w.heap.size ≤ w'.heap.size) (hb : ∀ j, N ≤ j → j < w.heap.size → w'.heap[j]? = w.heap[j]?) : Late N w' v xs := fun W h1 h2 =>
  h W (Nat.le_trans hs h1) fun j h3 h4 => (h2 j h3 (Nat.lt_of_lt_of_le h4 hs)).trans (hb j h3 h4)
theorem Late.only {N m : Nat} {w w' : World} {v : Value} {xs : List Int} (h : Late N w v xs) (o : Only m w w') (hm : m < N) : Late N w' v xs := h.later o.size fun j h1 h2 => o.block j h2 (by omega)
theorem late_own {N B n : Nat} {E : TypeId} {w : World} {v : Value} {f : Nat → Nat} (h : Own .u8 B E w v (ns n f)) (hB : N ≤ B) (hn : n ≤ 65536) (hf : ∀ j, j < n → f j < 256) : Late N w v (ns n f) := by
  intro W h1 h2
  by_cases h0 : 0 < n
  · obtain ⟨g, cap, rfl, hg, hlt, _⟩ := h.part (by rw [ns_len]; exact h0)
    rw [ns_len] at h ⊢
    exact ((wd_own h hf).1.same h1 (h2 g (by omega) hlt)).rd cap hn
  · obtain rfl : n = 0 := by omega
    obtain ⟨p, cap, rfl⟩ := h.noRow
    exact rd_zero p cap f W
/-- Write at work: the size is put up; v1 the last block so far, k bytes f. -/
structure Ws (w wr : World) (m d b c cap R R1 : Nat) (Y : Nat → Nat → Nat) (x : Nat → Nat) (v1 : Value) (S k : Nat) (f : Nat → Nat) : Prop where
  blk : MAt wr m d x v1 S
  gc : Gc wr d b c cap R R1 Y
  but : But b m w wr
  last : Kb b m wr v1 (ns k f)
section
variable {w wr w' : World} {m d b c cap R R1 S k N n e : Nat} {Y : Nat → Nat → Nat} {x f l δ : Nat → Nat} {v1 : Value} {a : Option Addr}
theorem Ws.self (h : Ws w wr m d b c cap R R1 Y x v1 S k f) (hb : Below wr.heap.size wr w') : Ws w w' m d b c cap R R1 Y x v1 S k f :=
  ⟨h.blk.self hb, h.gc.self hb, h.but.trans (But.self hb), h.last.later (But.self hb)⟩
theorem Ws.start (h : Mw w m d b c cap R R1 Y x a n e l N δ) (S : Nat) : Ws w (w.setCell ⟨m, 18, none⟩ (.int .i64 S)) m d b c cap R R1 Y x (.slice a n e) S n l :=
  have ho : But b m w (w.setCell ⟨m, 18, none⟩ (.int .i64 S)) := But.of2 (Only.set (p := ⟨m, 18, none⟩) w rfl _)
  ⟨h.blk.setn S, h.gc.set h.ne, ho, h.last.later ho⟩
theorem Ws.put (h : Ws w wr m d b c cap R R1 Y x v1 S k f) (hm : m ≠ b ∧ m ≠ d ∧ m ≠ c) {v2 : Value} {k2 : Nat} {f2 : Nat → Nat} (hv : Kb b m wr v2 (ns k2 f2)) : Ws w (wr.setCell ⟨m, 17, none⟩ v2) m d b c cap R R1 Y x v2 S k2 f2 :=
  have ho : But b m wr (wr.setCell ⟨m, 17, none⟩ v2) := But.of2 (Only.set (p := ⟨m, 17, none⟩) wr rfl _)
  ⟨h.blk.setl v2, h.gc.set hm, h.but.trans ho, hv.later ho⟩
theorem Ws.done (h : Ws w wr m d b c cap R R1 Y x (.slice a k e) S k f) (hm : m ≠ b ∧ m ≠ d ∧ m ≠ c) (he : k ≤ e) (hx : B16 x) (hf : ∀ j, j < k → f j < 256) (st : Mst Y R x k f S δ) (hδ : ∀ j, j < S → δ j < 256) : Mw wr m d b c cap R R1 Y x a k e f S δ :=
  ⟨h.blk, h.gc, h.last, he, st, hx, hf, hm, hδ⟩
end

set_option maxHeartbeats 1600000 in
theorem write_few (w : World) (m d b c cap R R1 n e N L p ev : Nat) (Y : Nat → Nat → Nat) (x l δ β : Nat → Nat) (a av : Option Addr) (h : Mw w m d b c cap R R1 Y x a n e l N δ) (hv : Kb b m w (.slice av L ev) (ns L β)) (hL : L ≤ ev) (hβ : ∀ j, j < L → β j < 256)
    (hS : N + L ≤ 60000) (hp : n + p = 16) (hlp : L ≤ p) :
    Calls Try.prog 20 #[.pointer (some ⟨m, 0, none⟩), .slice av L ev] w fun q w' => q = .returned (.tuple #[]) ∧ ∃ a' e', Mw w' m d b c cap R R1 Y x a' (n + L) e' (thenF n l β) (N + L) (thenF N δ β) ∧ But b m w w' ∧ Late w.heap.size w' (.slice a' (n + L) e') (ns (n + L) (thenF n l β)) := by
  have HM := hid h
  obtain ⟨S, hSS⟩ : ∃ S, N + L = S := ⟨_, rfl⟩
  have HS := hid hSS
  have e1 : (N : Int) + (L : Int) = (S : Int) := by omega
  have w1 : IntKind.i64.wrap (S : Int) = S := by rw [IntKind.wrap_i64]; omega
  have e2 : (16 : Int) - (n : Int) = (p : Int) := by omega
  have w2 : IntKind.i64.wrap (p : Int) = p := by rw [IntKind.wrap_i64]; omega
  have hc1 := h.blk.cn
  have hf1 := h.blk.free 18
  have HW := hid (Ws.start h S)
  have hc2 := HW.out.blk.cl
  have HC := hid (fun W => mcut_any av L ev L p W hL (by omega))
  rw [Nat.sub_self] at HC
  have HV := hid (hv.head (Nat.le_refl L))
  have HNL : Hid (n + L ≤ 16) := hid (by omega)
  have HB := hid hβ
  generalize restA av L ev = ar at HC
  generalize ev - L = er at HC
  clear h hv hL hβ hS hp hlp hSS
  go_enter Try.func20, Try.ntmps20
  go_wp2_with (first
    | (go_at_call 37; (with_reducible refine (HC.out _).mono ?_); rintro q w3 ⟨rfl, hlow⟩
       have HW3 := hid (HW.out.self hlow)
       have hc3 := HW3.out.blk.cl
       have HR3 := hid (HV.out.later HW3.out.but).rd
       clear hlow)
    | (go_at_call 38; (with_reducible refine (mconcat_any w3 (.slice a n e) (.slice av L L) n L (n + L) l β HW3.out.last.rd HR3.out rfl (by have := HNL.out; omega)).mono ?_); rintro q w4 ⟨a4, e4, rfl, hown, he4, hlow⟩
       have HW4 := hid (HW3.out.self hlow)
       have HK4 := hid (kb_own (b := b) (m := m) hown HW3.out.gc.lt HW3.out.blk.lt (by have := HNL.out; omega) (thenF_b HM.out.lb HB.out))
       have HLT4 := hid (late_own (N := w.heap.size) hown HW3.out.but.size (by have := HNL.out; omega) (thenF_b HM.out.lb HB.out))
       have hc4 := HW4.out.blk.cl
       have hf4 := HW4.out.blk.free 17
       have HE4 := hid he4
       have HW5 := hid (HW4.out.put HM.out.ne HK4.out)
       clear hown hlow he4))
  refine bodyPost_ret (results_none rfl _ _ _) rfl ⟨rfl, a4, e4, ?_, HW5.out.but, HLT4.out.only (Only.set (p := ⟨m, 17, none⟩) _ rfl _) HM.out.blk.lt⟩
  rw [HS.out]
  have hst := HM.out.st.few (β := β) HNL.out
  have hal := thenF_b HM.out.all HB.out
  rw [HS.out] at hst hal
  exact HW5.out.done HM.out.ne HE4.out HM.out.xb (thenF_b HM.out.lb HB.out) hst hal
end Go.Proofs.Yteoiekooaokhaaa
