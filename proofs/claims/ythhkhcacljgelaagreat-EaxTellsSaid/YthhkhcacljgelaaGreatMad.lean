import Derived.Test.YthhkhcacljgelaaGreatProg
import Derived.Test.YthhkhcacljgelaaGreatMac
set_option maxRecDepth 100000
/- Write, where nothing is left over. -/
namespace Go.Proofs.YthhkhcacljgelaaGreat
open Go.RowKit
set_option maxRecDepth 100000

theorem cells_two (w : World) (v0 v1 : Value) (E : TypeId) : ∀ i, i < 2 → (w.alloc (.cells #[v0, v1] E)).cell? ⟨w.heap.size, 0 + i, none⟩ = some (if i = 0 then v0 else v1) := by
  intro i hi
  have e := heap_alloc_new w (.cells #[v0, v1] E)
  rw [Nat.zero_add, cell_of_row _ _ i _ E (0, 0) e]
  have : i = 0 ∨ i = 1 := by omega
  rcases this with rfl | rfl <;> rfl
theorem mconcat_any (w : World) (v0 v1 : Value) (n q k : Nat) (f g : Nat → Nat) (h0 : Rd .u8 w v0 (ns n f)) (h1 : Rd .u8 w v1 (ns q g)) (hk : n + q = k) (hk2 : k ≤ 65536) :
    Calls Tryz.prog 27 #[.slice (some ⟨w.heap.size, 0, none⟩) 2 2] (w.alloc (.cells #[v0, v1] 22)) fun x w' => ∃ a e, x = .returned (.slice a k e) ∧ Own .u8 w.heap.size 5 w' (.slice a k e) (ns k (thenF n f g)) ∧ k ≤ e ∧ Below w.heap.size w w' := by
  have hb : Below w.heap.size w (w.alloc (.cells #[v0, v1] 22)) := (Below.refl _ _).alloc (Nat.le_refl _) _
  have hcat : cat (fun i => if i = 0 then ns n f else ns q g) 2 = ns k (thenF n f g) := by
    show ([] ++ ns n f) ++ ns q g = _
    rw [List.nil_append, ns_then, hk]
  refine (concat_any w.heap.size 0 2 2 (fun i => if i = 0 then v0 else v1) (fun i => if i = 0 then ns n f else ns q g) _ (by decide) (cells_two w v0 v1 22) (fun i hi => ?_) (by rw [hcat, ns_len]; omega) (by simp)).mono ?_
  · have : i = 0 ∨ i = 1 := by omega
    rcases this with rfl | rfl
    · exact h0.self hb
    · exact h1.self hb
  · rintro x w' ⟨v, rfl, hown, hlow⟩
    rw [hcat] at hown
    obtain ⟨p, c, rfl, hc, _⟩ := hown.slice
    rw [ns_len] at *
    exact ⟨p, c, rfl, own_base hown (by simp), hc, hb.trans (hlow.mono hb.size)⟩

theorem Kb.head {b m n c M : Nat} {a : Option Addr} {δ : Nat → Nat} {w : World} (h : Kb b m w (.slice a M c) (ns M δ)) (hn : n ≤ M) : Kb b m w (.slice a n n) (ns n δ) := fun _ hW => (kept_head (h.later hW).kept hn).rd
theorem Kb.rest {b m n c M : Nat} {a : Option Addr} {δ : Nat → Nat} {w : World} (h : Kb b m w (.slice a M c) (ns M δ)) (hM : M ≤ c) (hn : n ≤ M) : Kb b m w (.slice (restA a n c) (M - n) (c - n)) (ns (M - n) (fun j => δ (n + j))) := fun _ hW => (kept_rest (h.later hW).kept hM hn).rd

/-- v reads as xs, as long as what was made from N on stays. -/
def Late (N : Nat) (w : World) (v : Value) (xs : List Int) : Prop := ∀ W, w.heap.size ≤ W.heap.size → (∀ j, N ≤ j → j < w.heap.size → W.heap[j]? = w.heap[j]?) → Rd .u8 W v xs
theorem Late.later {N : Nat} {w w' : World} {v : Value} {xs : List Int} (h : Late N w v xs) (hs : w.heap.size ≤ w'.heap.size) (hb : ∀ j, N ≤ j → j < w.heap.size → w'.heap[j]? = w.heap[j]?) : Late N w' v xs := fun W h1 h2 =>
  h W (Nat.le_trans hs h1) fun j h3 h4 => (h2 j h3 (Nat.lt_of_lt_of_le h4 hs)).trans (hb j h3 h4)
theorem Late.only {N m : Nat} {w w' : World} {v : Value} {xs : List Int} (h : Late N w v xs) (o : Only m w w') (hm : m < N) : Late N w' v xs := h.later o.size fun j h1 h2 => o.block j h2 (by omega)
theorem late_own {N B n : Nat} {E : TypeId} {w : World} {v : Value} {f : Nat → Nat} (h : Own .u8 B E w v (ns n f)) (hB : N ≤ B) (hn : n ≤ 65536) (hf : ∀ j, j < n → f j < 256) : Late N w v (ns n f) := by
  intro W h1 h2
  by_cases h0 : 0 < n
  · obtain ⟨g, cap, rfl, hg, hlt, _⟩ := h.part (by rw [ns_len]; exact h0)
    rw [ns_len] at h ⊢
    exact ((wd_own h hf).1.same h1 (h2 g (by omega) hlt)).rd cap hn
  · obtain rfl : n = 0 := by omega
    obtain ⟨p, cap, rfl⟩ := h.noRow
    exact rd_zero p cap f W
/-- Write at work: the size is put up; v1 the last block so far, k bytes f. -/
structure Ws (w wr : World) (m d b c cap R R1 : Nat) (Y : Nat → Nat → Nat) (x : Nat → Nat) (v1 : Value) (S k : Nat) (f : Nat → Nat) : Prop where
  blk : MAt wr m d x v1 S
  gc : Gc wr d b c cap R R1 Y
  but : But b m w wr
  last : Kb b m wr v1 (ns k f)
section
variable {w wr w' : World} {m d b c cap R R1 S k N n e : Nat} {Y : Nat → Nat → Nat} {x f l δ : Nat → Nat} {v1 : Value} {a : Option Addr}
theorem Ws.self (h : Ws w wr m d b c cap R R1 Y x v1 S k f) (hb : Below wr.heap.size wr w') : Ws w w' m d b c cap R R1 Y x v1 S k f :=
  ⟨h.blk.self hb, h.gc.self hb, h.but.trans (But.self hb), h.last.later (But.self hb)⟩
theorem Ws.start (h : Mw w m d b c cap R R1 Y x a n e l N δ) (S : Nat) : Ws w (w.setCell ⟨m, 18, none⟩ (.int .i64 S)) m d b c cap R R1 Y x (.slice a n e) S n l :=
  have ho : But b m w (w.setCell ⟨m, 18, none⟩ (.int .i64 S)) := But.of2 (Only.set (p := ⟨m, 18, none⟩) w rfl _)
  ⟨h.blk.setn S, h.gc.set h.ne, ho, h.last.later ho⟩
theorem Ws.put (h : Ws w wr m d b c cap R R1 Y x v1 S k f) (hm : m ≠ b ∧ m ≠ d ∧ m ≠ c) {v2 : Value} {k2 : Nat} {f2 : Nat → Nat} (hv : Kb b m wr v2 (ns k2 f2)) : Ws w (wr.setCell ⟨m, 17, none⟩ v2) m d b c cap R R1 Y x v2 S k2 f2 :=
  have ho : But b m wr (wr.setCell ⟨m, 17, none⟩ v2) := But.of2 (Only.set (p := ⟨m, 17, none⟩) wr rfl _)
  ⟨h.blk.setl v2, h.gc.set hm, h.but.trans ho, hv.later ho⟩
theorem Ws.done (h : Ws w wr m d b c cap R R1 Y x (.slice a k e) S k f) (hm : m ≠ b ∧ m ≠ d ∧ m ≠ c) (he : k ≤ e) (hx : B16 x) (hf : ∀ j, j < k → f j < 256) (st : Mst Y R x k f S δ) (hδ : ∀ j, j < S → δ j < 256) : Mw wr m d b c cap R R1 Y x a k e f S δ :=
  ⟨h.blk, h.gc, h.last, he, st, hx, hf, hm, hδ⟩
end

set_option maxHeartbeats 1600000 in
theorem write_few (w : World) (m d b c cap R R1 n e N L p ev : Nat) (Y : Nat → Nat → Nat) (x l δ β : Nat → Nat) (a av : Option Addr) (h : Mw w m d b c cap R R1 Y x a n e l N δ) (hv : Kb b m w (.slice av L ev) (ns L β)) (hL : L ≤ ev) (hβ : ∀ j, j < L → β j < 256)
    (hS : N + L ≤ 60000) (hp : n + p = 16) (hlp : L ≤ p) :
    Calls Tryz.prog 30 #[.pointer (some ⟨m, 0, none⟩), .slice av L ev] w fun q w' => q = .returned (.tuple #[]) ∧ ∃ a' e', Mw w' m d b c cap R R1 Y x a' (n + L) e' (thenF n l β) (N + L) (thenF N δ β) ∧ But b m w w' ∧ Late w.heap.size w' (.slice a' (n + L) e') (ns (n + L) (thenF n l β)) := by
  have HM := hid h
  obtain ⟨S, hSS⟩ : ∃ S, N + L = S := ⟨_, rfl⟩
  have HS := hid hSS
  have e1 : (N : Int) + (L : Int) = (S : Int) := by omega
  have w1 : IntKind.i64.wrap (S : Int) = S := by rw [IntKind.wrap_i64]; omega
  have e2 : (16 : Int) - (n : Int) = (p : Int) := by omega
  have w2 : IntKind.i64.wrap (p : Int) = p := by rw [IntKind.wrap_i64]; omega
  have hc1 := h.blk.cn
  have hf1 := h.blk.free 18
  have HW := hid (Ws.start h S)
  have hc2 := HW.out.blk.cl
  have HC := hid (fun W => mcut_any av L ev L p W hL (by omega))
  rw [Nat.sub_self] at HC
  have HV := hid (hv.head (Nat.le_refl L))
  have HNL : Hid (n + L ≤ 16) := hid (by omega)
  have HB := hid hβ
  generalize restA av L ev = ar at HC
  generalize ev - L = er at HC
  clear h hv hL hβ hS hp hlp hSS
  go_enter Tryz.func30, Tryz.ntmps30
  go_wp2_with (first
    | (go_at_call 41; (with_reducible refine (HC.out _).mono ?_); rintro q w3 ⟨rfl, hlow⟩
       have HW3 := hid (HW.out.self hlow)
       have hc3 := HW3.out.blk.cl
       have HR3 := hid (HV.out.later HW3.out.but).rd
       clear hlow)
    | (go_at_call 27; (with_reducible refine (mconcat_any w3 (.slice a n e) (.slice av L L) n L (n + L) l β HW3.out.last.rd HR3.out rfl (by have := HNL.out; omega)).mono ?_); rintro q w4 ⟨a4, e4, rfl, hown, he4, hlow⟩
       have HW4 := hid (HW3.out.self hlow)
       have HK4 := hid (kb_own (b := b) (m := m) hown HW3.out.gc.lt HW3.out.blk.lt (by have := HNL.out; omega) (thenF_b HM.out.lb HB.out))
       have HLT4 := hid (late_own (N := w.heap.size) hown HW3.out.but.size (by have := HNL.out; omega) (thenF_b HM.out.lb HB.out))
       have hc4 := HW4.out.blk.cl
       have hf4 := HW4.out.blk.free 17
       have HE4 := hid he4
       have HW5 := hid (HW4.out.put HM.out.ne HK4.out)
       clear hown hlow he4))
  refine bodyPost_ret (results_none rfl _ _ _) rfl ⟨rfl, a4, e4, ?_, HW5.out.but, HLT4.out.only (Only.set (p := ⟨m, 17, none⟩) _ rfl _) HM.out.blk.lt⟩
  rw [HS.out]
  have hst := HM.out.st.few (β := β) HNL.out
  have hal := thenF_b HM.out.all HB.out
  rw [HS.out] at hst hal
  exact HW5.out.done HM.out.ne HE4.out HM.out.xb (thenF_b HM.out.lb HB.out) hst hal
end Go.Proofs.YthhkhcacljgelaaGreat

/- Write, where something is left over. -/
namespace Go.Proofs.YthhkhcacljgelaaGreat
open Go.RowKit
set_option maxRecDepth 100000

theorem yields_load_mid16 {ops : Array Oper} {S : World → Prop} {o : Oper} {a : Act} (hw : Region.wanted o (yielded ops a.tmps) = true) (t : Operand) (ho : o.op = .load 48 t)
    (b off : Nat) (f : Nat → Nat) (hx : a.eval t = .pointer (some ⟨b, off, none⟩)) (hS : ∀ w, S w → w.rangeAt b off (ba 16 f).toList) : YieldsIf Tryz.prog ops S o (.agg (ba 16 f)) a := by
  have := yieldsIf_load_mid (P := Tryz.prog) hw 48 t ho b off hx (ba 16 f).toList _ hS Tryz.underlying48 rfl (by rw [Array.length_toList, ba_size]; exact infoa)
  simpa using this
/-- Write in its fifth step: w5 the world ahead of it. -/
structure Wt (w5 W : World) (m d b c cap R R1 : Nat) (Y : Nat → Nat → Nat) (x : Nat → Nat) (v : Value) (S : Nat) : Prop where
  blk : MAt W m d x v S
  gc : Gc W d b c cap R R1 Y
  low : Only b w5 W
section
variable {w5 W W' : World} {m d b c cap R R1 S : Nat} {Y : Nat → Nat → Nat} {x : Nat → Nat} {v : Value}
theorem Wt.asked (h : Wt w5 W m d b c cap R R1 Y x v S) (hm : m ≠ b) (hg : Gc W' d b c cap R R1 Y) (o : Only b W W') : Wt w5 W' m d b c cap R R1 Y x v S := ⟨h.blk.only o hm, hg, h.low.trans o⟩
theorem Wt.self (h : Wt w5 W m d b c cap R R1 Y x v S) (hb : Below W.heap.size W W') : Wt w5 W' m d b c cap R R1 Y x v S := ⟨h.blk.self hb, h.gc.self hb, h.low.trans (Only.of_below hb)⟩
theorem Wt.row (h : Wt w5 W m d b c cap R R1 Y x v S) (hg : Gc w5 d b c cap R R1 Y) (hm : m < w5.heap.size) {g : Nat} (hn : w5.heap.size ≤ g) (cs : Array Value) : Wt w5 (W.setRow g cs) m d b c cap R R1 Y x v S :=
  ⟨(setRow_other W g m cs (by omega)).trans h.blk, (hg.row h.gc h.low hn cs).1, (hg.row h.gc h.low hn cs).2⟩
end

theorem write_done {w w5 wg wh : World} {m d b c cap R R1 n e N S n2 g7 c7 L : Nat} {Y : Nat → Nat → Nat} {x l δ δ2 x2 l2 y : Nat → Nat} {a : Option Addr} {v1 : Value} (hM : Mw w m d b c cap R R1 Y x a n e l N δ) (h5 : Ws w w5 m d b c cap R R1 Y x v1 S 16 y)
    (h1 : Wt w5 wg m d b c cap R R1 Y x v1 S) (h2 : MAt wh m d x2 v1 S) (o2 : Only m wg wh) (hk : Kb b m wg (.slice (some ⟨g7, 0, none⟩) n2 c7) (ns n2 l2)) (hc : n2 ≤ c7) (hx : B16 x2) (hl : ∀ j, j < n2 → l2 j < 256) (st : Mst Y R x2 n2 l2 S δ2) (hal : ∀ j, j < S → δ2 j < 256) (hS : N + L = S) (hlt : Late w.heap.size wg (.slice (some ⟨g7, 0, none⟩) n2 c7) (ns n2 l2)) :
    Mw (wh.setCell ⟨m, 17, none⟩ (.slice (some ⟨g7, 0, none⟩) n2 c7)) m d b c cap R R1 Y x2 (some ⟨g7, 0, none⟩) n2 c7 l2 (N + L) δ2 ∧ But b m w (wh.setCell ⟨m, 17, none⟩ (.slice (some ⟨g7, 0, none⟩) n2 c7)) ∧ Late w.heap.size (wh.setCell ⟨m, 17, none⟩ (.slice (some ⟨g7, 0, none⟩) n2 c7)) (.slice (some ⟨g7, 0, none⟩) n2 c7) (ns n2 l2) := by
  have o3 : But b m wg (wh.setCell ⟨m, 17, none⟩ (.slice (some ⟨g7, 0, none⟩) n2 c7)) := (But.of2 o2).trans (But.of2 (Only.set (p := ⟨m, 17, none⟩) wh rfl _))
  rw [hS]
  exact ⟨⟨h2.setl _, (h1.gc.onlyM o2 hM.ne).set hM.ne, hk.later o3, hc, st, hx, hl, hM.ne, hal⟩, (h5.but.trans (But.of h1.low)).trans o3, (hlt.only o2 hM.blk.lt).only (Only.set (p := ⟨m, 17, none⟩) wh rfl _) hM.blk.lt⟩
theorem through_more (d b c cap R R1 r er n2 : Nat) (Y : Nat → Nat → Nat) (s ρ x2 l2 : Nat → Nat) (a : Option Addr) (w0 w : World) (hob : Only b w0 w) (h : Gc w d b c cap R R1 Y) (hs : B16 s) (hρ : ∀ j, j < r → ρ j < 256) (hr : r ≤ er) (hv : Kept b w0 (.slice a r er) (ns r ρ))
    (h0 : 0 < r) (hn : r - 16 * bkN r = n2) (hx : cbF Y R s ρ (bkN r) = x2) (hl : (fun j => ρ (16 * bkN r + j)) = l2) :
    Calls Tryz.prog 42 #[.pointer (some ⟨d, 0, none⟩), .agg (ba 16 s), .slice a r er] w fun q w' => ∃ g o, q = .returned (.tuple #[.agg (ba 16 x2), .slice (some ⟨g, o, none⟩) n2 n2]) ∧
      Kept b w0 (.slice (some ⟨g, o, none⟩) n2 n2) (ns n2 l2) ∧ Gc w' d b c cap R R1 Y ∧ Only b w w' := by
  refine (through_any d b c cap R R1 r er Y s ρ a w0 w hob h hs hρ hr hv).mono ?_
  rintro q w' ⟨a', rfl, hk, hg, ho⟩
  subst hx
  subst hl
  subst hn
  have hp : 0 < r - 16 * bkN r := by unfold bkN; omega
  obtain ⟨a2, c2, e, _, _, hc⟩ := hk.rd
  injection e with e1 _ _
  subst e1
  obtain ⟨g, o, rfl, _⟩ := hc (by rw [ns_len]; exact hp)
  exact ⟨g, o, rfl, hk, hg, ho⟩
set_option maxHeartbeats 25600000 in
theorem write_more (w : World) (m d b c cap R R1 n e N L p ev : Nat) (Y : Nat → Nat → Nat) (x l δ β : Nat → Nat) (a av : Option Addr) (h : Mw w m d b c cap R R1 Y x a n e l N δ) (hv : Kb b m w (.slice av L ev) (ns L β)) (hL : L ≤ ev) (hβ : ∀ j, j < L → β j < 256)
    (hS : N + L ≤ 60000) (hp : n + p = 16) (hlp : p < L) :
    Calls Tryz.prog 30 #[.pointer (some ⟨m, 0, none⟩), .slice av L ev] w fun q w' => q = .returned (.tuple #[]) ∧ ∃ x' a' n' e' l', Mw w' m d b c cap R R1 Y x' a' n' e' l' (N + L) (thenF N δ β) ∧ But b m w w' ∧ Late w.heap.size w' (.slice a' n' e') (ns n' l') := by
  have HM := hid h
  obtain ⟨S, hSS⟩ : ∃ S, N + L = S := ⟨_, rfl⟩
  have HSS := hid hSS
  have e1 : (N : Int) + (L : Int) = (S : Int) := by omega
  have w1 : IntKind.i64.wrap (S : Int) = S := by rw [IntKind.wrap_i64]; omega
  have e2 : (16 : Int) - (n : Int) = (p : Int) := by omega
  have w2 : IntKind.i64.wrap (p : Int) = p := by rw [IntKind.wrap_i64]; omega
  have hc1 := h.blk.cn
  have hf1 := h.blk.free 18
  have HW := hid (Ws.start h S)
  have hc2 := HW.out.blk.cl
  have HC := hid (fun W => mcut_any av L ev p p W hL (by omega))
  have HV := hid (hv.head (Nat.le_of_lt hlp))
  have HVR := hid (hv.rest hL (Nat.le_of_lt hlp))
  obtain ⟨r, hr⟩ : ∃ r, L - p = r := ⟨_, rfl⟩
  obtain ⟨er, her⟩ : ∃ er, ev - p = er := ⟨_, rfl⟩
  rw [hr, her] at HC HVR
  have hrr : r ≤ er ∧ r ≤ 60000 ∧ 0 < r := by omega
  have hr0 : ((r : Int) == 0) = false := by rw [beq_eq_false_iff_ne]; omega
  have HST0 := h.st.more (β := β) hp hlp (rfl : bkN (L - p) = _)
  rw [hr, hSS] at HST0
  obtain ⟨y, hy⟩ : ∃ y, thenF n l β = y := ⟨_, rfl⟩
  have HYB : Hid (B16 y) := hid (fun j hj => by rw [← hy]; exact thenF_b h.lb (L := p) (fun j hj => hβ j (by omega)) j (by omega))
  have HXB := hid h.xb
  have HNE : Hid (m ≠ b) := hid h.ne.1
  have HALL : Hid (∀ j, j < S → thenF N δ β j < 256) := hid (fun j hj => thenF_b h.all hβ j (by omega))
  have HZB : Hid (B16 (blkF Y R (xorF x y))) := hid (blkF_b h.gc.yb (xorF_16 HXB.out HYB.out))
  obtain ⟨ρ, hρ⟩ : ∃ ρ, (fun j => β (p + j)) = ρ := ⟨_, rfl⟩
  have HRB : Hid (∀ j, j < r → ρ j < 256) := hid (fun j hj => by rw [← hρ]; exact hβ _ (by omega))
  have HBN : Hid (n + p = 16) := hid hp
  have HPB : Hid (∀ j, j < p → β j < 256) := hid (fun j hj => hβ _ (by omega))
  rw [hy, hρ] at HST0
  rw [hρ] at HVR
  obtain ⟨n2, hn2⟩ : ∃ n2, r - 16 * bkN r = n2 := ⟨_, rfl⟩
  obtain ⟨x2, hx2⟩ : ∃ x2, cbF Y R (blkF Y R (xorF x y)) ρ (bkN r) = x2 := ⟨_, rfl⟩
  obtain ⟨l2, hl2⟩ : ∃ l2, (fun j => ρ (16 * bkN r + j)) = l2 := ⟨_, rfl⟩
  have hl3 : (fun j => β (p + (16 * bkN r + j))) = l2 := by rw [← hl2, ← hρ]
  have HX2 : Hid (B16 x2) := hid (by rw [← hx2]; exact cbF_b h.gc.yb HZB.out (bkN r) (fun j hj => HRB.out j (Nat.lt_of_lt_of_le hj (bkN_le r))))
  have HL2 : Hid (∀ j, j < n2 → l2 j < 256) := hid (fun j hj => by rw [← hl2]; exact HRB.out _ (by have := bkN_le r; omega))
  have HN2 : Hid (0 < n2 ∧ n2 ≤ 65536) := hid (by have := bkN_rest r; unfold bkN at *; omega)
  rw [hx2, hn2, hl3] at HST0
  have HST := hid HST0
  have HTT := hid (fun (w5 W : World) (ar : Option Addr) (hob : Only b w5 W) (hg : Gc W d b c cap R R1 Y) (hk : Kept b w5 (.slice ar r er) (ns r ρ)) => through_more d b c cap R R1 r er n2 Y (blkF Y R (xorF x y)) ρ x2 l2 ar w5 W hob hg HZB.out HRB.out hrr.1 hk hrr.2.2 hn2 hx2 hl2)
  have HY := hid hy
  generalize restA av p ev = ar at HC HVR
  clear h hv hL hβ hS hp hlp hSS HST0 hr her HRB hrr hy hρ hn2 hx2 hl2 hl3
  go_enter Tryz.func30, Tryz.ntmps30
  go_wp2_with (first
    | (go_at_call 41; (with_reducible refine (HC.out _).mono ?_); rintro q w3 ⟨rfl, hlow⟩
       have HW3 := hid (HW.out.self hlow)
       have hc3 := HW3.out.blk.cl
       have HR3 := hid (HV.out.later HW3.out.but).rd
       clear hlow)
    | (go_at_call 27; (with_reducible refine (mconcat_any w3 (.slice a n e) (.slice av p p) n p 16 l β HW3.out.last.rd HR3.out HBN.out (by decide)).mono ?_); rintro q w4 ⟨a4, e4, rfl, hown, he4, hlow⟩
       rw [HY.out] at hown
       have HW4 := hid (HW3.out.self hlow)
       have HK4 := hid (kb_own (b := b) (m := m) hown HW3.out.gc.lt HW3.out.blk.lt (by decide) HYB.out)
       have hc4 := HW4.out.blk.cl
       have hf4 := HW4.out.blk.free 17
       have HW5 := hid (HW4.out.put HM.out.ne HK4.out)
       clear hown hlow he4))
  have HK5 := hid HW5.out.last.kept
  have HKR := hid (HVR.out.later HW5.out.but).kept
  clear HW HV HVR HW3 HR3 HW4 HK4 hc1 hf1 hc2 hc3 hc4 hf4
  generalize w4.setCell ⟨m, 17, none⟩ (.slice a4 16 e4) = w5 at *
  have HT := hid (fun W (hob : Only b w5 W) (hg : Gc W d b c cap R R1 Y) => HTT.out w5 W ar hob hg HKR.out)
  have HGC := hid HW5.out.gc
  have HML := hid HW5.out.blk.lt
  have HT0 : Hid (Wt w5 w5.drew m d b c cap R R1 Y x (.slice a4 16 e4) S) := hid ⟨HW5.out.blk.drew, HW5.out.gc.drew, (Only.refl b w5).drew⟩
  clear HTT HKR
  refine wp_region_noPanic ?_
  refine wp_region_held_drew (S := fun w' => MAt w' m d x (.slice a4 16 e4) S) (by kernel_rfl) (HT0.out.blk) (fun h0 => ?_)
  generalize w5.drew = wa at *
  refine wpAnyH_take (i := 0) (v := .pointer (some ⟨m, 0, none⟩)) rfl (by kernel_rfl) (by kernel_rfl) (by kernel_rfl) (fun _ _ _ h => h) (.inl ⟨by rfl, fun w hw => by clear hw; go_simp⟩) h0 ?_
  try simp only [Act.put, lay_out]
  refine wpAnyH_take (i := 1) (v := .pointer (some ⟨m, 0, none⟩)) rfl (by kernel_rfl) (by kernel_rfl) (by kernel_rfl) (fun _ _ _ h => h) (.inl ⟨by rfl, fun w hw => by clear hw; go_simp⟩) h0 ?_
  try simp only [Act.put, lay_out]
  refine wpAnyH_take (i := 2) (v := .pointer (some ⟨m, 0, none⟩)) rfl (by kernel_rfl) (by kernel_rfl) (by kernel_rfl) (fun _ _ _ h => h) (.inl ⟨by rfl, fun w hw => by clear hw; go_simp⟩) h0 ?_
  try simp only [Act.put, lay_out]
  refine wpAnyH_take (i := 3) (v := .pointer (some ⟨d, 0, none⟩)) rfl (by kernel_rfl) (by kernel_rfl) (by kernel_rfl) (fun _ _ _ h => h) (.inl ⟨by rfl, fun w hw => by have hc0 := hw.c0; clear hw; go_simp⟩) h0 ?_
  try simp only [Act.put, lay_out]
  refine wpAnyH_take (i := 4) (v := .pointer (some ⟨m, 0, none⟩)) rfl (by kernel_rfl) (by kernel_rfl) (by kernel_rfl) (fun _ _ _ h => h) (.inl ⟨by rfl, fun w hw => by clear hw; go_simp⟩) h0 ?_
  try simp only [Act.put, lay_out]
  refine wpAnyH_take (i := 5) (v := .pointer (some ⟨m, 0, none⟩)) rfl (by kernel_rfl) (by kernel_rfl) (by kernel_rfl) (fun _ _ _ h => h) (.inl ⟨by rfl, fun w hw => by clear hw; go_simp⟩) h0 ?_
  try simp only [Act.put, lay_out]
  refine wpAnyH_take (i := 6) (v := .pointer (some ⟨m, 0, none⟩)) rfl (by kernel_rfl) (by kernel_rfl) (by kernel_rfl) (fun _ _ _ h => h) (.inl ⟨by rfl, fun w hw => by clear hw; go_simp⟩) h0 ?_
  try simp only [Act.put, lay_out]
  refine wpAnyH_take (i := 7) (v := .pointer (some ⟨d, 0, none⟩)) rfl (by kernel_rfl) (by kernel_rfl) (by kernel_rfl) (fun _ _ _ h => h) (.inl ⟨by rfl, fun w hw => by have hc0 := hw.c0; clear hw; go_simp⟩) h0 ?_
  try simp only [Act.put, lay_out]
  refine wpAnyH_take (i := 8) (v := .pointer (some ⟨m, 0, none⟩)) rfl (by kernel_rfl) (by kernel_rfl) (by kernel_rfl) (fun _ _ _ h => h) (.inl ⟨by rfl, fun w hw => by clear hw; go_simp⟩) h0 ?_
  try simp only [Act.put, lay_out]
  refine wpAnyH_take (i := 9) (v := .pointer (some ⟨m, 0, none⟩)) rfl (by kernel_rfl) (by kernel_rfl) (by kernel_rfl) (fun _ _ _ h => h) (.inl ⟨by rfl, fun w hw => by clear hw; go_simp⟩) h0 ?_
  try simp only [Act.put, lay_out]
  refine wpAnyH_take (i := 10) (v := .pointer (some ⟨m, 1, none⟩)) rfl (by kernel_rfl) (by kernel_rfl) (by kernel_rfl) (fun _ _ _ h => h) (.inl ⟨by rfl, fun w hw => by clear hw; go_simp⟩) h0 ?_
  try simp only [Act.put, lay_out]
  refine wpAnyH_take (i := 11) (v := .agg (ba 16 x)) rfl (by kernel_rfl) (by kernel_rfl) (by kernel_rfl) (fun _ _ _ h => h) (yields_load_mid16 (by rfl) _ rfl m 1 x rfl (fun w h => h.range)) h0 ?_
  try simp only [Act.put, lay_out]
  refine wpAnyH_take (i := 12) (v := .pointer (some ⟨m, 0, none⟩)) rfl (by kernel_rfl) (by kernel_rfl) (by kernel_rfl) (fun _ _ _ h => h) (.inl ⟨by rfl, fun w hw => by clear hw; go_simp⟩) h0 ?_
  try simp only [Act.put, lay_out]
  refine wpAnyH_take (i := 13) (v := .pointer (some ⟨m, 0, none⟩)) rfl (by kernel_rfl) (by kernel_rfl) (by kernel_rfl) (fun _ _ _ h => h) (.inl ⟨by rfl, fun w hw => by clear hw; go_simp⟩) h0 ?_
  try simp only [Act.put, lay_out]
  refine wpAnyH_take (i := 14) (v := .pointer (some ⟨m, 17, none⟩)) rfl (by kernel_rfl) (by kernel_rfl) (by kernel_rfl) (fun _ _ _ h => h) (.inl ⟨by rfl, fun w hw => by clear hw; go_simp⟩) h0 ?_
  try simp only [Act.put, lay_out]
  refine wpAnyH_take (i := 15) (v := (.slice a4 16 e4)) rfl (by kernel_rfl) (by kernel_rfl) (by kernel_rfl) (fun _ _ _ h => h) (.inl ⟨by rfl, fun w hw => by have hc0 := hw.cl; clear hw; go_simp⟩) h0 ?_
  try simp only [Act.put, lay_out]
  refine wpAnyH_take (i := 17) (v := .slice ar r er) rfl (by kernel_rfl) (by kernel_rfl) (by kernel_rfl) (fun _ _ _ h => h) (.inl ⟨by rfl, fun w hw => by clear hw; go_simp⟩) h0 ?_
  try simp only [Act.put, lay_out]
  refine wpAnyH_ready (rs := [16, 22]) (by kernel_rfl) (by simp) (AllReadyH.cons rfl (fun K hK => ?_) (AllReadyH.cons rfl (fun K hK => ?_) AllReadyH.nil))
  · rw [if_pos (by rfl)]
    go_simp
    go_at_call 43
    (with_reducible refine (entered_any d b c cap R R1 Y x y (.slice a4 16 e4) wa HT0.out.gc HXB.out HYB.out (HK5.out.later HT0.out.low).rd).mono ?_); rintro e wb ⟨rfl, hg, ho⟩
    have HT1 := hid (HT0.out.asked HNE.out hg ho)
    clear hg ho
    refine hK.out _ _ (HT1.out.blk) (fun h1x => ?_)
    clear hK K
    try simp only [Act.put, lay_out]
    refine wpAnyH_ready (rs := [18, 22]) (by kernel_rfl) (by simp) (AllReadyH.cons rfl (fun K hK => ?_) (AllReadyH.cons rfl (fun K hK => ?_) AllReadyH.nil))
    · rw [if_pos (by rfl)]
      go_simp
      go_at_call 42
      (with_reducible refine (HT.out wb HT1.out.low HT1.out.gc).mono ?_); rintro e wc ⟨g5, o5, rfl, hk, hg, ho⟩
      have HT2 := hid (HT1.out.asked HNE.out hg ho)
      have HK6 := hid hk
      clear hg ho hk
      refine hK.out _ _ (HT2.out.blk) (fun h2x => ?_)
      clear hK K
      try simp only [Act.put, lay_out]
      refine wpAnyH_take (i := 19) (v := .tuple #[.agg (ba 16 x2), .slice (some ⟨g5, o5, none⟩) n2 n2]) rfl (by kernel_rfl) (by kernel_rfl) (by kernel_rfl) (fun _ _ _ h => h) (.inl ⟨by rfl, fun w hw => by clear hw; go_simp⟩) h2x ?_
      try simp only [Act.put, lay_out]
      refine wpAnyH_take (i := 20) (v := .agg (ba 16 x2)) rfl (by kernel_rfl) (by kernel_rfl) (by kernel_rfl) (fun _ _ _ h => h) (.inl ⟨by rfl, fun w hw => by clear hw; go_simp⟩) h2x ?_
      try simp only [Act.put, lay_out]
      refine wpAnyH_take (i := 21) (v := .slice (some ⟨g5, o5, none⟩) n2 n2) rfl (by kernel_rfl) (by kernel_rfl) (by kernel_rfl) (fun _ _ _ h => h) (.inl ⟨by rfl, fun w hw => by clear hw; go_simp⟩) h2x ?_
      try simp only [Act.put, lay_out]
      refine wpAnyH_ready (rs := [22]) (by kernel_rfl) (by simp) (AllReadyH.cons rfl (fun K hK => ?_) AllReadyH.nil)
      rw [if_pos (by rfl)]
      go_simp
      have HA := hid (at_zero wc)
      have hlow : Below wc.heap.size wc (wc.alloc (.cells z16 48)) := (Below.refl _ _).alloc (Nat.le_refl _) _
      have HT3 := hid (HT2.out.self hlow)
      have HGN : Hid (w5.heap.size ≤ wc.heap.size ∧ b < wc.heap.size) := hid ⟨HT2.out.low.size, by have := HT2.out.gc.lt; omega⟩
      clear hlow
      refine hK.out _ _ (HT3.out.blk) (fun h3x => ?_)
      clear hK K
      try simp only [Act.put, lay_out]
      refine wpAnyH_ready (rs := [23]) (by kernel_rfl) (by simp) (AllReadyH.cons rfl (fun K hK => ?_) AllReadyH.nil)
      rw [if_pos (by rfl)]
      refine wp_store_row 48 (.tmp 6) (.tmp 63) rfl wc.heap.size (ba 16 x2) rfl rfl 48 _ HA.out (by rw [ba_size]; exact infoa) (by rw [ba_size, ba_size]) (ba_one 16 _) ?_
      have HE := hid (HT3.out.row HGC.out HML.out HGN.out.1 (ba 16 x2))
      have HAE := hid (HA.out.row x2)
      refine hK.out _ _ (HE.out.blk) (fun h4x => ?_)
      clear hK K
      try simp only [Act.put, lay_out]
      refine wpAnyH_take (i := 24) (v := .slice (some ⟨g5, o5, none⟩) n2 n2) rfl (by kernel_rfl) (by kernel_rfl) (by kernel_rfl) (fun _ _ _ h => h) (.inl ⟨by rfl, fun w hw => by clear hw; go_simp⟩) h4x ?_
      try simp only [Act.put, lay_out]
      refine wpAnyH_done (by kernel_rfl) ?_ _
      refine NoPanic.normal ?_
      clear h0 h1x h2x h3x h4x
      try simp only [Act.put, lay_out]
      have HG6 := hid HGN.out.1
      generalize (wc.alloc (.cells z16 48)).setRow wc.heap.size (ba 16 x2) = we at *
      generalize wc.heap.size = g6 at HAE HG6 ⊢
      clear HA
      go_wp2
      have HB0 := hid (And.intro (HE.out.self (Below.refl _ _).drew) HAE.out.drew)
      clear HE HAE
      refine wp_region_noPanic ?_
      refine wp_region_held_drew (S := fun w' => At w' g6 16 48 x2) (by kernel_rfl) (HB0.out.2) (fun h0 => ?_)
      generalize we.drew = wf at *
      refine wpAnyH_take (i := 0) (v := .pointer (some ⟨m, 0, none⟩)) rfl (by kernel_rfl) (by kernel_rfl) (by kernel_rfl) (fun _ _ _ h => h) (.inl ⟨by rfl, fun w hw => by clear hw; go_simp⟩) h0 ?_
      try simp only [Act.put, lay_out]
      refine wpAnyH_take (i := 1) (v := .pointer (some ⟨m, 0, none⟩)) rfl (by kernel_rfl) (by kernel_rfl) (by kernel_rfl) (fun _ _ _ h => h) (.inl ⟨by rfl, fun w hw => by clear hw; go_simp⟩) h0 ?_
      try simp only [Act.put, lay_out]
      refine wpAnyH_take (i := 2) (v := .agg (ba 16 x2)) rfl (by kernel_rfl) (by kernel_rfl) (by kernel_rfl) (fun _ _ _ h => h) (yields_load_ba (by rfl) 48 _ rfl g6 16 48 5 x2 rfl (fun w h => h) Tryz.underlying48 infoa) h0 ?_
      try simp only [Act.put, lay_out]
      refine wpAnyH_take (i := 3) (v := .slice (some ⟨g5, o5, none⟩) n2 n2) rfl (by kernel_rfl) (by kernel_rfl) (by kernel_rfl) (fun _ _ _ h => h) (.inl ⟨by rfl, fun w hw => by clear hw; go_simp⟩) h0 ?_
      try simp only [Act.put, lay_out]
      refine wpAnyH_ready (rs := [4]) (by kernel_rfl) (by simp) (AllReadyH.cons rfl (fun K hK => ?_) AllReadyH.nil)
      rw [if_pos (by rfl)]
      go_simp
      go_at_call 44
      (with_reducible refine (bclone_any g5 o5 n2 n2 l2 wf HN2.out.1 HN2.out.2 (HK6.out.later HB0.out.1.low).rd).mono ?_); rintro e wg ⟨g7, c7, rfl, hown, hlow⟩
      have HB1 := hid (And.intro (HB0.out.1.self hlow) (HB0.out.2.self hlow))
      have HO7 := hid hown
      have HC7 : Hid (n2 ≤ c7) := hid (by obtain ⟨_, _, e7, h7, _⟩ := hown.slice; injection e7 with _ _ e7; rw [ns_len] at h7; omega)
      have HLT7 := hid (late_own (N := w.heap.size) hown (Nat.le_trans HW5.out.but.size HB0.out.1.low.size) HN2.out.2 HL2.out)
      have HK7 := hid (kb_own (b := b) (m := m) hown HB0.out.1.gc.lt HB0.out.1.blk.lt HN2.out.2 HL2.out)
      clear hown hlow
      refine hK.out _ _ (HB1.out.2) (fun h5x => ?_)
      clear hK K
      try simp only [Act.put, lay_out]
      refine wpAnyH_take (i := 5) (v := .pointer (some ⟨m, 0, none⟩)) rfl (by kernel_rfl) (by kernel_rfl) (by kernel_rfl) (fun _ _ _ h => h) (.inl ⟨by rfl, fun w hw => by clear hw; go_simp⟩) h5x ?_
      try simp only [Act.put, lay_out]
      refine wpAnyH_take (i := 6) (v := .pointer (some ⟨m, 1, none⟩)) rfl (by kernel_rfl) (by kernel_rfl) (by kernel_rfl) (fun _ _ _ h => h) (.inl ⟨by rfl, fun w hw => by clear hw; go_simp⟩) h5x ?_
      try simp only [Act.put, lay_out]
      refine wpAnyH_ready (rs := [7]) (by kernel_rfl) (by simp) (AllReadyH.cons rfl (fun K hK => ?_) AllReadyH.nil)
      rw [if_pos (by rfl)]
      refine wp_store_mid 48 (.tmp 71) (.tmp 67) rfl m 1 (ba 16 x2) rfl rfl (by rw [ba_size]; exact HB1.out.1.blk.there) (by rw [ba_size]; exact infoa) (ba_one 16 _) ?_
      have HB2 := hid (And.intro (HB1.out.1.blk.setx x2) (only_cells m (ba 16 x2).toList 1 wg))
      have HA2 : Hid (At (wg.setCells m 1 (ba 16 x2).toList) g6 16 48 x2) := hid ((HB2.out.2.block g6 HB1.out.2.lt (by have := HML.out; have := HG6.out; omega)).trans HB1.out.2)
      generalize wg.setCells m 1 (ba 16 x2).toList = wh at *
      refine hK.out _ _ (HA2.out) (fun h6x => ?_)
      clear hK K
      try simp only [Act.put, lay_out]
      refine wpAnyH_take (i := 8) (v := .pointer (some ⟨m, 0, none⟩)) rfl (by kernel_rfl) (by kernel_rfl) (by kernel_rfl) (fun _ _ _ h => h) (.inl ⟨by rfl, fun w hw => by clear hw; go_simp⟩) h6x ?_
      try simp only [Act.put, lay_out]
      refine wpAnyH_take (i := 9) (v := .pointer (some ⟨m, 17, none⟩)) rfl (by kernel_rfl) (by kernel_rfl) (by kernel_rfl) (fun _ _ _ h => h) (.inl ⟨by rfl, fun w hw => by clear hw; go_simp⟩) h6x ?_
      try simp only [Act.put, lay_out]
      have hc8 := HB2.out.1.cl
      have hf8 := HB2.out.1.free 17
      refine wpAnyH_ready (rs := [10]) (by kernel_rfl) (by simp) (AllReadyH.cons rfl (fun K hK => ?_) AllReadyH.nil)
      go_simp
      have HA3 : Hid (At (wh.setCell ⟨m, 17, none⟩ (.slice (some ⟨g7, 0, none⟩) n2 c7)) g6 16 48 x2) := hid (HA2.out.apart (by show g6 ≠ m; have := HML.out; have := HG6.out; omega) _)
      refine hK.out _ _ (HA3.out) (fun h7x => ?_)
      clear hK K
      try simp only [Act.put, lay_out]
      refine wpAnyH_done (by kernel_rfl) ?_ _
      refine NoPanic.normal ?_
      clear h0 h5x h6x h7x
      try simp only [Act.put, lay_out]
      go_wp2
      refine bodyPost_end (results_none rfl _ _ _) rfl ⟨rfl, x2, some ⟨g7, 0, none⟩, n2, c7, l2, ?_⟩
      exact write_done HM.out HW5.out HB1.out.1 HB2.out.1 HB2.out.2 HK7.out HC7.out HX2.out HL2.out HST.out HALL.out HSS.out HLT7.out
    · rw [if_pos (by rfl)]
      go_simp
      have HA := hid (at_zero wb)
      have hlow : Below wb.heap.size wb (wb.alloc (.cells z16 48)) := (Below.refl _ _).alloc (Nat.le_refl _) _
      have HT3 := hid (HT1.out.self hlow)
      have HGN : Hid (w5.heap.size ≤ wb.heap.size ∧ b < wb.heap.size) := hid ⟨HT1.out.low.size, by have := HT1.out.gc.lt; omega⟩
      clear hlow
      refine hK.out _ _ (HT3.out.blk) (fun h2x => ?_)
      clear hK K
      try simp only [Act.put, lay_out]
      refine wpAnyH_ready (rs := [18]) (by kernel_rfl) (by simp) (AllReadyH.cons rfl (fun K hK => ?_) AllReadyH.nil)
      rw [if_pos (by rfl)]
      go_simp
      go_at_call 42
      (with_reducible refine (HT.out (wb.alloc (.cells z16 48)) HT3.out.low HT3.out.gc).mono ?_); rintro e wc ⟨g5, o5, rfl, hk, hg, ho⟩
      have HT4 := hid (HT3.out.asked HNE.out hg ho)
      have HK6 := hid hk
      have HA4 := hid (at_asked HA.out ho (by have := HGN.out; omega))
      clear hg ho hk
      refine hK.out _ _ (HT4.out.blk) (fun h3x => ?_)
      clear hK K
      try simp only [Act.put, lay_out]
      refine wpAnyH_take (i := 19) (v := .tuple #[.agg (ba 16 x2), .slice (some ⟨g5, o5, none⟩) n2 n2]) rfl (by kernel_rfl) (by kernel_rfl) (by kernel_rfl) (fun _ _ _ h => h) (.inl ⟨by rfl, fun w hw => by clear hw; go_simp⟩) h3x ?_
      try simp only [Act.put, lay_out]
      refine wpAnyH_take (i := 20) (v := .agg (ba 16 x2)) rfl (by kernel_rfl) (by kernel_rfl) (by kernel_rfl) (fun _ _ _ h => h) (.inl ⟨by rfl, fun w hw => by clear hw; go_simp⟩) h3x ?_
      try simp only [Act.put, lay_out]
      refine wpAnyH_take (i := 21) (v := .slice (some ⟨g5, o5, none⟩) n2 n2) rfl (by kernel_rfl) (by kernel_rfl) (by kernel_rfl) (fun _ _ _ h => h) (.inl ⟨by rfl, fun w hw => by clear hw; go_simp⟩) h3x ?_
      try simp only [Act.put, lay_out]
      refine wpAnyH_ready (rs := [23]) (by kernel_rfl) (by simp) (AllReadyH.cons rfl (fun K hK => ?_) AllReadyH.nil)
      rw [if_pos (by rfl)]
      refine wp_store_row 48 (.tmp 6) (.tmp 63) rfl wb.heap.size (ba 16 x2) rfl rfl 48 _ HA4.out (by rw [ba_size]; exact infoa) (by rw [ba_size, ba_size]) (ba_one 16 _) ?_
      have HE := hid (HT4.out.row HGC.out HML.out HGN.out.1 (ba 16 x2))
      have HAE := hid (HA4.out.row x2)
      refine hK.out _ _ (HE.out.blk) (fun h4x => ?_)
      clear hK K
      try simp only [Act.put, lay_out]
      refine wpAnyH_take (i := 24) (v := .slice (some ⟨g5, o5, none⟩) n2 n2) rfl (by kernel_rfl) (by kernel_rfl) (by kernel_rfl) (fun _ _ _ h => h) (.inl ⟨by rfl, fun w hw => by clear hw; go_simp⟩) h4x ?_
      try simp only [Act.put, lay_out]
      refine wpAnyH_done (by kernel_rfl) ?_ _
      refine NoPanic.normal ?_
      clear h0 h1x h2x h3x h4x
      try simp only [Act.put, lay_out]
      have HG6 := hid HGN.out.1
      generalize wc.setRow wb.heap.size (ba 16 x2) = we at *
      generalize wb.heap.size = g6 at HAE HG6 ⊢
      clear HA
      go_wp2
      have HB0 := hid (And.intro (HE.out.self (Below.refl _ _).drew) HAE.out.drew)
      clear HE HAE
      refine wp_region_noPanic ?_
      refine wp_region_held_drew (S := fun w' => At w' g6 16 48 x2) (by kernel_rfl) (HB0.out.2) (fun h0 => ?_)
      generalize we.drew = wf at *
      refine wpAnyH_take (i := 0) (v := .pointer (some ⟨m, 0, none⟩)) rfl (by kernel_rfl) (by kernel_rfl) (by kernel_rfl) (fun _ _ _ h => h) (.inl ⟨by rfl, fun w hw => by clear hw; go_simp⟩) h0 ?_
      try simp only [Act.put, lay_out]
      refine wpAnyH_take (i := 1) (v := .pointer (some ⟨m, 0, none⟩)) rfl (by kernel_rfl) (by kernel_rfl) (by kernel_rfl) (fun _ _ _ h => h) (.inl ⟨by rfl, fun w hw => by clear hw; go_simp⟩) h0 ?_
      try simp only [Act.put, lay_out]
      refine wpAnyH_take (i := 2) (v := .agg (ba 16 x2)) rfl (by kernel_rfl) (by kernel_rfl) (by kernel_rfl) (fun _ _ _ h => h) (yields_load_ba (by rfl) 48 _ rfl g6 16 48 5 x2 rfl (fun w h => h) Tryz.underlying48 infoa) h0 ?_
      try simp only [Act.put, lay_out]
      refine wpAnyH_take (i := 3) (v := .slice (some ⟨g5, o5, none⟩) n2 n2) rfl (by kernel_rfl) (by kernel_rfl) (by kernel_rfl) (fun _ _ _ h => h) (.inl ⟨by rfl, fun w hw => by clear hw; go_simp⟩) h0 ?_
      try simp only [Act.put, lay_out]
      refine wpAnyH_ready (rs := [4]) (by kernel_rfl) (by simp) (AllReadyH.cons rfl (fun K hK => ?_) AllReadyH.nil)
      rw [if_pos (by rfl)]
      go_simp
      go_at_call 44
      (with_reducible refine (bclone_any g5 o5 n2 n2 l2 wf HN2.out.1 HN2.out.2 (HK6.out.later HB0.out.1.low).rd).mono ?_); rintro e wg ⟨g7, c7, rfl, hown, hlow⟩
      have HB1 := hid (And.intro (HB0.out.1.self hlow) (HB0.out.2.self hlow))
      have HO7 := hid hown
      have HC7 : Hid (n2 ≤ c7) := hid (by obtain ⟨_, _, e7, h7, _⟩ := hown.slice; injection e7 with _ _ e7; rw [ns_len] at h7; omega)
      have HLT7 := hid (late_own (N := w.heap.size) hown (Nat.le_trans HW5.out.but.size HB0.out.1.low.size) HN2.out.2 HL2.out)
      have HK7 := hid (kb_own (b := b) (m := m) hown HB0.out.1.gc.lt HB0.out.1.blk.lt HN2.out.2 HL2.out)
      clear hown hlow
      refine hK.out _ _ (HB1.out.2) (fun h5x => ?_)
      clear hK K
      try simp only [Act.put, lay_out]
      refine wpAnyH_take (i := 5) (v := .pointer (some ⟨m, 0, none⟩)) rfl (by kernel_rfl) (by kernel_rfl) (by kernel_rfl) (fun _ _ _ h => h) (.inl ⟨by rfl, fun w hw => by clear hw; go_simp⟩) h5x ?_
      try simp only [Act.put, lay_out]
      refine wpAnyH_take (i := 6) (v := .pointer (some ⟨m, 1, none⟩)) rfl (by kernel_rfl) (by kernel_rfl) (by kernel_rfl) (fun _ _ _ h => h) (.inl ⟨by rfl, fun w hw => by clear hw; go_simp⟩) h5x ?_
      try simp only [Act.put, lay_out]
      refine wpAnyH_ready (rs := [7]) (by kernel_rfl) (by simp) (AllReadyH.cons rfl (fun K hK => ?_) AllReadyH.nil)
      rw [if_pos (by rfl)]
      refine wp_store_mid 48 (.tmp 71) (.tmp 67) rfl m 1 (ba 16 x2) rfl rfl (by rw [ba_size]; exact HB1.out.1.blk.there) (by rw [ba_size]; exact infoa) (ba_one 16 _) ?_
      have HB2 := hid (And.intro (HB1.out.1.blk.setx x2) (only_cells m (ba 16 x2).toList 1 wg))
      have HA2 : Hid (At (wg.setCells m 1 (ba 16 x2).toList) g6 16 48 x2) := hid ((HB2.out.2.block g6 HB1.out.2.lt (by have := HML.out; have := HG6.out; omega)).trans HB1.out.2)
      generalize wg.setCells m 1 (ba 16 x2).toList = wh at *
      refine hK.out _ _ (HA2.out) (fun h6x => ?_)
      clear hK K
      try simp only [Act.put, lay_out]
      refine wpAnyH_take (i := 8) (v := .pointer (some ⟨m, 0, none⟩)) rfl (by kernel_rfl) (by kernel_rfl) (by kernel_rfl) (fun _ _ _ h => h) (.inl ⟨by rfl, fun w hw => by clear hw; go_simp⟩) h6x ?_
      try simp only [Act.put, lay_out]
      refine wpAnyH_take (i := 9) (v := .pointer (some ⟨m, 17, none⟩)) rfl (by kernel_rfl) (by kernel_rfl) (by kernel_rfl) (fun _ _ _ h => h) (.inl ⟨by rfl, fun w hw => by clear hw; go_simp⟩) h6x ?_
      try simp only [Act.put, lay_out]
      have hc8 := HB2.out.1.cl
      have hf8 := HB2.out.1.free 17
      refine wpAnyH_ready (rs := [10]) (by kernel_rfl) (by simp) (AllReadyH.cons rfl (fun K hK => ?_) AllReadyH.nil)
      go_simp
      have HA3 : Hid (At (wh.setCell ⟨m, 17, none⟩ (.slice (some ⟨g7, 0, none⟩) n2 c7)) g6 16 48 x2) := hid (HA2.out.apart (by show g6 ≠ m; have := HML.out; have := HG6.out; omega) _)
      refine hK.out _ _ (HA3.out) (fun h7x => ?_)
      clear hK K
      try simp only [Act.put, lay_out]
      refine wpAnyH_done (by kernel_rfl) ?_ _
      refine NoPanic.normal ?_
      clear h0 h5x h6x h7x
      try simp only [Act.put, lay_out]
      go_wp2
      refine bodyPost_end (results_none rfl _ _ _) rfl ⟨rfl, x2, some ⟨g7, 0, none⟩, n2, c7, l2, ?_⟩
      exact write_done HM.out HW5.out HB1.out.1 HB2.out.1 HB2.out.2 HK7.out HC7.out HX2.out HL2.out HST.out HALL.out HSS.out HLT7.out
  · rw [if_pos (by rfl)]
    go_simp
    have HA := hid (at_zero wa)
    have hlow : Below wa.heap.size wa (wa.alloc (.cells z16 48)) := (Below.refl _ _).alloc (Nat.le_refl _) _
    have HT3 := hid (HT0.out.self hlow)
    have HGN : Hid (w5.heap.size ≤ wa.heap.size ∧ b < wa.heap.size) := hid ⟨HT0.out.low.size, by have := HT0.out.gc.lt; omega⟩
    clear hlow
    refine hK.out _ _ (HT3.out.blk) (fun h1x => ?_)
    clear hK K
    try simp only [Act.put, lay_out]
    refine wpAnyH_ready (rs := [16]) (by kernel_rfl) (by simp) (AllReadyH.cons rfl (fun K hK => ?_) AllReadyH.nil)
    rw [if_pos (by rfl)]
    go_simp
    go_at_call 43
    (with_reducible refine (entered_any d b c cap R R1 Y x y (.slice a4 16 e4) (wa.alloc (.cells z16 48)) HT3.out.gc HXB.out HYB.out (HK5.out.later HT3.out.low).rd).mono ?_); rintro e wb ⟨rfl, hg, ho⟩
    have HT1 := hid (HT3.out.asked HNE.out hg ho)
    have HA4 := hid (at_asked HA.out ho (by have := HGN.out; omega))
    clear hg ho
    refine hK.out _ _ (HT1.out.blk) (fun h2x => ?_)
    clear hK K
    try simp only [Act.put, lay_out]
    refine wpAnyH_ready (rs := [18]) (by kernel_rfl) (by simp) (AllReadyH.cons rfl (fun K hK => ?_) AllReadyH.nil)
    rw [if_pos (by rfl)]
    go_simp
    go_at_call 42
    (with_reducible refine (HT.out wb HT1.out.low HT1.out.gc).mono ?_); rintro e wc ⟨g5, o5, rfl, hk, hg, ho⟩
    have HT4 := hid (HT1.out.asked HNE.out hg ho)
    have HK6 := hid hk
    have HA5 := hid (at_asked HA4.out ho (by have := HGN.out; omega))
    clear hg ho hk
    refine hK.out _ _ (HT4.out.blk) (fun h3x => ?_)
    clear hK K
    try simp only [Act.put, lay_out]
    refine wpAnyH_take (i := 19) (v := .tuple #[.agg (ba 16 x2), .slice (some ⟨g5, o5, none⟩) n2 n2]) rfl (by kernel_rfl) (by kernel_rfl) (by kernel_rfl) (fun _ _ _ h => h) (.inl ⟨by rfl, fun w hw => by clear hw; go_simp⟩) h3x ?_
    try simp only [Act.put, lay_out]
    refine wpAnyH_take (i := 20) (v := .agg (ba 16 x2)) rfl (by kernel_rfl) (by kernel_rfl) (by kernel_rfl) (fun _ _ _ h => h) (.inl ⟨by rfl, fun w hw => by clear hw; go_simp⟩) h3x ?_
    try simp only [Act.put, lay_out]
    refine wpAnyH_take (i := 21) (v := .slice (some ⟨g5, o5, none⟩) n2 n2) rfl (by kernel_rfl) (by kernel_rfl) (by kernel_rfl) (fun _ _ _ h => h) (.inl ⟨by rfl, fun w hw => by clear hw; go_simp⟩) h3x ?_
    try simp only [Act.put, lay_out]
    refine wpAnyH_ready (rs := [23]) (by kernel_rfl) (by simp) (AllReadyH.cons rfl (fun K hK => ?_) AllReadyH.nil)
    rw [if_pos (by rfl)]
    refine wp_store_row 48 (.tmp 6) (.tmp 63) rfl wa.heap.size (ba 16 x2) rfl rfl 48 _ HA5.out (by rw [ba_size]; exact infoa) (by rw [ba_size, ba_size]) (ba_one 16 _) ?_
    have HE := hid (HT4.out.row HGC.out HML.out HGN.out.1 (ba 16 x2))
    have HAE := hid (HA5.out.row x2)
    refine hK.out _ _ (HE.out.blk) (fun h4x => ?_)
    clear hK K
    try simp only [Act.put, lay_out]
    refine wpAnyH_take (i := 24) (v := .slice (some ⟨g5, o5, none⟩) n2 n2) rfl (by kernel_rfl) (by kernel_rfl) (by kernel_rfl) (fun _ _ _ h => h) (.inl ⟨by rfl, fun w hw => by clear hw; go_simp⟩) h4x ?_
    try simp only [Act.put, lay_out]
    refine wpAnyH_done (by kernel_rfl) ?_ _
    refine NoPanic.normal ?_
    clear h0 h1x h2x h3x h4x
    try simp only [Act.put, lay_out]
    have HG6 := hid HGN.out.1
    generalize wc.setRow wa.heap.size (ba 16 x2) = we at *
    generalize wa.heap.size = g6 at HAE HG6 ⊢
    clear HA
    go_wp2
    have HB0 := hid (And.intro (HE.out.self (Below.refl _ _).drew) HAE.out.drew)
    clear HE HAE
    refine wp_region_noPanic ?_
    refine wp_region_held_drew (S := fun w' => At w' g6 16 48 x2) (by kernel_rfl) (HB0.out.2) (fun h0 => ?_)
    generalize we.drew = wf at *
    refine wpAnyH_take (i := 0) (v := .pointer (some ⟨m, 0, none⟩)) rfl (by kernel_rfl) (by kernel_rfl) (by kernel_rfl) (fun _ _ _ h => h) (.inl ⟨by rfl, fun w hw => by clear hw; go_simp⟩) h0 ?_
    try simp only [Act.put, lay_out]
    refine wpAnyH_take (i := 1) (v := .pointer (some ⟨m, 0, none⟩)) rfl (by kernel_rfl) (by kernel_rfl) (by kernel_rfl) (fun _ _ _ h => h) (.inl ⟨by rfl, fun w hw => by clear hw; go_simp⟩) h0 ?_
    try simp only [Act.put, lay_out]
    refine wpAnyH_take (i := 2) (v := .agg (ba 16 x2)) rfl (by kernel_rfl) (by kernel_rfl) (by kernel_rfl) (fun _ _ _ h => h) (yields_load_ba (by rfl) 48 _ rfl g6 16 48 5 x2 rfl (fun w h => h) Tryz.underlying48 infoa) h0 ?_
    try simp only [Act.put, lay_out]
    refine wpAnyH_take (i := 3) (v := .slice (some ⟨g5, o5, none⟩) n2 n2) rfl (by kernel_rfl) (by kernel_rfl) (by kernel_rfl) (fun _ _ _ h => h) (.inl ⟨by rfl, fun w hw => by clear hw; go_simp⟩) h0 ?_
    try simp only [Act.put, lay_out]
    refine wpAnyH_ready (rs := [4]) (by kernel_rfl) (by simp) (AllReadyH.cons rfl (fun K hK => ?_) AllReadyH.nil)
    rw [if_pos (by rfl)]
    go_simp
    go_at_call 44
    (with_reducible refine (bclone_any g5 o5 n2 n2 l2 wf HN2.out.1 HN2.out.2 (HK6.out.later HB0.out.1.low).rd).mono ?_); rintro e wg ⟨g7, c7, rfl, hown, hlow⟩
    have HB1 := hid (And.intro (HB0.out.1.self hlow) (HB0.out.2.self hlow))
    have HO7 := hid hown
    have HC7 : Hid (n2 ≤ c7) := hid (by obtain ⟨_, _, e7, h7, _⟩ := hown.slice; injection e7 with _ _ e7; rw [ns_len] at h7; omega)
    have HLT7 := hid (late_own (N := w.heap.size) hown (Nat.le_trans HW5.out.but.size HB0.out.1.low.size) HN2.out.2 HL2.out)
    have HK7 := hid (kb_own (b := b) (m := m) hown HB0.out.1.gc.lt HB0.out.1.blk.lt HN2.out.2 HL2.out)
    clear hown hlow
    refine hK.out _ _ (HB1.out.2) (fun h5x => ?_)
    clear hK K
    try simp only [Act.put, lay_out]
    refine wpAnyH_take (i := 5) (v := .pointer (some ⟨m, 0, none⟩)) rfl (by kernel_rfl) (by kernel_rfl) (by kernel_rfl) (fun _ _ _ h => h) (.inl ⟨by rfl, fun w hw => by clear hw; go_simp⟩) h5x ?_
    try simp only [Act.put, lay_out]
    refine wpAnyH_take (i := 6) (v := .pointer (some ⟨m, 1, none⟩)) rfl (by kernel_rfl) (by kernel_rfl) (by kernel_rfl) (fun _ _ _ h => h) (.inl ⟨by rfl, fun w hw => by clear hw; go_simp⟩) h5x ?_
    try simp only [Act.put, lay_out]
    refine wpAnyH_ready (rs := [7]) (by kernel_rfl) (by simp) (AllReadyH.cons rfl (fun K hK => ?_) AllReadyH.nil)
    rw [if_pos (by rfl)]
    refine wp_store_mid 48 (.tmp 71) (.tmp 67) rfl m 1 (ba 16 x2) rfl rfl (by rw [ba_size]; exact HB1.out.1.blk.there) (by rw [ba_size]; exact infoa) (ba_one 16 _) ?_
    have HB2 := hid (And.intro (HB1.out.1.blk.setx x2) (only_cells m (ba 16 x2).toList 1 wg))
    have HA2 : Hid (At (wg.setCells m 1 (ba 16 x2).toList) g6 16 48 x2) := hid ((HB2.out.2.block g6 HB1.out.2.lt (by have := HML.out; have := HG6.out; omega)).trans HB1.out.2)
    generalize wg.setCells m 1 (ba 16 x2).toList = wh at *
    refine hK.out _ _ (HA2.out) (fun h6x => ?_)
    clear hK K
    try simp only [Act.put, lay_out]
    refine wpAnyH_take (i := 8) (v := .pointer (some ⟨m, 0, none⟩)) rfl (by kernel_rfl) (by kernel_rfl) (by kernel_rfl) (fun _ _ _ h => h) (.inl ⟨by rfl, fun w hw => by clear hw; go_simp⟩) h6x ?_
    try simp only [Act.put, lay_out]
    refine wpAnyH_take (i := 9) (v := .pointer (some ⟨m, 17, none⟩)) rfl (by kernel_rfl) (by kernel_rfl) (by kernel_rfl) (fun _ _ _ h => h) (.inl ⟨by rfl, fun w hw => by clear hw; go_simp⟩) h6x ?_
    try simp only [Act.put, lay_out]
    have hc8 := HB2.out.1.cl
    have hf8 := HB2.out.1.free 17
    refine wpAnyH_ready (rs := [10]) (by kernel_rfl) (by simp) (AllReadyH.cons rfl (fun K hK => ?_) AllReadyH.nil)
    go_simp
    have HA3 : Hid (At (wh.setCell ⟨m, 17, none⟩ (.slice (some ⟨g7, 0, none⟩) n2 c7)) g6 16 48 x2) := hid (HA2.out.apart (by show g6 ≠ m; have := HML.out; have := HG6.out; omega) _)
    refine hK.out _ _ (HA3.out) (fun h7x => ?_)
    clear hK K
    try simp only [Act.put, lay_out]
    refine wpAnyH_done (by kernel_rfl) ?_ _
    refine NoPanic.normal ?_
    clear h0 h5x h6x h7x
    try simp only [Act.put, lay_out]
    go_wp2
    refine bodyPost_end (results_none rfl _ _ _) rfl ⟨rfl, x2, some ⟨g7, 0, none⟩, n2, c7, l2, ?_⟩
    exact write_done HM.out HW5.out HB1.out.1 HB2.out.1 HB2.out.2 HK7.out HC7.out HX2.out HL2.out HST.out HALL.out HSS.out HLT7.out

/-- Write, of whatever bytes. -/
theorem write_any (w : World) (m d b c cap R R1 n e N L ev : Nat) (Y : Nat → Nat → Nat) (x l δ β : Nat → Nat) (a av : Option Addr) (h : Mw w m d b c cap R R1 Y x a n e l N δ) (hv : Kb b m w (.slice av L ev) (ns L β)) (hL : L ≤ ev) (hβ : ∀ j, j < L → β j < 256)
    (hS : N + L ≤ 60000) :
    Calls Tryz.prog 30 #[.pointer (some ⟨m, 0, none⟩), .slice av L ev] w fun q w' => q = .returned (.tuple #[]) ∧ ∃ x' a' n' e' l', Mw w' m d b c cap R R1 Y x' a' n' e' l' (N + L) (thenF N δ β) ∧ But b m w w' ∧ Late w.heap.size w' (.slice a' n' e') (ns n' l') := by
  have hn := h.st.le
  by_cases hlp : 16 - n < L
  · exact write_more w m d b c cap R R1 n e N L (16 - n) ev Y x l δ β a av h hv hL hβ hS (by omega) hlp
  · refine (write_few w m d b c cap R R1 n e N L (16 - n) ev Y x l δ β a av h hv hL hβ hS (by omega) (by omega)).mono ?_
    rintro q w' ⟨rfl, a', e', h1, h2, h3⟩
    exact ⟨rfl, x, a', _, e', _, h1, h2, h3⟩
end Go.Proofs.YthhkhcacljgelaaGreat
