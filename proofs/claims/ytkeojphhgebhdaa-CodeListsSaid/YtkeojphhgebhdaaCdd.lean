import Derived.Test.YtkeojphhgebhdaaProg
import Derived.Test.YtkeojphhgebhdaaCdc
import Derived.Test.YtkeojphhgebhdaaRvl
/- Code: strings, put one behind the other, by the program. -/
namespace Go.Proofs.Ytkeojphhgebhdaa
open Go.RowKit

/-- The parts of the first j strings, put. -/
def jn (zs : Nat → List Int) : Nat → List (List Int)
  | 0 => []
  | j + 1 => jn zs j ++ [lef (8 * (zs j).length), zs j]
theorem jn_len (zs : Nat → List Int) : ∀ j, (jn zs j).length = 2 * j
  | 0 => rfl
  | j + 1 => by simp [jn, jn_len zs j]; omega
theorem jn_flat (zs : Nat → List Int) : ∀ j, (jn zs j).flatten = cat (fun i => sto (zs i)) j
  | 0 => rfl
  | j + 1 => by simp [jn, jn_flat zs j, cat, sto]
theorem cat_ext {f g : Nat → List Int} : ∀ {m : Nat}, (∀ i, i < m → f i = g i) → cat f m = cat g m
  | 0, _ => rfl
  | m + 1, h => by rw [cat, cat, cat_ext (fun i hi => h i (by omega)), h m (by omega)]
theorem cat_flat (Z : List (List Int)) : ∀ m, m ≤ Z.length → cat (fun i => Z.getD i []) m = (Z.take m).flatten
  | 0, _ => by simp [cat]
  | m + 1, h => by
    rw [cat, cat_flat Z m (by omega), List.take_succ_eq_append_getElem (show m < Z.length by omega), List.flatten_append]
    simp [List.getD, show m < Z.length by omega]

/-- A list that is empty, with room. -/
theorem make_list (n : Nat) (h : n ≤ 5864062014805) (w : World) : (Instr.makeSlice 33 (.int .i64 0) (.int .i64 n)).run Try.prog w = .ok (.slice (some ⟨w.heap.size, 0, none⟩) 0 n) (w.alloc (.cells (madeCells #[.slice none 0 0] n) 22)) := by
  obtain ⟨i0, hi, hz0, hz1, hz2⟩ := info_parts infor
  have := run_make (P := Try.prog) w 33 22 i0 _ Try.underlying33 hi hz0 .i64 .i64 0 n (by omega) (by omega) (by rw [hz2]; simp; omega) (by omega)
  rw [this]
  simp [hz1, Value.cells]
theorem rwl_room (k : IntKind) (w : World) (n : Nat) (h : n ≤ maxLen) : RwL k (w.alloc (.cells (madeCells #[.slice none 0 0] n) 22)) w.heap.size 22 (.slice (some ⟨w.heap.size, 0, none⟩) 0 n) [] [] :=
  ⟨⟨rfl, .inr ⟨w.heap.size, n, madeCells #[.slice none 0 0] n, rfl, Nat.le_refl _, heap_alloc_new w _, Nat.zero_le _, h, by simp [size_madeCells], by simp⟩⟩, rfl, fun i u z h => by cases h⟩

/-- The parts of j strings are laid. -/
def JInv (w wr : World) (zs : Nat → List Int) (j : Nat) (v : Value) : Prop :=
  ∃ g cap us', v = .slice (some ⟨g, 0, none⟩) (2 * j) cap ∧ us'.length = 2 * j ∧ RwL .u8 wr w.heap.size 22 v us' (jn zs j) ∧ Below w.heap.size w wr
theorem JInv.start (w : World) (zs : Nat → List Int) (n : Nat) (h : n ≤ maxLen) : JInv w (w.alloc (.cells (madeCells #[.slice none 0 0] n) 22)) zs 0 (.slice (some ⟨w.heap.size, 0, none⟩) 0 n) :=
  ⟨_, n, [], rfl, rfl, rwl_room .u8 w n h, (Below.refl _ _).alloc (Nat.le_refl _) _⟩
/-- .. behind them all: what behind gives. -/
theorem JInv.done {w wr : World} {zs : Nat → List Int} {m : Nat} {v : Value} (h : JInv w wr zs m v) (hm : m ≤ 65536) (hlim : (cat (fun i => sto (zs i)) m).length ≤ 140737488355328) :
    Calls Try.prog 19 #[v] wr fun e w' => ConcatP w (cat (fun i => sto (zs i)) m) e w' := by
  obtain ⟨g, cap, us', rfl, hl, hr, hb⟩ := h
  obtain ⟨a, cap', e, _, hd⟩ := hr.rdl
  injection e with e1 e2 e3
  subst e1
  have hcat : cat (fun i => (jn zs m).getD i []) (2 * m) = cat (fun i => sto (zs i)) m := by
    rw [cat_flat _ _ (by rw [jn_len]; exact Nat.le_refl _), List.take_of_length_le (by rw [jn_len]; exact Nat.le_refl _), jn_flat]
  rw [hl] at hd
  refine (behind_any g 0 (2 * m) cap _ (fun i => (jn zs m).getD i []) wr (by omega) (fun i hi => ?_) hd.each (by rw [hcat]; exact hlim)).mono ?_
  · obtain ⟨g', off, e, _, hc⟩ := hd.out (by omega)
    injection e with e
    injection e with e e'
    subst e; subst e'
    exact hc i hi
  · rintro e w' ⟨v, rfl, ho, hl'⟩
    rw [hcat] at ho
    exact ⟨v, rfl, own_base ho hb.size, hb.trans (hl'.mono hb.size)⟩

theorem lef_wf {n : Nat} (h : n < 9223372036854775808) : ∀ z ∈ lef n, (Lit.int .u8 z).wf = true := by
  intro z hz
  have := dg_len63 h
  rcases List.mem_cons.1 hz with rfl | hz
  · exact WalkArith.wf_u8 (by omega)
  · exact dg_wf n z hz
theorem rig_wf {n : Nat} (h : n < 9223372036854775808) : ∀ z ∈ rig n, (Lit.int .u8 z).wf = true := by
  intro z hz
  have := dg_len63 h
  rcases List.mem_append.1 hz with hz | hz
  · exact dg_wf n z hz
  · rw [List.mem_singleton] at hz; subst hz; exact WalkArith.wf_u8 (by omega)
theorem lef_le {n : Nat} (h : n < 9223372036854775808) : (lef n).length ≤ 9 := by rw [lef_len]; have := dg_len63 h; omega
theorem rig_le {n : Nat} (h : n < 9223372036854775808) : (rig n).length ≤ 9 := by have := dg_len63 h; simp [rig]; omega
theorem len47 {w : World} {u : Value} {z : List Int} (h : Rd .u8 w u z) : z.length ≤ 140737488351232 := by
  obtain ⟨_, _, _, h2, _⟩ := h
  simpa [IntKind.bits] using h2

/-- In a round: what is put behind (xs, in block C) reads as Y. -/
structure PutInv (w W : World) (zs : Nat → List Int) (g j cp : Nat) (us' : List Value) (C : Nat) (xs : List Value) (Y : List (List Int)) : Prop where
  list : RwL .u8 W w.heap.size 22 (.slice (some ⟨g, 0, none⟩) (2 * j) cp) us' (jn zs j)
  num : us'.length = 2 * j
  cells : ∀ (i : Nat) (x : Value), xs[i]? = some x → W.cell? ((⟨C, 0, none⟩ : Addr).add i) = some x
  each : ∀ (i : Nat) (x : Value) (y : List Int), xs[i]? = some x → Y[i]? = some y → Rd .u8 W x y ∧ ∀ c, (Value.slice (some ⟨g, 0, none⟩) (2 * j) cp).ownBlock = some c → Apart x c
  low : Below w.heap.size w W
  str : jn zs (j + 1) = jn zs j ++ Y
  lim : us'.length + 2 ≤ 5864062014805
section
variable {w wr w2 W w3 : World} {zs : Nat → List Int} {g j cp N c1 K C g' cap' : Nat} {us' xs : List Value} {Y : List (List Int)} {p1 : Option Addr} {u : Value} {z : List Int}
theorem PutInv.mk' (hr : RwL .u8 wr w.heap.size 22 (.slice (some ⟨g, 0, none⟩) (2 * j) cp) us' (jn zs j)) (hn : us'.length = 2 * j) (hj : j ≤ 65536) (hl : Below w.heap.size w wr) (hu : Rd .u8 wr u z) (hap : ∀ c, (Value.slice (some ⟨g, 0, none⟩) (2 * j) cp).ownBlock = some c → Apart u c)
    (hz : zs j = z) (hK : 8 * z.length = K) (ho : Own .u8 wr.heap.size 5 w2 (.slice p1 N c1) (lef K)) (hl2 : Below wr.heap.size wr w2) :
    PutInv w (w2.alloc (.cells #[.slice p1 N c1, u] 22)) zs g j cp us' w2.heap.size [.slice p1 N c1, u] [lef K, z] := by
  have h47 := len47 hu
  have hK63 : K < 9223372036854775808 := by omega
  have b1 : Below w2.heap.size w2 (w2.alloc (.cells #[.slice p1 N c1, u] 22)) := (Below.refl _ _).alloc (Nat.le_refl _) _
  refine ⟨(hr.self hl2).self b1, hn, fun i x hx => ?_, fun i x y hx hy => ?_, (hl.trans (hl2.mono hl.size)).alloc (Nat.le_trans hl.size hl2.size) _, by rw [jn, hz, hK], by omega⟩
  · have := cell_made w2 #[.slice p1 N c1, u] 22 i
    rw [Addr.add_mid, Nat.zero_add, this]
    simpa using hx
  · match i with
    | 0 =>
      simp only [List.getElem?_cons_zero, Option.some.injEq] at hx hy
      subst hx; subst hy
      refine ⟨(ho.rd (by have := lef_le hK63; show _ * 1 ≤ _; omega) (lef_wf hK63)).self b1, fun c hc => ?_⟩
      have := hr.lt c hc
      exact apart_own ho (by omega)
    | 1 =>
      simp only [List.getElem?_cons_succ, List.getElem?_cons_zero, Option.some.injEq] at hx hy
      subst hx; subst hy
      exact ⟨(hu.self hl2).self b1, hap⟩
    | i + 2 => simp at hx
theorem PutInv.next (h : PutInv w W zs g j cp us' C xs Y) (hl : RwL .u8 w3 w.heap.size 22 (.slice (some ⟨g', 0, none⟩) (2 * (j + 1)) cap') (us' ++ xs) (jn zs j ++ Y)) (hx : xs.length = 2)
    (hg : W.grownBy w3 (Value.slice (some ⟨g, 0, none⟩) (2 * j) cp).ownBlock) : JInv w w3 zs (j + 1) (.slice (some ⟨g', 0, none⟩) (2 * (j + 1)) cap') :=
  ⟨g', cap', us' ++ xs, rfl, by rw [List.length_append, h.num, hx]; omega, by rw [h.str]; exact hl, h.low.grown hg h.low.size (fun c hc => (h.list.lt c hc).1)⟩
theorem PutInv.len (h : PutInv w W zs g j cp us' C xs Y) : us'.length + 2 = 2 * (j + 1) := by rw [h.num]; omega
end

set_option maxRecDepth 100000 in
set_option maxHeartbeats 1600000 in
theorem join_any (a : Option Addr) (m cap : Nat) (us : Nat → Value) (zs : Nat → List Int) (w : World) (hr : RdL .u8 w a m us zs) (hm : m ≤ 65536) (hlim : (cat (fun i => sto (zs i)) m).length ≤ 140737488355328) :
    Calls Try.prog 17 #[.slice a m cap] w fun e w' => ConcatP w (cat (fun i => sto (zs i)) m) e w' := by
  have HR := hid hr
  have HM := hid hm
  have HLim := hid hlim
  obtain ⟨M, hM⟩ : ∃ M, M = 2 * m := ⟨_, rfl⟩
  have hmk := make_list M (by omega)
  have HS := hid (JInv.start w zs M (by unfold maxLen; omega))
  have e1 : (2 : Int) * (m : Int) = (M : Int) := by omega
  have e2 : IntKind.i64.wrap (M : Int) = M := by rw [IntKind.wrap_i64]; omega
  clear hr hM hlim
  go_enter Try.func17, Try.ntmps17
  go_wp2
  clear hmk e1 e2
  go_loopw [3, 12] (fun v i wr => ∃ j : Nat, j ≤ m ∧ i = .int .i64 j ∧ JInv w wr zs j v) (fun _ i _ => m - (intOf i).toNat)
  case atStart => exact ⟨0, by omega, rfl, HS.out⟩
  case round =>
    obtain ⟨j, hj, rfl, hI⟩ := hrel
    by_cases hlt : j < m
    · obtain ⟨g, cp, us', rfl, hul, hrw, hlow⟩ := hI
      have hR1 := HR.out.self hlow
      obtain ⟨g0, off0, rfl, hg0, hc0⟩ := hR1.out (by omega)
      have hc1 := hc0 j hlt
      have hr1 := hR1.each j hlt
      obtain ⟨ad, cz, hu, hl1, _, _⟩ := id hr1
      obtain ⟨z, hz⟩ : ∃ z, zs j = z := ⟨_, rfl⟩
      rw [hz] at hr1 hu hl1
      rw [hu] at hc1 hr1
      have hl2 : z.length ≤ 140737488351232 := by simpa [IntKind.bits] using hl1
      obtain ⟨L, hL⟩ : ∃ L, z.length = L := ⟨_, rfl⟩
      obtain ⟨K, hK⟩ : ∃ K, 8 * z.length = K := ⟨_, rfl⟩
      obtain ⟨N, hN⟩ : ∃ N, (lef K).length = N := ⟨_, rfl⟩
      have HLeft := hid ((left_any K wr (by omega)).mono fun _ _ h => h.at hN)
      clear hN
      have HRW := hid hrw
      have HUL := hid hul
      have HLow := hid hlow
      have HJ0 : Hid (j ≤ 65536) := hid (by omega)
      have HAp : Hid (∀ c, (Value.slice (some ⟨g, 0, none⟩) (2 * j) cp).ownBlock = some c → Apart (.slice ad L cz) c) := hid fun c hc => by
        have h := apart_new (HR.out.each j hlt) (hrw.lt c hc).1
        rwa [hu, hL] at h
      have HR1 := hid hr1
      have HZ := hid hz
      have HK := hid hK
      have h0 : (0 : Int) ≤ (j : Int) := by omega
      have h1 : (j : Int) < (m : Int) := by omega
      have h2 : (8 : Int) * (L : Int) = (K : Int) := by omega
      have h3 : IntKind.i64.wrap (K : Int) = K := by rw [IntKind.wrap_i64]; omega
      rw [hL] at hc1 HR1
      clear hrw hlow hul hr1 hu hl1 hl2 hK hL hz hR1 hc0 hg0
      go_wp2_with (first
        | (go_at_call 10; (with_reducible refine (HLeft.out).mono ?_); rintro e w2 ⟨p1, c1, rfl, ho1, hlow1⟩; have HP := hid (PutInv.mk' HRW.out HUL.out HJ0.out HLow.out HR1.out HAp.out HZ.out HK.out ho1 hlow1); clear ho1 hlow1)
        | (at_builtin; refine wpList_append_rwl rfl (.tmp 16) (.tmp 22) 33 rfl Try.underlying33 infor HP.out.list rfl ⟨w2.heap.size, 0, none⟩ 2 2 rfl [.slice p1 N c1, .slice ad L cz] [lef K, z] rfl rfl (by decide) HP.out.cells HP.out.each HP.out.lim HP.out.low.size (2 * (j + 1)) HP.out.len ?_; intro g' cap' w3 hl3 hg3; have HJ := hid (HP.out.next hl3 rfl hg3); clear hl3 hg3))
      go_roundw
      case rel => exact ⟨j + 1, by omega, by go_num, HJ.out⟩
      case measure => simp [intOf]; omega
    · obtain rfl : j = m := by omega
      have HI := hid hI
      have HB := hid (HI.out.done hm HLim.out)
      clear hI
      go_wp2_with (first
        | (go_at_call 19; (with_reducible refine (HB.out).mono ?_); rintro e w2 ⟨v1, rfl, ho1, hlow1⟩; have HO1 := hid ho1; have HLow1 := hid hlow1; clear ho1 hlow1))
      go_ret
      exact ⟨_, rfl, HO1.out, HLow1.out⟩

/-- A list of one row, just made. -/
theorem rdl_one {w : World} {u : Value} {z : List Int} (h : Rd .u8 w u z) : RdL .u8 (w.alloc (.cells #[u] 22)) (some ⟨w.heap.size, 0, none⟩) 1 (fun _ => u) (fun _ => z) :=
  ⟨fun _ => ⟨_, 0, rfl, by simp, fun i hi => by
    obtain rfl : i = 0 := by omega
    exact cell_made w #[u] 22 0⟩, fun _ _ => h.self ((Below.refl _ _).alloc (Nat.le_refl _) _)⟩
theorem str_tail {w : World} {u : Value} {z : List Int} (h : Rd .u8 w u z) :
    Calls Try.prog 17 #[.slice (some ⟨w.heap.size, 0, none⟩) 1 1] (w.alloc (.cells #[u] 22)) fun e w' => ConcatP w (sto z) e w' := by
  have h47 := len47 h
  have := lef_le (n := 8 * z.length) (by omega)
  refine (join_any _ 1 1 _ _ _ (rdl_one h) (by decide) (by simp [cat, sto]; omega)).mono ?_
  rintro e w' ⟨v, rfl, ho, hl⟩
  have hb : Below w.heap.size w (w.alloc (.cells #[u] 22)) := (Below.refl _ _).alloc (Nat.le_refl _) _
  exact ⟨v, rfl, own_base (by simpa [cat] using ho) hb.size, hb.trans (hl.mono hb.size)⟩
set_option maxRecDepth 100000 in
theorem str_any (u : Value) (z : List Int) (w : World) (h : Rd .u8 w u z) :
    Calls Try.prog 14 #[u] w fun e w' => ConcatP w (sto z) e w' := by
  have HT := hid (str_tail h)
  obtain ⟨a, cap, rfl, _⟩ := h
  generalize z.length = L at *
  go_enter Try.func14, Try.ntmps14
  go_wp2_with (first
    | (go_at_call 17; (with_reducible refine (HT.out).mono ?_); rintro e w2 ⟨v1, rfl, ho1, hlow1⟩; have HO1 := hid ho1; have HLow1 := hid hlow1; clear ho1 hlow1))
  go_ret
  exact ⟨_, rfl, HO1.out, HLow1.out⟩
end Go.Proofs.Ytkeojphhgebhdaa
