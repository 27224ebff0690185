import Derived.Test.YtkeojphhgebhdaaProg
import Derived.Test.YtkeojphhgebhdaaCdj
/- Code: Split, by the program. -/
namespace Go.Proofs.Ytkeojphhgebhdaa
open Go.RowKit

/-- Bytes that are strings, put one behind the other. -/
inductive Fit : List Int → Prop
  | nil : Fit []
  | cons {zs : List Int} {n : Nat} : Beg zs n → Fit (zs.drop ((lef (8 * n)).length + n)) → Fit zs
theorem beg_pos {zs : List Int} {n : Nat} (h : Beg zs n) : 2 ≤ (lef (8 * n)).length ∧ (lef (8 * n)).length + n ≤ zs.length := by
  have h1 := h.2.1
  have h2 := dg_pos (8 * n)
  rw [lef_len] at h1 ⊢
  omega
theorem fit_step {zs : List Int} {n : Nat} (h : Beg zs n) : Fit zs ↔ Fit (zs.drop ((lef (8 * n)).length + n)) := by
  constructor
  · intro f
    cases f with
    | nil => have h1 := beg_pos h; have h2 : ([] : List Int).length = 0 := rfl; omega
    | cons h2 f => rw [beg_one h h2]; exact f
  · exact fun f => .cons h f
theorem fit_none {zs : List Int} (h0 : 0 < zs.length) (h : ∀ n, ¬ Beg zs n) : ¬ Fit zs := by
  intro f
  cases f with
  | nil => simp at h0
  | cons h2 _ => exact h _ h2

theorem take_yes (v : Value) (zs : List Int) (n : Nat) (w : World) (h : RdC w v zs) (hn : Beg zs n) :
    Calls Try.prog 8 #[v] w fun e w' => ∃ u, e = .returned (.tuple #[u, .int .i64 (((lef (8 * n)).length + n : Nat) : Int), .bool true]) ∧ Own .u8 w.heap.size 5 w' u ((zs.drop (lef (8 * n)).length).take n) ∧ Below w.heap.size w w' := by
  refine (take_any v zs w h).mono ?_
  rintro e w' ⟨hl, ht⟩
  rcases ht with ⟨n', u, h1, rfl, h3⟩ | ⟨h1, _⟩
  · rw [beg_one hn h1]
    exact ⟨u, rfl, h3, hl⟩
  · exact absurd hn (h1 n)
theorem take_no (v : Value) (zs : List Int) (w : World) (h : RdC w v zs) (hn : ∀ n, ¬ Beg zs n) :
    Calls Try.prog 8 #[v] w fun e w' => e = .returned (.tuple #[.slice none 0 0, .int .i64 0, .bool false]) ∧ Below w.heap.size w w' := by
  refine (take_any v zs w h).mono ?_
  rintro e w' ⟨hl, ht⟩
  rcases ht with ⟨n', u, h1, _⟩ | ⟨_, h1⟩
  · exact absurd h1 (hn n')
  · exact ⟨h1, hl⟩

/-- Of zs the first q bytes are split. -/
structure SpI (w wr : World) (zs : List Int) (b v : Value) (q : Nat) (us : List Value) (Z : List (List Int)) : Prop where
  rd : RdC w b (zs.drop q)
  list : RwL .u8 wr w.heap.size 22 v us Z
  low : Below w.heap.size w wr
  flat : (Z.map sto).flatten = zs.take q
  num : 2 * us.length ≤ q
  le : q ≤ zs.length
  fit : Fit zs ↔ Fit (zs.drop q)
/-- .. and the next string is taken. -/
structure SpP (w W : World) (v : Value) (us : List Value) (Z : List (List Int)) (C : Nat) (u : Value) (z : List Int) : Prop where
  list : RwL .u8 W w.heap.size 22 v us Z
  low : Below w.heap.size w W
  cells : ∀ (i : Nat) (x : Value), [u][i]? = some x → W.cell? ((⟨C, 0, none⟩ : Addr).add i) = some x
  each : ∀ (i : Nat) (x : Value) (y : List Int), [u][i]? = some x → [z][i]? = some y → Rd .u8 W x y ∧ ∀ c, v.ownBlock = some c → Apart x c
section
variable {w wr w1 W w3 : World} {zs : List Int} {b b' v u : Value} {q C g cap n : Nat} {us : List Value} {Z : List (List Int)} {z : List Int}
theorem SpP.mk' (hr : RwL .u8 wr w.heap.size 22 v us Z) (hl : Below w.heap.size w wr) (ho : Own .u8 wr.heap.size 5 w1 u z) (hz : ∀ y ∈ z, (Lit.int .u8 y).wf = true) (hzl : z.length ≤ 140737488351232) (hl2 : Below wr.heap.size wr w1) :
    SpP w (w1.alloc (.cells #[u] 22)) v us Z w1.heap.size u z := by
  have b1 : Below w1.heap.size w1 (w1.alloc (.cells #[u] 22)) := (Below.refl _ _).alloc (Nat.le_refl _) _
  refine ⟨(hr.self hl2).self b1, (hl.trans (hl2.mono hl.size)).alloc (Nat.le_trans hl.size hl2.size) _, fun i x hx => ?_, fun i x y hx hy => ?_⟩
  · have := cell_made w1 #[u] 22 i
    rw [Addr.add_mid, Nat.zero_add, this]
    simpa using hx
  · obtain rfl : i = 0 := by
      have := (List.getElem?_eq_some_iff.1 hx).1
      simp at this
      exact this
    simp only [List.getElem?_cons_zero, Option.some.injEq] at hx hy
    subst hx; subst hy
    refine ⟨(ho.rd (by show _ * 1 ≤ _; omega) hz).self b1, fun c hc => ?_⟩
    have := hr.lt c hc
    exact apart_own ho (by omega)
theorem SpI.next (h : SpI w wr zs b v q us Z) (hn : Beg (zs.drop q) n) (hP : SpP w W v us Z C u (((zs.drop q).drop (lef (8 * n)).length).take n))
    (hl : RwL .u8 w3 w.heap.size 22 (.slice (some ⟨g, 0, none⟩) (us.length + 1) cap) (us ++ [u]) (Z ++ [((zs.drop q).drop (lef (8 * n)).length).take n])) (hg : W.grownBy w3 v.ownBlock)
    (hb : RdC w b' (zs.drop (q + ((lef (8 * n)).length + n)))) : SpI w w3 zs b' (.slice (some ⟨g, 0, none⟩) (us.length + 1) cap) (q + ((lef (8 * n)).length + n)) (us ++ [u]) (Z ++ [((zs.drop q).drop (lef (8 * n)).length).take n]) := by
  have hp := beg_pos hn
  have hd : (zs.drop q).length = zs.length - q := by simp
  have hle := h.le
  refine ⟨hb, hl, hP.low.grown hg hP.low.size (fun c hc => (hP.list.lt c hc).1), ?_, ?_, by omega, ?_⟩
  · have e1 := sto_beg hn
    rw [List.map_append, List.flatten_append, h.flat]
    simp only [List.map_cons, List.map_nil, List.flatten_cons, List.flatten_nil, List.append_nil]
    rw [List.take_add]
    congr 1
    have hl2 : (sto (((zs.drop q).drop (lef (8 * n)).length).take n)).length = (lef (8 * n)).length + n := by
      have : (((zs.drop q).drop (lef (8 * n)).length).take n).length = n := by rw [List.length_take, List.length_drop]; omega
      rw [sto_len, this]
    conv => rhs; rw [← e1, List.take_left' hl2]
  · have := h.num
    rw [List.length_append]
    simp
    omega
  · rw [h.fit, fit_step hn, List.drop_drop]
end
/-- What Split tells. -/
def SplitP (w : World) (zs : List Int) (e : Ending) (w' : World) : Prop :=
  Below w.heap.size w w' ∧ ((∃ v us Z, e = .returned (.tuple #[v, .bool true]) ∧ RwL .u8 w' w.heap.size 22 v us Z ∧ (Z.map sto).flatten = zs ∧ Fit zs ∧ 2 * us.length ≤ zs.length) ∨ (¬ Fit zs ∧ e = .returned (.tuple #[.slice none 0 0, .bool false])))

set_option maxRecDepth 100000 in
set_option maxHeartbeats 1600000 in
theorem split_any (v : Value) (zs : List Int) (w : World) (h : RdC w v zs) (hzl : zs.length ≤ 65536) :
    Calls Try.prog 18 #[v] w fun e w' => SplitP w zs e w' := by
  have HS := hid (SpI.mk (w := w) (wr := w) (zs := zs) (b := v) (v := .slice none 0 0) (q := 0) (us := []) (Z := []) (by simpa using h) (RwL.nil .u8 w w.heap.size 22) (Below.refl _ _) rfl (Nat.le_refl _) (Nat.zero_le _) (by simp))
  have HB := hid (rd_bytes h.rd)
  have HWf := hid (wfs_of h.rd)
  have HZL := hid hzl
  obtain ⟨a, cap, rfl, _⟩ := h.open
  obtain ⟨L0, hL0⟩ : ∃ L0, zs.length = L0 := ⟨_, rfl⟩
  rw [hL0] at HS ⊢
  clear h hzl hL0
  go_enter Try.func18, Try.ntmps18
  go_wp2
  go_loopw [0, 4] (fun b v wr => ∃ q us Z, SpI w wr zs b v q us Z) (fun b _ _ => lenV b)
  case atStart => exact ⟨0, [], [], HS.out⟩
  case round =>
    obtain ⟨q, us, Z, hI⟩ := hrel
    have HI := hid hI
    obtain ⟨a2, cp, rfl, hcp, hmx, h47, hc⟩ := hI.rd.open
    have HD : Hid ((zs.drop q).length = zs.length - q) := hid (by simp)
    obtain ⟨D, hD⟩ : ∃ D, (zs.drop q).length = D := ⟨_, rfl⟩
    have HDD := hid hD
    have hRC := hI.rd
    rw [hD] at hcp h47 hc HI hRC ⊢
    unfold maxLen at hmx
    clear hI
    by_cases h0 : 0 < D
    · obtain ⟨b, off, rfl, hbw, hcell⟩ := hc h0
      have h1 : (0 : Int) < (D : Int) := by omega
      by_cases hb : ∃ n, Beg (zs.drop q) n
      · obtain ⟨n, hn⟩ := hb
        have hp := beg_pos hn
        rw [hD] at hp
        have HT := hid (take_yes _ _ n wr (hRC.self HI.out.low) hn)
        have HN := hid hn
        have HRC := hid hRC
        obtain ⟨E, hE⟩ : ∃ E, (lef (8 * n)).length + n = E := ⟨_, rfl⟩
        rw [hE] at HT hp
        obtain ⟨z, hz⟩ : ∃ z, ((zs.drop q).drop (lef (8 * n)).length).take n = z := ⟨_, rfl⟩
        rw [hz] at HT
        have HZ : Hid ((∀ y ∈ z, (Lit.int .u8 y).wf = true) ∧ z.length ≤ 140737488351232) := hid ⟨fun y hy => HWf.out y (by rw [← hz] at hy; exact List.mem_of_mem_drop (List.mem_of_mem_drop (List.mem_of_mem_take hy))), by
          rw [← hz, List.length_take]; have := hp.2; omega⟩
        have h2 : (E : Int) ≤ (D : Int) := by omega
        have h3 : (D : Int) - (E : Int) = ((D - E : Nat) : Int) := by omega
        have h4 : (0 : Int) ≤ (E : Int) := by omega
        have HLim : Hid (us.length + 1 ≤ 5864062014805) := hid (by have := HI.out.num; have := HI.out.le; have := HZL.out; omega)
        have HNext : Hid (∀ p c, (0 < D - E → p = some ⟨b, off + E, none⟩) → D - E ≤ c → c ≤ maxLen → RdC w (.slice p (D - E) c) (zs.drop (q + E))) := hid fun p c hp2 hc1 hc2 => by
          refine ⟨?_, fun a' n' c' e => by injection e with e1 e2 e3; subst e2; subst e3; exact ⟨hc1, hc2⟩⟩
          have := rd_sub (m := D - E) (k := c) HRC.out.rd (q := E) (by omega) hp2
          rwa [List.drop_drop, List.take_of_length_le (by have := HD.out; have := HDD.out; rw [List.length_drop]; omega)] at this
        have HE := hid hE
        have HEz := hid hz
        have hE2 := hp.2
        have HE0 : Hid (2 ≤ E) := hid (by omega)
        clear hn hRC hE hz hc hcell hbw hp
        by_cases hlt : E < cp
        · have HNX := hid (HNext.out (some ⟨b, off + E, none⟩) (cp - E) (fun _ => rfl) (by omega) (by unfold maxLen; omega))
          clear HNext
          go_wp2_with (first
            | (go_at_call 8; (with_reducible refine (HT.out).mono ?_); rintro e w1 ⟨u, rfl, ho1, hlow1⟩; obtain ⟨p1, c1, rfl, _⟩ := ho1.slice; have HP := hid (SpP.mk' HI.out.list HI.out.low ho1 HZ.out.1 HZ.out.2 hlow1); clear ho1 hlow1)
            | (at_builtin; refine wpList_append_rwl rfl (.tmp 19) (.tmp 21) 33 rfl Try.underlying33 infor HP.out.list rfl ⟨w1.heap.size, 0, none⟩ 1 1 rfl [.slice p1 z.length c1] [z] rfl rfl (by decide) HP.out.cells HP.out.each HLim.out HP.out.low.size _ rfl ?_; intro g' cap' w3 hl3 hg3; have HJ := hid (And.intro hl3 hg3); clear hl3 hg3))
          go_roundw
          case rel =>
            refine ⟨q + E, us ++ [.slice p1 z.length c1], Z ++ [z], ?_⟩
            have := HEz.out; subst this
            have := HE.out; subst this
            exact HI.out.next HN.out HP.out HJ.out.1 HJ.out.2 HNX.out
          case measure => have := HE0.out; simp [lenV]; omega
        · obtain rfl : E = cp := by omega
          obtain rfl : D = E := by omega
          have HNX := hid (HNext.out (some ⟨b, off, none⟩) 0 (fun h => absurd h (by omega)) (by omega) (by unfold maxLen; omega))
          clear HNext
          go_wp2_with (first
            | (go_at_call 8; (with_reducible refine (HT.out).mono ?_); rintro e w1 ⟨u, rfl, ho1, hlow1⟩; obtain ⟨p1, c1, rfl, _⟩ := ho1.slice; have HP := hid (SpP.mk' HI.out.list HI.out.low ho1 HZ.out.1 HZ.out.2 hlow1); clear ho1 hlow1)
            | (at_builtin; refine wpList_append_rwl rfl (.tmp 19) (.tmp 21) 33 rfl Try.underlying33 infor HP.out.list rfl ⟨w1.heap.size, 0, none⟩ 1 1 rfl [.slice p1 z.length c1] [z] rfl rfl (by decide) HP.out.cells HP.out.each HLim.out HP.out.low.size _ rfl ?_; intro g' cap' w3 hl3 hg3; have HJ := hid (And.intro hl3 hg3); clear hl3 hg3))
          go_roundw
          case rel =>
            refine ⟨q + D, us ++ [.slice p1 z.length c1], Z ++ [z], ?_⟩
            have := HEz.out; subst this
            have h5 := HE.out
            have h6 := HNX.out
            rw [← h5] at h6 ⊢
            refine HI.out.next HN.out HP.out HJ.out.1 HJ.out.2 ?_
            simpa using h6
          case measure => have := HE0.out; simp [lenV]; omega
      · have HNo : Hid (¬ Fit zs) := hid (by
          rw [HI.out.fit]
          exact fit_none (by rw [hD]; exact h0) fun n hn => hb ⟨n, hn⟩)
        have HT := hid (take_no _ _ wr (hRC.self HI.out.low) fun n hn => hb ⟨n, hn⟩)
        clear hb hRC hc hcell hbw
        go_wp2_with (first
          | (go_at_call 8; (with_reducible refine (HT.out).mono ?_); rintro e w1 ⟨rfl, hlow1⟩; have HLow1 := hid hlow1; clear hlow1))
        go_ret2
        exact ⟨HI.out.low.trans (HLow1.out.mono HI.out.low.size), .inr ⟨HNo.out, rfl⟩⟩
    · obtain rfl : D = 0 := by omega
      clear hc hRC h0
      go_wp2
      go_ret2
      have hq : q = zs.length := by have := HD.out; have := HDD.out; have := HI.out.le; omega
      refine ⟨HI.out.low, .inl ⟨_, us, Z, rfl, HI.out.list, ?_, ?_, ?_⟩⟩
      · rw [HI.out.flat, hq, List.take_length]
      · rw [HI.out.fit, hq, List.drop_length]; exact .nil
      · rw [← hq]; exact HI.out.num
end Go.Proofs.Ytkeojphhgebhdaa
