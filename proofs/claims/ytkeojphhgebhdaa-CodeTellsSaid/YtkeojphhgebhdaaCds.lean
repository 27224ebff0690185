import Derived.Test.YtkeojphhgebhdaaProg
import Derived.Test.YtkeojphhgebhdaaCdr
/- CodeLists. -/
namespace Go.Proofs.Ytkeojphhgebhdaa
open Go.RowKit

set_option maxRecDepth 100000 in
theorem clists_far (a : Option Addr) (n k : Nat) (v : Value) (zs : List Int) (W : World) (h : RdC W v zs) (hl : 30 < n ∨ 3000 < zs.length) :
    Calls Try.prog 5 #[.slice a n k, v] W fun e w' => e = .returned (.bool true) ∧ Below W.heap.size W w' := by
  obtain ⟨b, cap, rfl, _⟩ := h.open
  generalize zs.length = L at *
  have HAw := hid cawake_any
  clear h
  by_cases h1 : 30 < n
  · have g1 : (30 : Int) < (n : Int) := by omega
    clear hl
    go_enter Try.func5, Try.ntmps5
    go_wp2_with (first
      | (go_at_call 16; (with_reducible refine (HAw.out _).mono ?_); rintro e w1 ⟨rfl, hl1⟩; have HW1 := hid hl1; clear hl1))
    go_ret
    exact ⟨rfl, HW1.out⟩
  · have g1 : ¬ (30 : Int) < (n : Int) := by omega
    have g2 : (3000 : Int) < (L : Int) := by omega
    clear hl h1
    go_enter Try.func5, Try.ntmps5
    go_wp2_with (first
      | (go_at_call 16; (with_reducible refine (HAw.out _).mono ?_); rintro e w1 ⟨rfl, hl1⟩; have HW1 := hid hl1; clear hl1))
    go_ret
    exact ⟨rfl, HW1.out⟩

/-- The wanted row so far. -/
structure WaI (W wr : World) (n : Nat) (Ls : Nat → Nat) (f : Nat → List Int) (v : Value) (i : Nat) : Prop where
  own : Own .u8 W.heap.size 5 wr v (cat (fun j => sto (f j)) i)
  low : Below W.heap.size W wr
  le : ∀ j, j < i → Ls j ≤ 400
theorem ns_le400 {n : Nat} {Ls : Nat → Nat} {Fs : Nat → Nat → Nat} (h : ∀ j, j < n → Ls j ≤ 400) : ∀ j, j < n → ((fun j => ns (Ls j) (Fs j)) j).length ≤ 400 := fun j hj => by
  show (ns (Ls j) (Fs j)).length ≤ 400
  rw [ns_len]; exact h j hj
theorem rws_rdl {W w : World} {a : Option Addr} {n : Nat} {As : Nat → Option Addr} {Ls Cs : Nat → Nat} {Fs : Nat → Nat → Nat} (h : Rws W a n As Ls Cs Fs) (hb : Below W.heap.size W w) (hl : ∀ j, j < n → Ls j ≤ 400) :
    RdL .u8 w a n (fun i => .slice (As i) (Ls i) (Cs i)) (fun j => ns (Ls j) (Fs j)) :=
  ⟨(h.self hb).out, fun i hi => (((h.self hb).row i hi).2 (by have := hl i hi; omega)).1⟩
def tb : Value → Nat
  | .bool true => 1
  | _ => 0
/-- b's strings, one by one: q bytes are told, if all was fine. -/
def AtI (zs : List Int) (q : Nat) (fine : Bool) : Prop := (fine = true → q ≤ zs.length ∧ (Fit zs ↔ Fit (zs.drop q))) ∧ (fine = false → ¬ Fit zs)

theorem at_step {zs z : List Int} {x : Nat} {kk : Int} {there : Bool} (h : AtI zs x true) (hx : x < zs.length) (ht : TkR (zs.drop x) z kk there) :
    ∃ kn : Nat, kk = kn ∧ x + kn ≤ zs.length ∧ AtI zs (x + kn) there ∧ (there = true → 2 ≤ kn) := by
  have hd : (zs.drop x).length = zs.length - x := by simp
  have hf := (h.1 rfl).2
  rcases ht with ⟨n, hb, _, rfl, rfl⟩ | ⟨hb, _, rfl, rfl⟩
  · have hp := beg_pos hb
    refine ⟨_, rfl, by omega, ⟨fun _ => ⟨by omega, ?_⟩, fun h => Bool.noConfusion h⟩, fun _ => by omega⟩
    rw [hf, fit_step hb, List.drop_drop]
  · refine ⟨0, rfl, by omega, ⟨fun h => Bool.noConfusion h, fun _ => ?_⟩, fun h => Bool.noConfusion h⟩
    rw [hf]
    exact fit_none (by omega) hb
set_option maxRecDepth 100000 in
set_option maxHeartbeats 12800000 in
theorem clists_near (a : Option Addr) (n k : Nat) (As : Nat → Option Addr) (Ls Cs : Nat → Nat) (Fs : Nat → Nat → Nat) (v : Value) (zs : List Int) (W : World) (hr : Rws W a n As Ls Cs Fs) (hnk : n ≤ k) (h : RdC W v zs) (hn : n ≤ 30) (hL : zs.length ≤ 3000) :
    Calls Try.prog 5 #[.slice a n k, v] W fun e w' => e = .returned (.bool true) ∧ Below W.heap.size W w' := by
  obtain ⟨ok, hok⟩ : ∃ ok : Bool, ok = true ↔ Fit zs := by
    by_cases hf : Fit zs
    · exact ⟨true, by simp [hf]⟩
    · exact ⟨false, by simp [hf]⟩
  have HR := hid hr
  have HV := hid h
  have HAw := hid cawake_any
  have HSp := hid (fun w (h : RdC w v zs) => split_b v zs ok w h hL hok)
  have HOk := hid hok
  have HZL := hid hL
  have HN := hid hn
  have HStr := hid (fun (u : Value) (z : List Int) (w : World) (h : Rd .u8 w u z) => refstr_any u z w h)
  obtain ⟨b, cap, rfl, hcap, hmax, h47, hbs⟩ := h.open
  unfold maxLen at hmax
  obtain ⟨L, eL⟩ : ∃ L, zs.length = L := ⟨_, rfl⟩
  rw [eL] at HV HSp hcap h47 hbs hL ⊢
  have HEL := hid eL
  have HBS := hid hbs
  have g1 : ¬ (30 : Int) < (n : Int) := by omega
  have g2 : ¬ (3000 : Int) < (L : Int) := by omega
  have HI0 : Hid (WaI W (W.alloc (.cells #[] 5)) n Ls (fun j => ns (Ls j) (Fs j)) (.slice (some ⟨W.heap.size, 0, none⟩) 0 0) 0) := hid ⟨own_empty W (Nat.le_refl _), (Below.refl _ _).alloc (Nat.le_refl _) _, fun j hj => absurd hj (by omega)⟩
  clear hr h hok eL hbs
  go_enter Try.func5, Try.ntmps5
  go_wp2
  go_loopw [5, 6] (fun u i wr => ∃ j : Nat, j ≤ n ∧ i = .int .i64 j ∧ WaI W wr n Ls (fun j => ns (Ls j) (Fs j)) u j) (fun _ i _ => n - (intOf i).toNat)
  case atStart => exact ⟨0, by omega, rfl, HI0.out⟩
  case round =>
    obtain ⟨j, hj, rfl, hI⟩ := hrel
    have HI := hid hI
    have j0 : (0 : Int) ≤ (j : Int) := by omega
    clear hI HI0
    by_cases hlt : j < n
    · obtain ⟨g, off, rfl, hg, hcell⟩ := (HR.out.self HI.out.low).out (by omega)
      have hc := hcell j hlt
      have j1 : (j : Int) < (n : Int) := by omega
      have hrow := (HR.out.self HI.out.low).row j hlt
      have hl47 := hrow.1.2
      by_cases h4 : 400 < Ls j
      · have h5 : (400 : Int) < (Ls j : Int) := by omega
        clear hrow hcell hg
        generalize Ls j = lj at *
        generalize As j = aj at *
        generalize Cs j = cj at *
        go_wp2_with (first
          | (go_at_call 16; (with_reducible refine (HAw.out _).mono ?_); rintro e w1 ⟨rfl, hl1⟩; have HW1 := hid (HI.out.low.trans (hl1.mono HI.out.low.size)); clear hl1))
        go_ret
        exact ⟨rfl, HW1.out⟩
      · have h5 : ¬ (400 : Int) < (Ls j : Int) := by omega
        have HRow := hid (hrow.2 (by omega)).1
        have HS := hid (HStr.out _ _ wr HRow.out)
        have HLe : Hid (∀ i, i < j + 1 → Ls i ≤ 400) := hid fun i hi => by
          by_cases hij : i = j
          · subst hij; omega
          · exact HI.out.le i (by omega)
        have HWf := hid (sto_wf (z := ns (Ls j) (Fs j)) (by rw [ns_len]; omega) (wfs_of HRow.out))
        have HSl := hid (sto_le (z := ns (Ls j) (Fs j)) (by rw [ns_len]; omega))
        have HNl : Hid ((ns (Ls j) (Fs j)).length ≤ 400) := hid (by rw [ns_len]; omega)
        have HCl := hid (cat_sto_le (ns_le400 (Fs := Fs) HI.out.le))
        have HJ : Hid (j < 30) := hid (by omega)
        have HLim : Hid (((cat (fun j => sto (ns (Ls j) (Fs j))) j).length + (sto (ns (Ls j) (Fs j))).length) * (IntKind.u8.bits / 8) ≤ 140737488355328) := hid (by
          have h1 := HCl.out
          have h2 := HSl.out
          have h3 := HNl.out
          have h4 := HJ.out
          show (_ + _) * 1 ≤ _
          omega)
        have HNext : Hid (∀ (w1 : World) (u1 : Value), Own .u8 W.heap.size 5 w1 u1 (cat (fun j => sto (ns (Ls j) (Fs j))) j ++ sto (ns (Ls j) (Fs j))) → Below W.heap.size W w1 → WaI W w1 n Ls (fun j => ns (Ls j) (Fs j)) u1 (j + 1)) := hid fun w1 u1 ho hl => ⟨ho, hl, HLe.out⟩
        clear hrow hcell hg h4 HJ
        generalize ns (Ls j) (Fs j) = zj at HRow HS HWf HSl HLim HNext HNl
        generalize Ls j = lj at *
        generalize As j = aj at *
        generalize Cs j = cj at *
        go_wp2_with (first
          | (go_at_call 15; (with_reducible refine (HS.out).mono ?_); rintro e w1 ⟨v1, rfl, ho, hl⟩; have HO := hid (own_self HI.out.own hl); have HO1 : Hid (Rd .u8 w1 v1 (sto zj)) := hid (ho.rd (by have := HSl.out; have := HNl.out; show _ * 1 ≤ _; omega) HWf.out); have HW1 := hid (HI.out.low.trans (hl.mono HI.out.low.size)); clear ho hl)
          | (at_builtin; refine wpList_append_rd rfl (.tmp 41) (.tmp 46) 22 rfl .u8 W.heap.size 5 Try.underlying22 infob (by decide) _ _ rfl HO.out _ _ rfl HO1.out HLim.out HW1.out.size W.heap.size W HW1.out (Nat.le_refl _) ?_; intro v2 w2 hown hlow _; have HI2 := hid (HNext.out w2 v2 hown hlow); clear hown hlow))
        go_roundw
        case rel => exact ⟨j + 1, by omega, by go_num, HI2.out⟩
        case measure => simp [intOf]; omega
    · obtain rfl : j = n := by omega
      have HLe := hid HI.out.le
      have HW0 := hid HI.out.low
      have HRL := hid (rws_rdl HR.out HI.out.low HI.out.le)
      have HX : Hid ((cat (fun j => sto (ns (Ls j) (Fs j))) j).length ≤ 13000) := hid (by have := cat_sto_le (ns_le400 (Fs := Fs) HI.out.le); have := HN.out; omega)
      have HXw : Hid (∀ z ∈ cat (fun j => sto (ns (Ls j) (Fs j))) j, (Lit.int .u8 z).wf = true) := hid (cat_sto_wf fun i hi => ⟨ns_le400 (Fs := Fs) HI.out.le i hi, wfs_of (HRL.out.each i hi)⟩)
      have HJoin := hid (join_any a j k _ _ wr HRL.out (by have := HN.out; omega) (by have := HX.out; omega))
      have HOwn := hid HI.out.own
      have HSL := hid (fun (w : World) (u : Value) (h : RdC w u (cat (fun i => sto (ns (Ls i) (Fs i))) j)) => split_list u (fun i => ns (Ls i) (Fs i)) j w h (ns_le400 HLe.out) HN.out)
      have HRW := hid (fun w (hb : Below W.heap.size W w) => rws_rdl HR.out hb HLe.out)
      clear HI
      generalize cat (fun i => sto (ns (Ls i) (Fs i))) j = X at *
      have n0 : ¬ ((j : Int) < (j : Int)) := by omega
      go_wp2_with (first
        | (go_at_call 17; (with_reducible refine (HJoin.out).mono ?_); rintro e w1 ⟨v1, rfl, ho, hl⟩; have HO := hid (own_self HOwn.out hl); have HX1 := hid ho; have HW1 := hid (HW0.out.trans (hl.mono HW0.out.size)); have HSX := hid (HSL.out w1 v1 (rdc_own ho (by have := HX.out; omega) HXw.out)); clear ho hl)
        | (go_at_call 18; (with_reducible refine (HSX.out).mono ?_); rintro e w2 ⟨am, cm, um, rfl, hm, hl⟩; have HM := hid hm; have HW2 := hid (HW1.out.trans (hl.mono HW1.out.size)); have k1 := run_conv_rw (P := Try.prog) (Rw.of_own (own_self HX1.out hl)) Try.underlying22 Try.underlying5 9 Try.underlying9; have k2 := run_conv_rw (P := Try.prog) (Rw.of_own (own_self HO.out hl)) Try.underlying22 Try.underlying5 9 Try.underlying9; clear hm hl))
      clear k1 k2 HSL HSX HJoin HX1 HO HOwn HXw HX
      have n1 := n0
      go_loopw [10] (fun i wr => ∃ q : Nat, q ≤ j ∧ i = .int .i64 q ∧ Below w2.heap.size w2 wr) (fun i _ => j - (intOf i).toNat)
      case atStart => exact ⟨0, by omega, rfl, Below.refl _ _⟩
      case round =>
        obtain ⟨q, hq, rfl, hlw⟩ := hrel
        have HLW := hid hlw
        clear hlw
        have q0 : (0 : Int) ≤ (q : Int) := by omega
        by_cases hqn : q < j
        · have HM1 := hid (HM.out.self HLW.out)
          have HL1 := hid (HRW.out wr (HW2.out.trans (HLW.out.mono HW2.out.size)))
          obtain ⟨g1', o1, rfl, hg1, hcm⟩ := HM1.out.out (by omega)
          obtain ⟨g2', o2, rfl, hg2, hcl⟩ := HL1.out.out (by omega)
          have c1 : ∀ m, (wr.drewN m).cell? ⟨g1', o1 + q, none⟩ = some (um q) := fun m => hcm q hqn
          have c2 : ∀ m, (wr.drewN m).cell? ⟨g2', o2 + q, none⟩ = some (.slice (As q) (Ls q) (Cs q)) := fun m => hcl q hqn
          have k1 : ∀ m, (convert 22 9 (um q)).run Try.prog (wr.drewN m) = .ok (.string (strOfNums (ns (Ls q) (Fs q)))) (wr.drewN m) := fun m => run_conv_rd (rd_drewN (HM1.out.each q hqn) m) Try.underlying22 Try.underlying5 9 Try.underlying9
          have k2 : ∀ m, (convert 22 9 (.slice (As q) (Ls q) (Cs q))).run Try.prog (wr.drewN m) = .ok (.string (strOfNums (ns (Ls q) (Fs q)))) (wr.drewN m) := fun m => run_conv_rd (rd_drewN (HL1.out.each q hqn) m) Try.underlying22 Try.underlying5 9 Try.underlying9
          have hu : ∃ p c, um q = .slice p (Ls q) c := by
            obtain ⟨p, c, e, _⟩ := HM1.out.each q hqn
            simp only [ns_len] at e
            exact ⟨p, c, e⟩
          obtain ⟨p3, c3, e3⟩ := hu
          rw [e3] at c1 k1
          have q1 : (q : Int) < (j : Int) := by omega
          clear hcm hcl e3 hg1 hg2
          generalize strOfNums (ns (Ls q) (Fs q)) = st at *
          generalize Ls q = lq at *
          generalize As q = aq at *
          generalize Cs q = cq at *
          go_wp2
          go_quiet (fail)
          go_wp2
          go_roundw
          case rel => exact ⟨q + 1, by omega, by go_num, below_drewed HLW.out _⟩
          case measure => simp [intOf]; omega
        · obtain rfl : q = j := by omega
          have HW3 := hid (HW2.out.trans (HLW.out.mono HW2.out.size))
          have HSB := hid (HSp.out wr (HV.out.self HW3.out))
          go_wp2_with (first
            | (go_at_call 18; (with_reducible refine (HSB.out).mono ?_); rintro e w4 ⟨a4, m4, c4, u4, Z4, rfl, hl, h4, h5⟩; have HW4 := hid (HW3.out.trans (hl.mono HW3.out.size)); have H4 := hid h4; have H5 := hid h5; clear hl h4 h5))
          clear n0 n1
          go_loopw [13, 14] (fun i f wr => ∃ (q : Nat) (fine : Bool), q ≤ L ∧ i = .int .i64 q ∧ f = .bool fine ∧ AtI zs q fine ∧ Below w4.heap.size w4 wr) (fun i f _ => (L - (intOf i).toNat) + tb f)
          case atStart => exact ⟨0, true, Nat.zero_le _, rfl, rfl, ⟨fun _ => ⟨Nat.zero_le _, by simp⟩, fun h => Bool.noConfusion h⟩, Below.refl _ _⟩
          case round =>
            obtain ⟨x, fine, hx, rfl, rfl, hat, hlw⟩ := hrel
            have HAt := hid hat
            have HD5 := hid hlw
            have HW5 := hid (HW4.out.trans (hlw.mono HW4.out.size))
            clear hat hlw
            have x0 : (0 : Int) ≤ (x : Int) := by omega
            by_cases hxl : x < L ∧ fine = true
            · obtain ⟨hxl, rfl⟩ := hxl
              obtain ⟨bb, off, rfl, _, _⟩ := HBS.out (by omega)
              have HRest := hid (rdc_rest HV.out (Nat.le_of_lt hxl))
              obtain ⟨z, kk, there, ht⟩ := tkr_any (zs.drop x)
              obtain ⟨kn, rfl, hkl, hat2, hk2⟩ := at_step HAt.out (by have := HEL.out; omega) ht
              have HT := hid (reftake_i _ _ _ _ _ ht wr (HRest.out.self HW5.out))
              have HA2 := hid (And.intro hat2 hk2)
              rw [HEL.out] at hkl
              obtain ⟨y, hy⟩ : ∃ y, x + kn = y := ⟨_, rfl⟩
              have y1 : (x : Int) + (kn : Int) = (y : Int) := by omega
              have y2 : IntKind.i64.wrap (y : Int) = y := by rw [IntKind.wrap_i64]; omega
              have y3 : (x : Int) < (L : Int) := by omega
              have y4 : x < cap := by omega
              have y5 : (L : Int) - (x : Int) = ((L - x : Nat) : Int) := by omega
              have HY : Hid (x + kn = y ∧ y ≤ L ∧ x < L) := hid ⟨hy, by omega, hxl⟩
              clear ht hat2 hk2 hkl hy hxl
              go_wp2_with (first
                | (go_at_call 9; (with_reducible refine (HT.out).mono ?_); rintro e w6 ⟨v6, rfl, _, hl⟩; have HD6 := hid (HD5.out.trans (hl.mono HD5.out.size)); clear hl))
              go_roundw
              case rel => exact ⟨y, there, HY.out.2.1, rfl, rfl, by rw [← HY.out.1]; exact HA2.out.1, HD6.out⟩
              case measure =>
                have h1 := HA2.out.2
                have h2 := HY.out
                cases there
                · simp [intOf, tb]; omega
                · have := h1 rfl
                  simp [intOf, tb]; omega
            · have hxl' := hxl
              clear hxl
              cases fine
              · have HNo : Hid (¬ Fit zs) := hid (HAt.out.2 rfl)
                obtain rfl : ok = false := by
                  cases ok
                  · rfl
                  · exact absurd (HOk.out.1 rfl) HNo.out
                have hm0 := H5.out rfl
                subst hm0
                clear hxl'
                by_cases hxl : x < L
                · have y3 : (x : Int) < (L : Int) := by omega
                  go_wp2
                  refine wp_region_noPanic ?_
                  refine wp_region_held_drew (S := fun w' => Below wr.heap.size wr w') (by kernel_rfl) ((Below.refl wr.heap.size wr).drew) (fun h0 => ?_)
                  generalize wr.drew = w8 at *
                  have HD8 := hid h0
                  refine wpAnyH_take (i := 0) (v := .bool false) rfl (by kernel_rfl) (by kernel_rfl) (by kernel_rfl) (fun _ _ _ h => h) (.inl ⟨by rfl, fun w hw => by clear hw; go_simp⟩) h0 ?_
                  try simp only [Act.put, lay_out]
                  refine wpAnyH_take (i := 1) (v := .bool false) rfl (by kernel_rfl) (by kernel_rfl) (by kernel_rfl) (fun _ _ _ h => h) (.inl ⟨by rfl, fun w hw => by clear hw; go_simp⟩) h0 ?_
                  try simp only [Act.put, lay_out]
                  refine wpAnyH_take (i := 2) (v := .bool true) rfl (by kernel_rfl) (by kernel_rfl) (by kernel_rfl) (fun _ _ _ h => h) (.inl ⟨by rfl, fun w hw => by clear hw; go_simp⟩) h0 ?_
                  try simp only [Act.put, lay_out]
                  refine wpAnyH_take (i := 3) (v := .bool true) rfl (by kernel_rfl) (by kernel_rfl) (by kernel_rfl) (fun _ _ _ h => h) (.inl ⟨by rfl, fun w hw => by clear hw; go_simp⟩) h0 ?_
                  try simp only [Act.put, lay_out]
                  refine wpAnyH_take (i := 4) (v := .bool false) rfl (by kernel_rfl) (by kernel_rfl) (by kernel_rfl) (fun _ _ _ h => h) (.inl ⟨by rfl, fun w hw => by clear hw; go_simp⟩) h0 ?_
                  try simp only [Act.put, lay_out]
                  refine wpAnyH_take (i := 5) (v := .bool true) rfl (by kernel_rfl) (by kernel_rfl) (by kernel_rfl) (fun _ _ _ h => h) (.inl ⟨by rfl, fun w hw => by clear hw; go_simp⟩) h0 ?_
                  try simp only [Act.put, lay_out]
                  refine wpAnyH_take (i := 6) (v := .bool true) rfl (by kernel_rfl) (by kernel_rfl) (by kernel_rfl) (fun _ _ _ h => h) (.inl ⟨by rfl, fun w hw => by clear hw; go_simp⟩) h0 ?_
                  try simp only [Act.put, lay_out]
                  refine wpAnyH_take (i := 7) (v := .slice a4 0 c4) rfl (by kernel_rfl) (by kernel_rfl) (by kernel_rfl) (fun _ _ _ h => h) (.inl ⟨by rfl, fun w hw => by clear hw; go_simp⟩) h0 ?_
                  try simp only [Act.put, lay_out]
                  refine wpAnyH_take (i := 8) (v := .int .i64 0) rfl (by kernel_rfl) (by kernel_rfl) (by kernel_rfl) (fun _ _ _ h => h) (.inl ⟨by rfl, fun w hw => by clear hw; go_simp⟩) h0 ?_
                  try simp only [Act.put, lay_out]
                  refine wpAnyH_take (i := 9) (v := .bool true) rfl (by kernel_rfl) (by kernel_rfl) (by kernel_rfl) (fun _ _ _ h => h) (.inl ⟨by rfl, fun w hw => by clear hw; go_simp⟩) h0 ?_
                  try simp only [Act.put, lay_out]
                  refine wpAnyH_take (i := 10) (v := .bool true) rfl (by kernel_rfl) (by kernel_rfl) (by kernel_rfl) (fun _ _ _ h => h) (.inl ⟨by rfl, fun w hw => by clear hw; go_simp⟩) h0 ?_
                  try simp only [Act.put, lay_out]
                  refine wpAnyH_take (i := 11) (v := .bool true) rfl (by kernel_rfl) (by kernel_rfl) (by kernel_rfl) (fun _ _ _ h => h) (.inl ⟨by rfl, fun w hw => by clear hw; go_simp⟩) h0 ?_
                  try simp only [Act.put, lay_out]
                  refine wpAnyH_take (i := 12) (v := undef) rfl (by kernel_rfl) (by kernel_rfl) (by kernel_rfl) (fun _ _ _ h => h) (.inr ⟨by rfl, rfl⟩) h0 ?_
                  try simp only [Act.put, lay_out]
                  refine wpAnyH_take (i := 13) (v := undef) rfl (by kernel_rfl) (by kernel_rfl) (by kernel_rfl) (fun _ _ _ h => h) (.inr ⟨by rfl, rfl⟩) h0 ?_
                  try simp only [Act.put, lay_out]
                  refine wpAnyH_take (i := 14) (v := undef) rfl (by kernel_rfl) (by kernel_rfl) (by kernel_rfl) (fun _ _ _ h => h) (.inr ⟨by rfl, rfl⟩) h0 ?_
                  try simp only [Act.put, lay_out]
                  refine wpAnyH_take (i := 15) (v := undef) rfl (by kernel_rfl) (by kernel_rfl) (by kernel_rfl) (fun _ _ _ h => h) (.inr ⟨by rfl, rfl⟩) h0 ?_
                  try simp only [Act.put, lay_out]
                  refine wpAnyH_take (i := 16) (v := undef) rfl (by kernel_rfl) (by kernel_rfl) (by kernel_rfl) (fun _ _ _ h => h) (.inr ⟨by rfl, rfl⟩) h0 ?_
                  try simp only [Act.put, lay_out]
                  refine wpAnyH_take (i := 17) (v := undef) rfl (by kernel_rfl) (by kernel_rfl) (by kernel_rfl) (fun _ _ _ h => h) (.inr ⟨by rfl, rfl⟩) h0 ?_
                  try simp only [Act.put, lay_out]
                  refine wpAnyH_take (i := 18) (v := undef) rfl (by kernel_rfl) (by kernel_rfl) (by kernel_rfl) (fun _ _ _ h => h) (.inr ⟨by rfl, rfl⟩) h0 ?_
                  try simp only [Act.put, lay_out]
                  refine wpAnyH_take (i := 19) (v := undef) rfl (by kernel_rfl) (by kernel_rfl) (by kernel_rfl) (fun _ _ _ h => h) (.inr ⟨by rfl, rfl⟩) h0 ?_
                  try simp only [Act.put, lay_out]
                  refine wpAnyH_take (i := 20) (v := undef) rfl (by kernel_rfl) (by kernel_rfl) (by kernel_rfl) (fun _ _ _ h => h) (.inr ⟨by rfl, rfl⟩) h0 ?_
                  try simp only [Act.put, lay_out]
                  refine wpAnyH_take (i := 21) (v := .bool true) rfl (by kernel_rfl) (by kernel_rfl) (by kernel_rfl) (fun _ _ _ h => h) (.inl ⟨by rfl, fun w hw => by clear hw; go_simp⟩) h0 ?_
                  try simp only [Act.put, lay_out]
                  refine wpAnyH_take (i := 22) (v := .bool true) rfl (by kernel_rfl) (by kernel_rfl) (by kernel_rfl) (fun _ _ _ h => h) (.inl ⟨by rfl, fun w hw => by clear hw; go_simp⟩) h0 ?_
                  try simp only [Act.put, lay_out]
                  refine wpAnyH_take (i := 23) (v := .bool true) rfl (by kernel_rfl) (by kernel_rfl) (by kernel_rfl) (fun _ _ _ h => h) (.inl ⟨by rfl, fun w hw => by clear hw; go_simp⟩) h0 ?_
                  try simp only [Act.put, lay_out]
                  refine wpAnyH_ready (rs := [24]) (by kernel_rfl) (by simp) (AllReadyH.cons rfl (fun K hK => ?_) AllReadyH.nil)
                  rw [if_pos (by rfl)]
                  go_simp
                  go_at_call 16
                  (with_reducible refine (HAw.out _).mono ?_); rintro e w9 ⟨rfl, hl9⟩
                  have HD9 := hid (HD8.out.trans (hl9.mono HD8.out.size))
                  refine hK.out _ _ (HD9.out) (fun h1x => ?_)
                  clear hK K
                  try simp only [Act.put, lay_out]
                  refine wpAnyH_take (i := 25) (v := .bool true) rfl (by kernel_rfl) (by kernel_rfl) (by kernel_rfl) (fun _ _ _ h => h) (.inl ⟨by rfl, fun w hw => by clear hw; go_simp⟩) h1x ?_
                  try simp only [Act.put, lay_out]
                  refine wpAnyH_take (i := 26) (v := .bool true) rfl (by kernel_rfl) (by kernel_rfl) (by kernel_rfl) (fun _ _ _ h => h) (.inl ⟨by rfl, fun w hw => by clear hw; go_simp⟩) h1x ?_
                  try simp only [Act.put, lay_out]
                  refine wpAnyH_done (by kernel_rfl) ?_ _
                  refine NoPanic.normal ?_
                  clear h0 h1x
                  try simp only [Act.put, lay_out]
                  go_wp2
                  go_ret
                  exact ⟨rfl, HW5.out.trans (HD9.out.mono HW5.out.size)⟩
                · have y3 : ¬ (x : Int) < (L : Int) := by omega
                  go_wp2
                  refine wp_region_noPanic ?_
                  refine wp_region_held_drew (S := fun w' => Below wr.heap.size wr w') (by kernel_rfl) ((Below.refl wr.heap.size wr).drew) (fun h0 => ?_)
                  generalize wr.drew = w8 at *
                  have HD8 := hid h0
                  refine wpAnyH_take (i := 0) (v := .bool false) rfl (by kernel_rfl) (by kernel_rfl) (by kernel_rfl) (fun _ _ _ h => h) (.inl ⟨by rfl, fun w hw => by clear hw; go_simp⟩) h0 ?_
                  try simp only [Act.put, lay_out]
                  refine wpAnyH_take (i := 1) (v := .bool false) rfl (by kernel_rfl) (by kernel_rfl) (by kernel_rfl) (fun _ _ _ h => h) (.inl ⟨by rfl, fun w hw => by clear hw; go_simp⟩) h0 ?_
                  try simp only [Act.put, lay_out]
                  refine wpAnyH_take (i := 2) (v := .bool true) rfl (by kernel_rfl) (by kernel_rfl) (by kernel_rfl) (fun _ _ _ h => h) (.inl ⟨by rfl, fun w hw => by clear hw; go_simp⟩) h0 ?_
                  try simp only [Act.put, lay_out]
                  refine wpAnyH_take (i := 3) (v := .bool true) rfl (by kernel_rfl) (by kernel_rfl) (by kernel_rfl) (fun _ _ _ h => h) (.inl ⟨by rfl, fun w hw => by clear hw; go_simp⟩) h0 ?_
                  try simp only [Act.put, lay_out]
                  refine wpAnyH_take (i := 4) (v := .bool false) rfl (by kernel_rfl) (by kernel_rfl) (by kernel_rfl) (fun _ _ _ h => h) (.inl ⟨by rfl, fun w hw => by clear hw; go_simp⟩) h0 ?_
                  try simp only [Act.put, lay_out]
                  refine wpAnyH_take (i := 5) (v := .bool true) rfl (by kernel_rfl) (by kernel_rfl) (by kernel_rfl) (fun _ _ _ h => h) (.inl ⟨by rfl, fun w hw => by clear hw; go_simp⟩) h0 ?_
                  try simp only [Act.put, lay_out]
                  refine wpAnyH_take (i := 6) (v := .bool true) rfl (by kernel_rfl) (by kernel_rfl) (by kernel_rfl) (fun _ _ _ h => h) (.inl ⟨by rfl, fun w hw => by clear hw; go_simp⟩) h0 ?_
                  try simp only [Act.put, lay_out]
                  refine wpAnyH_take (i := 7) (v := .slice a4 0 c4) rfl (by kernel_rfl) (by kernel_rfl) (by kernel_rfl) (fun _ _ _ h => h) (.inl ⟨by rfl, fun w hw => by clear hw; go_simp⟩) h0 ?_
                  try simp only [Act.put, lay_out]
                  refine wpAnyH_take (i := 8) (v := .int .i64 0) rfl (by kernel_rfl) (by kernel_rfl) (by kernel_rfl) (fun _ _ _ h => h) (.inl ⟨by rfl, fun w hw => by clear hw; go_simp⟩) h0 ?_
                  try simp only [Act.put, lay_out]
                  refine wpAnyH_take (i := 9) (v := .bool true) rfl (by kernel_rfl) (by kernel_rfl) (by kernel_rfl) (fun _ _ _ h => h) (.inl ⟨by rfl, fun w hw => by clear hw; go_simp⟩) h0 ?_
                  try simp only [Act.put, lay_out]
                  refine wpAnyH_take (i := 10) (v := .bool true) rfl (by kernel_rfl) (by kernel_rfl) (by kernel_rfl) (fun _ _ _ h => h) (.inl ⟨by rfl, fun w hw => by clear hw; go_simp⟩) h0 ?_
                  try simp only [Act.put, lay_out]
                  refine wpAnyH_take (i := 11) (v := .bool true) rfl (by kernel_rfl) (by kernel_rfl) (by kernel_rfl) (fun _ _ _ h => h) (.inl ⟨by rfl, fun w hw => by clear hw; go_simp⟩) h0 ?_
                  try simp only [Act.put, lay_out]
                  refine wpAnyH_take (i := 12) (v := undef) rfl (by kernel_rfl) (by kernel_rfl) (by kernel_rfl) (fun _ _ _ h => h) (.inr ⟨by rfl, rfl⟩) h0 ?_
                  try simp only [Act.put, lay_out]
                  refine wpAnyH_take (i := 13) (v := undef) rfl (by kernel_rfl) (by kernel_rfl) (by kernel_rfl) (fun _ _ _ h => h) (.inr ⟨by rfl, rfl⟩) h0 ?_
                  try simp only [Act.put, lay_out]
                  refine wpAnyH_take (i := 14) (v := undef) rfl (by kernel_rfl) (by kernel_rfl) (by kernel_rfl) (fun _ _ _ h => h) (.inr ⟨by rfl, rfl⟩) h0 ?_
                  try simp only [Act.put, lay_out]
                  refine wpAnyH_take (i := 15) (v := undef) rfl (by kernel_rfl) (by kernel_rfl) (by kernel_rfl) (fun _ _ _ h => h) (.inr ⟨by rfl, rfl⟩) h0 ?_
                  try simp only [Act.put, lay_out]
                  refine wpAnyH_take (i := 16) (v := undef) rfl (by kernel_rfl) (by kernel_rfl) (by kernel_rfl) (fun _ _ _ h => h) (.inr ⟨by rfl, rfl⟩) h0 ?_
                  try simp only [Act.put, lay_out]
                  refine wpAnyH_take (i := 17) (v := undef) rfl (by kernel_rfl) (by kernel_rfl) (by kernel_rfl) (fun _ _ _ h => h) (.inr ⟨by rfl, rfl⟩) h0 ?_
                  try simp only [Act.put, lay_out]
                  refine wpAnyH_take (i := 18) (v := undef) rfl (by kernel_rfl) (by kernel_rfl) (by kernel_rfl) (fun _ _ _ h => h) (.inr ⟨by rfl, rfl⟩) h0 ?_
                  try simp only [Act.put, lay_out]
                  refine wpAnyH_take (i := 19) (v := undef) rfl (by kernel_rfl) (by kernel_rfl) (by kernel_rfl) (fun _ _ _ h => h) (.inr ⟨by rfl, rfl⟩) h0 ?_
                  try simp only [Act.put, lay_out]
                  refine wpAnyH_take (i := 20) (v := undef) rfl (by kernel_rfl) (by kernel_rfl) (by kernel_rfl) (fun _ _ _ h => h) (.inr ⟨by rfl, rfl⟩) h0 ?_
                  try simp only [Act.put, lay_out]
                  refine wpAnyH_take (i := 21) (v := .bool true) rfl (by kernel_rfl) (by kernel_rfl) (by kernel_rfl) (fun _ _ _ h => h) (.inl ⟨by rfl, fun w hw => by clear hw; go_simp⟩) h0 ?_
                  try simp only [Act.put, lay_out]
                  refine wpAnyH_take (i := 22) (v := .bool true) rfl (by kernel_rfl) (by kernel_rfl) (by kernel_rfl) (fun _ _ _ h => h) (.inl ⟨by rfl, fun w hw => by clear hw; go_simp⟩) h0 ?_
                  try simp only [Act.put, lay_out]
                  refine wpAnyH_take (i := 23) (v := .bool true) rfl (by kernel_rfl) (by kernel_rfl) (by kernel_rfl) (fun _ _ _ h => h) (.inl ⟨by rfl, fun w hw => by clear hw; go_simp⟩) h0 ?_
                  try simp only [Act.put, lay_out]
                  refine wpAnyH_ready (rs := [24]) (by kernel_rfl) (by simp) (AllReadyH.cons rfl (fun K hK => ?_) AllReadyH.nil)
                  rw [if_pos (by rfl)]
                  go_simp
                  go_at_call 16
                  (with_reducible refine (HAw.out _).mono ?_); rintro e w9 ⟨rfl, hl9⟩
                  have HD9 := hid (HD8.out.trans (hl9.mono HD8.out.size))
                  refine hK.out _ _ (HD9.out) (fun h1x => ?_)
                  clear hK K
                  try simp only [Act.put, lay_out]
                  refine wpAnyH_take (i := 25) (v := .bool true) rfl (by kernel_rfl) (by kernel_rfl) (by kernel_rfl) (fun _ _ _ h => h) (.inl ⟨by rfl, fun w hw => by clear hw; go_simp⟩) h1x ?_
                  try simp only [Act.put, lay_out]
                  refine wpAnyH_take (i := 26) (v := .bool true) rfl (by kernel_rfl) (by kernel_rfl) (by kernel_rfl) (fun _ _ _ h => h) (.inl ⟨by rfl, fun w hw => by clear hw; go_simp⟩) h1x ?_
                  try simp only [Act.put, lay_out]
                  refine wpAnyH_done (by kernel_rfl) ?_ _
                  refine NoPanic.normal ?_
                  clear h0 h1x
                  try simp only [Act.put, lay_out]
                  go_wp2
                  go_ret
                  exact ⟨rfl, HW5.out.trans (HD9.out.mono HW5.out.size)⟩
              · have hx2 : x = L := by
                  by_cases hxl : x < L
                  · exact absurd ⟨hxl, rfl⟩ hxl'
                  · omega
                have HFit : Hid (Fit zs) := hid (by
                  have := (HAt.out.1 rfl).2
                  rw [this, hx2, ← HEL.out, List.drop_length]
                  exact .nil)
                obtain rfl : ok = true := HOk.out.2 HFit.out
                obtain ⟨h6, h7, h8⟩ := H4.out rfl
                have HJ2 := hid (fun w (hb : Below w4.heap.size w4 w) => join_any a4 m4 c4 u4 Z4 w (h6.self hb) h7 (by rw [h8, HEL.out]; omega))
                rw [h8] at HJ2
                have y3 : ¬ (x : Int) < (L : Int) := by omega
                clear h6 h7 h8 hx2 hxl'
                go_wp2
                refine wp_region_noPanic ?_
                refine wp_region_held_drew (S := fun w' => Below wr.heap.size wr w') (by kernel_rfl) ((Below.refl wr.heap.size wr).drew) (fun h0 => ?_)
                generalize wr.drew = w8 at *
                have HD8 := hid h0
                refine wpAnyH_from h0 (fun h1x => ?_)
                refine wpAnyH_take (i := 0) (v := .bool true) rfl (by kernel_rfl) (by kernel_rfl) (by kernel_rfl) (fun _ _ _ h => h) (.inl ⟨by rfl, fun w hw => by clear hw; go_simp⟩) h1x ?_
                try simp only [Act.put, lay_out]
                refine wpAnyH_take (i := 1) (v := .bool true) rfl (by kernel_rfl) (by kernel_rfl) (by kernel_rfl) (fun _ _ _ h => h) (.inl ⟨by rfl, fun w hw => by clear hw; go_simp⟩) h1x ?_
                try simp only [Act.put, lay_out]
                refine wpAnyH_take (i := 2) (v := .bool true) rfl (by kernel_rfl) (by kernel_rfl) (by kernel_rfl) (fun _ _ _ h => h) (.inl ⟨by rfl, fun w hw => by clear hw; go_simp⟩) h1x ?_
                try simp only [Act.put, lay_out]
                refine wpAnyH_take (i := 3) (v := .bool true) rfl (by kernel_rfl) (by kernel_rfl) (by kernel_rfl) (fun _ _ _ h => h) (.inl ⟨by rfl, fun w hw => by clear hw; go_simp⟩) h1x ?_
                try simp only [Act.put, lay_out]
                refine wpAnyH_take (i := 4) (v := .bool true) rfl (by kernel_rfl) (by kernel_rfl) (by kernel_rfl) (fun _ _ _ h => h) (.inl ⟨by rfl, fun w hw => by clear hw; go_simp⟩) h1x ?_
                try simp only [Act.put, lay_out]
                refine wpAnyH_take (i := 5) (v := .bool false) rfl (by kernel_rfl) (by kernel_rfl) (by kernel_rfl) (fun _ _ _ h => h) (.inl ⟨by rfl, fun w hw => by clear hw; go_simp⟩) h1x ?_
                try simp only [Act.put, lay_out]
                refine wpAnyH_take (i := 6) (v := .bool false) rfl (by kernel_rfl) (by kernel_rfl) (by kernel_rfl) (fun _ _ _ h => h) (.inl ⟨by rfl, fun w hw => by clear hw; go_simp⟩) h1x ?_
                try simp only [Act.put, lay_out]
                refine wpAnyH_take (i := 7) (v := undef) rfl (by kernel_rfl) (by kernel_rfl) (by kernel_rfl) (fun _ _ _ h => h) (.inr ⟨by rfl, rfl⟩) h1x ?_
                try simp only [Act.put, lay_out]
                refine wpAnyH_take (i := 8) (v := undef) rfl (by kernel_rfl) (by kernel_rfl) (by kernel_rfl) (fun _ _ _ h => h) (.inr ⟨by rfl, rfl⟩) h1x ?_
                try simp only [Act.put, lay_out]
                refine wpAnyH_take (i := 9) (v := undef) rfl (by kernel_rfl) (by kernel_rfl) (by kernel_rfl) (fun _ _ _ h => h) (.inr ⟨by rfl, rfl⟩) h1x ?_
                try simp only [Act.put, lay_out]
                refine wpAnyH_take (i := 10) (v := .bool false) rfl (by kernel_rfl) (by kernel_rfl) (by kernel_rfl) (fun _ _ _ h => h) (.inl ⟨by rfl, fun w hw => by clear hw; go_simp⟩) h1x ?_
                try simp only [Act.put, lay_out]
                refine wpAnyH_take (i := 11) (v := .bool false) rfl (by kernel_rfl) (by kernel_rfl) (by kernel_rfl) (fun _ _ _ h => h) (.inl ⟨by rfl, fun w hw => by clear hw; go_simp⟩) h1x ?_
                try simp only [Act.put, lay_out]
                refine wpAnyH_take (i := 12) (v := .bool true) rfl (by kernel_rfl) (by kernel_rfl) (by kernel_rfl) (fun _ _ _ h => h) (.inl ⟨by rfl, fun w hw => by clear hw; go_simp⟩) h1x ?_
                try simp only [Act.put, lay_out]
                refine wpAnyH_take (i := 13) (v := .bool true) rfl (by kernel_rfl) (by kernel_rfl) (by kernel_rfl) (fun _ _ _ h => h) (.inl ⟨by rfl, fun w hw => by clear hw; go_simp⟩) h1x ?_
                try simp only [Act.put, lay_out]
                refine wpAnyH_take (i := 14) (v := .slice a4 m4 c4) rfl (by kernel_rfl) (by kernel_rfl) (by kernel_rfl) (fun _ _ _ h => h) (.inl ⟨by rfl, fun w hw => by clear hw; go_simp⟩) h1x ?_
                try simp only [Act.put, lay_out]
                refine wpAnyH_take (i := 17) (v := .slice b L cap) rfl (by kernel_rfl) (by kernel_rfl) (by kernel_rfl) (fun _ _ _ h => h) (.inl ⟨by rfl, fun w hw => by clear hw; go_simp⟩) h1x ?_
                try simp only [Act.put, lay_out]
                have HW8 := hid (HW5.out.trans (HD8.out.mono HW5.out.size))
                refine wpAnyH_take (i := 18) (v := .string (strOfNums zs)) rfl (by kernel_rfl) (by kernel_rfl) (by kernel_rfl) (fun _ _ _ h => h) (yields_conv (by rfl) (.tmp 129) rfl rfl (fun w h => Rw.of_rd (HV.out.self (HW8.out.trans (h.mono HW8.out.size))).rd) Try.underlying22 Try.underlying5 Try.underlying9) h1x ?_
                try simp only [Act.put, lay_out]
                refine wpAnyH_ready (rs := [15]) (by kernel_rfl) (by simp) (AllReadyH.cons rfl (fun K hK => ?_) AllReadyH.nil)
                rw [if_pos (by rfl)]
                go_simp
                go_at_call 17
                (with_reducible refine (HJ2.out w8 (HD5.out.trans (HD8.out.mono HD5.out.size))).mono ?_); rintro e w9 ⟨v9, rfl, ho9, hl9⟩
                have HO9 := hid ho9
                have HD9 := hid (HD8.out.trans (hl9.mono HD8.out.size))
                clear ho9
                refine hK.out _ _ (hl9) (fun h2x => ?_)
                clear hK K
                try simp only [Act.put, lay_out]
                clear hl9
                refine wpAnyH_from h2x (fun h3x => ?_)
                refine wpAnyH_take (i := 16) (v := .string (strOfNums zs)) rfl (by kernel_rfl) (by kernel_rfl) (by kernel_rfl) (fun _ _ _ h => h) (yields_conv (by rfl) (.tmp 127) rfl rfl (fun w h => (Rw.of_own HO9.out).self h) Try.underlying22 Try.underlying5 Try.underlying9) h3x ?_
                try simp only [Act.put, lay_out]
                refine wpAnyH_take (i := 19) (v := .bool true) rfl (by kernel_rfl) (by kernel_rfl) (by kernel_rfl) (fun _ _ _ h => h) (.inl ⟨by rfl, fun w hw => by clear hw; go_simp⟩) h3x ?_
                try simp only [Act.put, lay_out]
                refine wpAnyH_take (i := 20) (v := .bool true) rfl (by kernel_rfl) (by kernel_rfl) (by kernel_rfl) (fun _ _ _ h => h) (.inl ⟨by rfl, fun w hw => by clear hw; go_simp⟩) h3x ?_
                try simp only [Act.put, lay_out]
                refine wpAnyH_take (i := 21) (v := .bool true) rfl (by kernel_rfl) (by kernel_rfl) (by kernel_rfl) (fun _ _ _ h => h) (.inl ⟨by rfl, fun w hw => by clear hw; go_simp⟩) h3x ?_
                try simp only [Act.put, lay_out]
                refine wpAnyH_take (i := 22) (v := .bool true) rfl (by kernel_rfl) (by kernel_rfl) (by kernel_rfl) (fun _ _ _ h => h) (.inl ⟨by rfl, fun w hw => by clear hw; go_simp⟩) h3x ?_
                try simp only [Act.put, lay_out]
                refine wpAnyH_take (i := 23) (v := .bool true) rfl (by kernel_rfl) (by kernel_rfl) (by kernel_rfl) (fun _ _ _ h => h) (.inl ⟨by rfl, fun w hw => by clear hw; go_simp⟩) h3x ?_
                try simp only [Act.put, lay_out]
                refine wpAnyH_ready (rs := [24]) (by kernel_rfl) (by simp) (AllReadyH.cons rfl (fun K hK => ?_) AllReadyH.nil)
                rw [if_pos (by rfl)]
                go_simp
                go_at_call 16
                (with_reducible refine (HAw.out _).mono ?_); rintro e w10 ⟨rfl, hl10⟩
                have HD10 := hid (HD9.out.trans (hl10.mono HD9.out.size))
                refine hK.out _ _ (hl10) (fun h4x => ?_)
                clear hK K
                try simp only [Act.put, lay_out]
                refine wpAnyH_take (i := 25) (v := .bool true) rfl (by kernel_rfl) (by kernel_rfl) (by kernel_rfl) (fun _ _ _ h => h) (.inl ⟨by rfl, fun w hw => by clear hw; go_simp⟩) h4x ?_
                try simp only [Act.put, lay_out]
                refine wpAnyH_take (i := 26) (v := .bool true) rfl (by kernel_rfl) (by kernel_rfl) (by kernel_rfl) (fun _ _ _ h => h) (.inl ⟨by rfl, fun w hw => by clear hw; go_simp⟩) h4x ?_
                try simp only [Act.put, lay_out]
                refine wpAnyH_done (by kernel_rfl) ?_ _
                refine NoPanic.normal ?_
                clear h0 h1x h2x h3x h4x
                try simp only [Act.put, lay_out]
                go_wp2
                go_ret
                exact ⟨rfl, HW5.out.trans (HD10.out.mono HW5.out.size)⟩
end Go.Proofs.Ytkeojphhgebhdaa
