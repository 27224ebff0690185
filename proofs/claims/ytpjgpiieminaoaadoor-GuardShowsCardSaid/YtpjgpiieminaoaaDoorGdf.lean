import Derived.Shelf.Abstract
import Derived.Shelf.RegionOpen
import Derived.WalkKit
import Derived.OwnWalkIn
import Derived.TacticsInMore
import Derived.Sort.LoopGhostIn
import Derived.LoopIn
import Derived.Test.YtpjgpiieminaoaaDoorProg
import Derived.Test.YtpjgpiieminaoaaDoorFrl
import Derived.Test.YtpjgpiieminaoaaDoorGds
import Derived.Sort.CutIn
import Derived.Test.YtpjgpiieminaoaaDoorPgn
import Derived.Test.YtpjgpiieminaoaaDoorGun
/- Guard: what words stand for, opened one by one, told to whatever loop ranges over them. -/
namespace Go.Proofs.YtpjgpiieminaoaaDoor
open Go.RowKit Go.Shelf Go.Deep
set_option maxRecDepth 100000
attribute [local go_sem] Oper.semAt_some
theorem gclamp_any (n t : Int) (ht : 0 ≤ t) (w : World) : Calls Tryd.prog 28 #[.int .i64 n, .int .i64 t] w fun e w' => e = .returned (.int .i64 (min (max n 0) t)) ∧ w' = w := by
  by_cases h0 : n < 0
  · have q1 : decide (0 > n) = true := decide_eq_true h0
    have q2 : decide (n < 0) = true := decide_eq_true h0
    have q5 : decide (n > 0) = false := decide_eq_false (by omega)
    have q6 : decide (0 < n) = false := decide_eq_false (by omega)
    have q3 : decide (t < 0) = false := decide_eq_false (by omega)
    have q4 : decide (0 > t) = false := decide_eq_false (by omega)
    rw [show min (max n 0) t = 0 by omega]
    go_enter Tryd.func28, Tryd.ntmps28
    go_wp2
    go_ret
    exact ⟨rfl, rfl⟩
  · rcases (by omega : n = 0 ∨ 0 < n) with rfl | h1
    · have q3 : decide (t < 0) = false := decide_eq_false (by omega)
      have q4 : decide (0 > t) = false := decide_eq_false (by omega)
      rw [show min (max (0 : Int) 0) t = 0 by omega]
      go_enter Tryd.func28, Tryd.ntmps28
      go_wp2
      go_ret
      exact ⟨rfl, rfl⟩
    · have q1 : decide (0 > n) = false := decide_eq_false (by omega)
      have q2 : decide (n < 0) = false := decide_eq_false (by omega)
      have q5 : decide (n > 0) = true := decide_eq_true h1
      have q6 : decide (0 < n) = true := decide_eq_true h1
      by_cases h2 : t < n
      · have q3 : decide (t < n) = true := decide_eq_true h2
        have q4 : decide (n > t) = true := decide_eq_true h2
        rw [show min (max n 0) t = t by omega]
        go_enter Tryd.func28, Tryd.ntmps28
        go_wp2
        go_ret
        exact ⟨rfl, rfl⟩
      · have q3 : decide (t < n) = false := decide_eq_false h2
        have q4 : decide (n > t) = false := decide_eq_false h2
        rw [show min (max n 0) t = n by omega]
        go_enter Tryd.func28, Tryd.ntmps28
        go_wp2
        go_ret
        exact ⟨rfl, rfl⟩
theorem gopened_any (b : Nat) (va : Option Addr) (L cap fB Bn : Nat) (w : World) : Calls Tryd.prog 29 #[.pointer (some ⟨b, 0, none⟩), .slice va L cap, .func (.func fB) #[] #[.pointer (some ⟨Bn, 0, none⟩)]] w fun e w' => e = .returned (.func (.func 45) #[] #[.pointer (some ⟨w.heap.size + 1, 0, none⟩), .pointer (some ⟨w.heap.size + 2, 0, none⟩), .pointer (some ⟨w.heap.size, 0, none⟩)]) ∧ w' = ((w.alloc (.cells #[.pointer (some ⟨b, 0, none⟩)] 25)).alloc (.cells #[.slice va L cap] 27)).alloc (.cells #[.func (.func fB) #[] #[.pointer (some ⟨Bn, 0, none⟩)]] 64) := by
  go_enter Tryd.func29, Tryd.ntmps29
  go_wp2
  go_ret
  exact ⟨rfl, rfl⟩
theorem gone_box {w : World} {b : Nat} {v : Value} {t : TypeId} (h : w.heap[b]? = some (.cells #[v] t (0, 0))) : w.cell? ⟨b, 0, none⟩ = some v := by simp [World.cell?, h]
set_option maxHeartbeats 3200000 in
theorem gopened_iter (J J' : Nat → World → Prop) (l Bm Bl Bf Bn fB b : Nat) (V : Nat → Nat → Int) (L : Nat) (va : Option Addr) (cap : Nat) (B : Nat → Int) (y : Nat → Nat) (C : Nat) (W : World)
    (hL : L ≤ 100000 ∧ L ≤ cap ∧ cap ≤ maxLen) (hC : C ≤ L ∧ (∀ k, k < C → 0 < B k) ∧ (C < L → B C ≤ 0)) (hJs : ∀ k A B, J k A → Below A.heap.size A B → J k B)
    (hJb : ∀ k A, J k A → A.heap[Bl]? = some (.cells #[.slice va L cap] 27 (0, 0)) ∧ A.heap[Bf]? = some (.cells #[.func (.func fB) #[] #[.pointer (some ⟨Bn, 0, none⟩)]] 64 (0, 0)) ∧ A.heap[Bm]? = some (.cells #[.pointer (some ⟨b, 0, none⟩)] 25 (0, 0)))
    (hJc : ∀ k A, J k A → ∀ g off, va = some ⟨g, off, none⟩ → ∀ j, j < L → ∀ c, c < 3 → A.cell? ⟨g, off + j * 3 + c, none⟩ = some (.int .i64 (V j c))) (hva : 0 < L → ∃ g off, va = some ⟨g, off, none⟩)
    (hB : ∀ k A, k < L → J k A → Calls Tryd.prog fB #[.int .i64 (k : Int), .pointer (some ⟨Bn, 0, none⟩)] A fun e w' => e = .returned (.int .i64 (B k)) ∧ w' = A)
    (hW : ∀ k A, k < C → J k A → Calls Tryd.prog 46 #[.pointer (some ⟨b, 0, none⟩), .agg (wdV (V k)), .int .i64 (B k)] A fun e w' => e = .returned (.int .u64 (y k : Int)) ∧ J' k w')
    (hY : ∀ k A, k < C → J' k A → YieldAt Fence.wide 4 Tryd.prog l #[.int .i64 (k : Int), .int .u64 (y k : Int)] A (fun e B => e = .returned (.bool true) ∧ J (k + 1) B))
    (h0 : J 0 W) (eB : ∀ args w, (callFunc fB args).run Tryd.prog w = .ok (.enter fB args) w) : Calls Tryd.prog 45 #[.func (.yield l) #[] #[], .pointer (some ⟨Bl, 0, none⟩), .pointer (some ⟨Bf, 0, none⟩), .pointer (some ⟨Bm, 0, none⟩)] W fun e w' => (∃ v, e = .returned v) ∧ J C w' := by
  have c0 := gone_box (hJb 0 W h0).1
  have H0 := hid h0
  have HL := hid hL
  have HC := hid hC
  have HJS := hid hJs
  have HJB := hid hJb
  have HJC := hid hJc
  have HVA := hid hva
  have HB := hid hB
  have HW := hid hW
  have HY := hid hY
  clear h0 hL hC hJs hJb hJc hva hB hW hY
  refine (callsIn_wide (n := 5)).1 ?_
  refine callsIn_of_wp Tryd.func45 rfl trivial ?_ rfl
  simp only [Tryd.ntmps45, List.size_toArray, List.length_cons, List.length_nil, Nat.reduceAdd, Nat.reduceSub, Array.replicate_succ, Array.replicate_zero, List.push_toArray, List.append_toArray, List.nil_append, List.cons_append]
  gi_wp2
  clear c0
  gi_loopg [5, 6, 7, 10] L (fun m _ _ _ iv wr => ∃ k : Nat, m + k = L ∧ k ≤ C ∧ iv = .int .i64 (k : Int) ∧ J k wr)
  case atStart => exact ⟨0, by omega, Nat.zero_le _, rfl, H0.out⟩
  case round =>
    clear H0
    obtain ⟨k, hgk, hkc, rfl, hj⟩ := hrel
    have HI := hid hj
    clear hj
    have hl := HL.out
    by_cases hlt : k < L
    · obtain ⟨g, off, rfl⟩ := HVA.out (by omega)
      have i1 : (k : Int) < (L : Int) := by omega
      have i0 : (0 : Int) ≤ (k : Int) := by omega
      have hcw := HJC.out k wr HI.out g off rfl k hlt
      have k0 : wr.cell? ⟨g, off + k * 3, none⟩ = some (.int .i64 (V k 0)) := hcw 0 (by decide)
      have k1 : wr.cell? ⟨g, off + k * 3 + 1, none⟩ = some (.int .i64 (V k 1)) := hcw 1 (by decide)
      have k2 : wr.cell? ⟨g, off + k * 3 + 2, none⟩ = some (.int .i64 (V k 2)) := hcw 2 (by decide)
      have HI2 := hid (HJS.out k wr _ HI.out ((Below.refl _ _).alloc (Nat.le_refl _) (.cells #[.int .i64 (V k 0), .int .i64 (V k 1), .int .i64 (V k 2)] 35)))
      have hjb := HJB.out k _ HI2.out
      have cf : (wr.alloc (.cells #[.int .i64 (V k 0), .int .i64 (V k 1), .int .i64 (V k 2)] 35)).cell? ⟨Bf, 0, none⟩ = some (.func (.func fB) #[] #[.pointer (some ⟨Bn, 0, none⟩)]) := gone_box hjb.2.1
      have cm : (wr.alloc (.cells #[.int .i64 (V k 0), .int .i64 (V k 1), .int .i64 (V k 2)] 35)).cell? ⟨Bm, 0, none⟩ = some (.pointer (some ⟨b, 0, none⟩)) := gone_box hjb.2.2
      have HBC := hid (HB.out k _ hlt HI2.out)
      clear hcw hjb
      by_cases hk : k < C
      · have HWC : Hid (Calls Tryd.prog 46 #[.pointer (some ⟨b, 0, none⟩), .agg #[.int .i64 (V k 0), .int .i64 (V k 1), .int .i64 (V k 2)], .int .i64 (B k)] (wr.alloc (.cells #[.int .i64 (V k 0), .int .i64 (V k 1), .int .i64 (V k 2)] 35)) fun e w' => e = .returned (.int .u64 (y k : Int)) ∧ J' k w') := hid (HW.out k _ hk HI2.out)
        have HYI := hid (fun A hA => HY.out k A hk hA)
        have HN : Hid (gk + k = L ∧ k < C ∧ L ≤ 100000) := hid ⟨hgk, hk, HL.out.1⟩
        have hb0 := HC.out.2.1 k hk
        have q1 : decide (B k ≤ 0) = false := decide_eq_false (by omega)
        generalize B k = z at *
        generalize y k = yk at *
        clear hkc hk hgk HB HW HY
        gi_wp2_with (first
          | (refine ⟨trivial, ?_⟩; (with_reducible refine (callsIn_wide.2 HBC.out).mono ?_); rintro e w1 ⟨rfl, rfl⟩)
          | (refine ⟨trivial, ?_⟩; gi_at_call 46; refine (callsIn_wide.2 HWC.out).mono ?_; rintro e w2 ⟨rfl, hj'⟩; obtain ⟨fn, tmps, assign, body, hy, hRD⟩ := HYI.out _ hj'; clear hj'))
        refine hRD.mono ?_
        clear hRD hy
        rintro e w4 ⟨rfl, hj⟩
        have HT := hid hj
        clear hj
        gi_wp2
        gi_roundg (gk - 1)
        case rel => exact ⟨k + 1, by have := HN.out; omega, by have := HN.out; omega, by have := HN.out; go_num, HT.out⟩
        case measure => have := HN.out; omega
      · obtain rfl : k = C := by omega
        have hb0 := HC.out.2.2 hlt
        have q1 : decide (B k ≤ 0) = true := decide_eq_true hb0
        have HI3 := HI2
        generalize B k = z at *
        clear hk hkc hgk HB HW HY
        gi_wp2_with (refine ⟨trivial, ?_⟩; (with_reducible refine (callsIn_wide.2 HBC.out).mono ?_); rintro e w1 ⟨rfl, rfl⟩)
        refine ⟨trivial, ?_⟩
        gi_wp2
        refine ⟨fun _ h => (by cases h), ?_⟩
        gi_wp2
        refine bodyPost_ret (results_none rfl _ _ _) rfl ?_
        exact ⟨⟨_, rfl⟩, HI3.out⟩
    · have hkL : k = C := by have := HC.out.1; omega
      have hnot : ¬ ((k : Int) < (L : Int)) := by omega
      have HE : Hid (J C wr) := hid (by rw [← hkL]; exact HI.out)
      clear hkL hkc hgk hlt
      gi_wp2
      go_end0
      exact ⟨⟨_, rfl⟩, HE.out⟩
end Go.Proofs.YtpjgpiieminaoaaDoor

/- Guard: the program's Bytes. -/
namespace Go.Proofs.YtpjgpiieminaoaaDoor
open Go.RowKit Go.Shelf Go.Deep
set_option maxRecDepth 100000
attribute [local go_sem] Oper.semAt_some
theorem pinfo8 : (Tryd.prog.info? 5).map (fun i => (i.zero, i.size, i.bytes)) = some (some (.int .u8 0), 1, 1) := by kernel_rfl
theorem gmake_room (w : World) (n : Nat) (hn : n ≤ 70368744177664) :
    (Instr.makeSlice 38 (.int .i64 0) (.int .i64 n)).run Tryd.prog w = .ok (.slice (some ⟨w.heap.size, 0, none⟩) 0 n) (w.alloc (.cells (madeCells #[.int .u8 0] n) 5)) := by
  obtain ⟨i0, hi, hz0, hz1, hz2⟩ := info_parts pinfo8
  have := run_make (P := Tryd.prog) w 38 5 i0 _ Tryd.underlying38 hi hz0 .i64 .i64 0 n (by omega) (by omega) (by rw [hz2]; simp; omega) (by omega)
  rw [this]
  simp [hz1, Value.cells]
theorem BoB.room (E : TypeId) (f : Nat → Nat) (m g : Nat) (hm : m ≤ maxLen) : BoB E (.slice (some ⟨g, 0, none⟩) 0 m) 0 f g (.cells (madeCells #[.int .u8 0] m) E (0, 0)) :=
  ⟨m, madeCells #[.int .u8 0] m, rfl, rfl, Nat.zero_le _, hm, by simp [size_madeCells], by simp [ns]⟩
theorem gbits_any (k nn Bn : Nat) (w : World) (hb : w.heap[Bn]? = some (.cells #[.int .i64 (nn : Int)] 3 (0, 0))) (hn : nn ≤ 100000) (hk : k ≤ 100000) : Calls Tryd.prog 30 #[.int .i64 (k : Int), .pointer (some ⟨Bn, 0, none⟩)] w fun e w' => e = .returned (.int .i64 (8 * ((nn : Int) - 8 * (k : Int)))) ∧ w' = w := by
  have c0 := gone_box hb
  have e1 : IntKind.i64.wrap (8 * (k : Int)) = 8 * (k : Int) := by rw [IntKind.wrap_i64]; omega
  have e2 : IntKind.i64.wrap ((nn : Int) - 8 * (k : Int)) = (nn : Int) - 8 * (k : Int) := by rw [IntKind.wrap_i64]; omega
  have e3 : IntKind.i64.wrap (8 * ((nn : Int) - 8 * (k : Int))) = 8 * ((nn : Int) - 8 * (k : Int)) := by rw [IntKind.wrap_i64]; omega
  clear hb
  go_enter Tryd.func30, Tryd.ntmps30
  go_wp2
  go_ret
  exact ⟨rfl, rfl⟩
/-- Between two rounds: j words are told, i opened. -/
def GbJ (Pm : World → Nat → Ms → (Nat → Prop) → Prop) (lo : Nat) (X : Nat → Prop) (w : World) (b bd : Nat) (St : Nat → Ms) (S2 : Ms) (cF : Nat → Nat) (z : Int) (va : Option Addr) (L cap nn s2 : Nat) (rec : Loop) (i j : Nat) (A : World) : Prop :=
  ∃ ov g o, BoB 5 ov (gyM z j) cF g o ∧ Gy Pm lo X w w A b bd (St i) S2 ((g, o) :: [(s2 + 6, .loop rec), (s2 + 5, .deferred (some [])), (s2 + 4, .cells #[.func (.func 30) #[] #[.pointer (some ⟨w.heap.size, 0, none⟩)]] 64 (0, 0)), (s2 + 3, .cells #[.slice va L cap] 27 (0, 0)), (s2 + 2, .cells #[.pointer (some ⟨b, 0, none⟩)] 25 (0, 0)), (s2 + 1, .cells #[ov] 38 (0, 0)), (w.heap.size, .cells #[.int .i64 (nn : Int)] 3 (0, 0))])
set_option maxHeartbeats 6400000 in
theorem qgbytes {Pm : World → Nat → Ms → (Nat → Prop) → Prop} (hM : Mach Pm) {lo : Nat} {X : Nat → Prop} {W w : World} {b bd k : Nat} {S S2 : Ms} (V : Nat → Nat → Int) (L : Nat) (v : Value) (z : Int) (h : Bz Pm lo X W w b bd S S2) (hp : Pv w) (hl : gpair < lo) (hq : Bq k S) (hk : k + 14 * L + 200 ≤ 100000) (hn : S.n = 2 ∨ S.n = 3) (hV : ∀ j, Wb (V j)) (hr : WsR w v L V X) :
    Calls Tryd.prog 9 #[.pointer (some ⟨b, 0, none⟩), v, .int .i64 z] w (TellsB Pm lo X W w b bd (gyS S V z (gyC z L)) S2 (ns (gyM z (gyC z L)) (gyF S V z))) := by
  have HLOW : Hid (Below lo W w) := hid h.low
  obtain ⟨va, cap, rfl, hcl, hcm, hrd⟩ := hr
  obtain ⟨nn, hnn⟩ : ∃ nn : Nat, (nn : Int) = min (max z 0) (8 * (L : Int)) := ⟨(min (max z 0) (8 * (L : Int))).toNat, by omega⟩
  have HM : Hid (∀ j, j < gyC z L → ∀ (bs : List (Nat × Obj)) (w' : World), Gy Pm lo X w w w' b bd (gyS S V z j) S2 bs → Calls Tryd.prog 46 #[.pointer (some ⟨b, 0, none⟩), .agg (wdV (V j)), .int .i64 (8 * ((nn : Int) - 8 * (j : Int)))] w' fun e w2 => e = .returned (.int .u64 (gyV S V z j : Int)) ∧ Gy Pm lo X w w w2 b bd (gyS S V z (j + 1)) S2 bs) := hid (fun j hj bs w' h' => h'.lift (fun _ _ hz' => by
    have hl2 := gyC_lt.1 hj
    exact qglow hM (V j) _ (lwN (8 * gyK z j)) (lwZ_of (by unfold gyK; omega)).symm hz' (Pv.bz hp hl h'.z) hl (gyS_bq (N := z) hq hn hV (j := j) (by omega)) (by omega) (by rw [(gyS_ext S V z j).n]; exact hn) (hV j)))
  have HY : Hid (∀ j, j < gyC z L → gyV S V z j < 2 ^ 64) := hid (fun j hj => by
    have hl := (gyC_lt.1 hj).1
    exact gyV_lt hq hn hV (by omega))
  have HCLM : Hid (∀ w, Calls Tryd.prog 28 #[.int .i64 z, .int .i64 (8 * (L : Int))] w fun e w' => e = .returned (.int .i64 (nn : Int)) ∧ w' = w) := hid (fun w => by rw [hnn]; exact gclamp_any z _ (by omega) w)
  have HG0 : Hid (Gy Pm lo X w w (w.alloc (.cells #[.int .i64 (nn : Int)] 3)) b bd S S2 [(w.heap.size, .cells #[.int .i64 (nn : Int)] 3 (0, 0))]) := hid ((Gy.start h.base).newO hM _)
  have HLB : Hid (L ≤ 7200) := hid (by omega)
  have HNN := hid hnn
  have HCL : Hid (L ≤ cap ∧ cap ≤ maxLen) := hid ⟨hcl, hcm⟩
  have HRD := hid hrd
  have em : IntKind.i64.wrap (8 * (L : Int)) = 8 * (L : Int) := by rw [IntKind.wrap_i64]; omega
  clear h hp hl hq hk hn hV hcl hcm hrd hnn
  obtain ⟨St, hSt⟩ : ∃ St : Nat → Ms, ∀ j, gyS S V z j = St j := ⟨_, fun _ => rfl⟩
  have HS0 : Hid (S = St 0) := hid (hSt 0)
  obtain ⟨yv, hyv⟩ : ∃ yv : Nat → Nat, ∀ j, gyV S V z j = yv j := ⟨_, fun _ => rfl⟩
  obtain ⟨cF, hcF⟩ : ∃ cF : Nat → Nat, gyF S V z = cF := ⟨_, rfl⟩
  have HCW : Hid (∀ j q, q < 8 → cF (8 * j + q) = byF (yv j) q) := hid (fun j q hq => by rw [← hcF, ← hyv]; exact gyF_word hq)
  have HCL2 : Hid (∀ i, cF i < 256) := hid (fun i => by rw [← hcF]; exact gyF_lt S V z i)
  simp only [hSt, hyv, hcF] at HM HY ⊢
  rw [HS0.out] at HG0
  clear hSt hyv hcF HS0
  refine (callsIn_wide (n := 7)).1 ?_
  refine callsIn_of_wp_marks Tryd.func9 rfl trivial ?_ rfl
  simp only [Tryd.ntmps9, List.size_toArray, List.length_cons, List.length_nil, Nat.reduceAdd, Nat.reduceSub, Array.replicate_succ, Array.replicate_zero, List.push_toArray, List.append_toArray, List.nil_append, List.cons_append]
  gi_upto_region 2 with (refine ⟨trivial, ?_⟩; gi_at_call 28; refine (callsIn_wide.2 (HCLM.out _)).mono ?_; rintro e w1 ⟨rfl, rfl⟩)
  obtain ⟨w2, hw2⟩ : ∃ w2, w.alloc (.cells #[.int .i64 (nn : Int)] 3) = w2 := ⟨_, rfl⟩
  rw [hw2] at HG0 ⊢
  clear hw2 em
  have c2 := gone_box (HG0.out.mem (n := w.heap.size) (u := .cells #[.int .i64 (nn : Int)] 3 (0, 0)) (by simp))
  have hmk := gmake_room w2 nn (by have := HNN.out; have := HLB.out; omega)
  have HG : Hid (∀ (o1 o2 o3 o4 o5 o6 o7 : Obj), Gy Pm lo X w w (((((((w2.alloc o1).alloc o2).alloc o3).alloc o4).alloc o5).alloc o6).alloc o7) b bd (St 0) S2 ((w2.heap.size, o1) :: [(w2.heap.size + 6, o7), (w2.heap.size + 5, o6), (w2.heap.size + 4, o5), (w2.heap.size + 3, o4), (w2.heap.size + 2, o3), (w2.heap.size + 1, o2), (w.heap.size, .cells #[.int .i64 (nn : Int)] 3 (0, 0))])) := hid (fun o1 o2 o3 o4 o5 o6 o7 => by
    have g := (((((((HG0.out).newO hM o1).newO hM o2).newO hM o3).newO hM o4).newO hM o5).newO hM o6).newO hM o7
    simp only [World.size_alloc, Nat.add_assoc, Nat.reduceAdd] at g
    exact g.perm (bs' := (w2.heap.size, o1) :: ([(w2.heap.size + 6, o7), (w2.heap.size + 5, o6), (w2.heap.size + 4, o5), (w2.heap.size + 3, o4), (w2.heap.size + 2, o3), (w2.heap.size + 1, o2)] ++ [(w.heap.size, .cells #[.int .i64 (nn : Int)] 3 (0, 0))])) List.perm_middle.symm)
  gi_wp2_with (refine ⟨trivial, ?_⟩; gi_at_call 29; refine (callsIn_wide.2 (gopened_any b va L cap _ _ _)).mono ?_; rintro e w1 ⟨rfl, rfl⟩)
  clear c2 hmk
  refine range_wide (w2.heap.size + 6) (by simp) (gf := 45) (lb := #[.pointer (some ⟨w2.heap.size + 3, 0, none⟩), .pointer (some ⟨w2.heap.size + 4, 0, none⟩), .pointer (some ⟨w2.heap.size + 2, 0, none⟩)]) rfl (enters_of Tryd.func45 (by kernel_rfl) rfl) (fun rec r1 r0 r2 r3 r4 r5 => ?_)
  have HJ0 : Hid (GbJ Pm lo X w b bd St S2 cF z va L cap nn w2.heap.size rec 0 0 _) := hid ⟨.slice (some ⟨w2.heap.size, 0, none⟩) 0 nn, w2.heap.size, _, by rw [show gyM z 0 = 0 by unfold gyM; omega]; exact BoB.room 5 cF nn w2.heap.size (by unfold maxLen; have := HNN.out; have := HLB.out; omega), HG.out _ _ _ _ _ _ _⟩
  refine (gopened_iter (fun j => GbJ Pm lo X w b bd St S2 cF z va L cap nn w2.heap.size rec j j) (fun j => GbJ Pm lo X w b bd St S2 cF z va L cap nn w2.heap.size rec (j + 1) j) (w2.heap.size + 6) (w2.heap.size + 2) (w2.heap.size + 3) (w2.heap.size + 4) w.heap.size 30 b V L va cap (fun k => 8 * ((nn : Int) - 8 * (k : Int))) yv (gyC z L) _ ⟨by have := HLB.out; omega, HCL.out.1, HCL.out.2⟩ ⟨gyC_le z L, fun k hk => ?_, fun hk => ?_⟩ (fun j A B ⟨ov, g, o, a1, a2⟩ hb => ⟨ov, g, o, a1, a2.self hM hb⟩) (fun j A ⟨ov, g, o, _, a2⟩ => ⟨a2.mem (by simp), a2.mem (by simp), a2.mem (by simp)⟩) (fun j A ⟨ov, g2, o, _, a2⟩ g off e i hi c hc => ?_) (fun h => by obtain ⟨g, off, e, _⟩ := HRD.out h; exact ⟨g, off, e⟩) (fun j A hj ⟨ov, g, o, _, a2⟩ => ?_) (fun j A hj ⟨ov, g, o, a1, a2⟩ => (HM.out j hj _ _ a2).mono fun e w' ⟨e1, e2⟩ => ⟨e1, ov, g, o, a1, e2⟩) (fun j A hj hJ => ?_) HJ0.out (enters_of Tryd.func30 (by kernel_rfl) rfl)).mono ?_
  · have := gyC_lt.1 hk; have := HNN.out; omega
  · have hc : ¬ (gyC z L < L ∧ 8 * ((gyC z L : Nat) : Int) < z) := fun h => Nat.lt_irrefl _ (gyC_lt.2 h)
    have := HNN.out; omega
  · obtain ⟨g', off', e', hX, hg, hcell⟩ := HRD.out (by omega)
    rw [e] at e'
    cases e'
    rw [← hcell i hi c hc]
    exact cell_same (a2.st g hX).2 _
  · exact gbits_any j nn w.heap.size A (a2.mem (by simp)) (by have := HNN.out; have := HLB.out; omega) (by have := HLB.out; omega)
  · obtain ⟨ov, g0, o0, hbo, hA⟩ := hJ
    have HJL := hid hj
    have HBO := hid hbo
    have HA := hid hA
    obtain ⟨capv, rfl, hcv1, hcv2⟩ := hbo.form
    have hlp : A.heap[w2.heap.size + 6]? = some (.loop rec) := hA.mem (by simp)
    have HRC : Hid (({ rec with state := .ready, pending := none } : Loop) = rec) := hid (by cases rec; simp_all)
    refine round_wide hlp r1 r2 r3 r4 r5 rfl ?_
    clear hj hbo hA HJ0 HG r0 r1 r2 r3 r4 r5
    simp only [Array.zip, List.zipWith_toArray, List.zipWith_cons_cons, List.zipWith_nil_right, List.foldl_toArray, List.foldl_cons, List.foldl_nil, List.setIfInBounds_toArray, lay_out]
    show Code.wpIn (wideR _) _ _ _ _ _ _
    gi_wp2
    refine ⟨hlp, ?_⟩
    clear hlp
    have HWD : Hid (Gy Pm lo X w w (A.putObj (w2.heap.size + 6) (.loop { rec with state := .busy })) b bd (St (j + 1)) S2 ((g0, o0) :: [(w2.heap.size + 6, .loop { rec with state := .busy }), (w2.heap.size + 5, .deferred (some [])), (w2.heap.size + 4, .cells #[.func (.func 30) #[] #[.pointer (some ⟨w.heap.size, 0, none⟩)]] 64 (0, 0)), (w2.heap.size + 3, .cells #[.slice va L cap] 27 (0, 0)), (w2.heap.size + 2, .cells #[.pointer (some ⟨b, 0, none⟩)] 25 (0, 0)), (w2.heap.size + 1, .cells #[(.slice (some ⟨g0, 0, none⟩) (gyM z j) capv)] 38 (0, 0)), (w.heap.size, .cells #[.int .i64 (nn : Int)] 3 (0, 0))])) := hid (Gy.putMid (l := [_]) hM HA.out (.loop { rec with state := .busy }))
    obtain ⟨C, hC⟩ : ∃ C, A.putObj (w2.heap.size + 6) (.loop { rec with state := .busy }) = C := ⟨_, rfl⟩
    rw [hC] at HWD ⊢
    clear hC HA
    gi_wp2_with fail
    have hlt := HJL.out
    have h8 := gyK_le z j
    have hmn := gyM_next hlt
    have hkj := gyC_lt.1 hlt
    obtain ⟨kz, hkz⟩ : ∃ kz : Int, kz = (nn : Int) - ((gyM z j : Nat) : Int) := ⟨_, rfl⟩
    have hkk : (min (max kz 0) 8).toNat = gyK z j := by have := HNN.out; rw [hkz, hmn.1]; unfold gyK; omega
    have es : IntKind.i64.wrap ((nn : Int) - ((gyM z j : Nat) : Int)) = kz := by rw [IntKind.wrap_i64, hkz]; have := HNN.out; have := HLB.out; rw [hmn.1]; omega
    have HST : Hid (∀ w, Calls Tryd.prog 31 #[.int .u64 (yv j : Int), .int .i64 kz] w fun e w' => ∃ v', e = .returned v' ∧ Rd .u8 w' v' (ns (gyK z j) (byF (yv j))) ∧ Below w.heap.size w w') := hid (fun w => by
      have hy := HY.out j hlt
      refine (store_any (yv j : Int) kz w (by omega)).mono fun e w' ⟨v', e1, e2, e3⟩ => ⟨v', e1, ?_, e3⟩
      rw [hkk, store_math, rsL_ns] at e2
      exact e2.rd (by rw [ns_len, show IntKind.u8.bits / 8 = 1 from rfl]; omega) (ns_wf (fun i _ => byF_lt _ _)))
    have HKP : Hid (0 < gyK z j) := hid (gyK_pos hlt)
    obtain ⟨nb, hnb⟩ : ∃ nb, gyM z j = nb := ⟨_, rfl⟩
    rw [hnb] at hmn HBO HWD es
    have HNX : Hid (gyM z (j + 1) = nb + gyK z j) := hid (by rw [← hmn.2])
    have HCF : Hid (∀ q, q < gyK z j → cF (nb + q) = byF (yv j) q) := hid (fun q hq => by
      rw [hmn.1]
      exact HCW.out j q (by have := gyK_le z j; omega))
    have HLM : Hid (nb + gyK z j ≤ 100000000) := hid (by have := gyK_le z j; have h9 := HLB.out; have h8 := (gyC_lt.1 hlt).1; rw [hmn.1]; omega)
    obtain ⟨kk, hkn⟩ : ∃ kk : Nat, gyK z j = kk := ⟨_, rfl⟩
    simp only [hkn] at HST HKP HNX HCF HLM
    clear HM HY hlt hmn hnb hkn h8 HCW hkz hkk hkj hcv1 hcv2
    obtain ⟨yF, hyF⟩ : ∃ yF, byF (yv j) = yF := ⟨_, rfl⟩
    rw [hyF] at HST HCF
    clear hyF
    generalize yv j = y at *
    obtain ⟨ov, hov⟩ : ∃ ov, Value.slice (some ⟨g0, 0, none⟩) nb capv = ov := ⟨_, rfl⟩
    have HOV : Hid (Value.slice (some ⟨g0, 0, none⟩) nb capv = ov) := hid hov
    rw [hov] at HBO HWD
    clear hov
    have G0 := hid (HWD.out.self hM ((Below.refl _ C).drew))
    refine region_Rt (fun w' => w'.heap[w.heap.size]? = some (.cells #[.int .i64 (nn : Int)] 3 (0, 0))) (fun w' => w'.heap[w2.heap.size + 1]? = some (.cells #[ov] 38 (0, 0))) 8 (by kernel_rfl) (by kernel_rfl) ⟨G0.out.mem (by simp), G0.out.mem (by simp)⟩ (fun h0 => ?_)
    generalize C.drew = y0 at *
    · skip
      refine rt_takeA (i := 1) (v := .int .u64 (y : Int)) rfl (by kernel_rfl) (by kernel_rfl) (by kernel_rfl) rfl (fun _ _ _ h => h) (.inl ⟨by rfl, fun w hw => by clear hw; go_simp⟩) h0 ?_
      try simp only [Act.put, lay_out]
      refine rt_takeA (i := 2) (v := .int .i64 (nn : Int)) rfl (by kernel_rfl) (by kernel_rfl) (by kernel_rfl) rfl (fun _ _ _ h => h) (.inl ⟨by rfl, fun w hw => by have hc := gone_box hw; clear hw; go_simp⟩) h0 ?_
      try simp only [Act.put, lay_out]
      refine rt_takeT (i := 0) (v := ov) rfl (by kernel_rfl) (by kernel_rfl) (by kernel_rfl) rfl (by kernel_rfl) (by kernel_rfl) (fun _ _ _ h => h) (.inl ⟨by rfl, fun w hw => by have hc := gone_box hw; clear hw; go_simp⟩) h0 ?_
      try simp only [Act.put, lay_out]
      refine rt_takeT (i := 3) (v := ov) rfl (by kernel_rfl) (by kernel_rfl) (by kernel_rfl) rfl (by kernel_rfl) (by kernel_rfl) (fun _ _ _ h => h) (.inl ⟨by rfl, fun w hw => by have hc := gone_box hw; clear hw; go_simp⟩) h0 ?_
      try simp only [Act.put, lay_out]
      refine rt_takeA (i := 4) (v := .int .i64 (nb : Int)) rfl (by kernel_rfl) (by kernel_rfl) (by kernel_rfl) rfl (fun _ _ _ h => h) (.inl ⟨by rfl, fun w hw => by clear hw; rw [← HOV.out]; go_simp⟩) h0 ?_
      try simp only [Act.put, lay_out]
      refine rt_takeA (i := 5) (v := .int .i64 kz) rfl (by kernel_rfl) (by kernel_rfl) (by kernel_rfl) rfl (fun _ _ _ h => h) (.inl ⟨by rfl, fun w hw => by clear hw; go_simp⟩) h0 ?_
      try simp only [Act.put, lay_out]
      refine rt_ready (rs := [6]) (by kernel_rfl) (by simp) (RtReady.consT rfl (fun K hK => ?_) RtReady.nil)
      rw [if_pos (by rfl)]
      go_simp
      go_at_call 31
      (with_reducible refine (HST.out _).mono ?_); rintro e y3 ⟨sv, rfl, hrd, hb⟩
      have G3 := hid (G0.out.self hM hb)
      have HR := hid hrd
      clear hb hrd
      refine hK.out _ _ ⟨G3.out.mem (by simp), G3.out.mem (by simp)⟩ (fun h3x => ?_)
      clear hK K
      try simp only [Act.put, lay_out]
      refine rt_ready (rs := [7]) (by kernel_rfl) (by simp) (RtReady.consT rfl (fun K hK => ?_) RtReady.nil)
      rw [if_pos (by rfl)]
      refine wp_append_bob _ _ 38 rfl 5 Tryd.underlying38 pinfo8 ov nb cF rfl HBO.out (G3.out.bl 0 rfl) sv kk yF rfl HR.out HKP.out HCF.out HLM.out (fun g1 cap' y4 o1 a1 a2 a3 a4 => ?_)
      have G4 := hid (G3.out.grown hM a3 a4 a2)
      have HB1 := hid a1
      clear a1 a2 a3 a4
      refine hK.out _ _ ⟨G4.out.mem (by simp), G4.out.mem (by simp)⟩ (fun h4x => ?_)
      clear hK K
      try simp only [Act.put, lay_out]
      refine rt_ready (rs := [8]) (by kernel_rfl) (by simp) (RtReady.consS rfl (by kernel_rfl) (fun K hK => ?_) RtReady.nil)
      rw [if_pos (by rfl)]
      have c7 := gone_box (G4.out.mem (n := w2.heap.size + 1) (u := .cells #[ov] 38 (0, 0)) (by simp))
      have f7 := frozen_of_row y4 (w2.heap.size + 1) 0 #[ov] 38 (G4.out.mem (by simp))
      go_simp
      clear c7 f7
      have G5 := hid (Gy.cellMid (l := (g1, o1) :: [(w2.heap.size + 6, .loop { rec with state := .busy }), (w2.heap.size + 5, .deferred (some [])), (w2.heap.size + 4, .cells #[.func (.func 30) #[] #[.pointer (some ⟨w.heap.size, 0, none⟩)]] 64 (0, 0)), (w2.heap.size + 3, .cells #[.slice va L cap] 27 (0, 0)), (w2.heap.size + 2, .cells #[.pointer (some ⟨b, 0, none⟩)] 25 (0, 0))]) hM G4.out 0 (.slice (some ⟨g1, 0, none⟩) (nb + kk) cap'))
      refine hK.out _ _ (G5.out.mem (by simp)) (fun h5x => ?_)
      clear hK K
      try simp only [Act.put, lay_out]
      refine rt_done (by kernel_rfl) ?_ _
      simp only [nrm, Exit.then, Exit.inBlock]
      have hb := G5.out
      have G6 := hid (Gy.putMid (l := [_]) hM hb (.loop { rec with state := .ready, pending := none }))
      have HLQ : Hid ((y4.setCell ⟨w2.heap.size + 1, 0, none⟩ (.slice (some ⟨g1, 0, none⟩) (nb + kk) cap')).heap[w2.heap.size + 6]? = some (.loop { rec with state := .busy })) := hid (G5.out.mem (by simp))
      have HEND : Hid (GbJ Pm lo X w b bd St S2 cF z va L cap nn w2.heap.size rec (j + 1) (j + 1) ((y4.setCell ⟨w2.heap.size + 1, 0, none⟩ (.slice (some ⟨g1, 0, none⟩) (nb + kk) cap')).putObj (w2.heap.size + 6) (.loop { rec with state := .ready, pending := none }))) := hid ⟨_, g1, o1, by rw [HNX.out]; exact HB1.out, by
        have h9 := G6.out
        rw [HRC.out] at h9 ⊢
        exact h9⟩
      clear hb G6 h0 h3x h4x h5x
      go_at_K
      exact ⟨HLQ.out, rfl, HEND.out⟩
  · rintro e w' ⟨⟨v, rfl⟩, ov, g0, o0, hbo, hg⟩
    refine ⟨v, rec, rfl, hg.mem (by simp), by rw [r1]; simp, ?_⟩
    rw [r0]
    dsimp only
    have G1 := hid (Gy.putMid (l := [_]) hM hg (.loop { rec with state := .exhausted }))
    have HBO := hid hbo
    clear hg hbo HJ0 HG
    obtain ⟨w6, hw6⟩ : ∃ w6, w'.putObj (w2.heap.size + 6) (.loop { rec with state := .exhausted }) = w6 := ⟨_, rfl⟩
    rw [r0] at hw6
    simp only [r0] at G1
    rw [hw6] at G1 ⊢
    clear hw6 r0 r1 r2 r3 r4 r5
    have hK : w6.heap[w2.heap.size + 5]? = some (.deferred (some [])) := G1.out.mem (by simp)
    have hc := gone_box (G1.out.mem (n := w2.heap.size + 1) (u := .cells #[ov] 38 (0, 0)) (by simp))
    simp only [World.size_alloc, Nat.add_assoc, Nat.reduceAdd]
    gi_wp2
    refine ⟨by simp, .inl ⟨_, _, rfl, run_takeDeferred hK, ?_⟩⟩
    have G2 := Gy.putMid (l := [_, _]) hM G1.out
    refine ⟨_, results_tmp rfl _ _ _, ?_⟩
    have G3 := G2 (.deferred none)
    refine ⟨_, fun k => k = g0, rfl, ?_, fun k hk => by rw [hk]; exact (G3.bx _ (List.mem_cons_self ..)).1, ?_, fun k hk => (G3.st k hk).2⟩
    · exact HBO.out.rds (G3.bl 0 rfl) (fun i _ => HCL2.out i) (by have h9 := HLB.out; have := gyM_le z (gyC z L); have := gyC_le z L; omega)
    · exact (G3.z.less (fun k hk => hk.imp id (fun e => ⟨(g0, o0), List.mem_cons_self .., e.symm⟩))).up HLOW.out
end Go.Proofs.YtpjgpiieminaoaaDoor

/- Guard: what the program tells, put together. -/
namespace Go.Proofs.YtpjgpiieminaoaaDoor
open Go.RowKit Go.Deep
set_option maxRecDepth 100000
theorem guardI : GdI Pm where
  op := fun A h hp hl hq hk hn hA => qgopen pmach A h hp hl hq (by omega) hn hA
  bytes := fun V L v z h hp hl hq hk hn _ hV hr _ => qgbytes pmach V L v z h hp hl hq hk hn hV hr
end Go.Proofs.YtpjgpiieminaoaaDoor
