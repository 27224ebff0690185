import Derived.Test.YthfgpjebmhbedaaDoorProg
import Derived.Test.YthfgpjebmhbedaaDoorPar
/- Op: Parse of six fields. -/
namespace Go.Proofs.YthfgpjebmhbedaaDoor
open Go.RowKit
set_option maxRecDepth 100000
/-- The four fields that tell numbers. -/
abbrev mid (f1 f2 f3 f4 : ByteArray) : Nat → ByteArray := fun j => if j = 0 then f1 else if j = 1 then f2 else if j = 2 then f3 else f4
theorem PB.mids {w wr : World} {M : Nat} {f0 f1 f2 f3 f4 f5 : ByteArray} (h : PB w wr [f0, f1, f2, f3, f4, f5] M) : ∀ j, j < 4 → wr.cell? ⟨w.heap.size + 1, 1 + j, none⟩ = some (.string (mid f1 f2 f3 f4 j)) := by
  intro j hj
  refine h.field (1 + j) _ ?_
  rcases (by omega : j = 0 ∨ j = 1 ∨ j = 2 ∨ j = 3) with rfl | rfl | rfl | rfl <;> rfl
theorem nums_cell {w w' : World} {a b c d : Int} (hb : Below (w.alloc (.cells #[.int .i64 a, .int .i64 b, .int .i64 c, .int .i64 d] 29)).heap.size (w.alloc (.cells #[.int .i64 a, .int .i64 b, .int .i64 c, .int .i64 d] 29)) w') :
    w'.cell? ⟨w.heap.size, 0, none⟩ = some (.int .i64 a) ∧ w'.cell? ⟨w.heap.size, 1, none⟩ = some (.int .i64 b) ∧ w'.cell? ⟨w.heap.size, 2, none⟩ = some (.int .i64 c) ∧ w'.cell? ⟨w.heap.size, 3, none⟩ = some (.int .i64 d) := by
  have e : w'.heap[w.heap.size]? = some (.cells #[.int .i64 a, .int .i64 b, .int .i64 c, .int .i64 d] 29 (0, 0)) := by rw [hb.block _ (by simp)]; exact heap_alloc_new w _
  exact ⟨by rw [cell_of_row w' _ 0 _ _ _ e]; rfl, by rw [cell_of_row w' _ 1 _ _ _ e]; rfl, by rw [cell_of_row w' _ 2 _ _ _ e]; rfl, by rw [cell_of_row w' _ 3 _ _ _ e]; rfl⟩
theorem fd_hs {s f0 f1 f2 f3 f4 f5 : ByteArray} (hF : fdL s = [f0, f1, f2, f3, f4, f5]) (hs : s.size ≤ 1000) : (∀ j, j < 4 → (mid f1 f2 f3 f4 j).size ≤ 1000) ∧ f5.size ≤ 1000 := by
  have h : ∀ x ∈ [f0, f1, f2, f3, f4, f5], x.size ≤ 1000 := fun x hx => Nat.le_trans (fd_small (hF ▸ hx)) hs
  refine ⟨fun j hj => ?_, h f5 (by simp)⟩
  rcases (by omega : j = 0 ∨ j = 1 ∨ j = 2 ∨ j = 3) with rfl | rfl | rfl | rfl
  · exact h f1 (by simp)
  · exact h f2 (by simp)
  · exact h f3 (by simp)
  · exact h f4 (by simp)
set_option maxHeartbeats 6400000 in
theorem oparse_nokind (s : ByteArray) (w : World) (hv : VP w) (hs : s.size ≤ 1000) {f0 f1 f2 f3 f4 f5 : ByteArray} (hF : fdL s = [f0, f1, f2, f3, f4, f5]) (hk : ∀ k : Nat, 1 ≤ k → k < 13 → nmB (k : Int) ≠ f0) (hn : ∀ o, mayP o → sB (lnL o) ≠ s) : Calls Tryd.prog 5 #[.string s] w (ParP s w) := by
  have hS := split7 s w hv hs
  have hl := fd_len s
  obtain ⟨hm4, h5⟩ := fd_hs hF hs
  rw [hF] at hS hl
  have HS := hid hS
  generalize hm : min 7 (s.size + 1) = M at *
  have M1 : (6 : Int) ≤ (M : Int) := by simp at hl; omega
  have M2 : (5 : Int) ≤ (M : Int) := by omega
  have M3 : (1 : Int) ≤ (M : Int) := by omega
  have M4 : (5 : Nat) ≤ M := by omega
  have M5 : (1 : Nat) ≤ M := by omega
  have HK := hid (fun w => okind_no f0 hk w)
  have HW := hid (fun (wr : World) (cap : Nat) (h : PB w wr [f0, f1, f2, f3, f4, f5] M) => owhole_some (cap := cap) h.mids hm4 (hv.self h.low))
  have HU := hid (fun (wr : World) (hb : Below w.heap.size w wr) => puint_some f5 wr (hv.self hb) h5)
  have Hn := hid hn
  clear hn hk
  clear hv hs hm4 h5 hS hl hm hF
  go_enter Tryd.func5, Tryd.ntmps5
  go_wp2_with (first
    | (go_at_call 9; (with_reducible refine (HS.out).mono ?_); rintro e w1 ⟨rfl, hp⟩; have HP := hid hp; have c0 := hp.field 0 f0 rfl; clear hp)
    | (go_at_call 10; (with_reducible refine (HK.out w1).mono ?_); rintro e w2 ⟨rfl, hb⟩; have HP2 := hid (HP.out.on hb); clear hb)
    | (go_at_call 11; (refine (HW.out w2 _ HP2.out).mono ?_); rintro e w3 ⟨na, nb, nc, nd, x, rfl, hb⟩; have HP3 := hid ((HP2.out.on hb).on ((Below.refl _ w3).alloc (Nat.le_refl _) (.cells #[.int .i64 na, .int .i64 nb, .int .i64 nc, .int .i64 nd] 29))); have c5 := HP3.out.field 5 f5 rfl; clear hb)
    | (go_at_call 12; (with_reducible refine (HU.out _ HP3.out.low).mono ?_); rintro e w5 ⟨z, v, rfl, hb⟩; have HP5 := hid (HP3.out.on hb); obtain ⟨n0, n1, n2, n3⟩ := nums_cell hb; clear hb)
    | (refine step_store_row rfl 24 _ _ rfl w.heap.size 24 o0C o0C rfl rfl HP5.out.out (by kernel_rfl) rfl (by kernel_rfl) ?_))
  exact ret_row_tmp (p := 2) (u := 3) rfl rfl (HP5.out.row _) Tryd.underlying24 rfl (by kernel_rfl) rfl (HP5.out.no s Hn.out)
set_option maxHeartbeats 6400000 in
theorem oparse_nonum (s : ByteArray) (w : World) (hv : VP w) (hs : s.size ≤ 1000) {f0 f1 f2 f3 f4 f5 : ByteArray} (hF : fdL s = [f0, f1, f2, f3, f4, f5]) (k : Nat) (hk1 : 1 ≤ k) (hk2 : k < 13) (hk : f0 = nmB (k : Int)) (hz : ¬ ∃ a b c d, FdP f1 a ∧ FdP f2 b ∧ FdP f3 c ∧ FdP f4 d) (hn : ∀ o, mayP o → sB (lnL o) ≠ s) : Calls Tryd.prog 5 #[.string s] w (ParP s w) := by
  have hS := split7 s w hv hs
  have hl := fd_len s
  obtain ⟨hm4, h5⟩ := fd_hs hF hs
  rw [hF] at hS hl
  have HS := hid hS
  generalize hm : min 7 (s.size + 1) = M at *
  have M1 : (6 : Int) ≤ (M : Int) := by simp at hl; omega
  have M2 : (5 : Int) ≤ (M : Int) := by omega
  have M3 : (1 : Int) ≤ (M : Int) := by omega
  have M4 : (5 : Nat) ≤ M := by omega
  have M5 : (1 : Nat) ≤ M := by omega
  have HK := hid (fun w => by have := okind_yes k hk1 hk2 w; rw [← hk] at this; exact this : ∀ w, Calls Tryd.prog 10 #[.string f0] w fun e w' => e = .returned (.int .i64 (k : Int)) ∧ Below w.heap.size w w')
  have HW := hid (fun (wr : World) (cap : Nat) (h : PB w wr [f0, f1, f2, f3, f4, f5] M) => owhole_no (cap := cap) h.mids hm4 (hv.self h.low) hz)
  have HU := hid (fun (wr : World) (hb : Below w.heap.size w wr) => puint_some f5 wr (hv.self hb) h5)
  have Hn := hid hn
  have k0 : ((k : Int) == 0) = false := by simp; omega
  have k00 : ¬ (k : Int) = 0 := by omega
  clear hn hk hk1 hk2
  clear hv hs hm4 h5 hS hl hm hF
  go_enter Tryd.func5, Tryd.ntmps5
  go_wp2_with (first
    | (go_at_call 9; (with_reducible refine (HS.out).mono ?_); rintro e w1 ⟨rfl, hp⟩; have HP := hid hp; have c0 := hp.field 0 f0 rfl; clear hp)
    | (go_at_call 10; (with_reducible refine (HK.out w1).mono ?_); rintro e w2 ⟨rfl, hb⟩; have HP2 := hid (HP.out.on hb); clear hb)
    | (go_at_call 11; (refine (HW.out w2 _ HP2.out).mono ?_); rintro e w3 ⟨rfl, hb⟩; have HP3 := hid ((HP2.out.on hb).on ((Below.refl _ w3).alloc (Nat.le_refl _) (.cells #[.int .i64 0, .int .i64 0, .int .i64 0, .int .i64 0] 29))); have c5 := HP3.out.field 5 f5 rfl; clear hb)
    | (go_at_call 12; (with_reducible refine (HU.out _ HP3.out.low).mono ?_); rintro e w5 ⟨z, v, rfl, hb⟩; have HP5 := hid (HP3.out.on hb); obtain ⟨n0, n1, n2, n3⟩ := nums_cell hb; clear hb)
    | (refine step_store_row rfl 24 _ _ rfl w.heap.size 24 o0C o0C rfl rfl HP5.out.out (by kernel_rfl) rfl (by kernel_rfl) ?_))
  exact ret_row_tmp (p := 2) (u := 3) rfl rfl (HP5.out.row _) Tryd.underlying24 rfl (by kernel_rfl) rfl (HP5.out.no s Hn.out)
set_option maxHeartbeats 6400000 in
theorem oparse_nouint (s : ByteArray) (w : World) (hv : VP w) (hs : s.size ≤ 1000) {f0 f1 f2 f3 f4 f5 : ByteArray} (hF : fdL s = [f0, f1, f2, f3, f4, f5]) (k : Nat) (hk1 : 1 ≤ k) (hk2 : k < 13) (hk : f0 = nmB (k : Int)) {na nb nc nd : Int} (q1 : FdP f1 na) (q2 : FdP f2 nb) (q3 : FdP f3 nc) (q4 : FdP f4 nd) (hc : ¬ ∃ c, Lib.parseUintB 64 f5.data.toList = .ok c) (hn : ∀ o, mayP o → sB (lnL o) ≠ s) : Calls Tryd.prog 5 #[.string s] w (ParP s w) := by
  have hS := split7 s w hv hs
  have hl := fd_len s
  obtain ⟨hm4, h5⟩ := fd_hs hF hs
  rw [hF] at hS hl
  have HS := hid hS
  generalize hm : min 7 (s.size + 1) = M at *
  have M1 : (6 : Int) ≤ (M : Int) := by simp at hl; omega
  have M2 : (5 : Int) ≤ (M : Int) := by omega
  have M3 : (1 : Int) ≤ (M : Int) := by omega
  have M4 : (5 : Nat) ≤ M := by omega
  have M5 : (1 : Nat) ≤ M := by omega
  have HK := hid (fun w => by have := okind_yes k hk1 hk2 w; rw [← hk] at this; exact this : ∀ w, Calls Tryd.prog 10 #[.string f0] w fun e w' => e = .returned (.int .i64 (k : Int)) ∧ Below w.heap.size w w')
  have HW := hid (fun (wr : World) (cap : Nat) (h : PB w wr [f0, f1, f2, f3, f4, f5] M) => owhole_yes (cap := cap) h.mids hm4 (hv.self h.low) q1 q2 q3 q4)
  have HU := hid (fun (wr : World) (hb : Below w.heap.size w wr) => puint_no f5 wr (hv.self hb) h5 hc)
  have Hn := hid hn
  have k0 : ((k : Int) == 0) = false := by simp; omega
  have k00 : ¬ (k : Int) = 0 := by omega
  clear hn hk hk1 hk2
  clear hv hs hm4 h5 hS hl hm hF
  go_enter Tryd.func5, Tryd.ntmps5
  go_wp2_with (first
    | (go_at_call 9; (with_reducible refine (HS.out).mono ?_); rintro e w1 ⟨rfl, hp⟩; have HP := hid hp; have c0 := hp.field 0 f0 rfl; clear hp)
    | (go_at_call 10; (with_reducible refine (HK.out w1).mono ?_); rintro e w2 ⟨rfl, hb⟩; have HP2 := hid (HP.out.on hb); clear hb)
    | (go_at_call 11; (refine (HW.out w2 _ HP2.out).mono ?_); rintro e w3 ⟨rfl, hb⟩; have HP3 := hid ((HP2.out.on hb).on ((Below.refl _ w3).alloc (Nat.le_refl _) (.cells #[.int .i64 na, .int .i64 nb, .int .i64 nc, .int .i64 nd] 29))); have c5 := HP3.out.field 5 f5 rfl; clear hb)
    | (go_at_call 12; (with_reducible refine (HU.out _ HP3.out.low).mono ?_); rintro e w5 ⟨z, nn, rfl, hb⟩; have HP5 := hid (HP3.out.on hb); obtain ⟨n0, n1, n2, n3⟩ := nums_cell hb; clear hb)
    | (refine step_store_row rfl 24 _ _ rfl w.heap.size 24 o0C o0C rfl rfl HP5.out.out (by kernel_rfl) rfl (by kernel_rfl) ?_))
  exact ret_row_tmp (p := 2) (u := 3) rfl rfl (HP5.out.row _) Tryd.underlying24 rfl (by kernel_rfl) rfl (HP5.out.no s Hn.out)
theorem i62 {f : ByteArray} {z : Int} (h : FdP f z) : -9223372036854775808 ≤ z ∧ z ≤ 9223372036854775807 := ⟨by have := h.2.1; omega, by have := h.2.2; omega⟩
set_option maxHeartbeats 6400000 in
theorem oparse_other (s : ByteArray) (w : World) (hv : VP w) (hs : s.size ≤ 1000) {f0 f1 f2 f3 f4 f5 : ByteArray} (hF : fdL s = [f0, f1, f2, f3, f4, f5]) (k : Nat) (hk1 : 1 ≤ k) (hk2 : k < 13) (hk : f0 = nmB (k : Int)) {na nb nc nd : Int} (q1 : FdP f1 na) (q2 : FdP f2 nb) (q3 : FdP f3 nc) (q4 : FdP f4 nd) {uc : Nat} (huc : uc < 18446744073709551616) (hc : Lib.parseUintB 64 f5.data.toList = .ok uc) (hne : sB (lnL ⟨(k : Int), na, nb, nc, nd, uc⟩) ≠ s) (hn : ∀ o, mayP o → sB (lnL o) ≠ s) : Calls Tryd.prog 5 #[.string s] w (ParP s w) := by
  have hS := split7 s w hv hs
  have hl := fd_len s
  obtain ⟨hm4, h5⟩ := fd_hs hF hs
  rw [hF] at hS hl
  have HS := hid hS
  generalize hm : min 7 (s.size + 1) = M at *
  have M1 : (6 : Int) ≤ (M : Int) := by simp at hl; omega
  have M2 : (5 : Int) ≤ (M : Int) := by omega
  have M3 : (1 : Int) ≤ (M : Int) := by omega
  have M4 : (5 : Nat) ≤ M := by omega
  have M5 : (1 : Nat) ≤ M := by omega
  have HK := hid (fun w => by have := okind_yes k hk1 hk2 w; rw [← hk] at this; exact this : ∀ w, Calls Tryd.prog 10 #[.string f0] w fun e w' => e = .returned (.int .i64 (k : Int)) ∧ Below w.heap.size w w')
  have HW := hid (fun (wr : World) (cap : Nat) (h : PB w wr [f0, f1, f2, f3, f4, f5] M) => owhole_yes (cap := cap) h.mids hm4 (hv.self h.low) q1 q2 q3 q4)
  have HU := hid (fun (wr : World) (hb : Below w.heap.size w wr) => puint_ok f5 wr (hv.self hb) h5 hc)
  have k0 : ((k : Int) == 0) = false := by simp; omega
  have k00 : ¬ (k : Int) = 0 := by omega
  have HLi := hid (fun (w' : World) (hb : Below w.heap.size w w') => oline_any ⟨(k : Int), na, nb, nc, nd, uc⟩ w' (i62 q1) (i62 q2) (i62 q3) (i62 q4) huc (hv.self hb).tabB)
  have HOp := hid (rfl : opW ⟨(k : Int), na, nb, nc, nd, uc⟩ = .agg #[.int .i64 (k : Int), .int .i64 na, .int .i64 nb, .int .i64 nc, .int .i64 nd, .int .u64 (uc : Int)])
  have HMay : Hid (mayP ⟨(k : Int), na, nb, nc, nd, uc⟩) := hid ⟨⟨by show (1 : Int) ≤ k; omega, by show (k : Int) ≤ 12; omega⟩, q1.2, q2.2, q3.2, q4.2, huc⟩
  generalize sB (lnL ⟨(k : Int), na, nb, nc, nd, uc⟩) = ln at *
  clear hk hk1 hk2 q1 q2 q3 q4 huc hc
  have Hn := hid hn
  have hq : (ln.toList == s.toList) = false := beq_eq_false_iff_ne.2 (fun h => hne (ba_list_inj h))
  clear hn hne
  clear hv hs hm4 h5 hS hl hm hF
  go_enter Tryd.func5, Tryd.ntmps5
  go_wp2_with (first
    | (go_at_call 9; (with_reducible refine (HS.out).mono ?_); rintro e w1 ⟨rfl, hp⟩; have HP := hid hp; have c0 := hp.field 0 f0 rfl; clear hp)
    | (go_at_call 10; (with_reducible refine (HK.out w1).mono ?_); rintro e w2 ⟨rfl, hb⟩; have HP2 := hid (HP.out.on hb); clear hb)
    | (go_at_call 11; (refine (HW.out w2 _ HP2.out).mono ?_); rintro e w3 ⟨rfl, hb⟩; have HP3 := hid ((HP2.out.on hb).on ((Below.refl _ w3).alloc (Nat.le_refl _) (.cells #[.int .i64 na, .int .i64 nb, .int .i64 nc, .int .i64 nd] 29))); have c5 := HP3.out.field 5 f5 rfl; clear hb)
    | (go_at_call 12; (with_reducible refine (HU.out _ HP3.out.low).mono ?_); rintro e w5 ⟨rfl, hb⟩; have HP5 := hid (HP3.out.on hb); obtain ⟨n0, n1, n2, n3⟩ := nums_cell hb; have HP6 := hid (HP5.out.on ((Below.refl _ w5).alloc (Nat.le_refl _) (.cells #[.int .i64 (k : Int), .int .i64 na, .int .i64 nb, .int .i64 nc, .int .i64 nd, .int .u64 (uc : Int)] 24))); have HOw := hid (heap_alloc_new w5 (.cells #[.int .i64 (k : Int), .int .i64 na, .int .i64 nb, .int .i64 nc, .int .i64 nd, .int .u64 (uc : Int)] 24)); clear hb)
    | (refine wpList_load_row rfl 24 _ rfl w5.heap.size rfl 24 #[.int .i64 (k : Int), .int .i64 na, .int .i64 nb, .int .i64 nc, .int .i64 nd, .int .u64 (uc : Int)] (0, 0) _ HOw.out Tryd.underlying24 rfl (by kernel_rfl) ?_)
    | (go_at_call 13; (refine (HLi.out _ HP6.out.low).mono ?_); rintro e w7 ⟨rfl, hb⟩; have HP7 := hid (HP6.out.on hb); have HOx := hid ((hb.block _ (by simp)).trans HOw.out); clear hb)
    | (refine step_store_row rfl 24 _ _ rfl w.heap.size 24 o0C o0C rfl rfl HP7.out.out (by kernel_rfl) rfl (by kernel_rfl) ?_))
  exact ret_row_tmp (p := 2) (u := 3) rfl rfl (HP7.out.row _) Tryd.underlying24 rfl (by kernel_rfl) rfl (HP7.out.no s Hn.out)
set_option maxHeartbeats 6400000 in
theorem oparse_line (s : ByteArray) (w : World) (hv : VP w) (hs : s.size ≤ 1000) {f0 f1 f2 f3 f4 f5 : ByteArray} (hF : fdL s = [f0, f1, f2, f3, f4, f5]) (k : Nat) (hk1 : 1 ≤ k) (hk2 : k < 13) (hk : f0 = nmB (k : Int)) {na nb nc nd : Int} (q1 : FdP f1 na) (q2 : FdP f2 nb) (q3 : FdP f3 nc) (q4 : FdP f4 nd) {uc : Nat} (huc : uc < 18446744073709551616) (hc : Lib.parseUintB 64 f5.data.toList = .ok uc) (hy : sB (lnL ⟨(k : Int), na, nb, nc, nd, uc⟩) = s) : Calls Tryd.prog 5 #[.string s] w (ParP s w) := by
  have hS := split7 s w hv hs
  have hl := fd_len s
  obtain ⟨hm4, h5⟩ := fd_hs hF hs
  rw [hF] at hS hl
  have HS := hid hS
  generalize hm : min 7 (s.size + 1) = M at *
  have M1 : (6 : Int) ≤ (M : Int) := by simp at hl; omega
  have M2 : (5 : Int) ≤ (M : Int) := by omega
  have M3 : (1 : Int) ≤ (M : Int) := by omega
  have M4 : (5 : Nat) ≤ M := by omega
  have M5 : (1 : Nat) ≤ M := by omega
  have HK := hid (fun w => by have := okind_yes k hk1 hk2 w; rw [← hk] at this; exact this : ∀ w, Calls Tryd.prog 10 #[.string f0] w fun e w' => e = .returned (.int .i64 (k : Int)) ∧ Below w.heap.size w w')
  have HW := hid (fun (wr : World) (cap : Nat) (h : PB w wr [f0, f1, f2, f3, f4, f5] M) => owhole_yes (cap := cap) h.mids hm4 (hv.self h.low) q1 q2 q3 q4)
  have HU := hid (fun (wr : World) (hb : Below w.heap.size w wr) => puint_ok f5 wr (hv.self hb) h5 hc)
  have k0 : ((k : Int) == 0) = false := by simp; omega
  have k00 : ¬ (k : Int) = 0 := by omega
  have HY := hid (⟨_, rfl, hy⟩ : ∃ o : Op6, o = ⟨(k : Int), na, nb, nc, nd, uc⟩ ∧ sB (lnL o) = s)
  have HLi := hid (fun (w' : World) (hb : Below w.heap.size w w') => oline_any ⟨(k : Int), na, nb, nc, nd, uc⟩ w' (i62 q1) (i62 q2) (i62 q3) (i62 q4) huc (hv.self hb).tabB)
  have HOp := hid (rfl : opW ⟨(k : Int), na, nb, nc, nd, uc⟩ = .agg #[.int .i64 (k : Int), .int .i64 na, .int .i64 nb, .int .i64 nc, .int .i64 nd, .int .u64 (uc : Int)])
  have HMay : Hid (mayP ⟨(k : Int), na, nb, nc, nd, uc⟩) := hid ⟨⟨by show (1 : Int) ≤ k; omega, by show (k : Int) ≤ 12; omega⟩, q1.2, q2.2, q3.2, q4.2, huc⟩
  generalize sB (lnL ⟨(k : Int), na, nb, nc, nd, uc⟩) = ln at *
  clear hk hk1 hk2 q1 q2 q3 q4 huc hc
  have hq : (ln.toList == s.toList) = true := by rw [hy]; exact beq_self_eq_true _
  clear hy
  clear hv hs hm4 h5 hS hl hm hF
  go_enter Tryd.func5, Tryd.ntmps5
  go_wp2_with (first
    | (go_at_call 9; (with_reducible refine (HS.out).mono ?_); rintro e w1 ⟨rfl, hp⟩; have HP := hid hp; have c0 := hp.field 0 f0 rfl; clear hp)
    | (go_at_call 10; (with_reducible refine (HK.out w1).mono ?_); rintro e w2 ⟨rfl, hb⟩; have HP2 := hid (HP.out.on hb); clear hb)
    | (go_at_call 11; (refine (HW.out w2 _ HP2.out).mono ?_); rintro e w3 ⟨rfl, hb⟩; have HP3 := hid ((HP2.out.on hb).on ((Below.refl _ w3).alloc (Nat.le_refl _) (.cells #[.int .i64 na, .int .i64 nb, .int .i64 nc, .int .i64 nd] 29))); have c5 := HP3.out.field 5 f5 rfl; clear hb)
    | (go_at_call 12; (with_reducible refine (HU.out _ HP3.out.low).mono ?_); rintro e w5 ⟨rfl, hb⟩; have HP5 := hid (HP3.out.on hb); obtain ⟨n0, n1, n2, n3⟩ := nums_cell hb; have HP6 := hid (HP5.out.on ((Below.refl _ w5).alloc (Nat.le_refl _) (.cells #[.int .i64 (k : Int), .int .i64 na, .int .i64 nb, .int .i64 nc, .int .i64 nd, .int .u64 (uc : Int)] 24))); have HOw := hid (heap_alloc_new w5 (.cells #[.int .i64 (k : Int), .int .i64 na, .int .i64 nb, .int .i64 nc, .int .i64 nd, .int .u64 (uc : Int)] 24)); clear hb)
    | (refine wpList_load_row rfl 24 _ rfl w5.heap.size rfl 24 #[.int .i64 (k : Int), .int .i64 na, .int .i64 nb, .int .i64 nc, .int .i64 nd, .int .u64 (uc : Int)] (0, 0) _ HOw.out Tryd.underlying24 rfl (by kernel_rfl) ?_)
    | (go_at_call 13; (refine (HLi.out _ HP6.out.low).mono ?_); rintro e w7 ⟨rfl, hb⟩; have HP7 := hid (HP6.out.on hb); have HOx := hid ((hb.block _ (by simp)).trans HOw.out); clear hb)
    | (refine wpList_load_row rfl 24 _ rfl w5.heap.size rfl 24 #[.int .i64 (k : Int), .int .i64 na, .int .i64 nb, .int .i64 nc, .int .i64 nd, .int .u64 (uc : Int)] (0, 0) _ HOx.out Tryd.underlying24 rfl (by kernel_rfl) ?_)
    | (refine step_store_row rfl 24 _ _ rfl w.heap.size 24 o0C #[.int .i64 (k : Int), .int .i64 na, .int .i64 nb, .int .i64 nc, .int .i64 nd, .int .u64 (uc : Int)] rfl rfl HP7.out.out (by kernel_rfl) rfl (by kernel_rfl) ?_))
  exact ret_row_tmp (p := 2) (u := 3) rfl rfl (HP7.out.row _) Tryd.underlying24 rfl (by kernel_rfl) rfl ⟨.inl ⟨⟨(k : Int), na, nb, nc, nd, uc⟩, HMay.out, (by obtain ⟨o, ho, hl⟩ := HY.out; rw [← ho]; exact hl), rfl⟩, below_row HP7.out.low (Nat.le_refl _) _⟩
theorem oparse_any (s : ByteArray) (w : World) (hv : VP w) (hs : s.size ≤ 1000) : Calls Tryd.prog 5 #[.string s] w (ParP s w) := by
  by_cases h6 : (fdL s).length = 6
  · obtain ⟨f0, f1, f2, f3, f4, f5, hF⟩ : ∃ f0 f1 f2 f3 f4 f5, fdL s = [f0, f1, f2, f3, f4, f5] := by
      generalize fdL s = F at h6
      match F, h6 with
      | [f0, f1, f2, f3, f4, f5], _ => exact ⟨f0, f1, f2, f3, f4, f5, rfl⟩
    by_cases hk : ∃ k : Nat, 1 ≤ k ∧ k < 13 ∧ f0 = nmB (k : Int)
    · obtain ⟨k, hk1, hk2, hk⟩ := hk
      by_cases hz : ∃ a b c d, FdP f1 a ∧ FdP f2 b ∧ FdP f3 c ∧ FdP f4 d
      · obtain ⟨a, b, c, d, q1, q2, q3, q4⟩ := hz
        by_cases hc : ∃ c, Lib.parseUintB 64 f5.data.toList = .ok c
        · obtain ⟨u, hu⟩ := hc
          have hu64 : u < 18446744073709551616 := by have := Lib.parseUintB_le hu; omega
          by_cases hl : sB (lnL ⟨(k : Int), a, b, c, d, u⟩) = s
          · exact oparse_line s w hv hs hF k hk1 hk2 hk q1 q2 q3 q4 hu64 hu hl
          · refine oparse_other s w hv hs hF k hk1 hk2 hk q1 q2 q3 q4 hu64 hu hl (fun o ho e => hl ?_)
            obtain ⟨e0, e1, e2, e3, e4, e5⟩ := line_is ho e hF
            obtain ⟨K, D, A, B, E, C⟩ := o
            obtain ⟨hK, _⟩ := ho
            simp only at e0 e1 e2 e3 e4 e5 hK
            obtain ⟨j, rfl⟩ := Int.eq_ofNat_of_zero_le (by omega : 0 ≤ K)
            obtain rfl := nm_one hk1 hk2 (hk.symm.trans e0)
            obtain rfl := fd_one q1 e1
            obtain rfl := fd_one q2 e2
            obtain rfl := fd_one q3 e3
            obtain rfl := fd_one q4 e4
            rw [hu] at e5
            injection e5 with e5
            subst e5
            exact e
        · exact oparse_nouint s w hv hs hF k hk1 hk2 hk q1 q2 q3 q4 hc (fun o ho e => hc ⟨_, (line_is ho e hF).2.2.2.2.2⟩)
      · exact oparse_nonum s w hv hs hF k hk1 hk2 hk hz (fun o ho e => by
          obtain ⟨_, e1, e2, e3, e4, _⟩ := line_is ho e hF
          exact hz ⟨_, _, _, _, e1, e2, e3, e4⟩)
    · exact oparse_nokind s w hv hs hF (fun k h1 h2 e => hk ⟨k, h1, h2, e.symm⟩) (fun o ho e => by
        obtain ⟨e0, _⟩ := line_is ho e hF
        obtain ⟨hK, _⟩ := ho
        obtain ⟨j, hj⟩ := Int.eq_ofNat_of_zero_le (by omega : 0 ≤ o.K)
        exact hk ⟨j, by omega, by omega, by rw [← hj]; exact e0⟩)
  · exact oparse_few s w hv hs h6 (fun o _ e => h6 (by rw [← e, fd_line]; rfl))
end Go.Proofs.YthfgpjebmhbedaaDoor
