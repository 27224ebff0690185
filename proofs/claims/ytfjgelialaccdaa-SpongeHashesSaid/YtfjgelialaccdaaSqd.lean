import Derived.Test.YtfjgelialaccdaaProg
import Derived.Test.YtfjgelialaccdaaSqc
/- Sponge: a state's first bytes, by the program. -/
namespace Go.Proofs.Ytfjgelialaccdaa
open Go.RowKit
set_option maxRecDepth 100000

theorem store8 (x : Nat) (hx : x < 2 ^ 64) (w : World) : Calls Try.prog 62 #[.int .u64 (x : Int), .int .i64 8] w fun e w' => CatP w (rsL (x : Int) 8) e w' := by
  have := store_any (x : Int) 8 w (by have : x < 18446744073709551616 := hx; omega)
  rw [show (min (max (8 : Int) 0) 8).toNat = 8 from rfl, store_math] at this
  exact this
/-- Room for n bytes, of which none is there. -/
theorem smake_room (w : World) (n : Nat) (hn : n ≤ 70368744177664) :
    (Instr.makeSlice 22 (.int .i64 0) (.int .i64 n)).run Try.prog w = .ok (.slice (some ⟨w.heap.size, 0, none⟩) 0 n) (w.alloc (.cells (madeCells #[.int .u8 0] n) 5)) := by
  obtain ⟨i0, hi, hz0, hz1, hz2⟩ := info_parts info8
  have := run_make (P := Try.prog) w 22 5 i0 _ Try.underlying22 hi hz0 .i64 .i64 0 n (by omega) (by omega) (by rw [hz2]; simp; omega) (by omega)
  rw [this]
  simp [hz1, Value.cells]
theorem sown_room (w : World) (n : Nat) (hn : n ≤ maxLen) : Own .u8 w.heap.size 5 (w.alloc (.cells (madeCells #[.int .u8 0] n) 5)) (.slice (some ⟨w.heap.size, 0, none⟩) 0 n) [] :=
  ⟨rfl, .inr ⟨w.heap.size, n, madeCells #[.int .u8 0] n, rfl, Nat.le_refl _, heap_alloc_new w _, Nat.zero_le _, hn, by simp [size_madeCells], by simp⟩⟩
set_option maxHeartbeats 1600000 in
theorem first_any (q : Nat) (F : Nat → Nat) (w : World) (hF : W25 F) (hq : 1 ≤ q ∧ q ≤ 24) : Calls Try.prog 57 #[.agg (wa 25 F), .int .i64 ((8 * q : Nat) : Int)] w fun e w' => CatP w (wdL F q) e w' := by
  obtain ⟨R, hR⟩ : ∃ R, 8 * q = R := ⟨_, rfl⟩
  rw [hR]
  have g1 : (R : Int).tdiv 8 = (q : Int) := by rw [Int.tdiv_eq_ediv_of_nonneg (by omega)]; omega
  have g2 : (R : Int) / 8 = (q : Int) := by omega
  have hA : Aw (w.alloc (.cells (wa 25 F) 45)) w.heap.size 25 45 F := Aw.new w 25 45 F
  have HA := hid hA
  have hmk := smake_room (w.alloc (.cells (wa 25 F) 45)) R (by omega)
  rw [World.size_alloc] at hmk
  have HQ := hid hq
  have hq24 : (q : Int) ≤ 25 := by omega
  have HF := hid hF
  have HSt := hid (fun (x : Nat) (w : World) (h : x < 2 ^ 64) => store8 x h w)
  have HI0 : Hid (SmI w ((w.alloc (.cells (wa 25 F) 45)).alloc (.cells (madeCells #[.int .u8 0] R) 5)) (.slice (some ⟨w.heap.size + 1, 0, none⟩) 0 R) (wdL F 0) F) := hid
    ⟨hA.alloc _, by have := sown_room (w.alloc (.cells (wa 25 F) 45)) R (by unfold maxLen; omega); rw [World.size_alloc] at this; exact this, ((Below.refl _ _).alloc (Nat.le_refl _) _).alloc (by simp) _⟩
  clear hA hF hq hR
  go_enter Try.func57, Try.ntmps57
  go_wp2
  clear hmk
  go_loopw [5, 14] (fun o k wr => ∃ K : Nat, K ≤ q ∧ k = .int .i64 K ∧ SmI w wr o (wdL F K) F) (fun _ k _ => q - (intOf k).toNat)
  case atStart => exact ⟨0, Nat.zero_le _, rfl, HI0.out⟩
  case round =>
    obtain ⟨K, hK, rfl, hI⟩ := hrel
    have HJ := hid hI
    clear hI HI0
    by_cases hlt : K < q
    · have c1 := HJ.out.var.cell (j := K) (by have := HQ.out; omega)
      have b1 := HF.out K (by have := HQ.out; omega)
      have HS8 := hid (HSt.out (F K) wr b1)
      have HMo := hid (fun w3 w' v' ho hl hl2 => SmI.more (L := []) (K := K) (w3 := w3) (w' := w') (v' := v') HJ.out ho hl hl2)
      simp only [List.nil_append] at HMo
      have HLim : Hid (((wdL F K).length + (rsL (F K : Int) 8).length) * (IntKind.u8.bits / 8) ≤ 140737488355328) := hid (by
        rw [wdL_len, rsL_len]
        have := HQ.out
        show (_ + _) * 1 ≤ _
        omega)
      have HR8 : Hid ((rsL (F K : Int) 8).length = 8 ∧ ∀ z ∈ rsL (F K : Int) 8, (Lit.int .u8 z).wf = true) := hid ⟨rsL_len _ 8, fun z hz => WalkArith.wf_u8 (rsL_bytes (by omega) 8 z hz)⟩
      generalize rsL (F K : Int) 8 = r8 at *
      generalize F K = s1 at *
      have n2 : (K : Int) < 25 := by have := HQ.out; omega
      have n3 : (0 : Int) ≤ (K : Int) := by omega
      have n4 : (K : Int) < (q : Int) := by omega
      have HKq : Hid (K < q) := hid hlt
      have HB1 : Hid (w.heap.size + 1 ≤ wr.heap.size) := hid HJ.out.var.lt
      clear hlt hK b1
      go_wp2_with (first
        | (go_at_call 62; (with_reducible refine (HS8.out).mono ?_); rintro e w3 ⟨v3, rfl, ho, hl⟩; have HO3 : Hid (Rd .u8 w3 v3 r8) := hid (ho.rd (by rw [HR8.out.1]; decide) HR8.out.2); have HJ3 := hid (own_up HJ.out.row hl); have HL3 := hid hl; clear ho hl)
        | (at_builtin; refine wpList_append_rd rfl (.tmp 18) (.tmp 20) 22 rfl .u8 (w.heap.size + 1) 5 Try.underlying22 cinfob (by decide) _ _ rfl HJ3.out _ _ rfl HO3.out HLim.out (Nat.le_trans HB1.out HL3.out.size) (w.heap.size + 1) w3 (Below.refl _ _) (Nat.le_refl _) ?_; intro v4 w4 hown hlow _; have HJ4 := hid (HMo.out w3 w4 v4 hown HL3.out hlow); clear hown hlow))
      go_roundw
      case rel => exact ⟨K + 1, HKq.out, by go_num, HJ4.out⟩
      case measure => have := HKq.out; simp [intOf]; omega
    · obtain rfl : K = q := by omega
      have n3 : ¬ (K : Int) < (K : Int) := by omega
      go_wp2
      go_ret
      exact ⟨_, rfl, own_base HJ.out.row (Nat.le_succ _), HJ.out.low⟩
end Go.Proofs.Ytfjgelialaccdaa
