import Derived.Test.YtiejaedljebbfaaProg
import Derived.Test.YtiejaedljebbfaaCtk
/- CtrTells: a begin that has not 16 bytes; where the example alone is looked at; all together. -/
namespace Go.Proofs.Ytiejaedljebbfaa
open Go.RowKit
set_option maxRecDepth 100000

theorem ckr_len {L : Nat} (h : L ≠ 16) (q : Bool) : ckr L q = 5 := if_pos h
set_option maxHeartbeats 12800000 in
theorem tells_len (kb ko kc L R R1 Lb bc dc M : Nat) (n : Int) (ba da : Option Addr) (Y : Nat → Nat → Nat) (w : World) (hr : rnd (L : Int) = R) (hk : Ky w (.slice (some ⟨kb, ko, none⟩) L kc) R R1 Y) (hl : Lb ≠ 16)
    (hM : M ≤ 2000) (hn : ¬ n > 2000 ∨ ¬ n ≤ 65536) :
    Calls Try.prog 3 #[.slice (some ⟨kb, ko, none⟩) L kc, .slice ba Lb bc, .slice da M dc, .int .i64 n] w fun e w' => e = .returned (.bool true) ∧ Below w.heap.size w w' := by
  have HRD := hid (fun w => by have := refrounds_any (L : Int) w; rw [hr] at this; exact this)
  have r0 : ((R : Int) == 0) = false := by have := hk.num.2.1; rw [beq_eq_false_iff_ne]; omega
  have HN := hid (hk.new w (Below.refl _ _))
  unfold NewD at HN
  have HC1 := hid (fun w => by have := check_any ba Lb bc n w; rw [ckr_len hl] at this; exact this)
  have HC2 := hid (fun w => by have := check_any ba Lb bc M w; rw [ckr_len hl] at this; exact this)
  have HS := hid (fun d w => by have := stream_bad (.pointer (some ⟨d, 0, none⟩)) ba Lb bc n w (by rw [ckr_len hl]; decide); rw [ckr_len hl] at this; exact this)
  have HV := hid (fun d w => by have := cover_bad (.pointer (some ⟨d, 0, none⟩)) ba da Lb bc M dc w (by rw [ckr_len hl]; decide); rw [ckr_len hl] at this; exact this)
  have HA := hid (fun w => by have := at_bad ba Lb bc n w (.inl hl); rw [ckr_len hl] at this; exact this)
  have h1 : ¬ (M : Int) > 2000 := by omega
  have hl1 : ¬ ((Lb : Int) = 16) := by omega
  have hl2 : ((Lb : Int) != 16) = true := by rw [bne_iff_ne]; exact hl1
  unfold none2 at *
  clear hr hk hM hl
  rcases hn with hn | hn
  all_goals
    go_enter Try.func3, Try.ntmps3
    go_wp2_with (first
      | (go_at_call 6; (with_reducible refine (HRD.out _).mono ?_); rintro e w ⟨rfl, rfl⟩)
      | (go_at_call 8; (with_reducible refine HN.out.mono ?_); rintro e w1 ⟨d, b, c, cap, rfl, hci, hb, hlow⟩
         have HL1 : Hid (Lw b w w1) := hid ⟨hlow, hb, hci.box.lt⟩
         clear hci hb hlow)
      | (go_at_call 9; (with_reducible refine (HS.out d w1).mono ?_); rintro e w1 ⟨rfl, rfl⟩)
      | (go_at_call 10; (with_reducible refine (HV.out d w1).mono ?_); rintro e w1 ⟨rfl, rfl⟩)
      | (go_at_call 11; (with_reducible refine (HA.out w1).mono ?_); rintro e w1 ⟨rfl, rfl⟩)
      | (go_at_call 12; (with_reducible refine (HC1.out _).mono ?_); rintro e w1 ⟨rfl, rfl⟩)
      | (go_at_call 12; (with_reducible refine (HC2.out _).mono ?_); rintro e w1 ⟨rfl, rfl⟩)
      | (go_at_call 7; (with_reducible refine (ctrAwake_any w1).mono ?_); rintro e w9 ⟨rfl, hlow⟩
         have HL9 := hid (HL1.out.self hlow)
         clear hlow))
    go_ret
    exact ⟨rfl, HL9.out.low⟩

/-- What is looked at, if not all may be. -/
def onlyAwake (L M : Nat) (n : Int) : Prop := rnd (L : Int) = 0 ∨ M > 2000 ∨ (n > 2000 ∧ n ≤ 65536)
set_option maxHeartbeats 6400000 in
theorem tells_awake (L kc M dc : Nat) (n : Int) (ka da : Option Addr) (bv : Value) (w : World) (h : onlyAwake L M n) :
    Calls Try.prog 3 #[.slice ka L kc, bv, .slice da M dc, .int .i64 n] w fun e w' => e = .returned (.bool true) ∧ Below w.heap.size w w' := by
  have HRD := hid (fun w => refrounds_any (L : Int) w)
  generalize hx : rnd (L : Int) = x at *
  have hc : x = 0 ∨ (x ≠ 0 ∧ M > 2000) ∨ (x ≠ 0 ∧ M ≤ 2000 ∧ n > 2000 ∧ n ≤ 65536) := by
    have := h; unfold onlyAwake at this; rw [hx] at this
    omega
  clear h hx
  rcases hc with h0 | ⟨h0, h1⟩ | ⟨h0, h1, h2, h3⟩
  · subst h0
    go_enter Try.func3, Try.ntmps3
    go_wp2_with (first
      | (go_at_call 6; (with_reducible refine (HRD.out _).mono ?_); rintro e w ⟨rfl, rfl⟩)
      | (go_at_call 7; (with_reducible refine (ctrAwake_any w).mono ?_); rintro e w9 ⟨rfl, hlow⟩; have HL9 := hid hlow; clear hlow))
    go_ret
    exact ⟨rfl, HL9.out⟩
  · have r0 : ((x : Int) == 0) = false := by rw [beq_eq_false_iff_ne]; omega
    have h1' : (M : Int) > 2000 := by omega
    clear h0 h1
    go_enter Try.func3, Try.ntmps3
    go_wp2_with (first
      | (go_at_call 6; (with_reducible refine (HRD.out _).mono ?_); rintro e w ⟨rfl, rfl⟩)
      | (go_at_call 7; (with_reducible refine (ctrAwake_any w).mono ?_); rintro e w9 ⟨rfl, hlow⟩; have HL9 := hid hlow; clear hlow))
    go_ret
    exact ⟨rfl, HL9.out⟩
  · have r0 : ((x : Int) == 0) = false := by rw [beq_eq_false_iff_ne]; omega
    have h1' : ¬ (M : Int) > 2000 := by omega
    clear h0 h1
    go_enter Try.func3, Try.ntmps3
    go_wp2_with (first
      | (go_at_call 6; (with_reducible refine (HRD.out _).mono ?_); rintro e w ⟨rfl, rfl⟩)
      | (go_at_call 7; (with_reducible refine (ctrAwake_any w).mono ?_); rintro e w9 ⟨rfl, hlow⟩; have HL9 := hid hlow; clear hlow))
    go_ret
    exact ⟨rfl, HL9.out⟩

theorem ctells_core (kv bv dv : Value) (ks bs ds : List Int) (n : Int) (w : World) (hk : Rd .u8 w kv ks) (hb : Rd .u8 w bv bs) (hd : Rd .u8 w dv ds) (hcap : ∀ a n c, kv = .slice a n c → n ≤ c ∧ c ≤ maxLen) (hn : -9223372036854775808 ≤ n ∧ n ≤ 9223372036854775807) :
    Calls Try.prog 3 #[kv, bv, dv, .int .i64 n] w fun e w' => e = .returned (.bool true) ∧ Below w.heap.size w w' := by
  by_cases ha : onlyAwake ks.length ds.length n
  · obtain ⟨ka, kc, rfl, -⟩ := hk
    obtain ⟨da, dc, rfl, -⟩ := hd
    exact tells_awake _ kc _ dc n ka da bv w ha
  · unfold onlyAwake at ha
    obtain ⟨kb, ko, kc, R, R1, Y, rfl, hr, hky⟩ := ky_any kv ks w hk hcap (by omega)
    have hM : ds.length ≤ 2000 := by omega
    have hdn := ns_of hd
    have hdb : ∀ j, j < ds.length → (fun j => (nth ds j).toNat) j < 256 := fun j _ => nth_lt hd j
    generalize (fun j => (nth ds j).toNat) = δ at *
    by_cases hl : bs.length = 16
    · obtain ⟨bb, bo, bc, rfl, hw⟩ := Wd.of_rd hb (by omega)
      rw [hl] at hw ⊢
      generalize (fun j => (nth bs j).toNat) = f at *
      generalize ds.length = M at *
      subst hdn
      obtain ⟨da, dc, rfl, -⟩ := id hd
      rw [ns_len] at *
      by_cases h0 : n < 0
      · exact tells_neg kb ko kc _ R R1 bb bo bc dc M n da Y f δ w hr hky hw hd hdb hM h0
      · obtain ⟨m, rfl⟩ : ∃ m : Nat, n = m := ⟨n.toNat, by omega⟩
        by_cases h1 : (m : Int) > 65536
        · exact tells_big kb ko kc _ R R1 bb bo bc dc M m da Y f δ w hr hky hw hd hdb hM h1 (by omega)
        · exact tells_ok kb ko kc _ R R1 bb bo bc dc M m da Y f δ w hr hky hw hd hdb hM (by omega)
    · obtain ⟨ba, bc, rfl, -⟩ := hb
      obtain ⟨da, dc, rfl, -⟩ := hd
      exact tells_len kb ko kc _ R R1 _ bc dc _ n ba da Y w hr hky hl hM (by omega)
end Go.Proofs.Ytiejaedljebbfaa
