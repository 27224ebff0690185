import Derived.Test.YtfjgelialaccdaaProg
import Derived.Test.YtfjgelialaccdaaSqd
/- Sponge: a piece is entered. -/
namespace Go.Proofs.Ytfjgelialaccdaa
open Go.RowKit
set_option maxRecDepth 100000

/-- On the way through the words: K of them have been turned. -/
structure Ei (w : World) (b R : Nat) (mk : Int) (F G : Nat → Nat) (a : Nat) (r : Bool) (K : Nat) (wr : World) : Prop where
  obj : Wo wr b R mk (mix K F G) a r
  low : Only b w wr
theorem Ei.step {w wr : World} {b R a K : Nat} {mk : Int} {F G : Nat → Nat} {r : Bool} (h : Ei w b R mk F G a r K wr) (hK : K < 25) {v : Int} {z : Nat} (hv : v = (z : Int)) (hz : z = G K) :
    Ei w b R mk F G a r (K + 1) (wr.setCell ⟨b, 2 + K, none⟩ (.int .u64 v)) := by
  subst hv
  refine ⟨?_, h.low.trans (Only.set (p := ⟨b, 2 + K, none⟩) _ rfl _)⟩
  rw [← mix_step K F G hz]
  exact h.obj.setW hK z
theorem Ei.drew {w wr : World} {b R a K : Nat} {mk : Int} {F G : Nat → Nat} {r : Bool} (h : Ei w b R mk F G a r K wr) : Ei w b R mk F G a r K wr.drew := ⟨h.obj.drew, h.low.drew⟩
/-- How a piece leaves a hash at work. -/
def EnP (w : World) (b q a : Nat) (mk : Int) (F : Nat → Nat) (r : Bool) (ps : List Int) (e : Ending) (w' : World) : Prop :=
  (∃ v, e = .returned v) ∧ Only b w w' ∧ (a + ps.length < 8 * q → Wo w' b (8 * q) mk (entF q a ps F) (a + ps.length) r) ∧ (a + ps.length = 8 * q → Wo w' b (8 * q) mk (pm tun mkf 24 (entF q a ps F)) 0 r)
set_option maxHeartbeats 1600000 in
theorem enter_any (b q a : Nat) (mk : Int) (F : Nat → Nat) (r : Bool) (v : Value) (ps : List Int) (w : World) (hW : Wo w b (8 * q) mk F a r) (hF : W25 F) (hq : 1 ≤ q ∧ q ≤ 24) (hk : Kept b w v ps) (ha : a + ps.length ≤ 8 * q) :
    Calls Try.prog 44 #[.pointer (some ⟨b, 0, none⟩), v] w fun e w' => EnP w b q a mk F r ps e w' := by
  have HL : Hid (∀ W, Only b w W → ∀ d : Int, -1000 ≤ d ∧ d ≤ 1000 → Calls Try.prog 54 #[v, .int .i64 d] W fun e w' => e = .returned (.int .u64 (lwN ps d : Nat)) ∧ w' = W) := hid fun W hW d hd => by
    have h := hk W hW
    have := load_any v ps d W h (by omega) (by omega)
    rw [load_math (wfs_of h), (lw_at ps d).1] at this
    exact this
  have HEn : Hid (entF q a ps F = mix q F (fun i => F i ^^^ lwN ps (8 * (i : Int) - (a : Int)))) := hid rfl
  have HEw := hid (ent_w (q := q) (a := a) (ps := ps) hF)
  unfold EnP
  obtain ⟨R, hR⟩ : ∃ R, 8 * q = R := ⟨_, rfl⟩
  rw [hR] at hW ha ⊢
  obtain ⟨cap, p, rfl⟩ : ∃ cap p, v = .slice p ps.length cap := by obtain ⟨p, cap, e, _⟩ := hk.rd; exact ⟨cap, p, e⟩
  obtain ⟨L, hL⟩ : ∃ L, ps.length = L := ⟨_, rfl⟩
  rw [hL] at HL ha ⊢
  obtain ⟨G, hG⟩ : ∃ G : Nat → Nat, G = (fun i => F i ^^^ lwN ps (8 * (i : Int) - (a : Int))) := ⟨_, rfl⟩
  have HG := hid hG
  rw [← hG] at HEn
  have HI0 : Hid (Ei w b R mk F G a r 0 w) := hid ⟨by rw [mix_zero]; exact hW, Only.refl _ _⟩
  obtain ⟨E, hE⟩ : ∃ E, entF q a ps F = E := ⟨_, rfl⟩
  rw [hE] at HEn HEw ⊢
  clear hE
  obtain ⟨a2, ha2⟩ : ∃ a2, a + L = a2 := ⟨_, rfl⟩
  rw [ha2] at ha ⊢
  have g1 : (R : Int).tdiv 8 = (q : Int) := by rw [Int.tdiv_eq_ediv_of_nonneg (by omega)]; omega
  have g2 : (R : Int) / 8 = (q : Int) := by omega
  have hq24 : (q : Int) ≤ 24 := by omega
  have HQ := hid hq
  have HA2 := hid ha2
  have HA : Hid (a2 ≤ R ∧ R = 8 * q ∧ R ≤ 192) := hid ⟨ha, hR.symm, by omega⟩
  have HF := hid hF
  have c0 := hW.rate
  clear hk hR hL hF hW ha hq hG ha2
  go_enter Try.func44, Try.ntmps44
  go_wp2
  clear c0
  go_loopw [10] (fun k wr => ∃ K : Nat, K ≤ q ∧ k = .int .i64 K ∧ Ei w b R mk F G a r K wr) (fun k _ => q - (intOf k).toNat)
  case atStart => exact ⟨0, Nat.zero_le _, rfl, HI0.out⟩
  case round =>
    obtain ⟨K, hK, rfl, hI⟩ := hrel
    have HJ := hid hI
    clear hI HI0
    by_cases hlt : K < q
    · obtain ⟨k8, hk8⟩ : ∃ k8, K * 8 = k8 := ⟨_, rfl⟩
      obtain ⟨d, hd⟩ : ∃ d : Int, (k8 : Int) - (a : Int) = d := ⟨_, rfl⟩
      have e1 : IntKind.i64.wrap ((K : Int) * 8) = (k8 : Int) := by rw [IntKind.wrap_i64]; omega
      have hdb : -1000 ≤ d ∧ d ≤ 1000 := by have := HA.out; have := HA2.out; omega
      have e2 : IntKind.i64.wrap ((k8 : Int) - (a : Int)) = d := by rw [IntKind.wrap_i64]; omega
      have HLD := hid (HL.out wr.drew HJ.out.drew.low d hdb)
      have c1 := HJ.out.drew.obj.word (j := K) (by omega)
      rw [mix_here] at c1
      have f1 := HJ.out.drew.obj.free (2 + K)
      have c2 := HJ.out.drew.obj.at
      have b1 := HF.out K (by omega)
      have b2 := (lw_at ps d).2
      have HX := hid (x64 b1 b2)
      have HGK : Hid (F K ^^^ lwN ps d = G K) := hid (by rw [HG.out]; show F K ^^^ lwN ps d = F K ^^^ lwN ps (8 * (K : Int) - (a : Int)); rw [show 8 * (K : Int) - (a : Int) = d by omega])
      have HT := hid (fun v z hv hz => HJ.out.drew.step (K := K) (by omega) (v := v) (z := z) hv hz)
      generalize lwN ps d = s2 at *
      generalize F K = s1 at *
      have n1 : (K : Int) < 25 := by omega
      have n2 : (0 : Int) ≤ (K : Int) := by omega
      have n3 : (K : Int) < (q : Int) := by omega
      have HKq : Hid (K < q) := hid hlt
      clear hk8 hd hdb hlt hK b1 b2
      go_wp2
      refine region_tail 19 (by kernel_rfl) (by kernel_rfl) ?_
      simp only [List.take_succ_cons, List.take_zero, List.drop_succ_cons, List.drop_zero]
      generalize wr.drew = w2 at *
      repeat still_step
      still_call (HLD.out)
      repeat still_step
      refine wpStill_nil ?_
      go_wp2
      go_roundw
      case rel => exact ⟨K + 1, HKq.out, by go_num, HT.out _ _ HX.out HGK.out⟩
      case measure => have := HKq.out; simp [intOf]; omega
    · obtain rfl : K = q := by omega
      have n3 : ¬ (K : Int) < (K : Int) := by omega
      have hm := HA.out
      have e3 : IntKind.i64.wrap ((a : Int) + (L : Int)) = (a2 : Int) := by rw [IntKind.wrap_i64]; have := HA2.out; omega
      have c27 := HJ.out.obj.at
      have f27 := HJ.out.obj.free 27
      have HO : Hid (Wo (wr.setCell ⟨b, 27, none⟩ (.int .i64 (a2 : Int))) b R mk E a2 r ∧ Only b w (wr.setCell ⟨b, 27, none⟩ (.int .i64 (a2 : Int)))) := hid
        ⟨by rw [HEn.out]; exact HJ.out.obj.setA a2, HJ.out.low.trans (Only.set (p := ⟨b, 27, none⟩) _ rfl _)⟩
      have hle := hm.1
      clear HJ hK hlt hm
      go_wp2
      clear c27 f27
      generalize wr.setCell ⟨b, 27, none⟩ (.int .i64 (a2 : Int)) = w2 at *
      have c0 := HO.out.1.rate
      have c27 := HO.out.1.at
      by_cases he : a2 = R
      · have he2 : (a2 : Int) = (R : Int) := by omega
        have HE := hid he
        clear he
        go_region
        have HP := hid (perm_any (HO.out.1.drew) HEw.out)
        have HD := hid HO.out.2.drew
        go_wp2_with (first
          | (go_at_call 55; (with_reducible refine (HP.out).mono ?_); rintro e w3 ⟨⟨v3, rfl⟩, h3, h4⟩; have HO3 := hid h3; have HL3 := hid (HD.out.trans h4); clear h3 h4))
        exact bodyPost_end (results_none rfl _ _ _) rfl ⟨⟨_, rfl⟩, HL3.out, fun h => absurd HE.out (Nat.ne_of_lt h), fun _ => HO3.out⟩
      · have he2 : ¬ ((a2 : Int) = (R : Int)) := by omega
        have HE := hid he
        clear he
        go_region
        go_wp2
        exact bodyPost_end (results_none rfl _ _ _) rfl ⟨⟨_, rfl⟩, HO.out.2.drew, fun _ => HO.out.1.drew, fun h => absurd h HE.out⟩
end Go.Proofs.Ytfjgelialaccdaa
