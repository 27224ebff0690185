import Derived.Test.YtolagogfjfcmaaaOnce
import Derived.BigGuardPart
import Derived.Deep.RegionHeld3
namespace Go.Proofs.Ytolagogfjfcmaaa
open Go.RowKit

/-- What holds at each round's head: the tape, the document's tape, and where they lie. -/
def PlayInv (N : Nat) (w0 w : World) (lo hi b ml mh m : Nat) (zs : List Int) (d e : Nat) : Prop :=
  TapeAt w lo hi b zs d e ∧ ModelAt w ml mh m (zs.drop d) d (e - d) ∧ Below N w0 w ∧ N ≤ lo ∧ N ≤ ml ∧ (hi ≤ ml ∨ mh ≤ lo)

section
variable {N : Nat} {w0 w w' : World} {lo hi b ml mh m : Nat} {zs : List Int} {d e d' e' : Nat}
theorem PlayInv.size (h : PlayInv N w0 w lo hi b ml mh m zs d e) : N ≤ w.heap.size := by
  have := h.1.lt; have := h.2.2.2.1; omega
/-- The tape has been turned. -/
theorem PlayInv.mid (h : PlayInv N w0 w lo hi b ml mh m zs d e) (o : Only b w w') : ModelAt w' ml mh m (zs.drop d) d (e - d) ∧ Below N w0 w' := by
  have hs := h.size
  obtain ⟨h1, h2, h3, h4, h5, h6⟩ := h
  have := h1.lt; have := h2.lt
  exact ⟨h2.only o (by omega), o.belowN h3 (by omega) hs⟩
/-- And then the document's. -/
theorem PlayInv.back {w2 : World} (h : PlayInv N w0 w lo hi b ml mh m zs d e) (t : TapeAt w' lo hi b zs d' e') (o : Only b w w') (t2 : ModelAt w2 ml mh m (zs.drop d') d' (e' - d')) (o2 : Only m w' w2) : PlayInv N w0 w2 lo hi b ml mh m zs d' e' := by
  have hs := h.size
  have hb := (h.mid o).2
  obtain ⟨h1, h2, h3, h4, h5, h6⟩ := h
  have := h1.lt; have := h2.lt; have := o.size
  exact ⟨t.only o2 (by omega), t2, o2.belowN hb (by omega) (by omega), h4, h5, h6⟩
theorem PlayInv.drewN (h : PlayInv N w0 w lo hi b ml mh m zs d e) (n : Nat) : PlayInv N w0 (w.drewN n) lo hi b ml mh m zs d e := by
  obtain ⟨h1, h2, h3, h4, h5, h6⟩ := h
  exact ⟨h1.drewN n, h2.drewN n, h3.trans ⟨rfl, rfl, rfl, Nat.le_refl _, fun _ _ => rfl⟩, h4, h5, h6⟩
/-- The tape's clone goes on; the elder is drawn from. -/
theorem PlayInv.cloned {w2 : World} {b2 : Nat} (h : PlayInv N w0 w lo hi b ml mh m zs d e) (t : TapeAt w' w.heap.size w'.heap.size b2 zs d e) (l : Below w.heap.size w w') (o : Only b w' w2) : PlayInv N w0 w2 w.heap.size w'.heap.size b2 ml mh m zs d e := by
  have hs := h.size
  obtain ⟨h1, h2, h3, h4, h5, h6⟩ := h
  have := h1.lt; have := h2.lt; have := l.size
  exact ⟨t.only o (by omega), (h2.below l).only o (by omega), o.belowN (h3.trans (l.mono hs)) (by omega) (by omega), hs, h5, by omega⟩
/-- What the walk reads of the document's tape. -/
theorem PlayInv.cells (h : PlayInv N w0 w lo hi b ml mh m zs d e) : ∃ (p : Option Addr) (n c f : Nat), w.cell? ⟨m, 0, none⟩ = some (.slice p n c) ∧ w.cell? ⟨m, 1, none⟩ = some (.int .i64 d) ∧ w.cell? ⟨m, 2, none⟩ = some (.int .i64 f) ∧
    ((zs.length : Int) - d != (n : Int)) = false ∧ ((e : Int) - d != (f : Int)) = false := by
  have hl := h.1.len
  obtain ⟨_, ⟨wv, hb, hr, _⟩, _⟩ := h
  obtain ⟨a, cap, rfl, _⟩ := hr
  obtain ⟨c0, c1, c2, _⟩ := cells3 hb
  refine ⟨a, _, cap, e - d, c0, c1, c2, ?_, ?_⟩
  · simp; omega
  · simp; omega
end

set_option maxHeartbeats 1000000 in
set_option maxRecDepth 100000 in
theorem plays_any (v : Value) (zs : List Int) (L cap : Nat) (a : Option Addr) (K N : Nat → Int) (w : World) (h : Rd .u64 w v zs) (hl : L ≤ 1000000000000000000)
    (hc : 0 < L → ∃ b off, a = some ⟨b, off, none⟩ ∧ b < w.heap.size ∧ ∀ i, i < L → w.cell? ⟨b, off + i * 2, none⟩ = some (.int .i64 (K i)) ∧ w.cell? ⟨b, off + i * 2 + 1, none⟩ = some (.int .i64 (N i))) :
    Calls Try.prog 3 #[v, .slice a L cap] w fun e w' => e = .returned (.bool true) ∧ Below w.heap.size w w' := by
  have HR := hid h
  have hlz : zs.length * 8 ≤ 140737488351232 := by obtain ⟨_, _, _, h, _⟩ := h; simpa [IntKind.bits] using h
  have HLZ := hid hlz
  have hlz2 : zs.length ≤ 17592186043904 := by omega
  have HWF := hid (wfs_of h)
  clear h hlz
  have HC := hid hc
  have HLI : Hid ((([] : List Int).length + zs.length) * (IntKind.u64.bits / 8) ≤ 140737488355328) := hid (by simp [IntKind.bits]; omega)
  clear hc
  go_enter Try.func3, Try.ntmps3
  go_wp2_with (first
    | (go_at_call 5; (with_reducible refine (draw_nil _).mono ?_); rintro r w1 ⟨rfl, rfl⟩)
    | (go_at_call 6; (with_reducible refine (reserve_nil _ _).mono ?_); rintro r w1 ⟨rfl, rfl⟩)
    | (go_at_call 7; (with_reducible refine (left_nil _).mono ?_); rintro r w1 ⟨rfl, rfl⟩)
    | (go_at_call 8; (with_reducible refine (used_nil _).mono ?_); rintro r w1 ⟨rfl, rfl⟩)
    | (go_at_call 9; (with_reducible refine (allowed_nil _).mono ?_); rintro r w1 ⟨rfl, rfl⟩)
    | (go_at_call 10; (with_reducible refine (clone_nil _).mono ?_); rintro r w1 ⟨rfl, rfl⟩)
    | (go_at_call 11; refine (new_any _ zs _ HR.out).mono ?_; rintro r w1 ⟨b, rfl, ht, hlow⟩; have hb := ht.lt; have H1 := hid ht; have HL := hid hlow; have hs := hlow.size; clear ht hlow)
    | (refine wpList_append_rd rfl (.tmp 49) (.tmp 50) 22 rfl .u64 w1.heap.size 25 Try.underlying22 info25 (by decide) _ [] rfl (own_empty w1 (Nat.le_refl _)) _ zs rfl ((HR.out.self HL.out).self ((Below.refl w1.heap.size w1).alloc (Nat.le_refl _) _)) HLI.out (by simp) w1.heap.size w1 ((Below.refl _ _).alloc (Nat.le_refl _) _) (Nat.le_refl _) ?_; intro u w2 hown hlow hsz1; rw [List.nil_append] at hown; obtain ⟨pu, cu, rfl, hq1, hq2⟩ := hown.slice; clear hq1 hq2; have HO := hid hown; have HL2 := hid hlow; have hs2 := hlow.size; clear hown hlow hsz1))
  have HI0 : Hid (PlayInv w.heap.size w (w2.alloc (Obj.cells #[Value.slice pu zs.length cu, Value.int IntKind.i64 0, Value.int IntKind.i64 0] 34)) w.heap.size w1.heap.size b w1.heap.size (w2.heap.size + 1) w2.heap.size zs 0 0) := by
    refine hid ⟨(H1.out.below HL2.out).below ((Below.refl _ _).alloc (Nat.le_refl _) _), ⟨_, heap_alloc_new w2 _, ?_, by omega, by omega, by simp⟩, (HL.out.trans (HL2.out.mono hs)).alloc (by omega) _, Nat.le_refl _, hs, .inl (Nat.le_refl _)⟩
    exact ((HO.out.rds (by have := HLZ.out; simpa [IntKind.bits] using this) HWF.out).imp fun g hg _ => ⟨hg.1, by omega, by omega⟩).below ((Below.refl _ _).alloc (Nat.le_refl _) _)
  go_loopw [8, 10] (fun t i wr => ∃ k b lo hi d e : Nat, k ≤ L ∧ k ≤ 200 ∧ t = .pointer (some ⟨b, 0, none⟩) ∧ i = .int .i64 k ∧ PlayInv w.heap.size w wr lo hi b w1.heap.size (w2.heap.size + 1) w2.heap.size zs d e) (fun _ i _ => 200 - (intOf i).toNat)
  case atStart => exact ⟨0, b, _, _, 0, 0, by omega, by omega, rfl, rfl, HI0.out⟩
  case round =>
    clear HI0 HO HL2 H1 HL HLI HLZ HWF HR hb
    obtain ⟨k, b, lo, hi, d, e, hk, hk2, rfl, rfl, hI⟩ := hrel
    have HI := hid hI
    clear hI
    by_cases hlt : k < L ∧ k < 200
    · obtain ⟨hlt1, hlt2⟩ := hlt
      obtain ⟨bl, ol, rfl, hbl, hcl⟩ := HC.out (by omega)
      obtain ⟨hK0, hN0⟩ := hcl k hlt1
      have hK := (HI.out.2.2.1.cell (p := ⟨bl, ol + k * 2, none⟩) hbl).trans hK0
      have hN := (HI.out.2.2.1.cell (p := ⟨bl, ol + k * 2 + 1, none⟩) hbl).trans hN0
      have HKN := hid (And.intro hK0 hN0)
      clear hcl hK0 hN0
      have hk0 : (0 : Int) ≤ (k : Int) := by omega
      have hkL : (k : Int) < (L : Int) := by omega
      have hI2 := HI.out.2.2.1.size
      have hd := HI.out.1.len
      by_cases h0 : K k = 0
      · have hg : (K k == 0) = true := by simp [h0]
        have hg1 : (K k == 1) = false := by simp [h0]
        have hg2 : (K k == 2) = false := by simp [h0]
        clear h0
        go_wp2
        go_region_held3 (fun w' => w'.cell? ⟨bl, ol + k * 2, none⟩ = some (.int .i64 (K k)) ∧ w'.cell? ⟨bl, ol + k * 2 + 1, none⟩ = some (.int .i64 (N k))) (go_keep)
          (first
          | ((go_at_call 6; (with_reducible refine (reserve_any lo hi b zs d e (N k) _ ?_).mono ?_); exact HI.out.1.drew; rintro r w3 ⟨rfl, ht, ho⟩; have hm := HI.out.mid ho.undrew; have HM := hid hm.1; have HT := hid ht; have HO := hid ho.undrew; have hK3 := (hm.2.cell (p := ⟨bl, ol + k * 2, none⟩) hbl).trans (HKN.out.1); have hN3 := (hm.2.cell (p := ⟨bl, ol + k * 2 + 1, none⟩) hbl).trans (HKN.out.2); clear ht ho hm))
          | ((go_at_call 12; (with_reducible refine (mreserve_any _ _ _ zs d e (N k) _ HM.out ?_).mono ?_); omega; rintro r w4 ⟨rfl, ht, ho⟩; have hn := HI.out.back HT.out HO.out ht ho; have hK4 := (hn.2.2.1.cell (p := ⟨bl, ol + k * 2, none⟩) hbl).trans (HKN.out.1); have hN4 := (hn.2.2.1.cell (p := ⟨bl, ol + k * 2 + 1, none⟩) hbl).trans (HKN.out.2); have HJ := hid hn; clear ht ho hn)))
        go_wp2
        have HJT := hid HJ.out.1
        obtain ⟨pL, nL, cL, fL, m0, m1, m2, q0, q1⟩ := HJ.out.cells
        go_quiet ((first
          | (go_at_call 7; exact Calls.quiet_of (left_any _ _ _ zs d _ _ (HJT.out.drewN _)))
          | (go_at_call 8; exact Calls.quiet_of_same ((used_any _ _ _ zs d _ _ (HJT.out.drewN _)).mono fun _ _ ⟨a, b⟩ => ⟨a, b.symm⟩))
          | (go_at_call 9; exact Calls.quiet_of (allowed_any _ _ _ zs d _ _ (HJT.out.drewN _)))))
        go_wp2
        go_roundw
        case rel => exact ⟨k + 1, _, _, _, _, _, by omega, by omega, rfl, by go_num, HJ.out.drewN _⟩
        case measure => simp [intOf]; omega
      · by_cases h1 : K k = 1
        · have hg : (K k == 0) = false := by simp [h1]
          have hg1 : (K k == 1) = true := by simp [h1]
          have hg2 : (K k == 2) = false := by simp [h1]
          clear h0 h1
          go_wp2
          go_quiet (fail)
          go_wp2_with (first
            | (go_at_call 5; (with_reducible refine (draw_any lo hi b zs d e _ ?_).mono ?_); exact HI.out.1.drewN _; rintro r w3 ⟨rfl, ht, ho⟩; have hm := HI.out.mid ho.undrewN; have HM := hid hm.1; have HT := hid ht; have HO := hid ho.undrewN; have hK3 := (hm.2.cell (p := ⟨bl, ol + k * 2, none⟩) hbl).trans (HKN.out.1); clear ht ho hm)
            | (go_at_call 13; (with_reducible refine (mdraw_any _ _ _ zs d e _ HM.out ?_ ?_).mono ?_); omega; omega; rintro r w4 ⟨rfl, ht, ho⟩; have hn := HI.out.back HT.out HO.out ht ho; have hK4 := (hn.2.2.1.cell (p := ⟨bl, ol + k * 2, none⟩) hbl).trans (HKN.out.1); have HJ := hid hn; clear ht ho hn))
          have HJT := hid HJ.out.1
          obtain ⟨pL, nL, cL, fL, m0, m1, m2, q0, q1⟩ := HJ.out.cells
          go_quiet ((first
            | (go_at_call 7; exact Calls.quiet_of (left_any _ _ _ zs _ _ _ (HJT.out.drewN _)))
            | (go_at_call 8; exact Calls.quiet_of_same ((used_any _ _ _ zs _ _ _ (HJT.out.drewN _)).mono fun _ _ ⟨a, b⟩ => ⟨a, b.symm⟩))
            | (go_at_call 9; exact Calls.quiet_of (allowed_any _ _ _ zs _ _ _ (HJT.out.drewN _)))))
          go_wp2
          go_roundw
          case rel => exact ⟨k + 1, _, _, _, _, _, by omega, by omega, rfl, by go_num, HJ.out.drewN _⟩
          case measure => simp [intOf]; omega

        · by_cases h2 : K k = 2
          · have hg : (K k == 0) = false := by simp [h2]
            have hg1 : (K k == 1) = false := by simp [h2]
            have hg2 : (K k == 2) = true := by simp [h2]
            clear h0 h1 h2
            go_wp2
            go_quiet (fail)
            go_wp2_with (first
              | (go_at_call 10; (with_reducible refine (tclone_any lo hi b zs d e _ ?_).mono ?_); exact HI.out.1.drewN _; rintro r w3 ⟨b3, rfl, ht, hlow⟩; have HI3 := hid (HI.out.drewN nq); have HT3 := hid ht; have HL3 := hid hlow; have HE3 := hid ((HI3.out.1).below hlow); clear ht hlow)
              | (go_at_call 5; (with_reducible refine (draw_any lo hi b zs d e _ HE3.out).mono ?_); rintro r w4 ⟨rfl, ht, ho⟩; have HJ := hid (HI3.out.cloned HT3.out HL3.out ho); have hK4 := ((HJ.out.2.2.1).cell (p := ⟨bl, ol + k * 2, none⟩) hbl).trans (HKN.out.1); clear ht ho))
            have HJT := hid HJ.out.1
            obtain ⟨pL, nL, cL, fL, m0, m1, m2, q0, q1⟩ := HJ.out.cells
            go_quiet ((first
              | (go_at_call 7; exact Calls.quiet_of (left_any _ _ _ zs _ _ _ (HJT.out.drewN _)))
              | (go_at_call 8; exact Calls.quiet_of_same ((used_any _ _ _ zs _ _ _ (HJT.out.drewN _)).mono fun _ _ ⟨a, b⟩ => ⟨a, b.symm⟩))
              | (go_at_call 9; exact Calls.quiet_of (allowed_any _ _ _ zs _ _ _ (HJT.out.drewN _)))))
            go_wp2
            go_roundw
            case rel => exact ⟨k + 1, _, _, _, _, _, by omega, by omega, rfl, by go_num, HJ.out.drewN _⟩
            case measure => simp [intOf]; omega

          · have hg : (K k == 0) = false := by simp [h0]
            have hg1 : (K k == 1) = false := by simp [h1]
            have hg2 : (K k == 2) = false := by simp [h2]
            clear h0 h1 h2
            go_wp2
            go_quiet (fail)
            have HJ := hid (HI.out.drewN nq)
            have hKq : (wr.drewN nq).cell? ⟨bl, ol + k * 2, none⟩ = some (.int .i64 (K k)) := hK
            generalize wr.drewN nq = wq at HJ hKq ⊢
            go_wp2
            have HJT := hid HJ.out.1
            obtain ⟨pL, nL, cL, fL, m0, m1, m2, q0, q1⟩ := HJ.out.cells
            go_quiet ((first
              | (go_at_call 7; exact Calls.quiet_of (left_any _ _ _ zs _ _ _ (HJT.out.drewN _)))
              | (go_at_call 8; exact Calls.quiet_of_same ((used_any _ _ _ zs _ _ _ (HJT.out.drewN _)).mono fun _ _ ⟨a, b⟩ => ⟨a, b.symm⟩))
              | (go_at_call 9; exact Calls.quiet_of (allowed_any _ _ _ zs _ _ _ (HJT.out.drewN _)))))
            go_wp2
            go_roundw
            case rel => exact ⟨k + 1, _, _, _, _, _, by omega, by omega, rfl, by go_num, HJ.out.drewN _⟩
            case measure => simp [intOf]; omega
    · have hwr : w.heap.size ≤ wr.heap.size := HI.out.2.2.1.size
      have hdec : k < 200 → ¬ k < L := fun h1 h2 => hlt ⟨h2, h1⟩
      by_cases hkL : k < L
      · have hk3 : ¬ k < 200 := fun h => hlt ⟨hkL, h⟩
        clear hlt hdec
        go_wp2_with (go_at_call 14; refine (awake_any _).mono ?_; rintro r w4 ⟨rfl, hlow⟩; have HA := hid hlow; clear hlow)
        go_ret
        exact ⟨rfl, HI.out.2.2.1.trans (HA.out.mono hwr)⟩
      · clear hlt hdec
        go_wp2_with (go_at_call 14; refine (awake_any _).mono ?_; rintro r w4 ⟨rfl, hlow⟩; have HA := hid hlow; clear hlow)
        go_ret
        exact ⟨rfl, HI.out.2.2.1.trans (HA.out.mono hwr)⟩
end Go.Proofs.Ytolagogfjfcmaaa
