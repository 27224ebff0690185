import Derived.Test.YtoicanbgaghpcaaProg
import Derived.Test.YtoicanbgaghpcaaOcx
namespace Go.Proofs.Ytoicanbgaghpcaa
open Go.RowKit

/-! ### Double -/
def dbByte (x y : Int) : Int := bits .or .u8 (x * 2 % 256) (y / 128)
def dbTo (zs : List Int) : Nat → List Int
  | 0 => zs
  | k + 1 => (dbTo zs k).set k (dbByte (nth (dbTo zs k) k) (nth (dbTo zs k) (k + 1)))
def dbLast (L : List Int) : List Int := L.set 15 (nth L 15 * 2 % 256)
def dbL (zs : List Int) : List Int :=
  if zs.length = 16 then
    (if 128 ≤ nth zs 0 then (dbLast (dbTo zs 15)).set 15 (bits .xor .u8 (nth (dbLast (dbTo zs 15)) 15) 135) else dbLast (dbTo zs 15))
  else []
theorem dbByte_bd (x y : Int) : 0 ≤ dbByte x y ∧ dbByte x y ≤ 255 := wf_u8 (wf_bits _ _ _ _)
theorem dbTo_len (zs : List Int) : ∀ k, (dbTo zs k).length = zs.length
  | 0 => rfl
  | k + 1 => by simp [dbTo, dbTo_len zs k]
theorem dbTo_bs {zs : List Int} (h : Bs zs) : ∀ k, Bs (dbTo zs k)
  | 0 => h
  | k + 1 => (dbTo_bs h k).set k (dbByte_bd _ _)

set_option maxHeartbeats 800000 in
theorem double_any (v : Value) (zs : List Int) (w : World) (h : Rd .u8 w v zs) :
    Calls Try.prog 18 #[v] w fun e w' => ∃ u, e = .returned u ∧ Own .u8 w.heap.size 5 w' u (dbL zs) ∧ Below w.heap.size w w' := by
  have hl := u8lim h
  have HC := hid (copied_any v zs w h)
  obtain ⟨a, cap, rfl, _, hz, hc⟩ := h
  by_cases h16 : zs.length = 16
  · have HB := hid (bs_of hz)
    have HD := hid (show dbL zs = _ from if_pos h16)
    have hlen := dbTo_len zs
    rw [h16] at hlen HC ⊢ hc
    clear hz
    obtain ⟨b, off, rfl, hbw, hc⟩ := hc (by omega)
    have c0 := hc 0 (by omega)
    have HH := hid h16
    clear hc h16 hl
    have HLEN := hid hlen; clear hlen
    go_enter Try.func18, Try.ntmps18
    go_wp2_with (go_at_call 27; refine HC.out.mono ?_; rintro e w1 ⟨u, rfl, hown, hlow⟩; obtain ⟨p, cap1, rfl, hcp, hg⟩ := hown.slice; obtain ⟨g, rfl, hgB, hgw⟩ := hg (by rw [HH.out]; omega); have HO := hid hown; have HL := hid hlow; have hsz1 := hlow.size; rw [HH.out] at hcp ⊢; clear hown hlow hg)
    go_loopw [13] (fun i wr => ∃ j : Nat, j ≤ 15 ∧ i = .int .i64 j ∧ Own .u8 w.heap.size 5 wr (.slice (some ⟨g, 0, none⟩) 16 cap1) (dbTo zs j) ∧ Below w.heap.size w wr) (fun i _ => 15 - (intOf i).toNat)
    case atStart => exact ⟨0, by omega, rfl, by have := HO.out; rw [HH.out] at this; exact this, HL.out⟩
    case round =>
      obtain ⟨j, hj, rfl, hown, hlow⟩ := hrel
      obtain ⟨g', cap', hv, hg1, hg2, hcell, hfr, hset⟩ := hown.part (by rw [HLEN.out]; omega)
      rw [HLEN.out] at hcell hset hv
      simp only [Value.slice.injEq, Option.some.injEq, Addr.mk.injEq] at hv
      obtain ⟨⟨rfl, _, _⟩, _, rfl⟩ := hv
      have hc0 := (hlow.cell (p := ⟨b, off + 0, none⟩) hbw).trans c0
      by_cases hlt : j < 15
      · have c1 := hcell j (by omega)
        have c2 := hcell (j + 1) (by omega)
        have c3 := hfr j
        have HS := hid (hset j (dbByte (nth (dbTo zs j) j) (nth (dbTo zs j) (j + 1))) (by omega))
        have HL := hid hlow
        clear hc0 c0 hcell hfr hset hown hlow
        go_wp2
        go_region
        go_wp2
        go_roundw
        case rel => exact ⟨j + 1, by omega, by go_num, HS.out, (HL.out.setCell hg1 _).drew⟩
        case measure => simp [intOf]; omega
      · obtain rfl : j = 15 := by omega
        have c1 := hcell 15 (by omega)
        have c2 := hfr 15
        have HS := hid (hset 15 (nth (dbTo zs 15) 15 * 2 % 256) (by omega))
        have HL := hid (hlow.setCell hg1 (p := ⟨g, 15, none⟩) (.int .u8 (nth (dbTo zs 15) 15 * 2 % 256)))
        have hgb : g ≠ b := by omega
        have c3 : (wr.setCell ⟨g, 15, none⟩ (.int .u8 (nth (dbTo zs 15) 15 * 2 % 256))).cell? ⟨b, off, none⟩ = some (.int .u8 (nth zs 0)) :=
          (World.cell?_setCell_other _ _ _ _ (fun e => hgb (congrArg Addr.block e))).trans hc0
        have hlen1 : ((dbTo zs 15).set 15 (nth (dbTo zs 15) 15 * 2 % 256)).length = 16 := by rw [List.length_set]; exact HLEN.out 15
        obtain ⟨g', cap', hv', _, _, hcell', hfr', hset'⟩ := HS.out.part (by omega)
        rw [hlen1] at hcell' hset' hv'
        simp only [Value.slice.injEq, Option.some.injEq, Addr.mk.injEq] at hv'
        obtain ⟨⟨rfl, _, _⟩, _, rfl⟩ := hv'
        have c4 := hcell' 15 (by omega)
        have c5 := hfr' 15
        have HS2 := hid (hset' 15 (bits .xor .u8 (nth (dbLast (dbTo zs 15)) 15) 135) (by omega))
        have HN := hid (show nth ((dbTo zs 15).set 15 (nth (dbTo zs 15) 15 * 2 % 256)) 15 = nth (dbTo zs 15) 15 * 2 % 256 by simp [nth, List.getD, HLEN.out])
        have HN2 := hid (show nth (dbLast (dbTo zs 15)) 15 = nth (dbTo zs 15) 15 * 2 % 256 from HN.out)
        have hz0 := (HB.out.nth 0).1
        have hz1 := (HB.out.nth 0).2
        clear hcell hfr hset hown hlow hc0 c0 hcell' hfr' hset' c4 hlen1
        by_cases hq : 128 ≤ nth zs 0
        · have ht : (nth zs 0 / 128 == 1) = true := by rw [beq_iff_eq]; omega
          have HE := hid (show dbL zs = _ from HD.out.trans (if_pos hq))
          clear hq
          go_wp2
          go_ret
          exact ⟨_, rfl, by rw [HE.out]; have := HS2.out; rw [HN2.out] at this ⊢; exact this, HL.out.setCell hg1 _⟩
        · have ht : (nth zs 0 / 128 == 1) = false := by rw [beq_eq_false_iff_ne]; omega
          have HE := hid (show dbL zs = _ from HD.out.trans (if_neg hq))
          clear hq
          go_wp2
          go_ret
          exact ⟨_, rfl, by rw [HE.out]; exact HS.out, HL.out⟩
  · have ht : ((zs.length : Int) != 16) = true := by rw [bne_iff_ne]; omega
    have HD := hid (show dbL zs = _ from if_neg h16)
    clear hz hc h16
    go_enter Try.func18, Try.ntmps18
    go_wp2
    go_ret
    exact ⟨_, rfl, by rw [HD.out]; exact own_nil _ _ _ _, Below.refl _ _⟩

def rdByte (zs : List Int) (j : Nat) : Int := if j < 15 then nth zs j % 128 * 2 + nth zs (j + 1) / 128 else nth zs j % 128 * 2
def rdTo (zs : List Int) : Nat → List Int
  | 0 => []
  | k + 1 => rdTo zs k ++ [rdByte zs k]
theorem rdTo_len (zs : List Int) : ∀ k, (rdTo zs k).length = k
  | 0 => rfl
  | k + 1 => by simp [rdTo, rdTo_len zs k]
def rdL (zs : List Int) : List Int :=
  if zs.length = 16 then (if 128 ≤ nth zs 0 then (rdTo zs 16).set 15 (bits .xor .u8 (nth (rdTo zs 16) 15) 135) else rdTo zs 16) else []

set_option maxHeartbeats 800000 in
theorem refdouble_any (v : Value) (zs : List Int) (w : World) (h : Rd .u8 w v zs) :
    Calls Try.prog 21 #[v] w fun e w' => ∃ u, e = .returned u ∧ Own .u8 w.heap.size 5 w' u (rdL zs) ∧ Below w.heap.size w w' := by
  have hl := u8lim h
  obtain ⟨a, cap, rfl, _, hz, hc⟩ := h
  by_cases h16 : zs.length = 16
  · have HB := hid (bs_of hz)
    have HD := hid (show rdL zs = _ from if_pos h16)
    rw [h16] at ⊢ hc
    clear hz
    obtain ⟨b, off, rfl, hbw, hc⟩ := hc (by omega)
    have HC := hid hc
    clear hc h16 hl
    go_enter Try.func21, Try.ntmps21
    go_wp2
    go_loopw [3, 4] (fun u i wr => ∃ j : Nat, j ≤ 16 ∧ i = .int .i64 j ∧ Own .u8 w.heap.size 5 wr u (rdTo zs j) ∧ Below w.heap.size w wr) (fun _ i _ => 16 - (intOf i).toNat)
    case atStart => exact ⟨0, by omega, rfl, own_empty w (Nat.le_refl _), (Below.refl _ _).alloc (Nat.le_refl _) _⟩
    case round =>
      obtain ⟨j, hj, rfl, hown, hlow⟩ := hrel
      have hsz := hlow.size
      have hn1 := (HB.out.nth j).1
      have hn2 := (HB.out.nth j).2
      have hn3 := (HB.out.nth (j + 1)).1
      have hn4 := (HB.out.nth (j + 1)).2
      have HO := hid hown; have HL := hid hlow
      have HLI := hid (show ((rdTo zs j).length + 1) * (IntKind.u8.bits / 8) ≤ 140737488355328 by simp [IntKind.bits, rdTo_len]; omega)
      by_cases hlt : j < 16
      · have c1 := (hlow.cell (p := ⟨b, off + j, none⟩) hbw).trans (HC.out j hlt)
        clear hown hlow
        by_cases h15 : j < 15
        · have c2 := (HL.out.cell (p := ⟨b, off + (j + 1), none⟩) hbw).trans (HC.out (j + 1) (by omega))
          have HR := hid (show rdTo zs (j + 1) = rdTo zs j ++ [nth zs j % 128 * 2 + nth zs (j + 1) / 128] by simp [rdTo, rdByte, h15])
          go_wp2_with (refine wpList_append_ints rfl (.tmp 23) (.tmp 34) 22 rfl .u8 w.heap.size 5 Try.underlying22 info8 (by decide) _ _ rfl (HO.out.alloc _) _ _ _ _ rfl rfl (cell_new_int _ _ _ _) HLI.out (by simp; omega) _ _ (HL.out.alloc (by omega) _) (Nat.le_refl _) ?_; intro v2 w2 hO2 hL2 _)
          go_roundw
          case rel => exact ⟨j + 1, by omega, by go_num, by rw [HR.out]; exact hO2, hL2⟩
          case measure => simp [intOf]; omega
        · have HR := hid (show rdTo zs (j + 1) = rdTo zs j ++ [nth zs j % 128 * 2] by simp [rdTo, rdByte, h15])
          go_wp2_with (refine wpList_append_ints rfl (.tmp 23) (.tmp 34) 22 rfl .u8 w.heap.size 5 Try.underlying22 info8 (by decide) _ _ rfl (HO.out.alloc _) _ _ _ _ rfl rfl (cell_new_int _ _ _ _) HLI.out (by simp; omega) _ _ (HL.out.alloc (by omega) _) (Nat.le_refl _) ?_; intro v2 w2 hO2 hL2 _)
          go_roundw
          case rel => exact ⟨j + 1, by omega, by go_num, by rw [HR.out]; exact hO2, hL2⟩
          case measure => simp [intOf]; omega
      · obtain rfl : j = 16 := by omega
        have c0 : wr.cell? ⟨b, off, none⟩ = _ := (hlow.cell (p := ⟨b, off + 0, none⟩) hbw).trans (HC.out 0 (by omega))
        have hlen1 : (rdTo zs 16).length = 16 := rdTo_len zs 16
        have HDT := hid (fun h => HD.out.trans (if_pos h))
        have HDF := hid (fun h => HD.out.trans (if_neg h))
        clear HLI hn1 hn2 hn3 hn4 HD
        generalize rdTo zs 16 = R at *
        obtain ⟨g, cap', rfl, hg1, hg2, hcell, hfr, hset⟩ := hown.part (by omega)
        rw [hlen1] at hcell hset HO ⊢
        have c1 := hcell 15 (by omega)
        have c2 := hfr 15
        have HS := hid (hset 15 (bits .xor .u8 (nth R 15) 135) (by omega))
        have HLe := hid hlen1
        clear hcell hset hfr hlen1 hown hlow
        by_cases hq : 128 ≤ nth zs 0
        · have HE := hid (show rdL zs = _ from HDT.out hq)
          go_wp2
          go_ret
          exact ⟨_, rfl, by rw [HE.out]; exact HS.out, HL.out.setCell hg1 _⟩
        · have HE := hid (show rdL zs = _ from HDF.out hq)
          go_wp2
          go_ret
          exact ⟨_, rfl, by rw [HE.out]; exact HO.out, HL.out⟩
  · have ht : ((zs.length : Int) != 16) = true := by rw [bne_iff_ne]; omega
    have HD := hid (show rdL zs = _ from if_neg h16)
    clear hz hc h16
    go_enter Try.func21, Try.ntmps21
    go_wp2
    go_ret
    exact ⟨_, rfl, by rw [HD.out]; exact own_nil _ _ _ _, Below.refl _ _⟩
end Go.Proofs.Ytoicanbgaghpcaa
