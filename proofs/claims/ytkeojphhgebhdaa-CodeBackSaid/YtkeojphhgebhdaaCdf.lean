import Derived.Test.YtkeojphhgebhdaaProg
import Derived.Test.YtkeojphhgebhdaaCde
import Derived.OwnWalk
/- Code: ahead, by the program. -/
namespace Go.Proofs.Ytkeojphhgebhdaa
open Go.RowKit

/-- A row with its capacity told. -/
structure RdC (w : World) (v : Value) (zs : List Int) : Prop where
  rd : Rd .u8 w v zs
  cap : ∀ a n c, v = .slice a n c → n ≤ c ∧ c ≤ maxLen
theorem RdC.self {w w' : World} {v : Value} {zs : List Int} (h : RdC w v zs) (hb : Below w.heap.size w w') : RdC w' v zs := ⟨h.rd.self hb, h.cap⟩
theorem rd_bytes {w : World} {v : Value} {zs : List Int} (h : Rd .u8 w v zs) : ∀ z ∈ zs, 0 ≤ z ∧ z ≤ 255 := fun z hz => bounds_u8 (wfs_of h z hz)
theorem RdC.open {w : World} {v : Value} {zs : List Int} (h : RdC w v zs) : ∃ a cap, v = .slice a zs.length cap ∧ zs.length ≤ cap ∧ cap ≤ maxLen ∧ zs.length ≤ 140737488351232 ∧
    (0 < zs.length → ∃ b off, a = some ⟨b, off, none⟩ ∧ b < w.heap.size ∧ ∀ j, j < zs.length → w.cell? ⟨b, off + j, none⟩ = some (.int .u8 (nth zs j))) := by
  obtain ⟨a, cap, rfl, _, _, hc⟩ := id h.rd
  have := h.cap _ _ _ rfl
  exact ⟨a, cap, rfl, this.1, this.2, len47 h.rd, hc⟩

/-- What ahead tells. -/
def AhP (zs : List Int) (e : Ending) : Prop :=
  (∃ c x : Nat, Hd zs c ∧ vj zs c = (x : Int) ∧ x < 4294967296 ∧ e = .returned (.tuple #[.int .u64 (x : Int), .int .i64 ((1 + c : Nat) : Int), .bool true])) ∨
  ((∀ c, ¬ Hd zs c) ∧ e = .returned (.tuple #[.int .u64 0, .int .i64 0, .bool false]))

set_option maxRecDepth 100000 in
set_option maxHeartbeats 1600000 in
theorem ahead_none (v : Value) (zs : List Int) (w : World) (h : RdC w v zs) (hn : ∀ c, ¬ Hd zs c) :
    Calls Try.prog 20 #[v] w fun e w' => AhP zs e ∧ w' = w := by
  have hbb := rd_bytes h.rd
  obtain ⟨a, cap, rfl, hcap, hmax, h47, hc⟩ := h.open
  unfold maxLen at hmax
  have HN := hid hn
  by_cases h0 : zs.length = 0
  · generalize zs.length = L at *
    subst h0
    clear hc
    go_enter Try.func20, Try.ntmps20
    go_wp2
    go_ret3
    exact ⟨.inr ⟨HN.out, rfl⟩, rfl⟩
  · obtain ⟨b, off, rfl, hb, hcell⟩ := hc (by omega)
    have hc0 := hcell 0 (by omega)
    rw [Nat.add_zero] at hc0
    have hz0 := hbb (nth zs 0) (by rw [nth_of (by omega)]; exact List.getElem_mem _)
    obtain ⟨c, hcc⟩ : ∃ c : Nat, nth zs 0 = c := ⟨(nth zs 0).toNat, by omega⟩
    have hl0 : ¬ ((zs.length : Int) = 0) := by omega
    have hl1 : (0 : Int) < (zs.length : Int) := by omega
    by_cases hlt : c < 1 ∨ 4 < c ∨ zs.length ≤ c
    · rw [hcc] at hc0 hz0
      clear hn hc hcc hcell hbb h h0
      rcases hlt with h1 | h1 | h1
      · have h2 : (c : Int) < 1 := by omega
        generalize zs.length = L at *
        go_enter Try.func20, Try.ntmps20
        go_wp2
        go_ret3
        exact ⟨.inr ⟨HN.out, rfl⟩, rfl⟩
      · have h2 : (4 : Int) < (c : Int) := by omega
        have h3 : ¬ ((c : Int) < 1) := by omega
        generalize zs.length = L at *
        go_enter Try.func20, Try.ntmps20
        go_wp2
        go_ret3
        exact ⟨.inr ⟨HN.out, rfl⟩, rfl⟩
      · by_cases h4 : 4 < c ∨ c < 1
        · have h2 : (4 : Int) < (c : Int) ∨ (c : Int) < 1 := by omega
          generalize zs.length = L at *
          rcases h2 with h2 | h2
          · have h3 : ¬ ((c : Int) < 1) := by omega
            go_enter Try.func20, Try.ntmps20
            go_wp2
            go_ret3
            exact ⟨.inr ⟨HN.out, rfl⟩, rfl⟩
          · exfalso; omega
        · have h2 : ¬ (4 : Int) < (c : Int) := by omega
          have h3 : ¬ ((c : Int) < 1) := by omega
          have h5 : (zs.length : Int) ≤ (c : Int) := by omega
          generalize zs.length = L at *
          go_enter Try.func20, Try.ntmps20
          go_wp2
          go_ret3
          exact ⟨.inr ⟨HN.out, rfl⟩, rfl⟩
    · have h1 : c ≠ 1 ∧ nth zs 1 = 0 := by
        refine ⟨fun e => hn c ⟨hcc, by omega, by omega, by omega, .inl e⟩, ?_⟩
        refine Decidable.byContradiction fun e => hn c ⟨hcc, by omega, by omega, by omega, .inr e⟩
      have hc1 := hcell 1 (by omega)
      rw [h1.2] at hc1
      rw [hcc] at hc0 hz0
      have h2 : ¬ (4 : Int) < (c : Int) := by omega
      have h3 : ¬ ((c : Int) < 1) := by omega
      have h4 : ¬ (zs.length : Int) ≤ (c : Int) := by omega
      have h5 : (1 : Int) < (c : Int) := by omega
      have h6 : (1 : Int) < (zs.length : Int) := by omega
      clear hn hc hcc hcell hbb h h0 h1 hlt
      generalize zs.length = L at *
      go_enter Try.func20, Try.ntmps20
      go_wp2
      go_ret3
      exact ⟨.inr ⟨HN.out, rfl⟩, rfl⟩

set_option maxRecDepth 100000 in
set_option maxHeartbeats 1600000 in
theorem ahead_some (v : Value) (zs : List Int) (c : Nat) (w : World) (h : RdC w v zs) (hh : Hd zs c) :
    Calls Try.prog 20 #[v] w fun e w' => AhP zs e ∧ w' = w := by
  have hbb := rd_bytes h.rd
  obtain ⟨a, cap, rfl, hcap, hmax, h47, hc⟩ := h.open
  unfold maxLen at hmax
  have HH := hid hh
  obtain ⟨hcc, hp, hle, hlt, hleast⟩ := hh
  obtain ⟨b, off, rfl, hb, hcell⟩ := hc (by omega)
  have hc0 := hcell 0 (by omega)
  rw [Nat.add_zero, hcc] at hc0
  have hc1 := hcell 1
  have HCell := hid hcell
  have HB := hid hbb
  have HLt := hid hlt
  have HVB := hid (fun j (hj : j ≤ c) => vj_bd hbb j (by omega))
  obtain ⟨L, hL⟩ : ∃ L, zs.length = L := ⟨_, rfl⟩
  rw [hL] at hc1 hcap h47 hlt ⊢
  have HL := hid hL
  have hl0 : ¬ ((L : Int) = 0) := by omega
  have h3 : ¬ ((c : Int) < 1) := by omega
  have h2 : ¬ (4 : Int) < (c : Int) := by omega
  have h4 : ¬ (L : Int) ≤ (c : Int) := by omega
  obtain ⟨e, he⟩ : ∃ e, e = 1 + c := ⟨_, rfl⟩
  have h5 : (1 : Int) + (c : Int) = (e : Int) := by omega
  have h6 : (e : Int) ≤ (cap : Int) := by omega
  have h7 : 1 < cap := by omega
  have h8 : (1 : Int) ≤ (e : Int) := by omega
  have h9 : (e : Int) - 1 = (c : Int) := by omega
  have HE := hid he
  have hz1 := hbb (nth zs 1)
  clear hc hcell hbb h hL hcc he
  go_enter Try.func20, Try.ntmps20
  by_cases hc1' : c = 1
  · have h10 : ¬ (1 : Int) < (c : Int) := by omega
    clear hc1 hz1 hleast hc1'
    go_wp2
    go_loop [2, 40] (fun s i => ∃ j x : Nat, j ≤ c ∧ i = .int .i64 j ∧ s = .int .u64 x ∧ vj zs j = (x : Int)) (fun _ i => c - (intOf i).toNat)
    case atStart => exact ⟨0, 0, by omega, rfl, rfl, rfl⟩
    case round =>
      obtain ⟨j, x, hj, rfl, rfl, hx⟩ := hrel
      by_cases hlt2 : j < c
      · have h20 : (0 : Int) ≤ (j : Int) := by omega
        have h21 : (j : Int) < (c : Int) := by omega
        have hlt3 : 1 + j < zs.length := by have := HLt.out; omega
        have hcj := HCell.out (1 + j) hlt3
        rw [← Nat.add_assoc] at hcj
        have hzj := HB.out (nth zs (1 + j)) (by rw [nth_of hlt3]; exact List.getElem_mem _)
        obtain ⟨d, hd⟩ : ∃ d : Nat, nth zs (1 + j) = d := ⟨(nth zs (1 + j)).toNat, by omega⟩
        have hxb : x < 4294967296 := by
          have h := (HVB.out j hj).2
          have h2 : 256 ^ j ≤ 256 ^ 3 := Nat.pow_le_pow_right (by decide) (by omega)
          rw [hx] at h
          omega
        rw [hd] at hcj hzj
        have HV := hid (vj_succ hlt3)
        rw [hx, hd] at HV
        have h22 : IntKind.u64.wrap ((x : Int) * 256) = ((x * 256 : Nat) : Int) := by rw [IntKind.wrap_u64]; omega
        have h23 := or_byte hxb (show d < 256 by omega)
        obtain ⟨y, hy⟩ : ∃ y, x * 256 + d = y := ⟨_, rfl⟩
        rw [hy] at h23
        have HY := hid hy
        obtain ⟨x2, hx2⟩ : ∃ x2, x * 256 = x2 := ⟨_, rfl⟩
        have HX2 := hid hx2
        rw [hx2] at h22 h23 HY
        clear hx2 hx hxb hlt3 hd hy
        go_wp2
        go_round
        case rel => exact ⟨j + 1, y, by omega, by go_num, rfl, by rw [HV.out]; have := HY.out; have := HX2.out; omega⟩
        case measure => simp [intOf]; omega
      · obtain rfl : j = c := by omega
        have hxb : x < 4294967296 := by
          have h := (HVB.out j hj).2
          have h2 : 256 ^ j ≤ 256 ^ 4 := Nat.pow_le_pow_right (by decide) (by omega)
          rw [hx] at h
          omega
        have HX := hid hx
        have HXB := hid hxb
        clear hx hxb
        go_wp2
        go_ret3
        obtain rfl := HE.out
        exact ⟨.inl ⟨j, x, HH.out, HX.out, HXB.out, rfl⟩, rfl⟩
  · have h10 : (1 : Int) < (c : Int) := by omega
    have hc1 := hc1 (by omega)
    have h11 : ¬ (nth zs 1 = 0) := by rcases hleast with h | h; exact absurd h hc1'; exact h
    generalize nth zs 1 = z1 at *
    clear hleast hc1'
    go_wp2
    clear hc1 hz1 h11
    go_loop [2, 40] (fun s i => ∃ j x : Nat, j ≤ c ∧ i = .int .i64 j ∧ s = .int .u64 x ∧ vj zs j = (x : Int)) (fun _ i => c - (intOf i).toNat)
    case atStart => exact ⟨0, 0, by omega, rfl, rfl, rfl⟩
    case round =>
      obtain ⟨j, x, hj, rfl, rfl, hx⟩ := hrel
      by_cases hlt2 : j < c
      · have h20 : (0 : Int) ≤ (j : Int) := by omega
        have h21 : (j : Int) < (c : Int) := by omega
        have hlt3 : 1 + j < zs.length := by have := HLt.out; omega
        have hcj := HCell.out (1 + j) hlt3
        rw [← Nat.add_assoc] at hcj
        have hzj := HB.out (nth zs (1 + j)) (by rw [nth_of hlt3]; exact List.getElem_mem _)
        obtain ⟨d, hd⟩ : ∃ d : Nat, nth zs (1 + j) = d := ⟨(nth zs (1 + j)).toNat, by omega⟩
        have hxb : x < 4294967296 := by
          have h := (HVB.out j hj).2
          have h2 : 256 ^ j ≤ 256 ^ 3 := Nat.pow_le_pow_right (by decide) (by omega)
          rw [hx] at h
          omega
        rw [hd] at hcj hzj
        have HV := hid (vj_succ hlt3)
        rw [hx, hd] at HV
        have h22 : IntKind.u64.wrap ((x : Int) * 256) = ((x * 256 : Nat) : Int) := by rw [IntKind.wrap_u64]; omega
        have h23 := or_byte hxb (show d < 256 by omega)
        obtain ⟨y, hy⟩ : ∃ y, x * 256 + d = y := ⟨_, rfl⟩
        rw [hy] at h23
        have HY := hid hy
        obtain ⟨x2, hx2⟩ : ∃ x2, x * 256 = x2 := ⟨_, rfl⟩
        have HX2 := hid hx2
        rw [hx2] at h22 h23 HY
        clear hx2 hx hxb hlt3 hd hy
        go_wp2
        go_round
        case rel => exact ⟨j + 1, y, by omega, by go_num, rfl, by rw [HV.out]; have := HY.out; have := HX2.out; omega⟩
        case measure => simp [intOf]; omega
      · obtain rfl : j = c := by omega
        have hxb : x < 4294967296 := by
          have h := (HVB.out j hj).2
          have h2 : 256 ^ j ≤ 256 ^ 4 := Nat.pow_le_pow_right (by decide) (by omega)
          rw [hx] at h
          omega
        have HX := hid hx
        have HXB := hid hxb
        clear hx hxb
        go_wp2
        go_ret3
        obtain rfl := HE.out
        exact ⟨.inl ⟨j, x, HH.out, HX.out, HXB.out, rfl⟩, rfl⟩
end Go.Proofs.Ytkeojphhgebhdaa
