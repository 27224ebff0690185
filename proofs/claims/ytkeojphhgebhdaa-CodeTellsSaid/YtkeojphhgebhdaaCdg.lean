import Derived.Test.YtkeojphhgebhdaaProg
import Derived.Test.YtkeojphhgebhdaaCdf
/- Code: Take, by the program. -/
namespace Go.Proofs.Ytkeojphhgebhdaa
open Go.RowKit

theorem ahead_yes (v : Value) (zs : List Int) (c x : Nat) (w : World) (h : RdC w v zs) (hh : Hd zs c) (hx : vj zs c = (x : Int)) :
    Calls Try.prog 20 #[v] w fun e w' => e = .returned (.tuple #[.int .u64 (x : Int), .int .i64 ((1 + c : Nat) : Int), .bool true]) ∧ w' = w := by
  refine (ahead_some v zs c w h hh).mono ?_
  rintro e w' ⟨ha, rfl⟩
  rcases ha with ⟨c', x', h1, h2, _, rfl⟩ | ⟨h1, _⟩
  · obtain rfl := h1.one hh
    obtain rfl : x' = x := by rw [hx] at h2; omega
    exact ⟨rfl, rfl⟩
  · exact absurd hh (h1 c)
theorem ahead_no (v : Value) (zs : List Int) (w : World) (h : RdC w v zs) (hh : ∀ c, ¬ Hd zs c) :
    Calls Try.prog 20 #[v] w fun e w' => e = .returned (.tuple #[.int .u64 0, .int .i64 0, .bool false]) ∧ w' = w := by
  refine (ahead_none v zs w h hh).mono ?_
  rintro e w' ⟨ha, rfl⟩
  rcases ha with ⟨c', x', h1, h2, _, rfl⟩ | ⟨_, rfl⟩
  · exact absurd h1 (hh _)
  · exact ⟨rfl, rfl⟩
/-- A part of a row. -/
theorem rd_sub {w : World} {b off L : Nat} {p : Option Addr} {q m k c : Nat} {zs : List Int} (h : Rd .u8 w (.slice (some ⟨b, off, none⟩) L c) zs) (hq : q + m ≤ L) (hp : 0 < m → p = some ⟨b, off + q, none⟩) :
    Rd .u8 w (.slice p m k) ((zs.drop q).take m) := by
  obtain ⟨a, cap, e, h2, h3, h4⟩ := h
  injection e with e1 e2 e3
  subst e2
  have hl : ((zs.drop q).take m).length = m := by simp; omega
  refine ⟨p, k, by rw [hl], by rw [hl]; exact Nat.le_trans (Nat.mul_le_mul_right _ (by omega)) h2, fun z hz => h3 z (List.mem_of_mem_drop (List.mem_of_mem_take hz)), fun h0 => ?_⟩
  rw [hl] at h0 ⊢
  obtain ⟨b', off', e', hb, hc⟩ := h4 (by omega)
  rw [← e1] at e'
  injection e' with e'
  injection e' with e5 e6
  subst e5; subst e6
  refine ⟨b, off + q, hp h0, hb, fun j hj => ?_⟩
  have := hc (q + j) (by omega)
  rw [← Nat.add_assoc] at this
  rw [this, nth_of (show q + j < zs.length by omega), nth_of (by omega)]
  simp

/-- What Take tells. -/
def TakeP (w : World) (zs : List Int) (e : Ending) (w' : World) : Prop :=
  Below w.heap.size w w' ∧ ((∃ n v, Beg zs n ∧ e = .returned (.tuple #[v, .int .i64 (((lef (8 * n)).length + n : Nat) : Int), .bool true]) ∧ Own .u8 w.heap.size 5 w' v ((zs.drop (lef (8 * n)).length).take n)) ∨
    ((∀ n, ¬ Beg zs n) ∧ e = .returned (.tuple #[.slice none 0 0, .int .i64 0, .bool false])))

/-- What behind makes of the string. -/
theorem take_tail {w : World} {p : Option Addr} {m k : Nat} {z : List Int} (h : Rd .u8 w (.slice p m k) z) :
    Calls Try.prog 19 #[.slice (some ⟨w.heap.size, 0, none⟩) 1 1] (w.alloc (.cells #[.slice p m k] 22)) fun e w' => ConcatP w z e w' := by
  have hb : Below w.heap.size w (w.alloc (.cells #[.slice p m k] 22)) := (Below.refl _ _).alloc (Nat.le_refl _) _
  refine (behind1 w.heap.size 1 _ z _ (cell_made w #[.slice p m k] 22 0) (h.self hb) (by have := len47 h; omega)).mono ?_
  rintro e w' ⟨v, rfl, ho, hl⟩
  exact ⟨v, rfl, own_base ho hb.size, hb.trans (hl.mono hb.size)⟩

set_option maxRecDepth 100000 in
set_option maxHeartbeats 1600000 in
theorem take_any (v : Value) (zs : List Int) (w : World) (h : RdC w v zs) :
    Calls Try.prog 8 #[v] w fun e w' => TakeP w zs e w' := by
  have hbb := rd_bytes h.rd
  by_cases hh : ∃ c, Hd zs c
  · obtain ⟨c, hh⟩ := hh
    have hvb := vj_bd hbb c (by have := hh.lt; omega)
    have h4 : 256 ^ c ≤ 256 ^ 4 := Nat.pow_le_pow_right (by decide) hh.le
    obtain ⟨x, hx⟩ : ∃ x : Nat, vj zs c = x := ⟨(vj zs c).toNat, by omega⟩
    rw [hx] at hvb
    have hx32 : x < 4294967296 := by omega
    have HA := hid (ahead_yes v zs c x w h hh hx)
    have hlt := hh.lt
    have HNo : Hid ((∀ n, x ≠ 8 * n) ∨ (∃ n, x = 8 * n ∧ zs.length < 1 + c + n) → ∀ n, ¬ Beg zs n) := hid fun hq n hn => by
      obtain ⟨h1, h2, h3⟩ := hd_of hn
      have e := h1.one hh
      rw [e] at h2 h3
      rw [hx] at h2
      rcases hq with hq | ⟨n', h5, h6⟩
      · exact hq n (by omega)
      · omega
    have HYes : Hid (∀ n, x = 8 * n → 1 + c + n ≤ zs.length → Beg zs n ∧ (lef (8 * n)).length = 1 + c) := hid fun n h1 h2 => of_hd hbb hh (by rw [hx, h1]) h2
    obtain ⟨a, cap, rfl, hcap, hmax, h47, hc⟩ := h.open
    unfold maxLen at hmax
    obtain ⟨b, off, rfl, hb, hcell⟩ := hc (by omega)
    have HRd := hid h.rd
    obtain ⟨L, hL⟩ : ∃ L, zs.length = L := ⟨_, rfl⟩
    rw [hL] at HA HNo HYes hlt hcap h47 HRd
    rw [hL]
    obtain ⟨q, hq⟩ : ∃ q, 1 + c = q := ⟨_, rfl⟩
    rw [hq] at HA
    by_cases h8 : x % 8 = 0
    · obtain ⟨n, hn⟩ : ∃ n, x = 8 * n := ⟨x / 8, by omega⟩
      have hn8 : (x : Int) / 8 = n := by omega
      have hm8 : (x : Int) % 8 = 0 := by omega
      obtain ⟨r, hr⟩ : ∃ r, L - q = r := ⟨_, rfl⟩
      have hr2 : (L : Int) - (q : Int) = (r : Int) := by omega
      by_cases hfit : 1 + c + n ≤ L
      · obtain ⟨h9, h10⟩ := HYes.out n hn hfit
        have h11 : ¬ (r : Int) < (n : Int) := by omega
        obtain ⟨E, hE⟩ : ∃ E, q + n = E := ⟨_, rfl⟩
        have h12 : (q : Int) + (n : Int) = (E : Int) := by omega
        have h13 : (q : Int) ≤ (E : Int) := by omega
        have h14 : (E : Int) ≤ (cap : Int) := by omega
        have h15 : (E : Int) - (q : Int) = (n : Int) := by omega
        have h16 : E - q = n := by omega
        have h17 : (0 : Int) ≤ (q : Int) := by omega
        have h18 : IntKind.i64.wrap (E : Int) = E := by rw [IntKind.wrap_i64]; omega
        have HEn : Hid (((lef (8 * n)).length + n : Nat) = E ∧ (lef (8 * n)).length = q) := hid ⟨by omega, by omega⟩
        have H9 := hid h9
        have HSub : Hid (∀ p k, (0 < n → p = some ⟨b, off + q, none⟩) → Rd .u8 w (.slice p n k) ((zs.drop q).take n)) := hid fun p k hp => rd_sub HRd.out (by omega) hp
        by_cases hqc : q < cap
        · have HT := hid (take_tail (HSub.out (some ⟨b, off + q, none⟩) (cap - q) (fun _ => rfl)))
          clear HNo HYes hvb h4 hx hh hbb hc hcell h8 hq hr hn hfit h hL h9 h10 hE HSub
          go_enter Try.func8, Try.ntmps8
          go_wp2_with (first
            | (go_at_call 20; (with_reducible refine (HA.out).mono ?_); rintro e w1 ⟨rfl, rfl⟩)
            | (go_at_call 19; (with_reducible refine (HT.out).mono ?_); rintro e w2 ⟨v1, rfl, ho1, hlow1⟩; have HO1 := hid ho1; have HLow1 := hid hlow1; clear ho1 hlow1))
          go_ret3
          exact ⟨HLow1.out, .inl ⟨n, v1, H9.out, by rw [HEn.out.1]; rfl, by rw [HEn.out.2]; exact HO1.out⟩⟩
        · obtain rfl : n = 0 := by omega
          obtain rfl : E = q := by omega
          have h19 : (E : Int) = (cap : Int) := by omega
          have h20 : cap - E = 0 := by omega
          have HT := hid (take_tail (HSub.out (some ⟨b, off, none⟩) 0 (fun h => absurd h (by decide))))
          have hqc2 : ¬ E < cap := hqc
          clear HNo HYes hvb h4 hx hh hbb hc hcell h8 hq hr hn hfit h hL h9 h10 hE HSub hqc
          go_enter Try.func8, Try.ntmps8
          go_wp2_with (first
            | (go_at_call 20; (with_reducible refine (HA.out).mono ?_); rintro e w1 ⟨rfl, rfl⟩)
            | (go_at_call 19; (with_reducible refine (HT.out).mono ?_); rintro e w2 ⟨v1, rfl, ho1, hlow1⟩; have HO1 := hid ho1; have HLow1 := hid hlow1; clear ho1 hlow1))
          go_ret3
          exact ⟨HLow1.out, .inl ⟨0, v1, H9.out, by rw [HEn.out.1, h19]; rfl, by rw [HEn.out.2]; exact HO1.out⟩⟩
      · have h11 : (r : Int) < (n : Int) := by omega
        have HB := hid (HNo.out (.inr ⟨n, hn, by omega⟩))
        clear HNo HYes hvb h4 hx hh hbb hc hcell h8 hq hr hn hfit h hL
        go_enter Try.func8, Try.ntmps8
        go_wp2_with (first | (go_at_call 20; (with_reducible refine (HA.out).mono ?_); rintro e w1 ⟨rfl, rfl⟩))
        go_ret3
        exact ⟨Below.refl _ _, .inr ⟨HB.out, rfl⟩⟩
    · have h9 : ¬ (x : Int) % 8 = 0 := by omega
      have HB := hid (HNo.out (.inl fun n h => h8 (by omega)))
      clear HNo HYes hvb h4 hx hh hbb hc hcell h8 hq h hL
      go_enter Try.func8, Try.ntmps8
      go_wp2_with (first | (go_at_call 20; (with_reducible refine (HA.out).mono ?_); rintro e w1 ⟨rfl, rfl⟩))
      go_ret3
      exact ⟨Below.refl _ _, .inr ⟨HB.out, rfl⟩⟩
  · have HB : Hid (∀ n, ¬ Beg zs n) := hid fun n hn => hh ⟨_, (hd_of hn).1⟩
    have HA := hid (ahead_no v zs w h fun c hc => hh ⟨c, hc⟩)
    obtain ⟨a, cap, rfl, _⟩ := h.open
    generalize zs.length = L at *
    clear hh hbb h
    go_enter Try.func8, Try.ntmps8
    go_wp2_with (first | (go_at_call 20; (with_reducible refine (HA.out).mono ?_); rintro e w1 ⟨rfl, rfl⟩))
    go_ret3
    exact ⟨Below.refl _ _, .inr ⟨HB.out, rfl⟩⟩
end Go.Proofs.Ytkeojphhgebhdaa
