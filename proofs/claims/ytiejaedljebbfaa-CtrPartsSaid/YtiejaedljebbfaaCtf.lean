import Derived.Test.YtiejaedljebbfaaProg
import Derived.Test.YtiejaedljebbfaaCte
/- Part, Cover. -/
namespace Go.Proofs.Ytiejaedljebbfaa
open Go.RowKit
set_option maxRecDepth 100000

/-- The number of a part, or of data, that may not be. -/
def outp (k : Int) (M : Nat) : Bool := decide (k < 0) || decide (M > 65536)
theorem part_bad (v : Value) (a a' : Option Addr) (L cc M cm : Nat) (k : Int) (w : World) (h : ckr L (outp k M) ≠ 0) :
    Calls Try.prog 17 #[v, .slice a L cc, .slice a' M cm, .int .i64 k] w fun e w' => e = none2 (ckr L (outp k M)) ∧ w' = w := by
  have HR := hid (refused_any a L cc (outp k M) w)
  have h3 : (ckr L (outp k M) != 0) = true := by rw [bne_iff_ne]; exact h
  generalize ckr L (outp k M) = x at *
  clear h
  by_cases h0 : k < 0
  · have ho : outp k M = true := by simp [outp, h0]
    rw [ho] at HR
    go_enter Try.func17, Try.ntmps17
    go_wp2_with (go_at_call 20; refine HR.out.mono ?_; rintro e w1 ⟨rfl, rfl⟩)
    go_ret2
    exact ⟨rfl, rfl⟩
  · by_cases h1 : M > 65536
    · have ho : outp k M = true := by simp [outp, h1]
      have h1' : (M : Int) > 65536 := by omega
      rw [ho] at HR
      clear h1
      go_enter Try.func17, Try.ntmps17
      go_wp2_with (go_at_call 20; refine HR.out.mono ?_; rintro e w1 ⟨rfl, rfl⟩)
      go_ret2
      exact ⟨rfl, rfl⟩
    · have ho : outp k M = false := by simp [outp, h0, h1]
      have h1' : ¬ (M : Int) > 65536 := by omega
      rw [ho] at HR
      clear h1
      go_enter Try.func17, Try.ntmps17
      go_wp2_with (go_at_call 20; refine HR.out.mono ?_; rintro e w1 ⟨rfl, rfl⟩)
      go_ret2
      exact ⟨rfl, rfl⟩

theorem rd_zero (a : Option Addr) (c : Nat) (f : Nat → Nat) (w : World) : Rd .u8 w (.slice a 0 c) (ns 0 f) := by
  show Rd .u8 w (.slice a 0 c) []
  exact ⟨a, c, rfl, by decide, fun z hz => (by cases hz), fun h => absurd h (by decide)⟩
theorem own_base {B B' : Nat} {E : TypeId} {w : World} {v : Value} {zs : List Int} (h : Own .u8 B E w v zs) (hB : B' ≤ B) : Own .u8 B' E w v zs := by
  obtain ⟨h1, h2⟩ := h
  exact ⟨h1, h2.imp id (fun ⟨g, c, cur, a1, a2, a3⟩ => ⟨g, c, cur, a1, by omega, a3⟩)⟩
theorem ns_min (M : Nat) : min M M = M := by omega
theorem xor_ns (v v' : Value) (M : Nat) (x y : Nat → Nat) (w : World) (h : Rd .u8 w v (ns M x)) (h' : Rd .u8 w v' (ns M y)) (hx : ∀ j, j < M → x j < 256) (hy : ∀ j, j < M → y j < 256) :
    Calls Try.prog 26 #[v, v'] w fun e w' => ∃ u, e = .returned u ∧ Own .u8 w.heap.size 5 w' u (ns M (xorF x y)) ∧ Below w.heap.size w w' := by
  refine (xor_any v v' _ _ w h h').mono ?_
  rintro e w' ⟨u, rfl, hown, hlow⟩
  rw [ns_len, ns_len, ns_min, xorL_ns x y hx hy M (Nat.le_refl _) (Nat.le_refl _)] at hown
  exact ⟨u, rfl, hown, hlow⟩
theorem refxor_ns (v v' : Value) (M : Nat) (x y : Nat → Nat) (w : World) (h : Rd .u8 w v (ns M x)) (h' : Rd .u8 w v' (ns M y)) (hx : ∀ j, j < M → x j < 256) (hy : ∀ j, j < M → y j < 256) :
    Calls Try.prog 14 #[v, v'] w fun e w' => ∃ u, e = .returned u ∧ Own .u8 w.heap.size 5 w' u (ns M (xorF x y)) ∧ Below w.heap.size w w' := by
  refine (refxor_any v v' _ _ w h h').mono ?_
  rintro e w' ⟨u, rfl, hown, hlow⟩
  rw [ns_len, ns_len, ns_min, xorL_ns x y hx hy M (Nat.le_refl _) (Nat.le_refl _)] at hown
  exact ⟨u, rfl, hown, hlow⟩

theorem part_any (v : Value) (d b c cap R R1 g off cc M k : Nat) (Y : Nat → Nat → Nat) (f δ : Nat → Nat) (w : World) (hM : M ≤ 65536) (hk : k < 9223372036854775808) (hv : Rd .u8 w v (ns M δ)) (hvb : ∀ w', Only b w w' → Rd .u8 w' v (ns M δ)) (hδ : ∀ j, j < M → δ j < 256)
    (h : Gv w d b c cap R R1 g off cc Y f) :
    Calls Try.prog 17 #[.pointer (some ⟨d, 0, none⟩), .slice (some ⟨g, off, none⟩) 16 cc, v, .int .i64 k] w fun e w' =>
      ∃ u, e = .returned (.tuple #[u, .int .i64 0]) ∧ Own .u8 w.heap.size 5 w' u (ns M (xorF δ (fun j => strF Y R f (k + j)))) ∧ Ci w' d b c cap R1 Y ∧ Only b w w' := by
  obtain ⟨av, cv, rfl, _, _, _⟩ := id hv
  rw [ns_len] at *
  have HR := hid (refused_any (some ⟨g, off, none⟩) 16 cc false w)
  have e1 : (k : Int) / 16 = ((k / 16 : Nat) : Int) := rfl
  have e2 : (k : Int) % 16 = ((k % 16 : Nat) : Int) := rfl
  have HKE : Hid (∀ j, strF Y R (lat f (k / 16)) (k % 16 + j) = strF Y R f (k + j)) := hid (fun j => by rw [strF_later]; congr 1; omega)
  have hq16 : k % 16 < 16 := Nat.mod_lt _ (by decide)
  have hp63 : k / 16 < 9223372036854775808 := by omega
  generalize k / 16 = p at *
  generalize k % 16 = q at *
  have HL := hid (later_any g off cc f p w hp63 h.cnt)
  have HH := hid h
  have hs : Hid (∀ w1, Own .u8 w.heap.size 5 w1 (.slice (some ⟨w.heap.size, 0, none⟩) 16 16) (ns 16 (lat f p)) → Below w.heap.size w w1 →
      Calls Try.prog 22 #[.pointer (some ⟨d, 0, none⟩), .slice (some ⟨w.heap.size, 0, none⟩) 16 16] w1 (fun e w' => e = .returned (.func (.func 31) #[] #[.pointer (some ⟨w1.heap.size + 1, 0, none⟩), .pointer (some ⟨w1.heap.size, 0, none⟩)]) ∧ w' = (w1.alloc (.cells #[.pointer (some ⟨d, 0, none⟩)] 25)).alloc (.cells #[.slice (some ⟨w.heap.size, 0, none⟩) 16 16] 22)) ∧
      Calls Try.prog 21 #[.func (.func 31) #[] #[.pointer (some ⟨w1.heap.size + 1, 0, none⟩), .pointer (some ⟨w1.heap.size, 0, none⟩)], .int .i64 ((q : Int) + M)] ((w1.alloc (.cells #[.pointer (some ⟨d, 0, none⟩)] 25)).alloc (.cells #[.slice (some ⟨w.heap.size, 0, none⟩) 16 16] 22)) (fun e w' =>
        ∃ g', e = .returned (.slice (some ⟨g', 0, none⟩) (q + M) (q + M)) ∧ Wd w' (q + M) g' 0 (strF Y R (lat f p)) ∧ Ci w' d b c cap R1 Y ∧ Only b w w')) := hid (fun w1 ho hl => by
    obtain ⟨hw, _⟩ := wd_own ho (lat_b f p)
    have h1 : Gv w1 d b c cap R R1 w.heap.size 0 16 Y (lat f p) := ⟨h.num, h.ci.self hl, hw, by have := h.ci.box.lt; omega⟩
    have h2 := told_any d b c cap R R1 w.heap.size 0 16 (q + M) Y (lat f p) w1 (by omega) h1
    rw [Int.natCast_add] at h2
    refine ⟨blocks_any d w.heap.size 0 16 16 w1, h2.mono ?_⟩
    rintro e w' ⟨g', rfl, _, hw, hci, ho⟩
    exact ⟨g', rfl, hw, hci, (Only.of_below hl).trans ho⟩)
  have HX : Hid (∀ w1 g', Wd w1 (q + M) g' 0 (strF Y R (lat f p)) → Only b w w1 → Calls Try.prog 26 #[.slice av M cv, .slice (some ⟨g', q, none⟩) M M] w1 (fun e w' => ∃ u, e = .returned u ∧ Own .u8 w1.heap.size 5 w' u (ns M (xorF δ (fun j => strF Y R f (k + j)))) ∧ Below w1.heap.size w1 w') ∧
      (M = 0 → Calls Try.prog 26 #[.slice av 0 cv, .slice (some ⟨g', 0, none⟩) 0 0] w1 (fun e w' => ∃ u, e = .returned u ∧ Own .u8 w1.heap.size 5 w' u (ns M (xorF δ (fun j => strF Y R f (k + j)))) ∧ Below w1.heap.size w1 w'))) := hid (fun w1 g' hw ho => by
    refine ⟨?_, fun h0 => by subst h0; exact xor_ns _ _ 0 δ _ w1 (hvb w1 ho) (rd_zero _ _ _ _) hδ (fun j hj => absurd hj (by omega))⟩
    have hp := (hw.part (k := q) (m := M) (Nat.le_refl _)).rd M hM
    rw [Nat.zero_add, show ns M (fun j => strF Y R (lat f p) (q + j)) = ns M (fun j => strF Y R f (k + j)) from ns_ext fun j _ => HKE.out j] at hp
    exact xor_ns _ _ M δ _ w1 (hvb w1 ho) hp hδ (fun j _ => h.strb _))
  have h0 : ¬ (k : Int) < 0 := by omega
  have h1 : ¬ (M : Int) > 65536 := by omega
  have hck : ckr 16 false = 0 := rfl
  have hq0 : (q : Int) < 16 := by omega
  have hq1 : (0 : Int) ≤ q := by omega
  have hw : wrap64 ((q : Int) + M) = (q : Int) + M := w64 (by omega) (by omega)
  have hwp : wrap64 (p : Int) = p := w64 (by omega) (by omega)
  have hwq : wrap64 (q : Int) = q := w64 (by omega) (by omega)
  rw [hck] at HR
  clear h hv hck hvb hδ hM hk hq16 hp63
  go_enter Try.func17, Try.ntmps17
  go_wp2_with (first
    | (go_at_call 20; (with_reducible refine HR.out.mono ?_); rintro e w1 ⟨rfl, rfl⟩)
    | (go_at_call 23; (with_reducible refine HL.out.mono ?_); rintro e w1 ⟨rfl, hown, hlow⟩; have HS := hid (hs.out w1 hown hlow); clear hown hlow)
    | (go_at_call 22; (with_reducible refine HS.out.1.mono ?_); rintro e w2 ⟨rfl, rfl⟩)
    | (go_at_call 21; (with_reducible refine HS.out.2.mono ?_); rintro e w3 ⟨g', rfl, hwd, hci, ho⟩; have HC := hid (And.intro hci ho); have HXX := hid (HX.out w3 g' hwd ho); clear hwd hci ho)
    | (go_at_call 26; (first | (with_reducible refine HXX.out.1.mono ?_) | (with_reducible refine (HXX.out.2 (by assumption)).mono ?_)); rintro e w4 ⟨u, rfl, hown, hlow⟩; have HE := hid (And.intro hown hlow); clear hown hlow))
  all_goals go_ret2
  all_goals exact ⟨u, rfl, own_base HE.out.1 HC.out.2.size, HC.out.1.self HE.out.2, HC.out.2.trans (Only.of_below HE.out.2)⟩

theorem cover_bad (v : Value) (a a' : Option Addr) (L cc M cm : Nat) (w : World) (h : ckr L (outp 0 M) ≠ 0) :
    Calls Try.prog 10 #[v, .slice a L cc, .slice a' M cm] w fun e w' => e = none2 (ckr L (outp 0 M)) ∧ w' = w := by
  have HP := hid (part_bad v a a' L cc M cm 0 w h)
  generalize ckr L (outp 0 M) = x at *
  clear h
  unfold none2 at *
  go_enter Try.func10, Try.ntmps10
  go_wp2_with (go_at_call 17; (with_reducible refine HP.out.mono ?_); rintro e w1 ⟨rfl, rfl⟩)
  go_ret2
  exact ⟨rfl, rfl⟩
theorem cover_any (v : Value) (d b c cap R R1 g off cc M : Nat) (Y : Nat → Nat → Nat) (f δ : Nat → Nat) (w : World) (hM : M ≤ 65536) (hv : Rd .u8 w v (ns M δ)) (hvb : ∀ w', Only b w w' → Rd .u8 w' v (ns M δ)) (hδ : ∀ j, j < M → δ j < 256)
    (h : Gv w d b c cap R R1 g off cc Y f) :
    Calls Try.prog 10 #[.pointer (some ⟨d, 0, none⟩), .slice (some ⟨g, off, none⟩) 16 cc, v] w fun e w' =>
      ∃ u, e = .returned (.tuple #[u, .int .i64 0]) ∧ Own .u8 w.heap.size 5 w' u (ns M (xorF δ (strF Y R f))) ∧ Ci w' d b c cap R1 Y ∧ Only b w w' := by
  have hp := part_any v d b c cap R R1 g off cc M 0 Y f δ w hM (by decide) hv hvb hδ h
  rw [show (fun j => strF Y R f (0 + j)) = strF Y R f from funext fun j => by rw [Nat.zero_add]] at hp
  have HP : Hid (Calls Try.prog 17 #[.pointer (some ⟨d, 0, none⟩), .slice (some ⟨g, off, none⟩) 16 cc, v, .int .i64 0] w fun e w' =>
      ∃ u, e = .returned (.tuple #[u, .int .i64 0]) ∧ Own .u8 w.heap.size 5 w' u (ns M (xorF δ (strF Y R f))) ∧ Ci w' d b c cap R1 Y ∧ Only b w w') := hid hp
  obtain ⟨av, cv, rfl, _, _, _⟩ := hv
  clear hp hvb hδ h
  go_enter Try.func10, Try.ntmps10
  go_wp2_with (go_at_call 17; (with_reducible refine HP.out.mono ?_); rintro e w1 ⟨u, rfl, hX⟩; have HX := hid hX; clear hX)
  go_ret2
  exact ⟨u, rfl, HX.out⟩
end Go.Proofs.Ytiejaedljebbfaa
