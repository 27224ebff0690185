import Derived.Test.YthhkhcacljgelaaGreatProg
import Derived.Test.YthhkhcacljgelaaGreatEae
/- Tag; the document's Tag, Cover, Check. -/
namespace Go.Proofs.YthhkhcacljgelaaGreat
open Go.RowKit
set_option maxRecDepth 100000

set_option maxHeartbeats 1600000 in
theorem etag_any (d b c cap R R1 N ne H he M e : Nat) (Y : Nat → Nat → Nat) (ν η δ : Nat → Nat) (na ha a : Option Addr) (w : World) (h : Gc w d b c cap R R1 Y) (mn : Mg b w na N ne ν) (mh : Mg b w ha H he η) (m : Mg b w a M e δ) :
    Calls Tryz.prog 11 #[.pointer (some ⟨d, 0, none⟩), .slice na N ne, .slice ha H he, .slice a M e] w fun q w' =>
      ∃ g c', q = .returned (.slice (some ⟨g, 0, none⟩) 16 c') ∧ Et w w' d b c cap R R1 Y g c' (eaxF Y R N ν H η M δ) := by
  have HN0 := hid (nam0_any d b c cap R R1 N ne Y ν na w h mn)
  have HM := hid m
  have HH := hid mh
  have HLT := hid h.lt
  clear h mn mh m
  go_enter Tryz.func11, Tryz.ntmps11
  go_wp2_with (first
    | (go_at_call 17; (with_reducible refine HN0.out.mono ?_); rintro q w1 ⟨g1, rfl, hte⟩
       have HE1 := hid hte
       have HT := hid (tagFrom_any d b c cap R R1 g1 16 H he M e Y (namF Y R 0 N ν) η δ ha a w1 hte.gc (hte.mg HLT.out) (HH.out.later hte.low) (HM.out.later hte.low))
       clear hte)
    | (go_at_call 20; (with_reducible refine HT.out.mono ?_); rintro q w3 ⟨g3, c3, rfl, hte⟩
       have HE3 : Hid (Et w w3 d b c cap R R1 Y g3 c3 (eaxF Y R N ν H η M δ)) := hid ⟨hte.gc, HE1.out.low.trans hte.low, hte.row, Nat.le_trans HE1.out.low.size hte.new, hte.cap⟩
       clear hte))
  go_ret
  exact ⟨g3, c3, rfl, HE3.out⟩

/-- A row of 16 bytes told by the document. -/
structure Dt (w w' : World) (g e : Nat) (z : Nat → Nat) : Prop where
  row : Wd w' 16 g 0 z
  new : w.heap.size ≤ g
  low : Below w.heap.size w w'
  cap : 16 ≤ e
theorem Dt.mg {b : Nat} {w w' : World} {g e : Nat} {z : Nat → Nat} (h : Dt w w' g e z) (hb : b < w.heap.size) : Mg b w' (some ⟨g, 0, none⟩) 16 e z :=
  ⟨kept_wd h.row (by have := h.new; omega) (by decide), h.row.byte, h.cap, by decide⟩
theorem rnam_any (t b R R1 N e : Nat) (kv : Value) (Y : Nat → Nat → Nat) (ν : Nat → Nat) (a : Option Addr) (w : World) (ht : t < 256) (hk : Ky w kv R R1 Y) (m : Mg b w a N e ν) :
    Calls Tryz.prog 23 #[kv, .int .u8 t, .slice a N e] w fun q w' => ∃ g, q = .returned (.slice (some ⟨g, 0, none⟩) 16 16) ∧ Dt w w' g 16 (namF Y R t N ν) := by
  refine (refnamed_any kv R R1 N e t Y ν a w hk ht m.all m.max m.rd).mono ?_
  rintro q w' ⟨g, rfl, hw, hg, hlow⟩
  exact ⟨g, rfl, hw, hg, hlow, Nat.le_refl _⟩
theorem rnam0_any (b R R1 N e : Nat) (kv : Value) (Y : Nat → Nat → Nat) (ν : Nat → Nat) (a : Option Addr) (w : World) (hk : Ky w kv R R1 Y) (m : Mg b w a N e ν) :
    Calls Tryz.prog 23 #[kv, .int .u8 0, .slice a N e] w fun q w' => ∃ g, q = .returned (.slice (some ⟨g, 0, none⟩) 16 16) ∧ Dt w w' g 16 (namF Y R 0 N ν) := rnam_any 0 b R R1 N e kv Y ν a w (by decide) hk m
theorem rnam1_any (b R R1 N e : Nat) (kv : Value) (Y : Nat → Nat → Nat) (ν : Nat → Nat) (a : Option Addr) (w : World) (hk : Ky w kv R R1 Y) (m : Mg b w a N e ν) :
    Calls Tryz.prog 23 #[kv, .int .u8 1, .slice a N e] w fun q w' => ∃ g, q = .returned (.slice (some ⟨g, 0, none⟩) 16 16) ∧ Dt w w' g 16 (namF Y R 1 N ν) := rnam_any 1 b R R1 N e kv Y ν a w (by decide) hk m
theorem rnam2_any (b R R1 N e : Nat) (kv : Value) (Y : Nat → Nat → Nat) (ν : Nat → Nat) (a : Option Addr) (w : World) (hk : Ky w kv R R1 Y) (m : Mg b w a N e ν) :
    Calls Tryz.prog 23 #[kv, .int .u8 2, .slice a N e] w fun q w' => ∃ g, q = .returned (.slice (some ⟨g, 0, none⟩) 16 16) ∧ Dt w w' g 16 (namF Y R 2 N ν) := rnam_any 2 b R R1 N e kv Y ν a w (by decide) hk m
theorem rxor_16 (v v' : Value) (x y : Nat → Nat) (w : World) (h : Rd .u8 w v (ns 16 x)) (h' : Rd .u8 w v' (ns 16 y)) (hx : B16 x) (hy : B16 y) :
    Calls Tryz.prog 22 #[v, v'] w fun e w' => ∃ g c, e = .returned (.slice (some ⟨g, 0, none⟩) 16 c) ∧ Dt w w' g c (xorF x y) := by
  refine (refxor_ns v v' 16 x y w h h' hx hy).mono ?_
  rintro e w' ⟨u, rfl, hown, hlow⟩
  obtain ⟨g, c, rfl, _⟩ := hown.part (by rw [ns_len]; decide)
  rw [ns_len] at hown ⊢
  have := wd_own hown (xorF_16 hx hy)
  exact ⟨g, c, rfl, this.1, this.2, hlow, own_cap hown⟩
set_option maxHeartbeats 1600000 in
theorem rtag_any (b R R1 N ne H he M e : Nat) (kv : Value) (Y : Nat → Nat → Nat) (ν η δ : Nat → Nat) (na ha a : Option Addr) (w : World) (hk : Ky w kv R R1 Y) (mn : Mg b w na N ne ν) (mh : Mg b w ha H he η) (m : Mg b w a M e δ) :
    Calls Tryz.prog 12 #[kv, .slice na N ne, .slice ha H he, .slice a M e] w fun q w' => ∃ g c', q = .returned (.slice (some ⟨g, 0, none⟩) 16 c') ∧ Dt w w' g c' (eaxF Y R N ν H η M δ) := by
  have HN0 := hid (rnam0_any b R R1 N ne kv Y ν na w hk mn)
  have HM := hid m
  have HH := hid mh
  have HK := hid hk
  clear hk mn mh m
  go_enter Tryz.func12, Tryz.ntmps12
  go_wp2_with (first
    | (go_at_call 23; (with_reducible refine HN0.out.mono ?_); rintro q w1 ⟨g1, rfl, hd⟩
       have HD1 := hid hd
       have HN1 := hid (rnam1_any b R R1 H he kv Y η ha w1 (HK.out.later hd.low) (HH.out.self hd.low))
       clear hd)
    | (go_at_call 23; (with_reducible refine HN1.out.mono ?_); rintro q w2 ⟨g2, rfl, hd⟩
       have HD2 := hid hd
       have HL2 := hid (HD1.out.low.trans (hd.low.mono HD1.out.low.size))
       have HX2 := hid (rxor_16 (.slice (some ⟨g1, 0, none⟩) 16 16) (.slice (some ⟨g2, 0, none⟩) 16 16) (namF Y R 0 N ν) (namF Y R 1 H η) w2 ((HD1.out.row.self hd.low).rd 16 (by decide)) (hd.row.rd 16 (by decide)) HD1.out.row.byte hd.row.byte)
       clear hd)
    | (go_at_call 22; (with_reducible refine HX2.out.mono ?_); rintro q w3 ⟨g3, c3, rfl, hd⟩
       have HD3 := hid hd
       have HL3 := hid (HL2.out.trans (hd.low.mono HL2.out.size))
       have HN2 := hid (rnam2_any b R R1 M e kv Y δ a w3 (HK.out.later HL3.out) (HM.out.self HL3.out))
       clear hd)
    | (go_at_call 23; (with_reducible refine HN2.out.mono ?_); rintro q w4 ⟨g4, rfl, hd⟩
       have HL4 := hid (HL3.out.trans (hd.low.mono HL3.out.size))
       have HX4 := hid (rxor_16 (.slice (some ⟨g3, 0, none⟩) 16 c3) (.slice (some ⟨g4, 0, none⟩) 16 16) (xorF (namF Y R 0 N ν) (namF Y R 1 H η)) (namF Y R 2 M δ) w4 ((HD3.out.row.self hd.low).rd c3 (by decide)) (hd.row.rd 16 (by decide)) HD3.out.row.byte hd.row.byte)
       clear hd)
    | (go_at_call 22; (with_reducible refine HX4.out.mono ?_); rintro q w5 ⟨g5, c5, rfl, hd⟩
       have HD5 : Hid (Dt w w5 g5 c5 (eaxF Y R N ν H η M δ)) := hid ⟨hd.row, Nat.le_trans HL4.out.size hd.new, HL4.out.trans (hd.low.mono HL4.out.size), hd.cap⟩
       clear hd))
  go_ret
  exact ⟨g5, c5, rfl, HD5.out⟩
set_option maxHeartbeats 1600000 in
theorem rcover_any (b R R1 N ne M e : Nat) (kv : Value) (Y : Nat → Nat → Nat) (ν δ : Nat → Nat) (na a : Option Addr) (w : World) (hb : b < w.heap.size) (hk : Ky w kv R R1 Y) (mn : Mg b w na N ne ν) (m : Mg b w a M e δ) :
    Calls Tryz.prog 13 #[kv, .slice na N ne, .slice a M e] w fun q w' => ∃ ua uc, q = .returned (.slice ua M uc) ∧ Mg b w' ua M uc (covF Y R N ν δ) ∧ Below w.heap.size w w' := by
  have HN0 := hid (rnam0_any b R R1 N ne kv Y ν na w hk mn)
  have HM := hid m
  have HK := hid hk
  have HLT := hid hb
  clear hk mn m hb
  go_enter Tryz.func13, Tryz.ntmps13
  go_wp2_with (first
    | (go_at_call 23; (with_reducible refine HN0.out.mono ?_); rintro q w1 ⟨g1, rfl, hd⟩
       have HL1 := hid hd.low
       have HS := hid (refstream_kept b g1 0 16 R R1 M kv Y (namF Y R 0 N ν) w w1 (by have := HM.out.max; omega) HK.out hd.low (by have := hd.low.size; have := HLT.out; omega) hd.row.byte (hd.row.rd 16 (by decide)))
       clear hd)
    | (go_at_call 24; (with_reducible refine HS.out.mono ?_); rintro q w2 ⟨g2, c2, rfl, hkp, hlow⟩
       have HL2 := hid (HL1.out.trans (hlow.mono HL1.out.size))
       have HX := hid (refxor_ns (.slice a M e) (.slice (some ⟨g2, 0, none⟩) M c2) M δ (strF Y R (namF Y R 0 N ν)) w2 (HM.out.self HL2.out).rd hkp.rd HM.out.all (fun j _ => strF_b HK.out.yb _ j))
       clear hkp hlow)
    | (go_at_call 22; (with_reducible refine HX.out.mono ?_); rintro q w3 ⟨u, rfl, hown, hlow⟩
       obtain ⟨ua, uc, rfl, hm⟩ := own_mg (b := b) hown (by have := HL2.out.size; have := HLT.out; omega) HM.out.max (covF_b HK.out.yb HM.out.all)
       have HM3 := hid (And.intro hm (HL2.out.trans (hlow.mono HL2.out.size)))
       clear hown hlow hm))
  go_ret
  exact ⟨ua, uc, rfl, HM3.out⟩
theorem rcheck_any (n : Int) (M : Nat) (w : World) : Calls Tryz.prog 9 #[.int .i64 n, .int .i64 M] w fun x w' => x = .returned (.int .i64 (rfE n M)) ∧ w' = w := by
  by_cases h1 : n < 1
  · rw [rfE_bad (.inl h1)]
    go_enter Tryz.func9, Tryz.ntmps9
    go_wp2
    go_ret
    exact ⟨rfl, rfl⟩
  · by_cases h2 : n > 16
    · rw [rfE_bad (.inr h2)]
      go_enter Tryz.func9, Tryz.ntmps9
      go_wp2
      go_ret
      exact ⟨rfl, rfl⟩
    · by_cases h3 : (M : Int) > 65536
      · have h : rfE n M = 1 := by unfold rfE; rw [if_neg (by omega), if_pos (by omega)]
        rw [h]
        go_enter Tryz.func9, Tryz.ntmps9
        go_wp2
        go_ret
        exact ⟨rfl, rfl⟩
      · rw [rfE_ok (by omega) (by omega)]
        go_enter Tryz.func9, Tryz.ntmps9
        go_wp2
        go_ret
        exact ⟨rfl, rfl⟩
theorem same_no (v v' : Value) (xs ys : List Int) (w : World) (h : Rd .u8 w v xs) (h' : Rd .u8 w v' ys) (e : ¬ xs = ys) : Calls Tryz.prog 10 #[v, v'] w fun e w' => e = .returned (.bool false) ∧ w' = w := by
  have := refsame_any v v' xs ys w h h'
  rwa [decide_eq_false e] at this
end Go.Proofs.YthhkhcacljgelaaGreat
