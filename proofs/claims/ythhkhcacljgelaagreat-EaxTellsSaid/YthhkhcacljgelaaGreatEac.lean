import Derived.Test.YthhkhcacljgelaaGreatProg
import Derived.Test.YthhkhcacljgelaaGreatEab
import Derived.OwnWalk
/- Seal, Unseal. -/
namespace Go.Proofs.YthhkhcacljgelaaGreat
open Go.RowKit
set_option maxRecDepth 100000

theorem own_mg {b B n : Nat} {E : TypeId} {w : World} {v : Value} {f : Nat → Nat} (h : Own .u8 B E w v (ns n f)) (hb : b < B) (hn : n ≤ 50000) (hf : ∀ j, j < n → f j < 256) : ∃ a e, v = .slice a n e ∧ Mg b w a n e f := by
  obtain ⟨p, e, rfl, he, -⟩ := h.slice
  rw [ns_len] at *
  exact ⟨p, e, rfl, kept_own h hb (by omega) hf, hf, he, hn⟩
/-- Bytes, covered. -/
def covF (Y : Nat → Nat → Nat) (R N : Nat) (ν δ : Nat → Nat) : Nat → Nat := xorF δ (strF Y R (namF Y R 0 N ν))
theorem covF_b {Y : Nat → Nat → Nat} {R N M : Nat} {ν δ : Nat → Nat} (hY : YB Y R) (hδ : ∀ j, j < M → δ j < 256) : ∀ j, j < M → covF Y R N ν δ j < 256 := fun j hj => xorF_b (hδ j hj) (strF_b hY _ j)
/-- What Cover tells. -/
theorem ecover_any (d b c cap R R1 g cc M e : Nat) (Y : Nat → Nat → Nat) (f δ : Nat → Nat) (a : Option Addr) (w : World) (h : Gc w d b c cap R R1 Y) (hf : Wd w 16 g 0 f) (hg : g ≠ b) (m : Mg b w a M e δ) :
    Calls Tryz.prog 18 #[.pointer (some ⟨d, 0, none⟩), .slice (some ⟨g, 0, none⟩) 16 cc, .slice a M e] w fun q w' =>
      ∃ ua uc, q = .returned (.tuple #[.slice ua M uc, .int .i64 0]) ∧ Mg b w' ua M uc (xorF δ (strF Y R f)) ∧ Gc w' d b c cap R R1 Y ∧ Only b w w' := by
  refine (cover_any (.slice a M e) d b c cap R R1 g 0 cc M Y f δ w (by have := m.max; omega) m.rd m.kept m.all ⟨h.num, h.ci, hf, hg⟩).mono ?_
  rintro q w' ⟨u, rfl, hown, hci, ho⟩
  obtain ⟨ua, uc, rfl, hm⟩ := own_mg hown h.lt m.max (fun j hj => xorF_b (m.all j hj) (strF_b h.yb f j))
  exact ⟨ua, uc, rfl, hm, ⟨h.num, hci⟩, ho⟩
/-- What Seal tells. -/
structure Sl (w w' : World) (d b c cap R R1 : Nat) (Y : Nat → Nat → Nat) (ua : Option Addr) (M uc : Nat) (κ : Nat → Nat) (g n : Nat) (z : Nat → Nat) : Prop where
  gc : Gc w' d b c cap R R1 Y
  low : Only b w w'
  cov : Mg b w' ua M uc κ
  tag : Mg b w' (some ⟨g, 0, none⟩) n n z

set_option maxHeartbeats 1600000 in
theorem esl_any (d b c cap R R1 N ne H he M e n : Nat) (Y : Nat → Nat → Nat) (ν η δ : Nat → Nat) (na ha a : Option Addr) (w : World) (h : Gc w d b c cap R R1 Y) (mn : Mg b w na N ne ν) (mh : Mg b w ha H he η) (m : Mg b w a M e δ) (hn : 1 ≤ n ∧ n ≤ 16) :
    Calls Tryz.prog 7 #[.pointer (some ⟨d, 0, none⟩), .slice na N ne, .slice ha H he, .slice a M e, .int .i64 n] w fun q w' =>
      ∃ ua uc g, q = .returned (.tuple #[.slice ua M uc, .slice (some ⟨g, 0, none⟩) n n, .int .i64 0]) ∧ Sl w w' d b c cap R R1 Y ua M uc (covF Y R N ν δ) g n (eaxF Y R N ν H η M (covF Y R N ν δ)) := by
  have HR : Hid (∀ w, Calls Tryz.prog 16 #[.int .i64 n, .slice a M e] w fun x w' => x = .returned (.int .i64 0) ∧ w' = w) := hid (fun w => by
    have := erefused_any a M e (n : Int) w
    rwa [rfE_ok (by omega) (by have := m.max; omega)] at this)
  have HN0 := hid (nam0_any d b c cap R R1 N ne Y ν na w h mn)
  have HM := hid m
  have HH := hid mh
  have HLT := hid h.lt
  have HNN := hid hn
  clear h mn mh m hn
  go_enter Tryz.func7, Tryz.ntmps7
  go_wp2_with (first
    | (go_at_call 16; (with_reducible refine (HR.out _).mono ?_); rintro q w ⟨rfl, rfl⟩)
    | (go_at_call 17; (with_reducible refine HN0.out.mono ?_); rintro q w1 ⟨g1, rfl, hte⟩
       have HE1 := hid hte
       have HC := hid (ecover_any d b c cap R R1 g1 16 M e Y (namF Y R 0 N ν) δ a w1 hte.gc hte.row (by have := hte.new; have := HLT.out; omega) (HM.out.later hte.low))
       clear hte)
    | (go_at_call 18; (with_reducible refine HC.out.mono ?_); rintro q w2 ⟨ua, uc, rfl, hm, hg, ho⟩
       have HC2 := hid hm
       have HO2 := hid (HE1.out.low.trans ho)
       have HT := hid (tagFrom_any d b c cap R R1 g1 16 H he M uc Y (namF Y R 0 N ν) η (covF Y R N ν δ) ha ua w2 hg ((HE1.out.mg HLT.out).later ho) (HH.out.later (HE1.out.low.trans ho)) hm)
       clear hm hg ho)
    | (go_at_call 20; (with_reducible refine HT.out.mono ?_); rintro q w3 ⟨g3, c3, rfl, hte⟩
       have HE3 := hid hte
       have HCU := hid (ecut_any g3 c3 n w3 HNN.out.2 hte.cap)
       clear hte)
    | (go_at_call 19; (with_reducible refine HCU.out.mono ?_); rintro q w3 ⟨rfl, rfl⟩))
  go_ret3
  exact ⟨ua, uc, g3, rfl, HE3.out.gc, HO2.out.trans HE3.out.low, HC2.out.later HE3.out.low,
    ⟨fun W hW => (kept_head ((HE3.out.mg (Nat.lt_of_lt_of_le HLT.out HO2.out.size)).kept.later hW) HNN.out.2).rd, fun j hj => HE3.out.row.byte j (by have := HNN.out; omega), Nat.le_refl _, by have := HNN.out; omega⟩⟩
theorem esl_bad (v : Value) (N ne H he M e : Nat) (na ha a : Option Addr) (n : Int) (w : World) (hn : n < 1 ∨ n > 16) :
    Calls Tryz.prog 7 #[v, .slice na N ne, .slice ha H he, .slice a M e, .int .i64 n] w fun q w' => q = .returned (.tuple #[.slice none 0 0, .slice none 0 0, .int .i64 5]) ∧ w' = w := by
  have HR : Hid (∀ w, Calls Tryz.prog 16 #[.int .i64 n, .slice a M e] w fun x w' => x = .returned (.int .i64 5) ∧ w' = w) := hid (fun w => by
    have := erefused_any a M e n w
    rwa [rfE_bad hn] at this)
  clear hn
  go_enter Tryz.func7, Tryz.ntmps7
  go_wp2_with (first
    | (go_at_call 16; (with_reducible refine (HR.out _).mono ?_); rintro q w ⟨rfl, rfl⟩))
  go_ret3
  exact ⟨rfl, rfl⟩

set_option maxHeartbeats 1600000 in
theorem eun_yes (d b c cap R R1 N ne H he M e L te : Nat) (Y : Nat → Nat → Nat) (ν η δ τ : Nat → Nat) (na ha a ta : Option Addr) (w : World) (h : Gc w d b c cap R R1 Y) (mn : Mg b w na N ne ν) (mh : Mg b w ha H he η) (m : Mg b w a M e δ) (mt : Mg b w ta L te τ) (hn : 1 ≤ L ∧ L ≤ 16)
    (hz : ns L (eaxF Y R N ν H η M δ) = ns L τ) :
    Calls Tryz.prog 8 #[.pointer (some ⟨d, 0, none⟩), .slice na N ne, .slice ha H he, .slice a M e, .slice ta L te] w fun q w' =>
      ∃ ua uc, q = .returned (.tuple #[.slice ua M uc, .bool true, .int .i64 0]) ∧ Mg b w' ua M uc (covF Y R N ν δ) ∧ Gc w' d b c cap R R1 Y ∧ Only b w w' := by
  have HR : Hid (∀ w, Calls Tryz.prog 16 #[.int .i64 L, .slice a M e] w fun x w' => x = .returned (.int .i64 0) ∧ w' = w) := hid (fun w => by
    have := erefused_any a M e (L : Int) w
    rwa [rfE_ok (by omega) (by have := m.max; omega)] at this)
  have HN0 := hid (nam0_any d b c cap R R1 N ne Y ν na w h mn)
  have HM := hid m
  have HH := hid mh
  have HTT := hid mt
  have HLT := hid h.lt
  have HNN := hid hn
  have HZ := hid (decide_eq_true hz)
  clear h mn mh m mt hn hz
  go_enter Tryz.func8, Tryz.ntmps8
  go_wp2_with (first
    | (go_at_call 16; (with_reducible refine (HR.out _).mono ?_); rintro q w ⟨rfl, rfl⟩)
    | (go_at_call 17; (with_reducible refine HN0.out.mono ?_); rintro q w1 ⟨g1, rfl, hte⟩
       have HE1 := hid hte
       have HT := hid (tagFrom_any d b c cap R R1 g1 16 H he M e Y (namF Y R 0 N ν) η δ ha a w1 hte.gc (hte.mg HLT.out) (HH.out.later hte.low) (HM.out.later hte.low))
       clear hte)
    | (go_at_call 20; (with_reducible refine HT.out.mono ?_); rintro q w3 ⟨g3, c3, rfl, hte⟩
       have HE3 := hid hte
       have HCU := hid (ecut_any g3 c3 L w3 HNN.out.2 hte.cap)
       have HSM := hid (osame_ns (.slice (some ⟨g3, 0, none⟩) L L) (.slice ta L te) L _ τ w3 (kept_head (hte.mg (Nat.lt_of_lt_of_le HLT.out HE1.out.low.size)).kept HNN.out.2).rd ((HTT.out.later HE1.out.low).later hte.low).rd (fun j hj => hte.row.byte j (by have := HNN.out; omega)) HTT.out.all)
       clear hte)
    | (go_at_call 19; (with_reducible refine HCU.out.mono ?_); rintro q w3 ⟨rfl, rfl⟩)
    | (go_at_call 21; (with_reducible refine HSM.out.mono ?_); rintro q w4 ⟨hq, hlow⟩
       have hq2 := hq.trans (congrArg (fun x => Ending.returned (.bool x)) HZ.out)
       subst hq2
       clear hq
       have HE4 := hid ((HE3.out.low.trans (Only.of_below hlow)))
       have HC := hid (ecover_any d b c cap R R1 g1 16 M e Y (namF Y R 0 N ν) δ a w4 (HE3.out.gc.self hlow) (HE1.out.row.only HE4.out (by have := HE1.out.new; have := HLT.out; omega)) (by have := HE1.out.new; have := HLT.out; omega) ((HM.out.later HE1.out.low).later HE4.out))
       clear hlow)
    | (go_at_call 18; (with_reducible refine HC.out.mono ?_); rintro q w2 ⟨ua, uc, rfl, hm, hg, ho⟩
       have HC2 := hid (And.intro hm (And.intro hg ((HE1.out.low.trans HE4.out).trans ho)))
       clear hm hg ho))
  go_ret3
  exact ⟨ua, uc, rfl, HC2.out⟩
set_option maxHeartbeats 1600000 in
theorem eun_no (d b c cap R R1 N ne H he M e L te : Nat) (Y : Nat → Nat → Nat) (ν η δ τ : Nat → Nat) (na ha a ta : Option Addr) (w : World) (h : Gc w d b c cap R R1 Y) (mn : Mg b w na N ne ν) (mh : Mg b w ha H he η) (m : Mg b w a M e δ) (mt : Mg b w ta L te τ) (hn : 1 ≤ L ∧ L ≤ 16)
    (hz : ¬ ns L (eaxF Y R N ν H η M δ) = ns L τ) :
    Calls Tryz.prog 8 #[.pointer (some ⟨d, 0, none⟩), .slice na N ne, .slice ha H he, .slice a M e, .slice ta L te] w fun q w' =>
      q = .returned (.tuple #[.slice none 0 0, .bool false, .int .i64 0]) ∧ Gc w' d b c cap R R1 Y ∧ Only b w w' := by
  have HR : Hid (∀ w, Calls Tryz.prog 16 #[.int .i64 L, .slice a M e] w fun x w' => x = .returned (.int .i64 0) ∧ w' = w) := hid (fun w => by
    have := erefused_any a M e (L : Int) w
    rwa [rfE_ok (by omega) (by have := m.max; omega)] at this)
  have HN0 := hid (nam0_any d b c cap R R1 N ne Y ν na w h mn)
  have HM := hid m
  have HH := hid mh
  have HTT := hid mt
  have HLT := hid h.lt
  have HNN := hid hn
  have HZ := hid (decide_eq_false hz)
  clear h mn mh m mt hn hz
  go_enter Tryz.func8, Tryz.ntmps8
  go_wp2_with (first
    | (go_at_call 16; (with_reducible refine (HR.out _).mono ?_); rintro q w ⟨rfl, rfl⟩)
    | (go_at_call 17; (with_reducible refine HN0.out.mono ?_); rintro q w1 ⟨g1, rfl, hte⟩
       have HE1 := hid hte
       have HT := hid (tagFrom_any d b c cap R R1 g1 16 H he M e Y (namF Y R 0 N ν) η δ ha a w1 hte.gc (hte.mg HLT.out) (HH.out.later hte.low) (HM.out.later hte.low))
       clear hte)
    | (go_at_call 20; (with_reducible refine HT.out.mono ?_); rintro q w3 ⟨g3, c3, rfl, hte⟩
       have HE3 := hid hte
       have HCU := hid (ecut_any g3 c3 L w3 HNN.out.2 hte.cap)
       have HSM := hid (osame_ns (.slice (some ⟨g3, 0, none⟩) L L) (.slice ta L te) L _ τ w3 (kept_head (hte.mg (Nat.lt_of_lt_of_le HLT.out HE1.out.low.size)).kept HNN.out.2).rd ((HTT.out.later HE1.out.low).later hte.low).rd (fun j hj => hte.row.byte j (by have := HNN.out; omega)) HTT.out.all)
       clear hte)
    | (go_at_call 19; (with_reducible refine HCU.out.mono ?_); rintro q w3 ⟨rfl, rfl⟩)
    | (go_at_call 21; (with_reducible refine HSM.out.mono ?_); rintro q w4 ⟨hq, hlow⟩
       have hq2 := hq.trans (congrArg (fun x => Ending.returned (.bool x)) HZ.out)
       subst hq2
       clear hq
       have HE4 := hid (And.intro (HE3.out.gc.self hlow) ((HE1.out.low.trans HE3.out.low).trans (Only.of_below hlow)))
       clear hlow))
  go_ret3
  exact ⟨rfl, HE4.out⟩
theorem eun_bad (v : Value) (N ne H he M e L te : Nat) (na ha a ta : Option Addr) (w : World) (hn : L < 1 ∨ L > 16) :
    Calls Tryz.prog 8 #[v, .slice na N ne, .slice ha H he, .slice a M e, .slice ta L te] w fun q w' => q = .returned (.tuple #[.slice none 0 0, .bool false, .int .i64 5]) ∧ w' = w := by
  have HR : Hid (∀ w, Calls Tryz.prog 16 #[.int .i64 L, .slice a M e] w fun x w' => x = .returned (.int .i64 5) ∧ w' = w) := hid (fun w => by
    have := erefused_any a M e (L : Int) w
    rwa [rfE_bad (by omega)] at this)
  clear hn
  go_enter Tryz.func8, Tryz.ntmps8
  go_wp2_with (first
    | (go_at_call 16; (with_reducible refine (HR.out _).mono ?_); rintro q w ⟨rfl, rfl⟩))
  go_ret3
  exact ⟨rfl, rfl⟩
end Go.Proofs.YthhkhcacljgelaaGreat
