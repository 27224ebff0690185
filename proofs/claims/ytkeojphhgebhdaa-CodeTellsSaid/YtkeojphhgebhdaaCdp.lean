import Derived.Test.YtkeojphhgebhdaaProg
import Derived.Test.YtkeojphhgebhdaaCdn
/- CodeBack. -/
namespace Go.Proofs.Ytkeojphhgebhdaa
open Go.RowKit

theorem own_self {B : Nat} {w w' : World} {v : Value} {zs : List Int} (h : Own .u8 B 5 w v zs) (hb : Below w.heap.size w w') : Own .u8 B 5 w' v zs :=
  own_frame h fun j _ hj => hb.block j hj
theorem rdc_own {B : Nat} {w : World} {v : Value} {zs : List Int} (h : Own .u8 B 5 w v zs) (hl : zs.length ≤ 65536) (hw : ∀ z ∈ zs, (Lit.int .u8 z).wf = true) : RdC w v zs := by
  refine ⟨h.rd (by show _ * 1 ≤ _; omega) hw, fun a n c e => ?_⟩
  obtain ⟨_, h2⟩ := h
  rcases h2 with ⟨rfl, h0⟩ | ⟨g, cap, cur, rfl, _, _, h3, h4, _⟩
  · injection e with e1 e2 e3
    subst e2; subst e3
    exact ⟨Nat.le_refl _, Nat.zero_le _⟩
  · injection e with e1 e2 e3
    subst e2; subst e3
    exact ⟨h3, h4⟩
theorem sto_wf {z : List Int} (hl : z.length ≤ 140737488351232) (h : ∀ y ∈ z, (Lit.int .u8 y).wf = true) : ∀ y ∈ sto z, (Lit.int .u8 y).wf = true := by
  intro y hy
  rcases List.mem_append.1 hy with hy | hy
  · exact lef_wf (by omega) y hy
  · exact h y hy
theorem sto_le {z : List Int} (hl : z.length ≤ 140737488351232) : (sto z).length ≤ z.length + 9 := by
  have := lef_le (n := 8 * z.length) (by omega)
  rw [sto_len]; omega
theorem lef_le5 {n : Nat} (h : n ≤ 65536) : (lef (8 * n)).length ≤ 5 := by
  rw [lef_len]
  have := dg_len 3 (8 * n) (by show _ < 4294967296; omega)
  omega
theorem tkr_sto {z d : List Int} (h : z.length ≤ 65536) : TkR (sto z ++ d) z ((sto z).length : Nat) true := by
  refine .inl ⟨z.length, beg_sto (lef_le5 h), ?_, by rw [sto_len], rfl⟩
  unfold sto
  rw [List.append_assoc, List.drop_left', List.take_left']
  · rfl
  · rfl

set_option maxRecDepth 100000 in
theorem cback_far (a b c d : Value) (za zb zc zd : List Int) (W : World) (ha : Rd .u8 W a za) (hb : Rd .u8 W b zb) (hc : Rd .u8 W c zc) (hd : Rd .u8 W d zd) (hl : 3000 < za.length + zb.length + zc.length + zd.length) :
    Calls Try.prog 4 #[a, b, c, d] W fun e w' => e = .returned (.bool true) ∧ Below W.heap.size W w' := by
  have h1 := len47 ha
  have h2 := len47 hb
  have h3 := len47 hc
  have h4 := len47 hd
  obtain ⟨pa, ca, rfl, _⟩ := ha
  obtain ⟨pb, cb, rfl, _⟩ := hb
  obtain ⟨pc, cc, rfl, _⟩ := hc
  obtain ⟨qd, cd, rfl, _⟩ := hd
  generalize za.length = la at *
  generalize zb.length = lb at *
  generalize zc.length = lc at *
  generalize zd.length = ld at *
  obtain ⟨s1, e1⟩ : ∃ s, la + lb = s := ⟨_, rfl⟩
  obtain ⟨s2, e2⟩ : ∃ s, s1 + lc = s := ⟨_, rfl⟩
  obtain ⟨s3, e3⟩ : ∃ s, s2 + ld = s := ⟨_, rfl⟩
  have f1 : (la : Int) + (lb : Int) = (s1 : Int) := by omega
  have f2 : (s1 : Int) + (lc : Int) = (s2 : Int) := by omega
  have f3 : (s2 : Int) + (ld : Int) = (s3 : Int) := by omega
  have g1 : IntKind.i64.wrap (s1 : Int) = s1 := by rw [IntKind.wrap_i64]; omega
  have g2 : IntKind.i64.wrap (s2 : Int) = s2 := by rw [IntKind.wrap_i64]; omega
  have g3 : IntKind.i64.wrap (s3 : Int) = s3 := by rw [IntKind.wrap_i64]; omega
  have g4 : (3000 : Int) < (s3 : Int) := by omega
  have HAw := hid cawake_any
  clear hl e1 e2 e3
  go_enter Try.func4, Try.ntmps4
  go_wp2_with (first
    | (go_at_call 16; (with_reducible refine (HAw.out _).mono ?_); rintro e w1 ⟨rfl, hl1⟩; have HW1 := hid hl1; clear hl1))
  go_ret
  exact ⟨rfl, HW1.out⟩
end Go.Proofs.Ytkeojphhgebhdaa
