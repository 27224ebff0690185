import Derived.Test.YthhkhcacljgelaaGreatProg
import Derived.Test.YthhkhcacljgelaaGreatKey
import Derived.Test.YthhkhcacljgelaaGreatGen
set_option maxRecDepth 100000
namespace Go.Proofs.YthhkhcacljgelaaGreat
open Go.RowKit

/-- The document's substitution, bit by bit. -/
def jx (i m : Nat) : Nat := if m = 4 then i else (i + m + 4) % 8
def dsum (y i : Nat) : Nat → Nat
  | 0 => 99 / 2 ^ i % 2
  | m + 1 => dsum y i m + y / 2 ^ jx i m
def dout (y : Nat) : Nat → Nat
  | 0 => 0
  | i + 1 => dout y i + dsum y i 5 % 2 * 2 ^ i
theorem dsum_le (y i : Nat) (hy : y < 256) : ∀ m, dsum y i m ≤ 1 + 255 * m
  | 0 => by unfold dsum; omega
  | m + 1 => by
    unfold dsum
    have := dsum_le y i hy m
    have h2 : y / 2 ^ jx i m ≤ y := Nat.div_le_self _ _
    omega
theorem dout_lt (y : Nat) : ∀ i, dout y i < 2 ^ i
  | 0 => Nat.one_pos
  | i + 1 => by
    unfold dout
    have := dout_lt y i
    have h2 : dsum y i 5 % 2 ≤ 1 := by omega
    have h3 : dsum y i 5 % 2 * 2 ^ i ≤ 1 * 2 ^ i := Nat.mul_le_mul_right _ h2
    rw [Nat.pow_succ]; omega
theorem dout_all : ∀ y < 256, dout y 8 = ap bend y ^^^ 99 := by decide +kernel

theorem dsum_zero (y j : Nat) : ((99 : Int) / 2 ^ j).tmod 2 = (dsum y j 0 : Nat) := by
  have e : ((99 : Int) / 2 ^ j) = ((99 / 2 ^ j : Nat) : Int) := by simp
  rw [e, Int.tmod_eq_emod_of_nonneg (Int.natCast_nonneg _)]; unfold dsum; omega

set_option maxRecDepth 100000 in
set_option maxHeartbeats 3200000 in
theorem refsub_any (x : Nat) (w : World) (hx : x < 256) :
    Calls Tryz.prog 69 #[.int .u8 (x : Int)] w fun e w' => e = .returned (.int .u8 (sb x : Nat)) ∧ w' = w := by
  have HI := hid (fun w => refinv_any x w hx)
  have hy := pw_lt hx 254
  have HE : Hid (dout (pw x 254) 8 = sb x) := hid (dout_all _ hy)
  have HB := hid (dsum_le (pw x 254))
  generalize pw x 254 = y at *
  generalize sb x = s at *
  have HO := hid (dout_lt y)
  go_enter Tryz.func69, Tryz.ntmps69
  go_wp2_with (first | (go_at_call 80; (with_reducible refine (HI.out _).mono ?_); rintro e w1 ⟨rfl, rfl⟩))
  go_loop [4, 5] (fun n i => ∃ j t : Nat, j ≤ 8 ∧ i = .int .i64 j ∧ n = .int .i64 t ∧ Hid (t = dout y j)) (fun _ i => 8 - (intOf i).toNat)
  case atStart => exact ⟨0, 0, by omega, rfl, rfl, hid rfl⟩
  case round =>
    obtain ⟨j, t, hj, rfl, rfl, ht⟩ := hrel
    by_cases hlt : j < 8
    · have HD0 := hid (dsum_zero y j)
      go_wp2
      go_loop [6, 7] (fun b i => ∃ m p : Nat, m ≤ 5 ∧ i = .int .i64 m ∧ b = .int .i64 p ∧ Hid (p = dsum y j m)) (fun _ i => 5 - (intOf i).toNat)
      case atStart => exact ⟨0, dsum y j 0, by omega, rfl, by rw [HD0.out], hid rfl⟩
      case round =>
        obtain ⟨m, p, hm, rfl, rfl, hp⟩ := hrel
        by_cases hlt2 : m < 5
        · have hpl := HB.out j hy m
          rw [← hp.out] at hpl
          obtain ⟨q, hq, hq8⟩ : ∃ q, jx j m = q ∧ q < 8 := ⟨_, rfl, by unfold jx; split <;> omega⟩
          have hdq : y / 2 ^ q ≤ y := Nat.div_le_self _ _
          obtain ⟨P, hP⟩ : ∃ P, p + y / 2 ^ q = P := ⟨_, rfl⟩
          have hs : (p : Int) + (y : Int) / 2 ^ q = (P : Int) := by rw [← hP]; simp
          have wP : IntKind.i64.wrap (P : Int) = P := by rw [IntKind.wrap_i64]; omega
          have HN : Hid (P = dsum y j (m + 1)) := hid (by rw [← hP, hp.out, ← hq]; rfl)
          by_cases h4 : m = 4
          · subst h4
            obtain rfl : j = q := by rw [← hq]; rfl
            clear hq hdq hP hpl
            go_wp2
            go_round
            case rel => exact ⟨5, P, by omega, by go_num, rfl, HN⟩
            case measure => simp [intOf]
          · have e1 : ((j : Int) + (m : Int) + 4) % 8 = (q : Int) := by rw [← hq]; unfold jx; rw [if_neg h4]; omega
            have e4 : ((m : Int) == 4) = false := by rw [beq_eq_false_iff_ne]; omega
            clear hq hdq hP hpl
            go_wp2
            go_round
            case rel => exact ⟨m + 1, P, by omega, by go_num, rfl, HN⟩
            case measure => simp [intOf]; omega
        · obtain rfl : m = 5 := by omega
          have hpl := HB.out j hy 5
          rw [← hp.out] at hpl
          obtain ⟨z, hz, hz1⟩ : ∃ z, p % 2 = z ∧ z ≤ 1 := ⟨_, rfl, by omega⟩
          have e1 : (p : Int) % 2 = (z : Int) := by omega
          have hpj := pow_le_128 hlt
          have htl := HO.out j
          rw [← ht.out] at htl
          obtain ⟨M, hM⟩ : ∃ M, M = z * 2 ^ j := ⟨_, rfl⟩
          have hMl : M ≤ 1 * 2 ^ j := by rw [hM]; exact Nat.mul_le_mul_right _ hz1
          obtain ⟨T, hT⟩ : ∃ T, t + M = T := ⟨_, rfl⟩
          have hs : (t : Int) + (M : Int) = (T : Int) := by omega
          have wT : IntKind.i64.wrap (T : Int) = T := by rw [IntKind.wrap_i64]; omega
          have hTl : Hid (T = dout y (j + 1)) := hid (by rw [← hT, ht.out, hM, ← hz, hp.out]; rfl)
          have HM := hid hM
          clear hM hT hMl htl hpj hpl hz
          go_wp2_with (first | (refine step_shl_nat rfl 3 109 (.tmp 40) (.tmp 42) rfl z j M (congrArg (Value.int .i64) e1) rfl hz1 (by omega) HM.out ?_))
          go_round
          case rel => exact ⟨j + 1, T, by omega, by go_num, rfl, hTl⟩
          case measure => simp [intOf]; omega
    · obtain rfl : j = 8 := by omega
      have htl := HO.out 8
      rw [← ht.out] at htl
      have h256 : (t : Int) < 256 := by omega
      have hst : t = s := by rw [ht.out]; exact HE.out
      go_wp2
      go_ret
      exact ⟨by rw [← hst]; rfl, rfl⟩
end Go.Proofs.YthhkhcacljgelaaGreat

namespace Go.Proofs.YthhkhcacljgelaaGreat
open Go.RowKit

/-- Four bytes. -/
def quad (a b c d : Nat) : Nat → Nat := fun i => if i = 0 then a else if i = 1 then b else if i = 2 then c else d
theorem infoq : (Tryz.prog.info? 112).map (·.size) = some 4 := by kernel_rfl
theorem infoq' {f : Nat → Nat} : (Tryz.prog.info? 112).map (·.size) = some (ba 4 f).toList.length := by rw [Array.length_toList, ba_size]; exact infoq
theorem built4 (a b c d : Nat) : Tryz.prog.built 112 [(0, .int .u8 (a : Int)), (1, .int .u8 (b : Int)), (2, .int .u8 (c : Int)), (3, .int .u8 (d : Int))] = some (ba 4 (quad a b c d)) := by
  kernel_rfl
theorem step_build4 {w : World} {ops : Array Oper} {rest : List Oper} {o : Oper} {s : Act} {Q : Exit → Act → World → Prop} (hgd : o.guard = none) (x0 x1 x2 x3 : Operand) (ho : o.op = .build 112 #[(0, x0), (1, x1), (2, x2), (3, x3)])
    (a b c d : Nat) (h0 : s.eval x0 = .int .u8 (a : Int)) (h1 : s.eval x1 = .int .u8 (b : Int)) (h2 : s.eval x2 = .int .u8 (c : Int)) (h3 : s.eval x3 = .int .u8 (d : Int))
    (k : wpList Tryz.prog ops Q rest (s.put o.dst (.agg (ba 4 (quad a b c d)))) w) : wpList Tryz.prog ops Q (o :: rest) s w := by
  have e : ((#[(0, x0), (1, x1), (2, x2), (3, x3)] : Array (Nat × Operand)).map fun (i, x) => (i, s.eval x)).toList = [(0, .int .u8 (a : Int)), (1, .int .u8 (b : Int)), (2, .int .u8 (c : Int)), (3, .int .u8 (d : Int))] := by simp [h0, h1, h2, h3]
  refine wpList_build hgd 112 _ ho (by rw [e, built4]; rfl) ?_
  rw [e, built4]; exact k

/-- Block c reads, from its beginning on, as rows of four bytes. -/
structure RA (w : World) (c m : Nat) (F : Nat → Nat → Nat) : Prop where
  lt : c < w.heap.size
  cell : ∀ i, i < m → ∀ j, j < 4 → w.cell? ⟨c, i * 4 + j, none⟩ = some (.int .u8 (F i j : Int))
  byte : ∀ i, i < m → ∀ j, j < 4 → F i j < 256
theorem RA.self {w w' : World} {c m : Nat} {F : Nat → Nat → Nat} (h : RA w c m F) (hb : Below w.heap.size w w') : RA w' c m F :=
  ⟨Nat.lt_of_lt_of_le h.lt hb.size, fun i hi j hj => (World.cell?_of_block (w := w) (hb.block c h.lt)).trans (h.cell i hi j hj), h.byte⟩
theorem RA.range {w : World} {c m : Nat} {F : Nat → Nat → Nat} (h : RA w c m F) {i : Nat} (hi : i < m) : w.rangeAt c (i * 4) (ba 4 (F i)).toList := by
  intro j v hv
  have hj : j < 4 := by have := (List.getElem?_eq_some_iff.1 hv).1; rwa [Array.length_toList, ba_size] at this
  rw [Array.getElem?_toList, ba_get _ hj] at hv
  injection hv with hv
  rw [← hv]; exact h.cell i hi j hj

/-- The word that is being put together, in block b1, beside the result's block b0. -/
structure XInv (w wr : World) (f g : Nat → Nat) (j : Nat) : Prop where
  out : At wr w.heap.size 4 112 (fun _ => 0)
  var : At wr (w.heap.size + 1) 4 112 (fun x => if x < j then g x ^^^ f x else f x)
  low : Below w.heap.size w wr
theorem XInv.step {w wr : World} {f g : Nat → Nat} {j : Nat} (h : XInv w wr f g j) : XInv w (wr.setCell ⟨w.heap.size + 1, j, none⟩ (.int .u8 ((g j ^^^ f j : Nat) : Int))) f g (j + 1) := by
  refine ⟨h.out.apart (by simp) _, (h.var.set j (g j ^^^ f j)).ext (fun i _ => ?_), h.low.setCell (by simp) _⟩
  unfold upd
  show (if i = j then g j ^^^ f j else if i < j then g i ^^^ f i else f i) = if i < j + 1 then g i ^^^ f i else f i
  by_cases e : i = j
  · subst e; simp
  · rw [if_neg e]
    by_cases h1 : i < j
    · rw [if_pos h1, if_pos (by omega)]
    · rw [if_neg h1, if_neg (by omega)]
theorem XInv.drew {w wr : World} {f g : Nat → Nat} {j : Nat} (h : XInv w wr f g j) : XInv w wr.drew f g j := ⟨h.out.drew, h.var.drew, h.low.drew⟩

/-- What Word starts from: the word ahead stands in the variable. -/
structure X0 (w wr : World) (f : Nat → Nat) : Prop where
  out : At wr w.heap.size 4 112 (fun _ => 0)
  var : At wr (w.heap.size + 1) 4 112 f
  low : Below w.heap.size w wr
theorem X0.start (w : World) (f : Nat → Nat) : X0 w (((w.alloc (.cells (ba 4 (fun _ => 0)) 112)).alloc (.cells (ba 4 (fun _ => 0)) 112)).setRow (w.heap.size + 1) (ba 4 f)) f := by
  have h1 := At.new w 4 112 (fun _ => 0)
  have h2 := At.new (w.alloc (.cells (ba 4 (fun _ => 0)) 112)) 4 112 (fun _ => 0)
  rw [World.size_alloc] at h2
  refine ⟨(h1.alloc _).rowApart (by omega) _, h2.row f, below_setRow (((Below.refl _ _).alloc (Nat.le_refl _) _).alloc (by simp) _) (by omega) _⟩
theorem X0.row {w wr : World} {f : Nat → Nat} (h : X0 w wr f) (g : Nat → Nat) : X0 w (wr.setRow (w.heap.size + 1) (ba 4 g)) g :=
  ⟨h.out.rowApart (by omega) _, h.var.row g, below_setRow h.low (by omega) _⟩
theorem X0.inv {w wr : World} {f : Nat → Nat} (h : X0 w wr f) (g : Nat → Nat) : XInv w wr f g 0 := ⟨h.out, h.var.ext (fun _ _ => (if_neg (by omega)).symm), h.low⟩

theorem step_load_mid_ba {P : Program} {ops : Array Oper} {rest : List Oper} {op : Oper} {a : Act} {w : World} {Q : Exit → Act → World → Prop} (hgd : op.guard = none) (ty : TypeId) (x : Operand) (ho : op.op = .load ty x)
    (b o n : Nat) (f : Nat → Nat) (e : TypeId) (hx : a.eval x = .pointer (some ⟨b, o, none⟩)) (hc : w.rangeAt b o (ba n f).toList)
    (hu : P.underlying ty = some (.array n e)) (hi : (P.info? ty).map (·.size) = some n)
    (h : wpList P ops Q rest (a.put op.dst (.agg (ba n f))) w) : wpList P ops Q (op :: rest) a w :=
  wpList_load_mid hgd ty x ho b o hx _ _ hc hu rfl (by rw [Array.length_toList, ba_size]; exact hi) (by simpa using h)

set_option maxRecDepth 100000 in
set_option maxHeartbeats 3200000 in
theorem word_mark (c cap i K n p : Nat) (F : Nat → Nat → Nat) (w : World) (hn : n + K = i) (hp : p + 1 = i) (hK : 0 < K) (hi : i ≤ 1000) (hA : RA w c i F) (hr : i % K = 0) :
    Calls Tryz.prog 67 #[.slice (some ⟨c, 0, none⟩) i cap, .int .i64 (i : Int), .int .i64 (K : Int)] w fun e w' => e = .returned (.agg (ba 4 (fun j => F n j ^^^ mkw K i (F p) j))) ∧ Below w.heap.size w w' := by
  have HA := hid hA
  have e2 : (i : Int) - 1 = (p : Int) := by omega
  have e3 : (i : Int) - (K : Int) = (n : Int) := by omega
  have wp : IntKind.i64.wrap (p : Int) = p := by rw [IntKind.wrap_i64]; omega
  have wn : IntKind.i64.wrap (n : Int) = n := by rw [IntKind.wrap_i64]; omega
  have b1 : (0 : Int) ≤ (n : Int) := by omega
  have b2 : (n : Int) < (i : Int) := by omega
  have b3 : (0 : Int) ≤ (p : Int) := by omega
  have b4 : (p : Int) < (i : Int) := by omega
  have h0 : ¬ (K : Int) = 0 := by omega
  have h00 : ¬ K = 0 := by omega
  have HR : Hid ((w.alloc (.cells #[.int .u8 0, .int .u8 0, .int .u8 0, .int .u8 0] 112)).rangeAt c (p * 4) (ba 4 (F p)).toList) := hid (World.rangeAt_alloc (hA.range (i := p) (by omega)) _)
  have HX : Hid (X0 w (((w.alloc (.cells #[.int .u8 0, .int .u8 0, .int .u8 0, .int .u8 0] 112)).alloc (.cells #[.int .u8 0, .int .u8 0, .int .u8 0, .int .u8 0] 112)).setRow (w.heap.size + 1) (ba 4 (F p))) (F p)) := hid (X0.start w (F p))
  have HL2 : Hid (At ((w.alloc (.cells #[.int .u8 0, .int .u8 0, .int .u8 0, .int .u8 0] 112)).alloc (.cells #[.int .u8 0, .int .u8 0, .int .u8 0, .int .u8 0] 112)) (w.heap.size + 1) 4 112 (fun _ => 0)) := hid (by have := At.new (w.alloc (.cells (ba 4 (fun _ => 0)) 112)) 4 112 (fun _ => 0); rw [World.size_alloc] at this; exact this)
  have HBy := hid (hA.byte p (by omega))
  have HBn := hid (hA.byte n (by omega))
  have HAn : Hid (∀ w', Below w.heap.size w w' → ∀ j, j < 4 → w'.cell? ⟨c, n * 4 + j, none⟩ = some (.int .u8 (F n j : Int))) := hid (fun w' hb => (hA.self hb).cell n (by omega))
  have hmod : ((i : Int) % (K : Int) == 0) = true := by rw [beq_iff_eq]; omega
  have hdiv : (i : Int) / (K : Int) = ((i / K : Nat) : Int) := by omega
  have hwr : IntKind.i64.wrap ((i / K : Nat) : Int) = ((i / K : Nat) : Int) := by rw [IntKind.wrap_i64]; have := Nat.div_le_self i K; generalize i / K = q at *; omega
  have HM := hid (fun w => refmarks_nat (i / K) w (Nat.le_trans (Nat.div_le_self _ _) (by omega)))
  have HML := hid (mkb_lt (i / K))
  have HE := hid (show mkw K i (F p) = fun j => sb (F p ((j + 1) % 4)) ^^^ (if j = 0 then mkb (i / K) else 0) by funext j; unfold mkw; rw [if_pos hr])
  generalize mkb (i / K) = mk at HM HE HML
  generalize i / K = q at *
  generalize F p = f at *
  generalize F n = h at *
  clear hA hn hp hr
  go_enter Tryz.func67, Tryz.ntmps67
  go_wp2_with (first
    | (refine step_load_mid_ba rfl 112 (.tmp 12) rfl c (p * 4) 4 f 5 rfl HR.out Tryz.underlying112 infoq ?_)
    | (refine step_store_ba rfl 112 (.tmp 7) (.tmp 13) rfl (w.heap.size + 1) 4 112 (fun _ => 0) f rfl rfl HL2.out infoq ?_; generalize (((w.alloc (.cells #[.int .u8 0, .int .u8 0, .int .u8 0, .int .u8 0] 112)).alloc (.cells #[.int .u8 0, .int .u8 0, .int .u8 0, .int .u8 0] 112)).setRow (w.heap.size + 1) (ba 4 f)) = w1 at *))
  have hc1 : w1.drew.cell? ⟨w.heap.size + 1, 1, none⟩ = some (.int .u8 (f 1 : Int)) := HX.out.var.drew.cell (show 1 < 4 by decide)
  have hc2 : w1.drew.cell? ⟨w.heap.size + 1, 2, none⟩ = some (.int .u8 (f 2 : Int)) := HX.out.var.drew.cell (show 2 < 4 by decide)
  have hc3 : w1.drew.cell? ⟨w.heap.size + 1, 3, none⟩ = some (.int .u8 (f 3 : Int)) := HX.out.var.drew.cell (show 3 < 4 by decide)
  have hc0 : w1.drew.cell? ⟨w.heap.size + 1, 0, none⟩ = some (.int .u8 (f 0 : Int)) := HX.out.var.drew.cell (show 0 < 4 by decide)
  have S0 := hid (fun w => refsub_any (f 0) w (HBy.out 0 (by decide)))
  have S1 := hid (fun w => refsub_any (f 1) w (HBy.out 1 (by decide)))
  have S2 := hid (fun w => refsub_any (f 2) w (HBy.out 2 (by decide)))
  have S3 := hid (fun w => refsub_any (f 3) w (HBy.out 3 (by decide)))
  have HXR := hid (xor8 (sb_lt (f 1)) HML.out)
  obtain ⟨g, hg⟩ : ∃ g, g = quad (sb (f 1) ^^^ mk) (sb (f 2)) (sb (f 3)) (sb (f 0)) := ⟨_, rfl⟩
  have HGm : Hid (∀ j, j < 4 → g j = mkw K i f j) := hid (by
    intro j hj
    rw [hg, HE.out]
    obtain rfl | rfl | rfl | rfl : j = 0 ∨ j = 1 ∨ j = 2 ∨ j = 3 := by omega
    · rfl
    · show sb (f 2) = sb (f 2) ^^^ 0; rw [Nat.xor_zero]
    · show sb (f 3) = sb (f 3) ^^^ 0; rw [Nat.xor_zero]
    · show sb (f 0) = sb (f 0) ^^^ 0; rw [Nat.xor_zero])
  have HGl : Hid (∀ j, j < 4 → g j < 256) := hid (by
    intro j hj
    rw [hg]
    obtain rfl | rfl | rfl | rfl : j = 0 ∨ j = 1 ∨ j = 2 ∨ j = 3 := by omega
    · exact xor_lt (sb_lt _) HML.out
    · exact sb_lt _
    · exact sb_lt _
    · exact sb_lt _)
  have HEQ : Hid (∀ x, x < 4 → (fun x => h x ^^^ g x) x = (fun j => h j ^^^ mkw K i f j) x) := hid (fun x hx => by show h x ^^^ g x = h x ^^^ mkw K i f x; rw [HGm.out x hx])
  have HV1 := hid HX.out.var.drew
  have HG : Hid (X0 w (w1.drew.setRow (w.heap.size + 1) (ba 4 g)) g) := hid ((⟨HX.out.out.drew, HX.out.var.drew, HX.out.low.drew⟩ : X0 w w1.drew f).row g)
  have Hg := hid hg
  generalize sb (f 0) = x0 at *
  generalize sb (f 1) = x1 at *
  generalize sb (f 2) = x2 at *
  generalize sb (f 3) = x3 at *
  clear hg HE HGm
  refine region_tail 17 (by kernel_rfl) (by kernel_rfl) ?_
  simp only [List.take_succ_cons, List.take_zero, List.drop_succ_cons, List.drop_zero]
  generalize w1.drew = w2 at *
  repeat still_step
  still_call (S1.out _)
  repeat still_step
  still_call (HM.out _)
  repeat still_step
  still_call (S2.out _)
  repeat still_step
  still_call (S3.out _)
  repeat still_step
  still_call (S0.out _)
  repeat still_step
  refine wpStill_nil ?_
  go_wp2_with (first
    | (refine step_build4 rfl (.tmp 25) (.tmp 28) (.tmp 31) (.tmp 34) rfl (x1 ^^^ mk) x2 x3 x0 (congrArg (Value.int .u8) HXR.out) rfl rfl rfl ?_; rw [← Hg.out])
    | (refine step_store_ba rfl 112 (.tmp 7) (.tmp 35) rfl (w.heap.size + 1) 4 112 f g rfl rfl HV1.out infoq ?_; generalize w2.setRow (w.heap.size + 1) (ba 4 g) = w3 at *))
  clear hc0 hc1 hc2 hc3
  go_loopw [8] (fun i wr => ∃ j : Nat, j ≤ 4 ∧ i = .int .i64 j ∧ XInv w wr g h j) (fun i _ => 4 - (intOf i).toNat)
  case atStart => exact ⟨0, by omega, rfl, HG.out.inv h⟩
  case round =>
    obtain ⟨j, hj, rfl, hI⟩ := hrel
    have HI := hid hI
    clear hI
    by_cases hlt : j < 4
    · have hc1 : wr.drew.cell? ⟨w.heap.size + 1, j, none⟩ = some (.int .u8 (g j : Int)) := by have := HI.out.drew.var.cell hlt; simpa using this
      have hf1 := HI.out.drew.var.free j
      have hc2 := HAn.out _ HI.out.drew.low j hlt
      have HT := hid (HI.out.drew.step)
      have hgl := HGl.out j hlt
      have hhl := HBn.out j hlt
      have HXR : Hid (bits .xor .u8 (g j : Int) (h j : Int) = ((h j ^^^ g j : Nat) : Int)) := hid (by rw [xor8 hgl hhl, Nat.xor_comm])
      have j0 : (0 : Int) ≤ (j : Int) := by omega
      have j4 : (j : Int) < 4 := by omega
      generalize h j ^^^ g j = z at HXR HT
      generalize g j = gj at *
      generalize h j = hj' at *
      clear hgl hhl
      go_wp2
      go_region
      go_wp2
      go_roundw
      case rel => exact ⟨j + 1, by omega, by go_num, by rw [HXR.out]; exact HT.out⟩
      case measure => simp [intOf]; omega
    · obtain rfl : j = 4 := by omega
      have HV : Hid (At wr (w.heap.size + 1) 4 112 (fun x => h x ^^^ g x)) := hid (HI.out.var.ext (fun x hx => if_pos hx))
      have HN := hid HI.out.out
      have HLo := hid HI.out.low
      go_wp2_with (first
        | (refine step_load_ba rfl 112 _ rfl (w.heap.size + 1) 4 112 5 _ rfl HV.out Tryz.underlying112 infoq ?_)
        | (refine step_store_ba rfl 112 _ _ rfl w.heap.size 4 112 _ _ rfl rfl HN.out infoq ?_))
      refine ret_ba rfl rfl Tryz.underlying112 infoq rfl (HN.out.row (fun x => h x ^^^ g x)) ⟨?_, below_setRow HLo.out (Nat.le_refl _) _⟩
      rw [ba_ext HEQ.out]
end Go.Proofs.YthhkhcacljgelaaGreat

namespace Go.Proofs.YthhkhcacljgelaaGreat
open Go.RowKit

set_option maxRecDepth 100000 in
set_option maxHeartbeats 3200000 in
theorem word_sub (c cap i n p : Nat) (F : Nat → Nat → Nat) (w : World) (hn : n + 8 = i) (hp : p + 1 = i) (hi : i ≤ 1000) (hA : RA w c i F) (hr : i % 8 = 4) :
    Calls Tryz.prog 67 #[.slice (some ⟨c, 0, none⟩) i cap, .int .i64 (i : Int), .int .i64 8] w fun e w' => e = .returned (.agg (ba 4 (fun j => F n j ^^^ mkw 8 i (F p) j))) ∧ Below w.heap.size w w' := by
  have HA := hid hA
  have e2 : (i : Int) - 1 = (p : Int) := by omega
  have e3 : (i : Int) - 8 = (n : Int) := by omega
  have wp : IntKind.i64.wrap (p : Int) = p := by rw [IntKind.wrap_i64]; omega
  have wn : IntKind.i64.wrap (n : Int) = n := by rw [IntKind.wrap_i64]; omega
  have b1 : (0 : Int) ≤ (n : Int) := by omega
  have b2 : (n : Int) < (i : Int) := by omega
  have b3 : (0 : Int) ≤ (p : Int) := by omega
  have b4 : (p : Int) < (i : Int) := by omega
  have HR : Hid ((w.alloc (.cells #[.int .u8 0, .int .u8 0, .int .u8 0, .int .u8 0] 112)).rangeAt c (p * 4) (ba 4 (F p)).toList) := hid (World.rangeAt_alloc (hA.range (i := p) (by omega)) _)
  have HX : Hid (X0 w (((w.alloc (.cells #[.int .u8 0, .int .u8 0, .int .u8 0, .int .u8 0] 112)).alloc (.cells #[.int .u8 0, .int .u8 0, .int .u8 0, .int .u8 0] 112)).setRow (w.heap.size + 1) (ba 4 (F p))) (F p)) := hid (X0.start w (F p))
  have HL2 : Hid (At ((w.alloc (.cells #[.int .u8 0, .int .u8 0, .int .u8 0, .int .u8 0] 112)).alloc (.cells #[.int .u8 0, .int .u8 0, .int .u8 0, .int .u8 0] 112)) (w.heap.size + 1) 4 112 (fun _ => 0)) := hid (by have := At.new (w.alloc (.cells (ba 4 (fun _ => 0)) 112)) 4 112 (fun _ => 0); rw [World.size_alloc] at this; exact this)
  have HBy := hid (hA.byte p (by omega))
  have HBn := hid (hA.byte n (by omega))
  have HAn : Hid (∀ w', Below w.heap.size w w' → ∀ j, j < 4 → w'.cell? ⟨c, n * 4 + j, none⟩ = some (.int .u8 (F n j : Int))) := hid (fun w' hb => (hA.self hb).cell n (by omega))
  have hmod : ((i : Int) % 8 == 0) = false := by rw [beq_eq_false_iff_ne]; omega
  have hmod4 : ((i : Int) % 8 == 4) = true := by rw [beq_iff_eq]; omega
  have HE := hid (show mkw 8 i (F p) = fun j => sb (F p j) by funext j; unfold mkw; rw [if_neg (by omega), if_pos ⟨rfl, hr⟩])
  generalize F p = f at *
  generalize F n = h at *
  clear hA hn hp hr
  go_enter Tryz.func67, Tryz.ntmps67
  go_wp2_with (first
    | (refine step_load_mid_ba rfl 112 (.tmp 12) rfl c (p * 4) 4 f 5 rfl HR.out Tryz.underlying112 infoq ?_)
    | (refine step_store_ba rfl 112 (.tmp 7) (.tmp 13) rfl (w.heap.size + 1) 4 112 (fun _ => 0) f rfl rfl HL2.out infoq ?_; generalize (((w.alloc (.cells #[.int .u8 0, .int .u8 0, .int .u8 0, .int .u8 0] 112)).alloc (.cells #[.int .u8 0, .int .u8 0, .int .u8 0, .int .u8 0] 112)).setRow (w.heap.size + 1) (ba 4 f)) = w1 at *))
  have hc1 : w1.drew.cell? ⟨w.heap.size + 1, 1, none⟩ = some (.int .u8 (f 1 : Int)) := HX.out.var.drew.cell (show 1 < 4 by decide)
  have hc2 : w1.drew.cell? ⟨w.heap.size + 1, 2, none⟩ = some (.int .u8 (f 2 : Int)) := HX.out.var.drew.cell (show 2 < 4 by decide)
  have hc3 : w1.drew.cell? ⟨w.heap.size + 1, 3, none⟩ = some (.int .u8 (f 3 : Int)) := HX.out.var.drew.cell (show 3 < 4 by decide)
  have hc0 : w1.drew.cell? ⟨w.heap.size + 1, 0, none⟩ = some (.int .u8 (f 0 : Int)) := HX.out.var.drew.cell (show 0 < 4 by decide)
  have S0 := hid (fun w => refsub_any (f 0) w (HBy.out 0 (by decide)))
  have S1 := hid (fun w => refsub_any (f 1) w (HBy.out 1 (by decide)))
  have S2 := hid (fun w => refsub_any (f 2) w (HBy.out 2 (by decide)))
  have S3 := hid (fun w => refsub_any (f 3) w (HBy.out 3 (by decide)))
  obtain ⟨g, hg⟩ : ∃ g, g = quad (sb (f 0)) (sb (f 1)) (sb (f 2)) (sb (f 3)) := ⟨_, rfl⟩
  have HGm : Hid (∀ j, j < 4 → g j = mkw 8 i f j) := hid (by
    intro j hj
    rw [hg, HE.out]
    obtain rfl | rfl | rfl | rfl : j = 0 ∨ j = 1 ∨ j = 2 ∨ j = 3 := by omega
    all_goals rfl)
  have HGl : Hid (∀ j, j < 4 → g j < 256) := hid (by
    intro j hj
    rw [HGm.out j hj, HE.out]
    exact sb_lt _)
  have HEQ : Hid (∀ x, x < 4 → (fun x => h x ^^^ g x) x = (fun j => h j ^^^ mkw 8 i f j) x) := hid (fun x hx => by show h x ^^^ g x = h x ^^^ mkw 8 i f x; rw [HGm.out x hx])
  have HV1 := hid HX.out.var.drew
  have HG : Hid (X0 w (w1.drew.setRow (w.heap.size + 1) (ba 4 g)) g) := hid ((⟨HX.out.out.drew, HX.out.var.drew, HX.out.low.drew⟩ : X0 w w1.drew f).row g)
  have Hg := hid hg
  generalize sb (f 0) = x0 at *
  generalize sb (f 1) = x1 at *
  generalize sb (f 2) = x2 at *
  generalize sb (f 3) = x3 at *
  clear hg HE HGm
  refine region_tail 12 (by kernel_rfl) (by kernel_rfl) ?_
  simp only [List.take_succ_cons, List.take_zero, List.drop_succ_cons, List.drop_zero]
  generalize w1.drew = w2 at *
  repeat still_step
  still_call (S0.out _)
  repeat still_step
  still_call (S1.out _)
  repeat still_step
  still_call (S2.out _)
  repeat still_step
  still_call (S3.out _)
  repeat still_step
  refine wpStill_nil ?_
  go_wp2_with (first
    | (refine step_build4 rfl (.tmp 45) (.tmp 48) (.tmp 51) (.tmp 54) rfl x0 x1 x2 x3 rfl rfl rfl rfl ?_; rw [← Hg.out])
    | (refine step_store_ba rfl 112 (.tmp 7) (.tmp 55) rfl (w.heap.size + 1) 4 112 f g rfl rfl HV1.out infoq ?_; generalize w2.setRow (w.heap.size + 1) (ba 4 g) = w3 at *))
  clear hc0 hc1 hc2 hc3
  go_loopw [8] (fun i wr => ∃ j : Nat, j ≤ 4 ∧ i = .int .i64 j ∧ XInv w wr g h j) (fun i _ => 4 - (intOf i).toNat)
  case atStart => exact ⟨0, by omega, rfl, HG.out.inv h⟩
  case round =>
    obtain ⟨j, hj, rfl, hI⟩ := hrel
    have HI := hid hI
    clear hI
    by_cases hlt : j < 4
    · have hc1 : wr.drew.cell? ⟨w.heap.size + 1, j, none⟩ = some (.int .u8 (g j : Int)) := by have := HI.out.drew.var.cell hlt; simpa using this
      have hf1 := HI.out.drew.var.free j
      have hc2 := HAn.out _ HI.out.drew.low j hlt
      have HT := hid (HI.out.drew.step)
      have hgl := HGl.out j hlt
      have hhl := HBn.out j hlt
      have HXR : Hid (bits .xor .u8 (g j : Int) (h j : Int) = ((h j ^^^ g j : Nat) : Int)) := hid (by rw [xor8 hgl hhl, Nat.xor_comm])
      have j0 : (0 : Int) ≤ (j : Int) := by omega
      have j4 : (j : Int) < 4 := by omega
      generalize h j ^^^ g j = z at HXR HT
      generalize g j = gj at *
      generalize h j = hj' at *
      clear hgl hhl
      go_wp2
      go_region
      go_wp2
      go_roundw
      case rel => exact ⟨j + 1, by omega, by go_num, by rw [HXR.out]; exact HT.out⟩
      case measure => simp [intOf]; omega
    · obtain rfl : j = 4 := by omega
      have HV : Hid (At wr (w.heap.size + 1) 4 112 (fun x => h x ^^^ g x)) := hid (HI.out.var.ext (fun x hx => if_pos hx))
      have HN := hid HI.out.out
      have HLo := hid HI.out.low
      go_wp2_with (first
        | (refine step_load_ba rfl 112 _ rfl (w.heap.size + 1) 4 112 5 _ rfl HV.out Tryz.underlying112 infoq ?_)
        | (refine step_store_ba rfl 112 _ _ rfl w.heap.size 4 112 _ _ rfl rfl HN.out infoq ?_))
      refine ret_ba rfl rfl Tryz.underlying112 infoq rfl (HN.out.row (fun x => h x ^^^ g x)) ⟨?_, below_setRow HLo.out (Nat.le_refl _) _⟩
      rw [ba_ext HEQ.out]

set_option maxRecDepth 100000 in
set_option maxHeartbeats 3200000 in
theorem word_plain (c cap i K n p : Nat) (F : Nat → Nat → Nat) (w : World) (hn : n + K = i) (hp : p + 1 = i) (hK : 0 < K) (hi : i ≤ 1000) (hA : RA w c i F) (hr : i % K ≠ 0) (hk : K ≠ 8) :
    Calls Tryz.prog 67 #[.slice (some ⟨c, 0, none⟩) i cap, .int .i64 (i : Int), .int .i64 (K : Int)] w fun e w' => e = .returned (.agg (ba 4 (fun j => F n j ^^^ mkw K i (F p) j))) ∧ Below w.heap.size w w' := by
  have HA := hid hA
  have e2 : (i : Int) - 1 = (p : Int) := by omega
  have e3 : (i : Int) - (K : Int) = (n : Int) := by omega
  have wp : IntKind.i64.wrap (p : Int) = p := by rw [IntKind.wrap_i64]; omega
  have wn : IntKind.i64.wrap (n : Int) = n := by rw [IntKind.wrap_i64]; omega
  have b1 : (0 : Int) ≤ (n : Int) := by omega
  have b2 : (n : Int) < (i : Int) := by omega
  have b3 : (0 : Int) ≤ (p : Int) := by omega
  have b4 : (p : Int) < (i : Int) := by omega
  have h0 : ¬ (K : Int) = 0 := by omega
  have h00 : ¬ K = 0 := by omega
  have HR : Hid ((w.alloc (.cells #[.int .u8 0, .int .u8 0, .int .u8 0, .int .u8 0] 112)).rangeAt c (p * 4) (ba 4 (F p)).toList) := hid (World.rangeAt_alloc (hA.range (i := p) (by omega)) _)
  have HX : Hid (X0 w (((w.alloc (.cells #[.int .u8 0, .int .u8 0, .int .u8 0, .int .u8 0] 112)).alloc (.cells #[.int .u8 0, .int .u8 0, .int .u8 0, .int .u8 0] 112)).setRow (w.heap.size + 1) (ba 4 (F p))) (F p)) := hid (X0.start w (F p))
  have HL2 : Hid (At ((w.alloc (.cells #[.int .u8 0, .int .u8 0, .int .u8 0, .int .u8 0] 112)).alloc (.cells #[.int .u8 0, .int .u8 0, .int .u8 0, .int .u8 0] 112)) (w.heap.size + 1) 4 112 (fun _ => 0)) := hid (by have := At.new (w.alloc (.cells (ba 4 (fun _ => 0)) 112)) 4 112 (fun _ => 0); rw [World.size_alloc] at this; exact this)
  have HBy := hid (hA.byte p (by omega))
  have HBn := hid (hA.byte n (by omega))
  have HAn : Hid (∀ w', Below w.heap.size w w' → ∀ j, j < 4 → w'.cell? ⟨c, n * 4 + j, none⟩ = some (.int .u8 (F n j : Int))) := hid (fun w' hb => (hA.self hb).cell n (by omega))
  have hmod : ((i : Int) % (K : Int) == 0) = false := by rw [beq_eq_false_iff_ne]; omega
  have hk8 : ((K : Int) == 8) = false := by rw [beq_eq_false_iff_ne]; omega
  have HE := hid (show mkw K i (F p) = F p by funext j; unfold mkw; rw [if_neg hr, if_neg (fun h => hk h.1)])
  generalize F p = g at *
  generalize F n = h at *
  clear hA hn hp hr
  go_enter Tryz.func67, Tryz.ntmps67
  go_wp2_with (first
    | (refine step_load_mid_ba rfl 112 (.tmp 12) rfl c (p * 4) 4 g 5 rfl HR.out Tryz.underlying112 infoq ?_)
    | (refine step_store_ba rfl 112 (.tmp 7) (.tmp 13) rfl (w.heap.size + 1) 4 112 (fun _ => 0) g rfl rfl HL2.out infoq ?_; generalize (((w.alloc (.cells #[.int .u8 0, .int .u8 0, .int .u8 0, .int .u8 0] 112)).alloc (.cells #[.int .u8 0, .int .u8 0, .int .u8 0, .int .u8 0] 112)).setRow (w.heap.size + 1) (ba 4 g)) = w1 at *))
  have HG := HX
  have HGl := HBy
  have HEQ : Hid (∀ x, x < 4 → (fun x => h x ^^^ g x) x = (fun j => h j ^^^ mkw K i g j) x) := hid (fun x hx => by show h x ^^^ g x = h x ^^^ mkw K i g x; rw [HE.out])
  clear HE
  go_loopw [8] (fun i wr => ∃ j : Nat, j ≤ 4 ∧ i = .int .i64 j ∧ XInv w wr g h j) (fun i _ => 4 - (intOf i).toNat)
  case atStart => exact ⟨0, by omega, rfl, HG.out.inv h⟩
  case round =>
    obtain ⟨j, hj, rfl, hI⟩ := hrel
    have HI := hid hI
    clear hI
    by_cases hlt : j < 4
    · have hc1 : wr.drew.cell? ⟨w.heap.size + 1, j, none⟩ = some (.int .u8 (g j : Int)) := by have := HI.out.drew.var.cell hlt; simpa using this
      have hf1 := HI.out.drew.var.free j
      have hc2 := HAn.out _ HI.out.drew.low j hlt
      have HT := hid (HI.out.drew.step)
      have hgl := HGl.out j hlt
      have hhl := HBn.out j hlt
      have HXR : Hid (bits .xor .u8 (g j : Int) (h j : Int) = ((h j ^^^ g j : Nat) : Int)) := hid (by rw [xor8 hgl hhl, Nat.xor_comm])
      have j0 : (0 : Int) ≤ (j : Int) := by omega
      have j4 : (j : Int) < 4 := by omega
      generalize h j ^^^ g j = z at HXR HT
      generalize g j = gj at *
      generalize h j = hj' at *
      clear hgl hhl
      go_wp2
      go_region
      go_wp2
      go_roundw
      case rel => exact ⟨j + 1, by omega, by go_num, by rw [HXR.out]; exact HT.out⟩
      case measure => simp [intOf]; omega
    · obtain rfl : j = 4 := by omega
      have HV : Hid (At wr (w.heap.size + 1) 4 112 (fun x => h x ^^^ g x)) := hid (HI.out.var.ext (fun x hx => if_pos hx))
      have HN := hid HI.out.out
      have HLo := hid HI.out.low
      go_wp2_with (first
        | (refine step_load_ba rfl 112 _ rfl (w.heap.size + 1) 4 112 5 _ rfl HV.out Tryz.underlying112 infoq ?_)
        | (refine step_store_ba rfl 112 _ _ rfl w.heap.size 4 112 _ _ rfl rfl HN.out infoq ?_))
      refine ret_ba rfl rfl Tryz.underlying112 infoq rfl (HN.out.row (fun x => h x ^^^ g x)) ⟨?_, below_setRow HLo.out (Nat.le_refl _) _⟩
      rw [ba_ext HEQ.out]

set_option maxRecDepth 100000 in
set_option maxHeartbeats 3200000 in
theorem word_plain8 (c cap i n p : Nat) (F : Nat → Nat → Nat) (w : World) (hn : n + 8 = i) (hp : p + 1 = i) (hi : i ≤ 1000) (hA : RA w c i F) (hr : i % 8 ≠ 0) (h8 : i % 8 ≠ 4) :
    Calls Tryz.prog 67 #[.slice (some ⟨c, 0, none⟩) i cap, .int .i64 (i : Int), .int .i64 8] w fun e w' => e = .returned (.agg (ba 4 (fun j => F n j ^^^ mkw 8 i (F p) j))) ∧ Below w.heap.size w w' := by
  have HA := hid hA
  have e2 : (i : Int) - 1 = (p : Int) := by omega
  have e3 : (i : Int) - 8 = (n : Int) := by omega
  have wp : IntKind.i64.wrap (p : Int) = p := by rw [IntKind.wrap_i64]; omega
  have wn : IntKind.i64.wrap (n : Int) = n := by rw [IntKind.wrap_i64]; omega
  have b1 : (0 : Int) ≤ (n : Int) := by omega
  have b2 : (n : Int) < (i : Int) := by omega
  have b3 : (0 : Int) ≤ (p : Int) := by omega
  have b4 : (p : Int) < (i : Int) := by omega
  have HR : Hid ((w.alloc (.cells #[.int .u8 0, .int .u8 0, .int .u8 0, .int .u8 0] 112)).rangeAt c (p * 4) (ba 4 (F p)).toList) := hid (World.rangeAt_alloc (hA.range (i := p) (by omega)) _)
  have HX : Hid (X0 w (((w.alloc (.cells #[.int .u8 0, .int .u8 0, .int .u8 0, .int .u8 0] 112)).alloc (.cells #[.int .u8 0, .int .u8 0, .int .u8 0, .int .u8 0] 112)).setRow (w.heap.size + 1) (ba 4 (F p))) (F p)) := hid (X0.start w (F p))
  have HL2 : Hid (At ((w.alloc (.cells #[.int .u8 0, .int .u8 0, .int .u8 0, .int .u8 0] 112)).alloc (.cells #[.int .u8 0, .int .u8 0, .int .u8 0, .int .u8 0] 112)) (w.heap.size + 1) 4 112 (fun _ => 0)) := hid (by have := At.new (w.alloc (.cells (ba 4 (fun _ => 0)) 112)) 4 112 (fun _ => 0); rw [World.size_alloc] at this; exact this)
  have HBy := hid (hA.byte p (by omega))
  have HBn := hid (hA.byte n (by omega))
  have HAn : Hid (∀ w', Below w.heap.size w w' → ∀ j, j < 4 → w'.cell? ⟨c, n * 4 + j, none⟩ = some (.int .u8 (F n j : Int))) := hid (fun w' hb => (hA.self hb).cell n (by omega))
  have hmod : ((i : Int) % 8 == 0) = false := by rw [beq_eq_false_iff_ne]; omega
  have hmod4 : ((i : Int) % 8 == 4) = false := by rw [beq_eq_false_iff_ne]; omega
  have HE := hid (show mkw 8 i (F p) = F p by funext j; unfold mkw; rw [if_neg hr, if_neg (fun h => h8 h.2)])
  generalize F p = g at *
  generalize F n = h at *
  clear hA hn hp hr h8
  go_enter Tryz.func67, Tryz.ntmps67
  go_wp2_with (first
    | (refine step_load_mid_ba rfl 112 (.tmp 12) rfl c (p * 4) 4 g 5 rfl HR.out Tryz.underlying112 infoq ?_)
    | (refine step_store_ba rfl 112 (.tmp 7) (.tmp 13) rfl (w.heap.size + 1) 4 112 (fun _ => 0) g rfl rfl HL2.out infoq ?_; generalize (((w.alloc (.cells #[.int .u8 0, .int .u8 0, .int .u8 0, .int .u8 0] 112)).alloc (.cells #[.int .u8 0, .int .u8 0, .int .u8 0, .int .u8 0] 112)).setRow (w.heap.size + 1) (ba 4 g)) = w1 at *))
  have HG := HX
  have HGl := HBy
  have HEQ : Hid (∀ x, x < 4 → (fun x => h x ^^^ g x) x = (fun j => h j ^^^ mkw 8 i g j) x) := hid (fun x hx => by show h x ^^^ g x = h x ^^^ mkw 8 i g x; rw [HE.out])
  clear HE
  go_loopw [8] (fun i wr => ∃ j : Nat, j ≤ 4 ∧ i = .int .i64 j ∧ XInv w wr g h j) (fun i _ => 4 - (intOf i).toNat)
  case atStart => exact ⟨0, by omega, rfl, HG.out.inv h⟩
  case round =>
    obtain ⟨j, hj, rfl, hI⟩ := hrel
    have HI := hid hI
    clear hI
    by_cases hlt : j < 4
    · have hc1 : wr.drew.cell? ⟨w.heap.size + 1, j, none⟩ = some (.int .u8 (g j : Int)) := by have := HI.out.drew.var.cell hlt; simpa using this
      have hf1 := HI.out.drew.var.free j
      have hc2 := HAn.out _ HI.out.drew.low j hlt
      have HT := hid (HI.out.drew.step)
      have hgl := HGl.out j hlt
      have hhl := HBn.out j hlt
      have HXR : Hid (bits .xor .u8 (g j : Int) (h j : Int) = ((h j ^^^ g j : Nat) : Int)) := hid (by rw [xor8 hgl hhl, Nat.xor_comm])
      have j0 : (0 : Int) ≤ (j : Int) := by omega
      have j4 : (j : Int) < 4 := by omega
      generalize h j ^^^ g j = z at HXR HT
      generalize g j = gj at *
      generalize h j = hj' at *
      clear hgl hhl
      go_wp2
      go_region
      go_wp2
      go_roundw
      case rel => exact ⟨j + 1, by omega, by go_num, by rw [HXR.out]; exact HT.out⟩
      case measure => simp [intOf]; omega
    · obtain rfl : j = 4 := by omega
      have HV : Hid (At wr (w.heap.size + 1) 4 112 (fun x => h x ^^^ g x)) := hid (HI.out.var.ext (fun x hx => if_pos hx))
      have HN := hid HI.out.out
      have HLo := hid HI.out.low
      go_wp2_with (first
        | (refine step_load_ba rfl 112 _ rfl (w.heap.size + 1) 4 112 5 _ rfl HV.out Tryz.underlying112 infoq ?_)
        | (refine step_store_ba rfl 112 _ _ rfl w.heap.size 4 112 _ _ rfl rfl HN.out infoq ?_))
      refine ret_ba rfl rfl Tryz.underlying112 infoq rfl (HN.out.row (fun x => h x ^^^ g x)) ⟨?_, below_setRow HLo.out (Nat.le_refl _) _⟩
      rw [ba_ext HEQ.out]

theorem word_any (c cap i K n p : Nat) (F : Nat → Nat → Nat) (w : World) (hn : n + K = i) (hp : p + 1 = i) (hK : 0 < K) (hi : i ≤ 1000) (hA : RA w c i F) :
    Calls Tryz.prog 67 #[.slice (some ⟨c, 0, none⟩) i cap, .int .i64 (i : Int), .int .i64 (K : Int)] w fun e w' => e = .returned (.agg (ba 4 (fun j => F n j ^^^ mkw K i (F p) j))) ∧ Below w.heap.size w w' := by
  by_cases h1 : i % K = 0
  · exact word_mark c cap i K n p F w hn hp hK hi hA h1
  · by_cases h2 : K = 8
    · subst h2
      by_cases h3 : i % 8 = 4
      · exact word_sub c cap i n p F w hn hp hi hA h3
      · exact word_plain8 c cap i n p F w hn hp hi hA h1 h3
    · exact word_plain c cap i K n p F w hn hp hK hi hA h1 h2
end Go.Proofs.YthhkhcacljgelaaGreat

namespace Go.Proofs.YthhkhcacljgelaaGreat
open Go.RowKit

/-- m rows of four bytes, one behind the other. -/
def flat (m : Nat) (F : Nat → Nat → Nat) : List Value := (ba (4 * m) (fun x => F (x / 4) (x % 4))).toList
theorem flat_len (m : Nat) (F : Nat → Nat → Nat) : (flat m F).length = m * 4 := by unfold flat; rw [Array.length_toList, ba_size, Nat.mul_comm]
theorem flat_at {m : Nat} (F : Nat → Nat → Nat) {x : Nat} (h : x < 4 * m) : (flat m F)[x]? = some (.int .u8 (F (x / 4) (x % 4) : Int)) := by
  unfold flat; rw [Array.getElem?_toList, ba_get _ h]
theorem flat_snoc (m : Nat) (F : Nat → Nat → Nat) (f : Nat → Nat) : flat m F ++ (ba 4 f).toList = flat (m + 1) (updR F m f) := by
  apply List.ext_getElem?
  intro x
  by_cases h1 : x < 4 * m
  · rw [List.getElem?_append_left (by rw [flat_len]; omega), flat_at _ h1, flat_at _ (by omega)]
    unfold updR
    rw [if_neg (by omega)]
  · rw [List.getElem?_append_right (by rw [flat_len]; omega), flat_len]
    by_cases h2 : x < 4 * (m + 1)
    · rw [flat_at _ h2, Array.getElem?_toList, ba_get _ (by omega)]
      unfold updR
      rw [if_pos (by omega), show x - m * 4 = x % 4 by omega]
    · rw [List.getElem?_eq_none (by rw [Array.length_toList, ba_size]; omega), List.getElem?_eq_none (by rw [flat_len]; omega)]
theorem flat_ext {m : Nat} {F G : Nat → Nat → Nat} (h : ∀ i, i < m → ∀ j, j < 4 → F i j = G i j) : flat m F = flat m G := by
  unfold flat
  rw [ba_ext (fun x hx => h (x / 4) (by omega) (x % 4) (by omega))]

/-- A list of rows of four bytes, the call's own. -/
structure LA (w : World) (B : Nat) (v : Value) (m : Nat) (F : Nat → Nat → Nat) : Prop where
  own : w.ownsRow B 112 4 v m (flat m F)
  byte : ∀ i, i < m → ∀ j, j < 4 → F i j < 256
theorem LA.ra {w : World} {B c cap m : Nat} {F : Nat → Nat → Nat} (h : LA w B (.slice (some ⟨c, 0, none⟩) m cap) m F) (hm : 0 < m) : RA w c m F := by
  obtain ⟨g, cap', e, hb, hlt⟩ := h.own.form hm
  injection e with e1 _ _
  injection e1 with e1
  injection e1 with e1
  subst e1
  refine ⟨hlt, fun i hi j hj => ?_, h.byte⟩
  have := h.own.cells (g := c) rfl (i * 4 + j) _ (flat_at F (by omega))
  rw [Addr.add_mid, Nat.zero_add] at this
  rw [this, show (i * 4 + j) / 4 = i by omega, show (i * 4 + j) % 4 = j by omega]
theorem LA.same {w w' : World} {B : Nat} {v : Value} {m : Nat} {F : Nat → Nat → Nat} (h : LA w B v m F) (hb : Below w.heap.size w w') : LA w' B v m F := by
  refine ⟨⟨h.own.1, ?_⟩, h.byte⟩
  rcases h.own.2 with h1 | ⟨g, cap, cur, e, h1, h2, h3⟩
  · exact .inl h1
  · exact .inr ⟨g, cap, cur, e, h1, (hb.block g (Array.getElem?_eq_some_iff.1 h2).1).trans h2, h3⟩

theorem LA.ext {w : World} {B : Nat} {v : Value} {m : Nat} {F G : Nat → Nat → Nat} (h : LA w B v m F) (e : ∀ i, i < m → ∀ j, j < 4 → F i j = G i j) : LA w B v m G :=
  ⟨by rw [← flat_ext e]; exact h.own, fun i hi j hj => by rw [← e i hi j hj]; exact h.byte i hi j hj⟩

theorem info38 : (Tryz.prog.info? 112).map (fun i => (i.zero, i.size, i.bytes)) = some (some (.agg #[.int .u8 0, .int .u8 0, .int .u8 0, .int .u8 0]), 4, 4) := by kernel_rfl
theorem wp_append_la {w : World} {o : Oper} {a : Act} {Kk : Act → World → Prop} {Q : Exit → Act → World → Prop} (s x : Operand)
    (ho : o.op = .call { callee := .builtin .append, args := #[s, x], argTypes := #[111, 111] }) (B : Nat) (v : Value) (m : Nat) (F : Nat → Nat → Nat) (hs : a.eval s = v) (hown : LA w B v m F)
    (ad : Addr) (c : Nat) (f : Nat → Nat) (hx : a.eval x = .slice (some ad) 1 c) (hu : ∀ j, j < 4 → w.cell? (ad.add j) = some (.int .u8 (f j : Int))) (hf : ∀ j, j < 4 → f j < 256)
    (hlim : m ≤ 1048576) (hB : B ≤ w.heap.size) (B0 : Nat) (w0 : World) (hb : Below B0 w0 w) (hBB : B0 ≤ B)
    (h : ∀ v' w', LA w' B v' (m + 1) (updR F m f) → Below B0 w0 w' → w.heap.size ≤ w'.heap.size → Kk (a.put o.dst v') w') : o.wp Tryz.prog a w Kk Q := by
  obtain ⟨i0, hi, hz0, hz1, hz2⟩ := info_parts info38
  refine wp_append_own w s x 111 ho B 112 i0 _ 4 4 Tryz.underlying111 hi hz0 hz1 hz2 rfl (by decide) v m (flat m F) hs hown.own ad 1 c (ba 4 f).toList hx (by rw [Array.length_toList, ba_size]) ?_ ?_ (by unfold maxLen; omega) (by omega) hB ?_
  · intro j y hj
    have hj4 : j < 4 := by have := (List.getElem?_eq_some_iff.1 hj).1; rwa [Array.length_toList, ba_size] at this
    rw [Array.getElem?_toList, ba_get _ hj4] at hj
    injection hj with hj
    rw [← hj]; exact hu j hj4
  · intro y hy
    obtain ⟨j, hj, e⟩ := List.mem_iff_getElem.1 hy
    have hj4 : j < 4 := by rwa [Array.length_toList, ba_size] at hj
    have : (ba 4 f).toList[j]? = some y := by rw [List.getElem?_eq_getElem hj, e]
    rw [Array.getElem?_toList, ba_get _ hj4] at this
    injection this with this
    rw [← this]; rfl
  · intro v' w' h2 h3 _
    refine h v' w' ⟨by rw [← flat_snoc]; exact h2, fun i hi j hj => ?_⟩ (hb.grown h3 (by omega) (fun j hj => by have := (World.ownsRow.lt hown.own j hj).1; omega)) h3.size
    unfold updR
    split
    · exact hf j hj
    · exact hown.byte i (by omega) j hj
theorem wpList_append_la {w : World} {ops : Array Oper} {rest : List Oper} {o : Oper} {a : Act} {Q : Exit → Act → World → Prop} (hgd : o.guard = none) (s x : Operand)
    (ho : o.op = .call { callee := .builtin .append, args := #[s, x], argTypes := #[111, 111] }) (B : Nat) (v : Value) (m : Nat) (F : Nat → Nat → Nat) (hs : a.eval s = v) (hown : LA w B v m F)
    (ad : Addr) (c : Nat) (f : Nat → Nat) (hx : a.eval x = .slice (some ad) 1 c) (hu : ∀ j, j < 4 → w.cell? (ad.add j) = some (.int .u8 (f j : Int))) (hf : ∀ j, j < 4 → f j < 256)
    (hlim : m ≤ 1048576) (hB : B ≤ w.heap.size) (B0 : Nat) (w0 : World) (hb : Below B0 w0 w) (hBB : B0 ≤ B)
    (h : ∀ v' w', LA w' B v' (m + 1) (updR F m f) → Below B0 w0 w' → w.heap.size ≤ w'.heap.size → wpList Tryz.prog ops Q rest (a.put o.dst v') w') : wpList Tryz.prog ops Q (o :: rest) a w :=
  wpList_plain hgd fun _ hK => wp_append_la s x ho B v m F hs hown ad c f hx hu hf hlim hB B0 w0 hb hBB fun v' w' h2 h3 h4 => hK _ _ (h v' w' h2 h3 h4)
theorem step_append_la {w : World} {ops : Array Oper} {o : Oper} {a : Act} {Kk : Act → World → Prop} {Q : Exit → Act → World → Prop} {X : Prop} (hgd : o.guard = none) (s x : Operand)
    (ho : o.op = .call { callee := .builtin .append, args := #[s, x], argTypes := #[111, 111] }) (B : Nat) (v : Value) (m : Nat) (F : Nat → Nat → Nat) (hs : a.eval s = v) (hown : LA w B v m F)
    (ad : Addr) (c : Nat) (f : Nat → Nat) (hx : a.eval x = .slice (some ad) 1 c) (hu : ∀ j, j < 4 → w.cell? (ad.add j) = some (.int .u8 (f j : Int))) (hf : ∀ j, j < 4 → f j < 256)
    (hlim : m ≤ 1048576) (hB : B ≤ w.heap.size) (B0 : Nat) (w0 : World) (hb : Below B0 w0 w) (hBB : B0 ≤ B)
    (h : ∀ v' w', LA w' B v' (m + 1) (updR F m f) → Below B0 w0 w' → w.heap.size ≤ w'.heap.size → Kk (a.put o.dst v') w') :
    if Region.wanted o (yielded ops a.tmps) = true then Oper.wp Tryz.prog o a w Kk Q else X := by
  have hw : Region.wanted o (yielded ops a.tmps) = true := by simp [Region.wanted, hgd]
  rw [if_pos hw]
  exact wp_append_la s x ho B v m F hs hown ad c f hx hu hf hlim hB B0 w0 hb hBB h
theorem from_drew {B : Nat} {a w : World} (h : Below B a w) : Below B a.drew w := ⟨h.os, h.tape, h.output, h.size, h.block⟩
theorem cells_new4 (w : World) (f : Nat → Nat) (E : TypeId) : ∀ j, j < 4 → (w.alloc (.cells (ba 4 f) E)).cell? (Addr.add ⟨w.heap.size, 0, none⟩ j) = some (.int .u8 (f j : Int)) := by
  intro j hj
  rw [Addr.add_mid, Nat.zero_add]
  exact (At.new w 4 E f).cell hj

/-- The rows that are told, and the words that they are made of. -/
structure OInv (w wr : World) (c i : Nat) (X : Nat → Nat → Nat) (o cap r : Nat) (gs cs : Nat → Nat) (Y : Nat → Nat → Nat) : Prop where
  words : RA wr c i X
  list : LW wr w.heap.size 22 o r cap 16 gs (fun _ => 0) cs Y
  low : Below w.heap.size w wr
  ne : c ≠ o
  new : ∀ i, i < r → w.heap.size ≤ gs i
theorem OInv.self {w wr w1 : World} {c i o cap r : Nat} {X Y : Nat → Nat → Nat} {gs cs : Nat → Nat} (h : OInv w wr c i X o cap r gs cs Y) (hb : Below wr.heap.size wr w1) : OInv w w1 c i X o cap r gs cs Y :=
  ⟨h.words.self hb, h.list.self hb, h.low.trans (hb.mono h.low.size), h.ne, h.new⟩
theorem OInv.more {w wr w1 : World} {c i o cap r o' cap' g k : Nat} {X Y : Nat → Nat → Nat} {gs cs : Nat → Nat} (h : OInv w wr c i X o cap r gs cs Y)
    (hl : LW w1 w.heap.size 22 o' (r + 1) cap' 16 (upd gs r g) (upd (fun _ => 0) r 0) (upd cs r k) (updR Y r (Y r))) (hgr : wr.grownBy w1 (some o)) (ho : o' = o ∨ o' = wr.heap.size) (hg : w.heap.size ≤ g) : OInv w w1 c i X o' cap' (r + 1) (upd gs r g) (upd cs r k) Y := by
  refine ⟨⟨Nat.lt_of_lt_of_le h.words.lt hgr.size, fun i hi j hj => (World.cell?_of_block (w := wr) (hgr.block c h.words.lt (by simpa using h.ne))).trans (h.words.cell i hi j hj), h.words.byte⟩, ?_, h.low.grown hgr h.low.size (fun j hj => by injection hj with hj; subst hj; exact h.list.form.1), by have := h.ne; have := h.words.lt; rcases ho with rfl | rfl <;> omega, fun i hi => ?_⟩
  rotate_left
  · unfold upd; split
    · exact hg
    · exact h.new i (by omega)
  rw [upd_const] at hl
  exact hl.ext (fun i _ x _ => by unfold updR; split; (rename_i e; rw [e]); rfl)
/-- One row of 16 bytes on its way. -/
structure InInv (w wr : World) (v : Value) (f : Nat → Nat) (t : Nat) : Prop where
  own : Own .u8 w.heap.size 5 wr v (ns t f)
  low : Below w.heap.size w wr

set_option maxRecDepth 100000 in
set_option maxHeartbeats 6400000 in
theorem refexpand_new (kb ko kc K L R R1 M N : Nat) (k : Nat → Nat) (w : World) (hL : L = 4 * K) (hR : rnd (L : Int) = R) (hR1 : R1 = R + 1) (hM : M = 4 * R1) (hMN : M = K + N) (hK : 4 ≤ K) (hK8 : K ≤ 8) (hN : N ≤ 900) (hR0 : 0 < R)
    (hk : ∀ x, k x < 256) (hA : Wd w L kb ko k) :
    Calls Tryz.prog 53 #[.slice (some ⟨kb, ko, none⟩) L kc] w fun e w' =>
      ∃ c cap gs cs, e = .returned (.tuple #[.slice (some ⟨c, 0, none⟩) R1 cap, .int .i64 0]) ∧ RL w' c R1 16 gs (fun _ => 0) cs (rkey K k N) ∧ (∀ i, i < R1 → w.heap.size ≤ gs i) ∧ Below w.heap.size w w' := by
  have HRD := hid (fun w => by have := refrounds_any (L : Int) w; rw [hR] at this; exact this)
  have r0 : ((R : Int) == 0) = false := by rw [beq_eq_false_iff_ne]; omega
  have d4 : (L : Int) / 4 = (K : Int) := by omega
  have wK : IntKind.i64.wrap (K : Int) = K := by rw [IntKind.wrap_i64]; omega
  have HA := hid hA
  have HK := hid hk
  have HM := hid hM
  have HMN := hid hMN
  have HL4 := hid hL
  have HR1 := hid hR1
  clear hA hk hM hMN hL hR hR1
  go_enter Tryz.func53, Tryz.ntmps53
  go_wp2_with (first
    | (go_at_call 4; (with_reducible refine (HRD.out _).mono ?_); rintro e u1 ⟨rfl, rfl⟩))
  have HS : Hid (LA (u1.alloc (.cells #[] 112)) u1.heap.size (.slice (some ⟨u1.heap.size, 0, none⟩) 0 0) 0 (fun i x => k (4 * i + x))) :=
    hid ⟨⟨rfl, .inr ⟨u1.heap.size, 0, #[], rfl, Nat.le_refl _, heap_alloc_new u1 _, Nat.le_refl _, Nat.zero_le _, rfl, rfl⟩⟩, fun i hi => absurd hi (by omega)⟩
  have HSL : Hid (Below u1.heap.size u1 (u1.alloc (.cells #[] 112))) := hid ((Below.refl _ _).alloc (Nat.le_refl _) _)
  go_loopw [6, 7] (fun v i wr => ∃ j : Nat, j ≤ K ∧ i = .int .i64 (j : Nat) ∧ LA wr u1.heap.size v j (fun i x => k (4 * i + x)) ∧ Below u1.heap.size u1 wr) (fun _ i _ => K - (intOf i).toNat)
  case atStart => exact ⟨0, by omega, rfl, HS.out, HSL.out⟩
  case round =>
    obtain ⟨j, hj, rfl, hI, hl⟩ := hrel
    have HI := hid hI
    have HL := hid hl
    clear hI hl
    by_cases hlt : j < K
    · have HAw := hid (HA.out.self HL.out)
      have hle : 4 * j + 4 ≤ L := by have := HL4.out; omega
      obtain ⟨q, hq⟩ : ∃ q, 4 * j = q := ⟨_, rfl⟩
      obtain ⟨q1, hq1⟩ : ∃ q1, 4 * j + 1 = q1 := ⟨_, rfl⟩
      obtain ⟨q2, hq2⟩ : ∃ q2, 4 * j + 2 = q2 := ⟨_, rfl⟩
      obtain ⟨q3, hq3⟩ : ∃ q3, 4 * j + 3 = q3 := ⟨_, rfl⟩
      have y0 : wr.drew.cell? ⟨kb, ko + q, none⟩ = some (.int .u8 (k q : Int)) := HAw.out.drew.cell q (by omega)
      have y1 : wr.drew.cell? ⟨kb, ko + q1, none⟩ = some (.int .u8 (k q1 : Int)) := HAw.out.drew.cell q1 (by omega)
      have y2 : wr.drew.cell? ⟨kb, ko + q2, none⟩ = some (.int .u8 (k q2 : Int)) := HAw.out.drew.cell q2 (by omega)
      have y3 : wr.drew.cell? ⟨kb, ko + q3, none⟩ = some (.int .u8 (k q3 : Int)) := HAw.out.drew.cell q3 (by omega)
      have e0 : 4 * (j : Int) = (q : Int) := by omega
      have e1 : (q : Int) + 1 = (q1 : Int) := by omega
      have e2 : (q : Int) + 2 = (q2 : Int) := by omega
      have e3 : (q : Int) + 3 = (q3 : Int) := by omega
      have w0 : IntKind.i64.wrap (q : Int) = q := by rw [IntKind.wrap_i64]; omega
      have w1 : IntKind.i64.wrap (q1 : Int) = q1 := by rw [IntKind.wrap_i64]; omega
      have w2' : IntKind.i64.wrap (q2 : Int) = q2 := by rw [IntKind.wrap_i64]; omega
      have w3 : IntKind.i64.wrap (q3 : Int) = q3 := by rw [IntKind.wrap_i64]; omega
      have b0 : (q : Int) < (L : Int) := by omega
      have b1 : (q1 : Int) < (L : Int) := by omega
      have b2 : (q2 : Int) < (L : Int) := by omega
      have b3 : (q3 : Int) < (L : Int) := by omega
      have n0 : (0 : Int) ≤ (q : Int) := by omega
      have n1 : (0 : Int) ≤ (q1 : Int) := by omega
      have n2 : (0 : Int) ≤ (q2 : Int) := by omega
      have n3 : (0 : Int) ≤ (q3 : Int) := by omega
      have HF : Hid (∀ j', j' < 4 → quad (k q) (k q1) (k q2) (k q3) j' = k (4 * j + j')) := hid (by
        intro j' hj'
        obtain rfl | rfl | rfl | rfl : j' = 0 ∨ j' = 1 ∨ j' = 2 ∨ j' = 3 := by omega
        · rw [← hq]; rfl
        · rw [← hq1]; rfl
        · rw [← hq2]; rfl
        · rw [← hq3]; rfl)
      have HB0 := hid (HK.out q)
      have HB1 := hid (HK.out q1)
      have HB2 := hid (HK.out q2)
      have HB3 := hid (HK.out q3)
      obtain ⟨x0, hx0⟩ : ∃ x, k q = x := ⟨_, rfl⟩
      obtain ⟨x1, hx1⟩ : ∃ x, k q1 = x := ⟨_, rfl⟩
      obtain ⟨x2, hx2⟩ : ∃ x, k q2 = x := ⟨_, rfl⟩
      obtain ⟨x3, hx3⟩ : ∃ x, k q3 = x := ⟨_, rfl⟩
      rw [hx0] at y0 HF HB0
      rw [hx1] at y1 HF HB1
      rw [hx2] at y2 HF HB2
      rw [hx3] at y3 HF HB3
      have HQ := hid (And.intro hx0 (And.intro hx1 (And.intro hx2 hx3)))
      clear hx0 hx1 hx2 hx3
      clear hq hq1 hq2 hq3
      have HY : Hid (wr.drew.cell? ⟨kb, ko + q, none⟩ = some (.int .u8 (x0 : Int)) ∧ wr.drew.cell? ⟨kb, ko + q1, none⟩ = some (.int .u8 (x1 : Int)) ∧ wr.drew.cell? ⟨kb, ko + q2, none⟩ = some (.int .u8 (x2 : Int)) ∧ wr.drew.cell? ⟨kb, ko + q3, none⟩ = some (.int .u8 (x3 : Int))) := hid ⟨y0, y1, y2, y3⟩
      have HD : Hid (LA (wr.drew.alloc (.cells #[.int .u8 (x0 : Int), .int .u8 (x1 : Int), .int .u8 (x2 : Int), .int .u8 (x3 : Int)] 112)) u1.heap.size u6 j (fun i x => k (4 * i + x))) := hid ((show LA wr.drew u1.heap.size _ j _ from ⟨HI.out.own, HI.out.byte⟩).same ((Below.refl _ _).alloc (Nat.le_refl _) _))
      have HLD : Hid (Below u1.heap.size u1 (wr.drew.alloc (.cells #[.int .u8 (x0 : Int), .int .u8 (x1 : Int), .int .u8 (x2 : Int), .int .u8 (x3 : Int)] 112))) := hid (HL.out.drew.alloc HL.out.size _)
      have HYY : Hid (∀ w', Below wr.heap.size wr w' → w'.cell? ⟨kb, ko + q, none⟩ = some (.int .u8 (x0 : Int)) ∧ w'.cell? ⟨kb, ko + q1, none⟩ = some (.int .u8 (x1 : Int)) ∧ w'.cell? ⟨kb, ko + q2, none⟩ = some (.int .u8 (x2 : Int)) ∧ w'.cell? ⟨kb, ko + q3, none⟩ = some (.int .u8 (x3 : Int))) := hid (fun w' hb => ⟨cell_self y0 (from_drew hb), cell_self y1 (from_drew hb), cell_self y2 (from_drew hb), cell_self y3 (from_drew hb)⟩)
      have HZZ : Hid (∀ w', Below u1.heap.size u1 w' → w'.cell? ⟨kb, ko + q, none⟩ = some (.int .u8 (x0 : Int)) ∧ w'.cell? ⟨kb, ko + q1, none⟩ = some (.int .u8 (x1 : Int)) ∧ w'.cell? ⟨kb, ko + q2, none⟩ = some (.int .u8 (x2 : Int)) ∧ w'.cell? ⟨kb, ko + q3, none⟩ = some (.int .u8 (x3 : Int))) := hid (fun w' hb => by have h := (HA.out.self hb); exact ⟨by rw [h.cell q (by omega), HQ.out.1], by rw [h.cell q1 (by omega), HQ.out.2.1], by rw [h.cell q2 (by omega), HQ.out.2.2.1], by rw [h.cell q3 (by omega), HQ.out.2.2.2]⟩)
      have HY2 := hid (HYY.out (wr.drew.alloc (.cells #[.int .u8 (x0 : Int), .int .u8 (x1 : Int), .int .u8 (x2 : Int), .int .u8 (x3 : Int)] 112)) ((Below.refl wr.heap.size wr).drew.alloc (Nat.le_refl _) _))
      have HLA : Hid (Below wr.heap.size wr (wr.drew.alloc (.cells #[.int .u8 (x0 : Int), .int .u8 (x1 : Int), .int .u8 (x2 : Int), .int .u8 (x3 : Int)] 112))) := hid ((Below.refl wr.heap.size wr).drew.alloc (Nat.le_refl _) _)
      have HC4 : Hid (∀ j', j' < 4 → (wr.alloc (.cells #[.int .u8 (x0 : Int), .int .u8 (x1 : Int), .int .u8 (x2 : Int), .int .u8 (x3 : Int)] 112)).drew.cell? (Addr.add ⟨wr.heap.size, 0, none⟩ j') = some (.int .u8 (quad x0 x1 x2 x3 j' : Int))) := hid (cells_new4 wr (quad x0 x1 x2 x3) 112)
      clear y0 y1 y2 y3
      go_wp2
      go_region_held3 (fun w' => w'.cell? ⟨kb, ko + q, none⟩ = some (.int .u8 (x0 : Int)) ∧ w'.cell? ⟨kb, ko + q1, none⟩ = some (.int .u8 (x1 : Int)) ∧ w'.cell? ⟨kb, ko + q2, none⟩ = some (.int .u8 (x2 : Int)) ∧ w'.cell? ⟨kb, ko + q3, none⟩ = some (.int .u8 (x3 : Int)))
        (first | with_reducible assumption | exact HY.out | exact HY2.out | exact HZ.out)
        (first
          | (refine step_append_la rfl (.tmp 27) (.tmp 52) rfl u1.heap.size _ j _ rfl HD.out ⟨wr.heap.size, 0, none⟩ 1 (quad x0 x1 x2 x3) rfl HC4.out ?_ (by omega) HLD.out.size u1.heap.size u1 HLD.out (Nat.le_refl _) ?_; (intro j' hj'; obtain rfl | rfl | rfl | rfl : j' = 0 ∨ j' = 1 ∨ j' = 2 ∨ j' = 3 := (by omega); exact HB0.out; exact HB1.out; exact HB2.out; exact HB3.out); intro v' w' hla hlow' hsz'; have HN := hid hla; have HLN := hid hlow'; have HZ : Hid (w'.cell? ⟨kb, ko + q, none⟩ = some (.int .u8 (x0 : Int)) ∧ w'.cell? ⟨kb, ko + q1, none⟩ = some (.int .u8 (x1 : Int)) ∧ w'.cell? ⟨kb, ko + q2, none⟩ = some (.int .u8 (x2 : Int)) ∧ w'.cell? ⟨kb, ko + q3, none⟩ = some (.int .u8 (x3 : Int))) := hid (HZZ.out w' hlow'); clear hla hlow' hsz'))
      go_wp2
      go_roundw
      case rel =>
        refine ⟨j + 1, by omega, by go_num, HN.out.ext (fun i hi x hx => ?_), HLN.out⟩
        unfold updR
        split
        · rename_i e; subst e; exact HF.out x hx
        · rfl
      case measure => simp [intOf]; omega
    · obtain rfl : j = K := by omega
      have HS2 := hid (HI.out.ext (G := exps j k 0) (fun _ _ _ _ => rfl))
      have HSL2 := HL
      have e5 : 4 * (R : Int) + 4 = (M : Int) := by have := HM.out; have := HR1.out; omega
      have HMl : Hid (M ≤ 1000) := hid (by have := HMN.out; omega)
      have hRl : R ≤ 1000 := by have := HMl.out; omega
      clear HI HL
      go_wp2
      go_loopw [6, 8] (fun v i wr => ∃ n : Nat, n ≤ N ∧ i = .int .i64 (j + n : Nat) ∧ LA wr u1.heap.size v (j + n) (exps j k n) ∧ Below u1.heap.size u1 wr) (fun _ i _ => M - (intOf i).toNat)
      case atStart => exact ⟨0, by omega, rfl, HS2.out, HSL2.out⟩
      case round =>
        obtain ⟨n, hn, rfl, hI, hl⟩ := hrel
        have HI := hid hI
        have HL := hid hl
        obtain ⟨c, cap, rfl, _, _⟩ := hI.own.form (by omega)
        clear hI hl
        obtain ⟨i, hi⟩ : ∃ i, j + n = i := ⟨_, rfl⟩
        have Hi := hid hi
        have HRA := hid (HI.out.ra (by omega))
        have hmi := HMN.out
        rw [hi] at HRA HI ⊢
        by_cases hlt : n < N
        · have HW := hid (word_any c cap i j n (i - 1) (exps j k n) wr (by omega) (by omega) (by omega) (by omega) HRA.out)
          have b5 : (i : Int) < 4 * (R : Int) + 4 := by omega
          obtain ⟨f, hf⟩ : ∃ f, f = (fun x => exps j k n n x ^^^ mkw j i (exps j k n (i - 1)) x) := ⟨_, rfl⟩
          have HFl : Hid (∀ x, x < 4 → f x < 256) := hid (fun x hx => by rw [hf]; exact xor_lt (HRA.out.byte n (by omega) x hx) (mkw_lt (HRA.out.byte (i - 1) (by omega)) x hx))
          have HNX : Hid (updR (exps j k n) i f = exps j k (n + 1)) := hid (by rw [exps_new, hi, hf])
          rw [← hf] at HW
          have HW4 : Hid (Calls Tryz.prog 67 #[.slice (some ⟨c, 0, none⟩) i cap, .int .i64 (i : Int), .int .i64 (j : Int)] wr fun e w' => e = .returned (.agg #[.int .u8 (f 0 : Int), .int .u8 (f 1 : Int), .int .u8 (f 2 : Int), .int .u8 (f 3 : Int)]) ∧ Below wr.heap.size wr w') := HW
          clear hi hmi HW hf
          go_wp2_with (first
            | (go_at_call 67; (with_reducible refine (HW4.out).mono ?_); rintro e w5 ⟨rfl, hl5⟩; have HL5 := hid hl5; have HD5 : Hid (LA (w5.alloc (.cells #[.int .u8 (f 0 : Int), .int .u8 (f 1 : Int), .int .u8 (f 2 : Int), .int .u8 (f 3 : Int)] 112)) u1.heap.size (.slice (some ⟨c, 0, none⟩) i cap) i (exps j k n)) := hid ((HI.out.same hl5).same ((Below.refl _ _).alloc (Nat.le_refl _) _)); have HLD5 : Hid (Below u1.heap.size u1 (w5.alloc (.cells #[.int .u8 (f 0 : Int), .int .u8 (f 1 : Int), .int .u8 (f 2 : Int), .int .u8 (f 3 : Int)] 112))) := hid ((HL.out.trans (hl5.mono HL.out.size)).alloc (Nat.le_trans HL.out.size hl5.size) _); clear hl5)
            | (refine wpList_append_la rfl (.tmp 62) (.tmp 67) rfl u1.heap.size _ i _ rfl HD5.out ⟨w5.heap.size, 0, none⟩ 1 f rfl (cells_new4 w5 f 112) HFl.out (by omega) HLD5.out.size u1.heap.size u1 HLD5.out (Nat.le_refl _) ?_; intro v' w' hla hlow' hsz'; have HN := hid hla; have HLN := hid hlow'; clear hla hlow' hsz'))
          go_roundw
          case rel => exact ⟨n + 1, by omega, by rw [← Nat.add_assoc, Hi.out]; go_num, by rw [← Nat.add_assoc, Hi.out, ← HNX.out]; exact HN.out, HLN.out⟩
          case measure => simp [intOf]; omega
        · obtain rfl : n = N := by omega
          have b5 : ¬ (i : Int) < 4 * (R : Int) + 4 := by omega
          clear hi hmi
          go_wp2
          have HSO : Hid (OInv u1 (wr.alloc (.cells #[] 22)) c i (exps j k n) wr.heap.size 0 0 (fun _ => 0) (fun _ => 0) (rkey j k n)) :=
            hid ⟨HRA.out.self ((Below.refl _ _).alloc (Nat.le_refl _) _), ⟨⟨rfl, .inr ⟨wr.heap.size, 0, #[], rfl, HL.out.size, heap_alloc_new wr _, Nat.le_refl _, Nat.zero_le _, rfl, rfl⟩⟩, fun i hi => absurd hi (by omega), fun i hi => absurd hi (by omega)⟩, HL.out.alloc HL.out.size _, Nat.ne_of_lt HRA.out.lt, fun i hi => absurd hi (by omega)⟩
          have HiR : Hid (i = 4 * R1) := hid (by have := Hi.out; have := HMN.out; have := HM.out; omega)
          have HRR : Hid (R1 = R + 1) := HR1
          clear HRA HI HL HS2 HSL2 e5 hN HA HSL HK b5
          generalize wr.heap.size = o0 at *
          generalize wr.alloc (.cells #[] 22) = wo at *
          have HX := hid (fun (r t : Nat) => show exps j k n (4 * r + t / 4) (t % 4) = rkey j k n r t from rfl)
          generalize hYY : rkey j k n = Y at *
          have HYE := hid hYY
          clear hYY
          generalize exps j k n = X at *
          go_loopw [9, 10] (fun v i' wr => ∃ r o cap gs cs, r ≤ R1 ∧ i' = .int .i64 (r : Nat) ∧ v = .slice (some ⟨o, 0, none⟩) r cap ∧ OInv u1 wr c i X o cap r gs cs Y) (fun _ i' _ => R1 - (intOf i').toNat)
          case atStart => exact ⟨0, o0, 0, _, _, by omega, rfl, rfl, HSO.out⟩
          case round =>
            obtain ⟨r, o, ocap, gs, cs, hr, rfl, rfl, hO⟩ := hrel
            have HO := hid hO
            clear hO
            obtain ⟨wz, rfl⟩ : ∃ wz, wz = wr := ⟨_, rfl⟩
            have hRR := HRR.out
            by_cases hlt3 : r < R1
            · have c1 : (r : Int) ≤ (R : Int) := by omega
              have HIn : Hid (InInv wz (wz.alloc (.cells #[] 5)) (.slice (some ⟨wz.heap.size, 0, none⟩) 0 0) (Y r) 0) := hid ⟨own_empty wz (Nat.le_refl _), (Below.refl _ _).alloc (Nat.le_refl _) _⟩
              clear hRR
              go_wp2
              go_loopw [11, 12] (fun v i' wr => ∃ t : Nat, t ≤ 16 ∧ i' = .int .i64 (t : Nat) ∧ InInv wz wr v (Y r) t) (fun _ i' _ => 16 - (intOf i').toNat)
              case atStart => exact ⟨0, by omega, rfl, HIn.out⟩
              case round =>
                obtain ⟨t, ht, rfl, hI⟩ := hrel
                have HI := hid hI
                clear hI
                by_cases hlt4 : t < 16
                · obtain ⟨q, hq⟩ : ∃ q, 4 * r = q := ⟨_, rfl⟩
                  obtain ⟨th, hth⟩ : ∃ th, t / 4 = th := ⟨_, rfl⟩
                  obtain ⟨d, hd⟩ : ∃ d, t % 4 = d := ⟨_, rfl⟩
                  obtain ⟨a, ha⟩ : ∃ a, 4 * r + t / 4 = a := ⟨_, rfl⟩
                  have hiR := HiR.out
                  have hai : a < i := by omega
                  have hdl : d < 4 := by omega
                  have f1 : 4 * (r : Int) = (q : Int) := by omega
                  have f2 : (t : Int) / 4 = (th : Int) := by omega
                  have f3 : (q : Int) + (th : Int) = (a : Int) := by omega
                  have f4 : (t : Int) % 4 = (d : Int) := by omega
                  have z1 : IntKind.i64.wrap (q : Int) = q := by rw [IntKind.wrap_i64]; omega
                  have z2 : IntKind.i64.wrap (th : Int) = th := by rw [IntKind.wrap_i64]; omega
                  have z3 : IntKind.i64.wrap (a : Int) = a := by rw [IntKind.wrap_i64]; omega
                  have g1 : (0 : Int) ≤ (a : Int) := by omega
                  have g2 : (a : Int) < (i : Int) := by omega
                  have g3 : (0 : Int) ≤ (d : Int) := by omega
                  have g4 : (d : Int) < 4 := by omega
                  have HWR := hid ((HO.out.self HI.out.low).words)
                  have hce : X a d = Y r t := by rw [← HX.out r t, ha, hd]
                  have hc : _ := HWR.out.cell a hai d hdl
                  rw [hce] at hc
                  have hyl : Y r t < 256 := by rw [← hce]; exact HWR.out.byte a hai d hdl
                  have HY := hid hyl
                  have HSN := hid (ns_snoc t (Y r))
                  generalize Y r t = y at hc HSN HY
                  clear hq hth hd ha hiR hai hdl hce hyl
                  go_wp2_with (first
                    | (refine wpList_append_ints rfl (.tmp 80) (.tmp 92) 22 rfl .u8 wz.heap.size 5 Tryz.underlying22 infob (by decide) _ _ rfl (HI.out.own.alloc _) ⟨_, 0, none⟩ 1 1 [(y : Int)] rfl rfl (cell_new_int _ .u8 _ 5) (by rw [ns_len]; show (t + 1) * 1 ≤ _; omega) (Nat.le_trans HI.out.low.size (by simp)) wz.heap.size wz (HI.out.low.alloc HI.out.low.size _) (Nat.le_refl _) ?_; intro v' w' hown' hlow' hsz'; rw [HSN.out] at hown'; have HN : Hid (InInv wz w' v' (Y r) (t + 1)) := hid ⟨hown', hlow'⟩; clear hown' hlow' hsz'))
                  go_roundw
                  case rel => exact ⟨t + 1, by omega, by go_num, HN.out⟩
                  case measure => simp [intOf]; omega
                · obtain rfl : t = 16 := by omega
                  obtain ⟨g, gcap, rfl, hg, _⟩ := World.ownsRow.form HI.out.own (by rw [ns_len]; decide)
                  have HOW : Hid (Own .u8 wz.heap.size 5 wr (.slice (some ⟨g, 0, none⟩) 16 gcap) (ns 16 (Y r))) := hid (by have := HI.out.own; rw [ns_len] at this; exact this)
                  rw [ns_len]
                  have HO2 := hid (HO.out.self HI.out.low)
                  have hiR := HiR.out
                  have HWd := hid (Wd.of_own HOW.out (by decide) (fun t ht => by rw [← HX.out r t]; exact HO2.out.words.byte _ (by omega) _ (Nat.mod_lt _ (by decide))))
                  have HGN : Hid (u1.heap.size ≤ g) := hid (Nat.le_trans HO.out.low.size hg)
                  have HGO : Hid (g ≠ o) := hid (by have := HO.out.list.lt; omega)
                  have HO3 := hid (HO2.out.self (w1 := _) ((Below.refl _ _).alloc (Nat.le_refl _) (.cells #[.slice (some ⟨g, 0, none⟩) 16 gcap] 22)))
                  have HW3 := hid (HWd.out.alloc (.cells #[.slice (some ⟨g, 0, none⟩) 16 gcap] 22))
                  clear hg hiR
                  go_wp2_with (first
                    | (refine wpList_append_lw rfl (.tmp 94) (.tmp 96) 40 rfl Tryz.underlying40 infor HO3.out.list rfl ⟨_, 0, none⟩ 1 rfl g 0 gcap (Y r) (cell_new0 _ _ 22) HW3.out HGO.out (by omega) HO3.out.low.size ?_; intro o' ocap' w' hl' hgr' ho'; have HN := hid (HO3.out.more hl' hgr' ho' HGN.out); clear hl' hgr' ho'))
                  go_roundw
                  case rel => exact ⟨r + 1, o', ocap', _, _, by omega, by go_num, rfl, HN.out⟩
                  case measure => simp [intOf]; omega
            · obtain rfl : r = R1 := by omega
              have c1 : ¬ (r : Int) ≤ (R : Int) := by omega
              clear hRR
              go_wp2
              go_ret2
              exact ⟨o, ⟨ocap, rfl⟩, gs, ⟨cs, by rw [HYE.out]; exact HO.out.list.rl⟩, HO.out.new, HO.out.low⟩
theorem refexpand_ok (kb ko kc K L R R1 M N : Nat) (k : Nat → Nat) (w : World) (hL : L = 4 * K) (hR : rnd (L : Int) = R) (hR1 : R1 = R + 1) (hM : M = 4 * R1) (hMN : M = K + N) (hK : 4 ≤ K) (hK8 : K ≤ 8) (hN : N ≤ 900) (hR0 : 0 < R)
    (hk : ∀ x, k x < 256) (hA : Wd w L kb ko k) :
    Calls Tryz.prog 53 #[.slice (some ⟨kb, ko, none⟩) L kc] w fun e w' =>
      ∃ c cap gs cs, e = .returned (.tuple #[.slice (some ⟨c, 0, none⟩) R1 cap, .int .i64 0]) ∧ RL w' c R1 16 gs (fun _ => 0) cs (rkey K k N) ∧ Below w.heap.size w w' :=
  (refexpand_new kb ko kc K L R R1 M N k w hL hR hR1 hM hMN hK hK8 hN hR0 hk hA).mono fun _ _ ⟨c, cap, gs, cs, h1, h2, _, h3⟩ => ⟨c, cap, gs, cs, h1, h2, h3⟩
end Go.Proofs.YthhkhcacljgelaaGreat
