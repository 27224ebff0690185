import Derived.Test.YtnklljlgghenpaaProg
import Derived.Test.YtnklljlgghenpaaKyh
namespace Go.Proofs.Ytnklljlgghenpaa
open Go.RowKit

/-- Four bytes. -/
def quad (a b c d : Nat) : Nat → Nat := fun i => if i = 0 then a else if i = 1 then b else if i = 2 then c else d
theorem infoq : (Try.prog.info? 38).map (·.size) = some 4 := by kernel_rfl
theorem infoq' {f : Nat → Nat} : (Try.prog.info? 38).map (·.size) = some (ba 4 f).toList.length := by rw [Array.length_toList, ba_size]; exact infoq
theorem built4 (a b c d : Nat) : Try.prog.built 38 [(0, .int .u8 (a : Int)), (1, .int .u8 (b : Int)), (2, .int .u8 (c : Int)), (3, .int .u8 (d : Int))] = some (ba 4 (quad a b c d)) := by
  kernel_rfl
theorem step_build4 {w : World} {ops : Array Oper} {rest : List Oper} {o : Oper} {s : Act} {Q : Exit → Act → World → Prop} (hgd : o.guard = none) (x0 x1 x2 x3 : Operand) (ho : o.op = .build 38 #[(0, x0), (1, x1), (2, x2), (3, x3)])
    (a b c d : Nat) (h0 : s.eval x0 = .int .u8 (a : Int)) (h1 : s.eval x1 = .int .u8 (b : Int)) (h2 : s.eval x2 = .int .u8 (c : Int)) (h3 : s.eval x3 = .int .u8 (d : Int))
    (k : wpList Try.prog ops Q rest (s.put o.dst (.agg (ba 4 (quad a b c d)))) w) : wpList Try.prog ops Q (o :: rest) s w := by
  have e : ((#[(0, x0), (1, x1), (2, x2), (3, x3)] : Array (Nat × Operand)).map fun (i, x) => (i, s.eval x)).toList = [(0, .int .u8 (a : Int)), (1, .int .u8 (b : Int)), (2, .int .u8 (c : Int)), (3, .int .u8 (d : Int))] := by simp [h0, h1, h2, h3]
  refine wpList_build hgd 38 _ ho (by rw [e, built4]; rfl) ?_
  rw [e, built4]; exact k

/-- Block c reads, from its beginning on, as rows of four bytes. -/
structure RA (w : World) (c m : Nat) (F : Nat → Nat → Nat) : Prop where
  lt : c < w.heap.size
  cell : ∀ i, i < m → ∀ j, j < 4 → w.cell? ⟨c, i * 4 + j, none⟩ = some (.int .u8 (F i j : Int))
  byte : ∀ i, i < m → ∀ j, j < 4 → F i j < 256
theorem RA.self {w w' : World} {c m : Nat} {F : Nat → Nat → Nat} (h : RA w c m F) (hb : Below w.heap.size w w') : RA w' c m F :=
  ⟨Nat.lt_of_lt_of_le h.lt hb.size, fun i hi j hj => (World.cell?_of_block (w := w) (hb.block c h.lt)).trans (h.cell i hi j hj), h.byte⟩
theorem RA.range {w : World} {c m : Nat} {F : Nat → Nat → Nat} (h : RA w c m F) {i : Nat} (hi : i < m) : w.rangeAt c (i * 4) (ba 4 (F i)).toList := by
  intro j v hv
  have hj : j < 4 := by have := (List.getElem?_eq_some_iff.1 hv).1; rwa [Array.length_toList, ba_size] at this
  rw [Array.getElem?_toList, ba_get _ hj] at hv
  injection hv with hv
  rw [← hv]; exact h.cell i hi j hj

/-- The word that is being put together, in block b1, beside the result's block b0. -/
structure XInv (w wr : World) (f g : Nat → Nat) (j : Nat) : Prop where
  out : At wr w.heap.size 4 38 (fun _ => 0)
  var : At wr (w.heap.size + 1) 4 38 (fun x => if x < j then g x ^^^ f x else f x)
  low : Below w.heap.size w wr
theorem XInv.step {w wr : World} {f g : Nat → Nat} {j : Nat} (h : XInv w wr f g j) : XInv w (wr.setCell ⟨w.heap.size + 1, j, none⟩ (.int .u8 ((g j ^^^ f j : Nat) : Int))) f g (j + 1) := by
  refine ⟨h.out.apart (by simp) _, (h.var.set j (g j ^^^ f j)).ext (fun i _ => ?_), h.low.setCell (by simp) _⟩
  unfold upd
  show (if i = j then g j ^^^ f j else if i < j then g i ^^^ f i else f i) = if i < j + 1 then g i ^^^ f i else f i
  by_cases e : i = j
  · subst e; simp
  · rw [if_neg e]
    by_cases h1 : i < j
    · rw [if_pos h1, if_pos (by omega)]
    · rw [if_neg h1, if_neg (by omega)]
theorem XInv.drew {w wr : World} {f g : Nat → Nat} {j : Nat} (h : XInv w wr f g j) : XInv w wr.drew f g j := ⟨h.out.drew, h.var.drew, h.low.drew⟩

/-- What Word starts from: the word ahead stands in the variable. -/
structure X0 (w wr : World) (f : Nat → Nat) : Prop where
  out : At wr w.heap.size 4 38 (fun _ => 0)
  var : At wr (w.heap.size + 1) 4 38 f
  low : Below w.heap.size w wr
theorem X0.start (w : World) (f : Nat → Nat) : X0 w (((w.alloc (.cells (ba 4 (fun _ => 0)) 38)).alloc (.cells (ba 4 (fun _ => 0)) 38)).setRow (w.heap.size + 1) (ba 4 f)) f := by
  have h1 := At.new w 4 38 (fun _ => 0)
  have h2 := At.new (w.alloc (.cells (ba 4 (fun _ => 0)) 38)) 4 38 (fun _ => 0)
  rw [World.size_alloc] at h2
  refine ⟨(h1.alloc _).rowApart (by omega) _, h2.row f, below_setRow (((Below.refl _ _).alloc (Nat.le_refl _) _).alloc (by simp) _) (by omega) _⟩
theorem X0.row {w wr : World} {f : Nat → Nat} (h : X0 w wr f) (g : Nat → Nat) : X0 w (wr.setRow (w.heap.size + 1) (ba 4 g)) g :=
  ⟨h.out.rowApart (by omega) _, h.var.row g, below_setRow h.low (by omega) _⟩
theorem X0.inv {w wr : World} {f : Nat → Nat} (h : X0 w wr f) (g : Nat → Nat) : XInv w wr f g 0 := ⟨h.out, h.var.ext (fun _ _ => (if_neg (by omega)).symm), h.low⟩

theorem step_load_mid_ba {P : Program} {ops : Array Oper} {rest : List Oper} {op : Oper} {a : Act} {w : World} {Q : Exit → Act → World → Prop} (hgd : op.guard = none) (ty : TypeId) (x : Operand) (ho : op.op = .load ty x)
    (b o n : Nat) (f : Nat → Nat) (e : TypeId) (hx : a.eval x = .pointer (some ⟨b, o, none⟩)) (hc : w.rangeAt b o (ba n f).toList)
    (hu : P.underlying ty = some (.array n e)) (hi : (P.info? ty).map (·.size) = some n)
    (h : wpList P ops Q rest (a.put op.dst (.agg (ba n f))) w) : wpList P ops Q (op :: rest) a w :=
  wpList_load_mid hgd ty x ho b o hx _ _ hc hu rfl (by rw [Array.length_toList, ba_size]; exact hi) (by simpa using h)

set_option maxRecDepth 100000 in
set_option maxHeartbeats 3200000 in
theorem word_mark (c cap i K n p : Nat) (F : Nat → Nat → Nat) (w : World) (hn : n + K = i) (hp : p + 1 = i) (hK : 0 < K) (hi : i ≤ 1000) (hA : RA w c i F) (hr : i % K = 0) :
    Calls Try.prog 17 #[.slice (some ⟨c, 0, none⟩) i cap, .int .i64 (i : Int), .int .i64 (K : Int)] w fun e w' => e = .returned (.agg (ba 4 (fun j => F n j ^^^ mkw K i (F p) j))) ∧ Below w.heap.size w w' := by
  have HA := hid hA
  have e2 : (i : Int) - 1 = (p : Int) := by omega
  have e3 : (i : Int) - (K : Int) = (n : Int) := by omega
  have wp : IntKind.i64.wrap (p : Int) = p := by rw [IntKind.wrap_i64]; omega
  have wn : IntKind.i64.wrap (n : Int) = n := by rw [IntKind.wrap_i64]; omega
  have b1 : (0 : Int) ≤ (n : Int) := by omega
  have b2 : (n : Int) < (i : Int) := by omega
  have b3 : (0 : Int) ≤ (p : Int) := by omega
  have b4 : (p : Int) < (i : Int) := by omega
  have h0 : ¬ (K : Int) = 0 := by omega
  have h00 : ¬ K = 0 := by omega
  have HR : Hid ((w.alloc (.cells #[.int .u8 0, .int .u8 0, .int .u8 0, .int .u8 0] 38)).rangeAt c (p * 4) (ba 4 (F p)).toList) := hid (World.rangeAt_alloc (hA.range (i := p) (by omega)) _)
  have HX : Hid (X0 w (((w.alloc (.cells #[.int .u8 0, .int .u8 0, .int .u8 0, .int .u8 0] 38)).alloc (.cells #[.int .u8 0, .int .u8 0, .int .u8 0, .int .u8 0] 38)).setRow (w.heap.size + 1) (ba 4 (F p))) (F p)) := hid (X0.start w (F p))
  have HL2 : Hid (At ((w.alloc (.cells #[.int .u8 0, .int .u8 0, .int .u8 0, .int .u8 0] 38)).alloc (.cells #[.int .u8 0, .int .u8 0, .int .u8 0, .int .u8 0] 38)) (w.heap.size + 1) 4 38 (fun _ => 0)) := hid (by have := At.new (w.alloc (.cells (ba 4 (fun _ => 0)) 38)) 4 38 (fun _ => 0); rw [World.size_alloc] at this; exact this)
  have HBy := hid (hA.byte p (by omega))
  have HBn := hid (hA.byte n (by omega))
  have HAn : Hid (∀ w', Below w.heap.size w w' → ∀ j, j < 4 → w'.cell? ⟨c, n * 4 + j, none⟩ = some (.int .u8 (F n j : Int))) := hid (fun w' hb => (hA.self hb).cell n (by omega))
  have hmod : ((i : Int) % (K : Int) == 0) = true := by rw [beq_iff_eq]; omega
  have hdiv : (i : Int) / (K : Int) = ((i / K : Nat) : Int) := by omega
  have hwr : IntKind.i64.wrap ((i / K : Nat) : Int) = ((i / K : Nat) : Int) := by rw [IntKind.wrap_i64]; have := Nat.div_le_self i K; generalize i / K = q at *; omega
  have HM := hid (fun w => refmarks_nat (i / K) w (Nat.le_trans (Nat.div_le_self _ _) (by omega)))
  have HML := hid (mkb_lt (i / K))
  have HE := hid (show mkw K i (F p) = fun j => sb (F p ((j + 1) % 4)) ^^^ (if j = 0 then mkb (i / K) else 0) by funext j; unfold mkw; rw [if_pos hr])
  generalize mkb (i / K) = mk at HM HE HML
  generalize i / K = q at *
  generalize F p = f at *
  generalize F n = h at *
  clear hA hn hp hr
  go_enter Try.func17, Try.ntmps17
  go_wp2_with (first
    | (refine step_load_mid_ba rfl 38 (.tmp 12) rfl c (p * 4) 4 f 5 rfl HR.out Try.underlying38 infoq ?_)
    | (refine step_store_ba rfl 38 (.tmp 7) (.tmp 13) rfl (w.heap.size + 1) 4 38 (fun _ => 0) f rfl rfl HL2.out infoq ?_; generalize (((w.alloc (.cells #[.int .u8 0, .int .u8 0, .int .u8 0, .int .u8 0] 38)).alloc (.cells #[.int .u8 0, .int .u8 0, .int .u8 0, .int .u8 0] 38)).setRow (w.heap.size + 1) (ba 4 f)) = w1 at *))
  have hc1 : w1.drew.cell? ⟨w.heap.size + 1, 1, none⟩ = some (.int .u8 (f 1 : Int)) := HX.out.var.drew.cell (show 1 < 4 by decide)
  have hc2 : w1.drew.cell? ⟨w.heap.size + 1, 2, none⟩ = some (.int .u8 (f 2 : Int)) := HX.out.var.drew.cell (show 2 < 4 by decide)
  have hc3 : w1.drew.cell? ⟨w.heap.size + 1, 3, none⟩ = some (.int .u8 (f 3 : Int)) := HX.out.var.drew.cell (show 3 < 4 by decide)
  have hc0 : w1.drew.cell? ⟨w.heap.size + 1, 0, none⟩ = some (.int .u8 (f 0 : Int)) := HX.out.var.drew.cell (show 0 < 4 by decide)
  have S0 := hid (fun w => refsub_any (f 0) w (HBy.out 0 (by decide)))
  have S1 := hid (fun w => refsub_any (f 1) w (HBy.out 1 (by decide)))
  have S2 := hid (fun w => refsub_any (f 2) w (HBy.out 2 (by decide)))
  have S3 := hid (fun w => refsub_any (f 3) w (HBy.out 3 (by decide)))
  have HXR := hid (xor8 (sb_lt (f 1)) HML.out)
  obtain ⟨g, hg⟩ : ∃ g, g = quad (sb (f 1) ^^^ mk) (sb (f 2)) (sb (f 3)) (sb (f 0)) := ⟨_, rfl⟩
  have HGm : Hid (∀ j, j < 4 → g j = mkw K i f j) := hid (by
    intro j hj
    rw [hg, HE.out]
    obtain rfl | rfl | rfl | rfl : j = 0 ∨ j = 1 ∨ j = 2 ∨ j = 3 := by omega
    · rfl
    · show sb (f 2) = sb (f 2) ^^^ 0; rw [Nat.xor_zero]
    · show sb (f 3) = sb (f 3) ^^^ 0; rw [Nat.xor_zero]
    · show sb (f 0) = sb (f 0) ^^^ 0; rw [Nat.xor_zero])
  have HGl : Hid (∀ j, j < 4 → g j < 256) := hid (by
    intro j hj
    rw [hg]
    obtain rfl | rfl | rfl | rfl : j = 0 ∨ j = 1 ∨ j = 2 ∨ j = 3 := by omega
    · exact xor_lt (sb_lt _) HML.out
    · exact sb_lt _
    · exact sb_lt _
    · exact sb_lt _)
  have HEQ : Hid (∀ x, x < 4 → (fun x => h x ^^^ g x) x = (fun j => h j ^^^ mkw K i f j) x) := hid (fun x hx => by show h x ^^^ g x = h x ^^^ mkw K i f x; rw [HGm.out x hx])
  have HV1 := hid HX.out.var.drew
  have HG : Hid (X0 w (w1.drew.setRow (w.heap.size + 1) (ba 4 g)) g) := hid ((⟨HX.out.out.drew, HX.out.var.drew, HX.out.low.drew⟩ : X0 w w1.drew f).row g)
  have Hg := hid hg
  generalize sb (f 0) = x0 at *
  generalize sb (f 1) = x1 at *
  generalize sb (f 2) = x2 at *
  generalize sb (f 3) = x3 at *
  clear hg HE HGm
  refine region_tail 17 (by kernel_rfl) (by kernel_rfl) ?_
  simp only [List.take_succ_cons, List.take_zero, List.drop_succ_cons, List.drop_zero]
  generalize w1.drew = w2 at *
  repeat still_step
  still_call (S1.out _)
  repeat still_step
  still_call (HM.out _)
  repeat still_step
  still_call (S2.out _)
  repeat still_step
  still_call (S3.out _)
  repeat still_step
  still_call (S0.out _)
  repeat still_step
  refine wpStill_nil ?_
  go_wp2_with (first
    | (refine step_build4 rfl (.tmp 25) (.tmp 28) (.tmp 31) (.tmp 34) rfl (x1 ^^^ mk) x2 x3 x0 (congrArg (Value.int .u8) HXR.out) rfl rfl rfl ?_; rw [← Hg.out])
    | (refine step_store_ba rfl 38 (.tmp 7) (.tmp 35) rfl (w.heap.size + 1) 4 38 f g rfl rfl HV1.out infoq ?_; generalize w2.setRow (w.heap.size + 1) (ba 4 g) = w3 at *))
  clear hc0 hc1 hc2 hc3
  go_loopw [8] (fun i wr => ∃ j : Nat, j ≤ 4 ∧ i = .int .i64 j ∧ XInv w wr g h j) (fun i _ => 4 - (intOf i).toNat)
  case atStart => exact ⟨0, by omega, rfl, HG.out.inv h⟩
  case round =>
    obtain ⟨j, hj, rfl, hI⟩ := hrel
    have HI := hid hI
    clear hI
    by_cases hlt : j < 4
    · have hc1 : wr.drew.cell? ⟨w.heap.size + 1, j, none⟩ = some (.int .u8 (g j : Int)) := by have := HI.out.drew.var.cell hlt; simpa using this
      have hf1 := HI.out.drew.var.free j
      have hc2 := HAn.out _ HI.out.drew.low j hlt
      have HT := hid (HI.out.drew.step)
      have hgl := HGl.out j hlt
      have hhl := HBn.out j hlt
      have HXR : Hid (bits .xor .u8 (g j : Int) (h j : Int) = ((h j ^^^ g j : Nat) : Int)) := hid (by rw [xor8 hgl hhl, Nat.xor_comm])
      have j0 : (0 : Int) ≤ (j : Int) := by omega
      have j4 : (j : Int) < 4 := by omega
      generalize h j ^^^ g j = z at HXR HT
      generalize g j = gj at *
      generalize h j = hj' at *
      clear hgl hhl
      go_wp2
      go_region
      go_wp2
      go_roundw
      case rel => exact ⟨j + 1, by omega, by go_num, by rw [HXR.out]; exact HT.out⟩
      case measure => simp [intOf]; omega
    · obtain rfl : j = 4 := by omega
      have HV : Hid (At wr (w.heap.size + 1) 4 38 (fun x => h x ^^^ g x)) := hid (HI.out.var.ext (fun x hx => if_pos hx))
      have HN := hid HI.out.out
      have HLo := hid HI.out.low
      go_wp2_with (first
        | (refine step_load_ba rfl 38 _ rfl (w.heap.size + 1) 4 38 5 _ rfl HV.out Try.underlying38 infoq ?_)
        | (refine step_store_ba rfl 38 _ _ rfl w.heap.size 4 38 _ _ rfl rfl HN.out infoq ?_))
      refine ret_ba rfl rfl Try.underlying38 infoq rfl (HN.out.row (fun x => h x ^^^ g x)) ⟨?_, below_setRow HLo.out (Nat.le_refl _) _⟩
      rw [ba_ext HEQ.out]
end Go.Proofs.Ytnklljlgghenpaa
