import Derived.WalkKit
import Derived.ProofKit
import Derived.OpenShut
import Derived.SizedLaws
import Derived.BigQuiet
import Derived.Deep.QuietTactic
import Derived.Deep.RegionLaw
import Derived.Laws.CopyOwn
import GoSem.ClaimJoined
import Derived.Deep.Slices
import Derived.Deep.Fields
import Derived.Laws.Rows
import Derived.Laws.Tables
import Derived.Laws.StructEq
import Derived.ChangeKeysEq
import Derived.Deep.WholeRow
import Derived.Deep.RegionHeld3
import Derived.BigRegion
import Derived.StillTailTactics
import Derived.ArgAppend
import Derived.Deep.AppendLies
import Derived.Deep.MidRow
import Derived.Lib.AppendZerosOnto
import Derived.Deep.Matrix
import Derived.Laws.IdiomArrays
import Derived.Deep.RegionHeld
import Derived.Test.YthkijncnndoafaaGreatDoorGen
import Derived.Laws.Bits64
import Derived.Test.YthkijncnndoafaaGreatDoorWlm
import Derived.Test.YthkijncnndoafaaGreatDoorAcw
import Derived.Test.YthkijncnndoafaaGreatDoorProg
import Derived.Test.YthkijncnndoafaaGreatDoorWdg
import Derived.Test.YthkijncnndoafaaGreatDoorOcb
import Derived.Test.YthkijncnndoafaaGreatDoorWde
import Derived.Test.YthkijncnndoafaaGreatDoorShp
import Derived.Test.YthkijncnndoafaaGreatDoorSgw
import Derived.Test.YthkijncnndoafaaGreatDoorShy
import Derived.Test.YthkijncnndoafaaGreatDoorBtb
import Derived.Test.YthkijncnndoafaaGreatDoorBta
import Derived.Test.YthkijncnndoafaaGreatDoorTmi
import Derived.Test.YthkijncnndoafaaGreatDoorMpw
import Derived.Test.YthkijncnndoafaaGreatDoorFrp
import Derived.Test.YthkijncnndoafaaGreatDoorTmc
import Derived.Test.YthkijncnndoafaaGreatDoorTmd
import Derived.Test.YthkijncnndoafaaGreatDoorFrq
import Derived.Test.YthkijncnndoafaaGreatDoorBtc
namespace Go.Proofs.YthkijncnndoafaaGreatDoor
open Go.ChangeShapes Go.WideShapes Go.ChangeAt Go.RowKit

section row
variable {H : Type} {enc : TypeId × Value → H} {P : Program}

end row

open Go.RowKit

open Go.ChangeShapes Go.WideShapes Go.ChangeAt Go.RowKit Go.Deep

open Go.RowKit

open Go.ChangeShapes Go.WideShapes Go.ChangeAt Go.RowKit

section prog
variable {P : Program}

end prog
section prog2
variable {P : Program}
end prog2

open Go.RowKit

section
variable {P : Program} {ops : Array Oper} {S : World → Prop} {o : Oper} {a : Act}
end

open Go.ChangeShapes Go.WideShapes Go.ChangeAt Go.RowKit

theorem arr_open {H : Type} {enc : TypeId × Value → H} {P : Program} {W : World} {sp : Nat → Bool} {held : Bool} {k : IntKind} {n : Nat} {t e : TypeId} {base : Nat} {v : Value} {d : DataW H} {p : List MemPlace} {b0 : Nat}
  (ht : P.underlying t = some (.array n e)) (he : P.underlying e = some (.int k)) (hc : P.cellsOf e = 1) (hct : P.cellsOf t = n)
  (hv : Value.okWide P W .any b0 t v) (h : DataW.Trod enc P W base sp held t v d p) :
  ∃ zs : List Int, v = .agg (zs.map (Value.int k)).toArray ∧ zs.length = n ∧ ∀ z ∈ zs, (Lit.int k z).wf = true := by
 have hv' : ∃ cs, v = .agg cs ∧ cs.size = P.cellsOf t := by
  unfold Value.okWide at hv
  rw [ht] at hv
  obtain ⟨cs, h1, h2, _⟩ := hv
  exact ⟨cs, h1, h2⟩
 obtain ⟨cs, rfl, hcs⟩ := hv'
 obtain ⟨fuel, hf⟩ := h
 obtain ⟨xs, m, rfl, _, hl, hxl, hel⟩ := DataW.trod_array ht hf
 simp only [Value.cells, hc, Nat.mul_one, hct] at hl hel
 have each : ∀ i (h : i < cs.toList.length), ∃ z, cs.toList[i] = .int k z ∧ (Lit.int k z).wf = true := by
  intro i hi
  have h1 := hel i (by omega)
  rw [List.drop_eq_getElem_cons hi, List.take_succ_cons, List.take_zero, List.getElem?_eq_getElem (by omega)] at h1
  obtain ⟨z, hz, _, hw⟩ := DataW.trod_int he h1
  simp only [List.cons.injEq, and_true] at hz
  exact ⟨z, hz, hw⟩
 have lst : ∀ l : List Value, (∀ i (h : i < l.length), ∃ z, l[i] = .int k z ∧ (Lit.int k z).wf = true) → ∃ zs : List Int, l = zs.map (Value.int k) ∧ ∀ z ∈ zs, (Lit.int k z).wf = true := by
  intro l
  induction l with
  | nil => intro _; exact ⟨[], rfl, by simp⟩
  | cons a r ih =>
   intro h
   obtain ⟨z, hz, hw⟩ := h 0 (by simp)
   obtain ⟨zs, hr, hws⟩ := ih (fun i hi => h (i + 1) (by simp; omega))
   simp only [List.getElem_cons_zero] at hz
   exact ⟨z :: zs, by rw [hz, hr]; rfl, by intro y hy; rcases List.mem_cons.1 hy with rfl | hy; exact hw; exact hws y hy⟩
 obtain ⟨zs, hz, hws⟩ := lst _ each
 refine ⟨zs, by rw [← hz], ?_, hws⟩
 have := congrArg List.length hz
 simp at this hl; omega

open Go.ChangeShapes Go.WideShapes Go.ChangeAt Go.RowKit

section
variable {w w' : World} {n g off b B : Nat} {f : Nat → Nat}
end

theorem rd_open2 {H : Type} {enc : TypeId × Value → H} {P : Program} {W : World} {held : Bool} {k : IntKind} {t e : TypeId} {base : Nat} {v : Value} {d : DataW H} {p : List MemPlace} {ts : List TypeId} {ds : List (DataW H)} {j : Nat}
  (ht : P.underlying t = some (.slice e)) (he : P.underlying e = some (.int k)) (hc : P.cellsOf e = 1) (hb : P.bytesOf e = k.bits / 8)
  (hv : Value.okWide P W .any base t v) (h : DataW.Trod enc P W 0 (fun _ => true) held t v d p) (hlt : ∀ x ∈ p, x.block < W.heap.size)
  (hsz : (DataW.weightsEach P ts ds).all (· ≤ reachBytes) = true) (hj : ts[j]? = some t) (hd : ds[j]? = some d) :
  ∃ zs, Rd k W v zs ∧ ∀ a n c, v = .slice a n c → n ≤ c ∧ c ≤ maxLen := by
 obtain ⟨a0, len, cap, rfl⟩ := okWide_slice ht hv
 obtain ⟨fuel, hf⟩ := h
 rcases open_ints ht he hc hf with ⟨hcs, hx⟩ | ⟨a, len', cap', zs, hcs, _, hl, hm, hz, hx, hcell, hwz⟩
 ·
  simp [Value.cells] at hcs
  obtain ⟨rfl, rfl, rfl⟩ := hcs
  exact ⟨[], ⟨none, 0, rfl, by simp, by simp, by simp⟩, fun a n c e => by injection e with e1 e2 e3; subst e2; subst e3; unfold maxLen; omega⟩
 ·
  simp [Value.cells] at hcs
  obtain ⟨rfl, rfl, rfl⟩ := hcs
  simp only [Prod.mk.injEq] at hx
  obtain ⟨rfl, rfl⟩ := hx
  simp only [if_true] at hz
  have hreach := sized_slice hsz hj hd ht
  rw [hb] at hreach
  simp only [lits, List.length_map, List.length_take, List.length_drop, reachBytes] at hreach
  have hle : (zs.take len).length = len := by simp; omega
  refine ⟨zs.take len, ⟨some a, cap, by rw [hle], ?_, fun z hz' => hwz z (List.mem_of_mem_take hz'), fun hp => ?_⟩, fun a n c e => by injection e with e1 e2 e3; subst e2; subst e3; exact ⟨hl, hm⟩⟩
  ·
   rw [hle]
   refine Nat.le_trans (Nat.mul_le_mul_right _ ?_) hreach
   omega
  ·
   rw [hle] at hp ⊢
   obtain ⟨b, off, spot⟩ := a
   have hspot : spot = none := by simpa [Addr.add] using World.cell?_spot (hcell 0 (by omega))
   subst hspot
   refine ⟨b, off, rfl, hlt (.cell b off) (MemPlace.mem_row.2 ⟨0, by omega, by simp⟩), fun j hj => ?_⟩
   have := hcell j (by omega)
   rw [add_plain] at this
   rw [this]
   simp [nth, List.getD, hj]

section
variable {P : Program} (w : World)
end

section
variable {w w' : World} {B c m cap n b : Nat} {E : TypeId} {gs os cs : Nat → Nat} {F : Nat → Nat → Nat}
end

section
variable {P : Program} {w : World} {o : Oper} {a : Act}
end

open Go.RowKit
set_option maxRecDepth 100000
section
variable {b : Nat} {w w' : World} {v : Value} {xs : List Int}
end
section
variable {b : Nat} {w w' : World} {v : Value} {xs : List Int} {l : List (Value × List Int)}
end
section
variable {α : Type} {a b c d e f g x : α} {l : List α}
theorem m5 : x ∈ a :: b :: c :: d :: e :: x :: l := .tail _ m4
end
open Go.ChangeShapes Go.WideShapes Go.ChangeAt Go.RowKit

section
variable {P : Program} (w : World)
end
open Go.ChangeShapes Go.WideShapes Go.ChangeAt Go.RowKit Go.Deep

open Go.ChangeAt Go.RowKit
set_option maxRecDepth 100000

open Go.ChangeShapes Go.WideShapes Go.ChangeAt Go.RowKit Go.Deep

open Go.RowKit
section
variable {P : Program}
end
open Go.ChangeShapes Go.WideShapes Go.ChangeAt Go.RowKit

section
variable {k : IntKind} {w w' : World} {B : Nat} {E : TypeId} {v v' : Value} {us : List Value} {Z : List (List Int)}
end

open Go.ChangeShapes Go.WideShapes Go.ChangeAt Go.RowKit

section
variable {P : Program} {md : Region.Mode} {ops : Array Oper} {Q : Exit → Act → World → Prop} {S S' : World → Prop}
end
section
variable {P : Program} {md : Region.Mode} {ops : Array Oper} {S : World → Prop} {Q : Exit → Act → World → Prop}
end

theorem rt_xor {x y m : Nat} (hx : x < 2 ^ 64) (hy : y < 2 ^ 64) (hm : m ≤ 64) : rt (x ^^^ y) m = rt x m ^^^ rt y m :=
 word_ext (rt_lt (Nat.xor_lt_two_pow hx hy)) (Nat.xor_lt_two_pow (rt_lt hx) (rt_lt hy)) fun j hj => by
  rw [Nat.testBit_xor, rt_bit (Nat.xor_lt_two_pow hx hy) hm hj, rt_bit hx hm hj, rt_bit hy hm hj, Nat.testBit_xor]

section
variable {t f g : Nat → Nat}
end
section
variable {t mk f g : Nat → Nat}
end

theorem wsl_xor (a b k : Nat) : wsl (a ^^^ b) k = wsl a k ^^^ wsl b k :=
 word_ext (wsl_lt _ _) (xr_lt (wsl_lt _ _) (wsl_lt _ _)) fun j hj => by
  rw [Nat.testBit_xor, wsl_bit _ _ hj, wsl_bit _ _ hj, wsl_bit _ _ hj, Nat.testBit_xor]
  cases decide (k ≤ j) <;> simp
theorem wsr_xor {a b : Nat} (ha : a < 2 ^ 64) (hb : b < 2 ^ 64) (k : Nat) : wsr (a ^^^ b) k = wsr a k ^^^ wsr b k :=
 word_ext (wsr_lt (xr_lt ha hb) _) (xr_lt (wsr_lt ha _) (wsr_lt hb _)) fun j _ => by
  rw [Nat.testBit_xor, wsr_bit, wsr_bit, wsr_bit, Nat.testBit_xor]
theorem wmk_xor {a a' c : Nat} : (a ^^^ a') &&& c = a &&& c ^^^ a' &&& c := by
 refine Nat.eq_of_testBit_eq fun j => ?_
 simp only [Nat.testBit_and, Nat.testBit_xor]
 cases a.testBit j <;> cases a'.testBit j <;> cases c.testBit j <;> rfl

theorem xor3 (a b c d e f : Nat) : (a ^^^ d) ^^^ (b ^^^ e) ^^^ (c ^^^ f) = (a ^^^ b ^^^ c) ^^^ (d ^^^ e ^^^ f) := by
 refine Nat.eq_of_testBit_eq fun j => ?_
 simp only [Nat.testBit_xor]
 cases a.testBit j <;> cases b.testBit j <;> cases c.testBit j <;> cases d.testBit j <;> cases e.testBit j <;> cases f.testBit j <;> rfl
theorem xor_vl {S : Ms} {A B : Nat → Int} (h : (xorS S A B).e = 0) (hs : S.skip = 0) (hn : S.n = 2 ∨ S.n = 3) (hA : Gw S A) (hB : Gw S B) :
  vlN (xorS S A B).v (xorS S A B).L (xorR S A B) = vlN S.v S.L A ^^^ vlN S.v S.L B ∧ Gw (xorS S A B) (xorR S A B) := by
 have h2 : 2 ≤ S.sh ∧ S.sh ≤ 3 := by unfold Ms.sh; omega
 have := ea_vl (op := opXor A B) h hs h2.1 h2.2 (fun j => wordAt S.v S.L (A j) ^^^ wordAt S.v S.L (B j)) (fun j hj => ⟨hA.lt j hj, hB.lt j hj, by show (-1 : Int) < _; omega⟩)
  (fun j _ => ev5 _ _ _ _ _) (fun e => by show wordAt S.v S.L (A 2) ^^^ wordAt S.v S.L (B 2) = 0; rw [wordAt_neg (hA.no 2 (by omega) (by omega)), wordAt_neg (hB.no 2 (by omega) (by omega))]; rfl)
 refine ⟨this.1.trans ?_, this.2⟩
 rw [vl_three, vl_three]
 exact xor3 _ _ _ _ _ _
def mvN (K : Int) (c a : Nat) : Nat := evN K c a 0 0 0
theorem mvN_xor {K : Int} (hK : K = 8 ∨ K = 9 ∨ K = 10 ∨ K = 11) {c a b : Nat} (ha : a < 2 ^ 64) (hb : b < 2 ^ 64) : mvN K c (a ^^^ b) = mvN K c a ^^^ mvN K c b := by
 unfold mvN
 rcases hK with rfl | rfl | rfl | rfl
 · rw [ev8, ev8, ev8]; exact wmk_xor
 · rw [ev9, ev9, ev9]; exact wsl_xor _ _ _
 · rw [ev10, ev10, ev10]; exact wsr_xor ha hb _
 · rw [ev11, ev11, ev11]; exact rt_xor ha hb (by omega)
theorem mvN_any {K : Int} (hK : K = 8 ∨ K = 9 ∨ K = 10 ∨ K = 11) (c a b d x : Nat) : evN K c a b d x = mvN K c a := by
 unfold mvN
 rcases hK with rfl | rfl | rfl | rfl
 · rw [ev8, ev8]
 · rw [ev9, ev9]
 · rw [ev10, ev10]
 · rw [ev11, ev11]
theorem mvN_zero {K : Int} (hK : K = 8 ∨ K = 9 ∨ K = 10 ∨ K = 11) (c : Nat) : mvN K c 0 = 0 := by
 have h := mvN_xor hK (c := c) (a := 0) (b := 0) (by decide) (by decide)
 rw [Nat.xor_self] at h
 rw [h]; exact Nat.xor_self _
theorem one_vl {S : Ms} {K : Int} {A : Nat → Int} {c : Nat} (h : (oneS S K A c).e = 0) (hs : S.skip = 0) (hn : S.n = 2 ∨ S.n = 3) (hK : K = 8 ∨ K = 9 ∨ K = 10 ∨ K = 11) (hv : ∀ i, i < S.L → S.v i < 2 ^ 64) (hA : Gw S A) :
  vlN (oneS S K A c).v (oneS S K A c).L (oneR S K A c) = mvN K c (vlN S.v S.L A) ∧ Gw (oneS S K A c) (oneR S K A c) := by
 have h2 : 2 ≤ S.sh ∧ S.sh ≤ 3 := by unfold Ms.sh; omega
 have := ea_vl (op := opOne K A c) h hs h2.1 h2.2 (fun j => mvN K c (wordAt S.v S.L (A j))) (fun j hj => ⟨hA.lt j hj, by show (-1 : Int) < _; omega, by show (-1 : Int) < _; omega⟩)
  (fun j _ => mvN_any hK _ _ _ _ _) (fun e => by show mvN K c (wordAt S.v S.L (A 2)) = 0; rw [wordAt_neg (hA.no 2 (by omega) (by omega))]; exact mvN_zero hK c)
 refine ⟨this.1.trans ?_, this.2⟩
 have l := fun i => wordAt_lt hv (A i)
 rw [vl_three, mvN_xor hK (xr_lt (l 0) (l 1)) (l 2), mvN_xor hK (l 0) (l 1)]
open Go.RowKit
set_option maxRecDepth 100000
set_option maxHeartbeats 6400000 in
theorem yxor {Pm : World → Nat → Ms → (Nat → Prop) → Prop} (hM : Mach Pm) {lo : Nat} {X : Nat → Prop} {W w : World} {p b k : Nat} {S1 S : Ms} (h : Bz Pm lo X W w p b S1 S) (hq : Bq k S) (hk : k + 3 ≤ 100000) (hn : S.n = 2 ∨ S.n = 3) (A B : Nat → Int) (hA : Wb A) (hB : Wb B) :
  Calls Tryz.prog 61 #[.pointer (some ⟨b, 0, none⟩), .agg (wdV A), .agg (wdV B)] w fun e w' => e = .returned (.agg (wdV (xorR S A B))) ∧ Bz Pm lo X W w' p b S1 (xorS S A B) ∧ ∀ k, X k → w'.heap[k]? = w.heap[k]? := by
 obtain ⟨hsh, hs2, hs3⟩ := sh_of hn
 have HOP : Hid (∀ i, i < 3 → opwf ((opXor A B) i)) := hid (fun i hi => opXor_wf hA hB (by omega))
 have HQ : Hid (∀ m, m ≤ 3 → Bq (k + m) (eaS S (opXor A B) 0 m)) := hid (fun m hm => eaS_bq hq 0 m (fun j hj => by rw [Nat.zero_add]; exact HOP.out j (by omega)))
 have HN : Hid (∀ m, (eaS S (opXor A B) 0 m).n = (S.sh : Int)) := hid (fun m => (eaS_n S _ 0 m).trans hsh)
 have HK := hid hk
 have HB : Hid (Below w.heap.size w (((w.alloc (.cells (wdV A) 37)).alloc (.cells (wdV B) 37)).alloc (.cells #[.int .i64 0, .int .i64 0, .int .i64 0] 37))) := hid (((((Below.refl _ _).alloc (Nat.le_refl _) _).alloc (by simp; try omega) _).alloc (by simp; try omega) _))
 have Z0 := hid (Gz.start h)
 have Z1 := hid (Z0.out.box hM (Nat.le_refl _) (wdV A))
 have Z2 := hid (Z1.out.box hM (by simp; try omega) (wdV B))
 have Z3 := hid (Z2.out.box hM (by simp; try omega) #[.int .i64 0, .int .i64 0, .int .i64 0])
 have ZZ : Hid (Gz Pm lo X W w (((w.alloc (.cells (wdV A) 37)).alloc (.cells (wdV B) 37)).alloc (.cells #[.int .i64 0, .int .i64 0, .int .i64 0] 37)) p b S1 S [((w.heap.size + 2), #[.int .i64 0, .int .i64 0, .int .i64 0]), ((w.heap.size + 1), (wdV B)), (w.heap.size, (wdV A))]) := hid (by have := Z3.out; simpa using this)
 clear Z0 Z1 Z2 Z3
 unfold xorR xorS
 generalize S.sh = n at *
 clear h hq hn hk hsh hA hB
 go_enter Tryz.func61, Tryz.ntmps61
 go_wp2_with (go_at_call 43; (with_reducible refine (none_any _).mono ?_); rintro e w1 ⟨rfl, hb⟩; have HNL : Hid (w.heap.size + 3 ≤ w1.heap.size) := hid (by have := hb.size; simp at this; omega); have Z5 := hid ((ZZ.out.self hM hb).box hM (by have := HNL.out; omega) (wdV none3)); clear hb)
 generalize w1.heap.size = lb at *
 go_loopw [8] (fun i wr => ∃ m : Nat, m ≤ n ∧ i = .int .i64 m ∧ Gz Pm lo X W w wr p b S1 (eaS S (opXor A B) 0 m) [(lb, wdV (eaR S (opXor A B) 0 none3 m)), ((w.heap.size + 2), #[.int .i64 0, .int .i64 0, .int .i64 0]), ((w.heap.size + 1), (wdV B)), (w.heap.size, (wdV A))]) (fun i _ => n - (intOf i).toNat)
 case atStart => exact ⟨0, by omega, rfl, Z5.out⟩
 case round =>
  obtain ⟨m, hm, rfl, hI⟩ := hrel
  have HI := hid hI
  clear hI
  have c0 := HI.out.sh
  rw [HN.out] at c0
  by_cases hlt : m < n
  ·
   have j2 : (m : Int) < (n : Int) := by omega
   have j1 : (0 : Int) ≤ (m : Int) := by omega
   have j3 : (m : Int) < 3 := by omega
   have HE := hid (eaS_0 S (opXor A B) m)
   have HF := hid (eaR_0 S (opXor A B) none3 m)
   have HOM : Hid (opwf ⟨5, (m : Int), A m, B m, -1, 0⟩) := hid (HOP.out m (by omega))
   have HQM := hid (HQ.out m (by omega))
   have HKM : Hid (k + m ≤ 100000) := hid (by have := HK.out; omega)
   have HM3 : Hid (m < 3) := hid (by omega)
   go_wp2_with fail
   have Y0 := hid (HI.out.self hM ((Below.refl _ wr).drew))
   refine wp_region_noPanic ?_
   refine wp_region_held_drew (S := fun w' => w'.cell? ⟨w.heap.size, m, none⟩ = some (.int .i64 (A m)) ∧ w'.cell? ⟨w.heap.size + 1, m, none⟩ = some (.int .i64 (B m))) (by kernel_rfl) (⟨row_c (Y0.out.bx (w.heap.size, wdV A) (by simp)).2 (wdV_at _ _ HM3.out), row_c (Y0.out.bx ((w.heap.size + 1), wdV B) (by simp)).2 (wdV_at _ _ HM3.out)⟩) (fun h0 => ?_)
   generalize wr.drew = y1 at *
   refine tK 0 (.int .i64 (m : Int)) rfl (.inl ⟨by rfl, fun w hw => by clear hw; go_simp⟩) h0 ?_
   try simp only [Act.put, lay_out]
   refine tK 1 (.pointer (some ⟨b, 0, none⟩)) rfl (.inl ⟨by rfl, fun w hw => by clear hw; go_simp⟩) h0 ?_
   try simp only [Act.put, lay_out]
   refine tK 2 (.int .i64 (m : Int)) rfl (.inl ⟨by rfl, fun w hw => by clear hw; go_simp⟩) h0 ?_
   try simp only [Act.put, lay_out]
   refine tK 3 (.int .i64 (m : Int)) rfl (.inl ⟨by rfl, fun w hw => by clear hw; go_simp⟩) h0 ?_
   try simp only [Act.put, lay_out]
   refine tK 4 (.pointer (some ⟨w.heap.size, 0, none⟩)) rfl (.inl ⟨by rfl, fun w hw => by clear hw; go_simp⟩) h0 ?_
   try simp only [Act.put, lay_out]
   refine tK 5 (.pointer (some ⟨w.heap.size, m, none⟩)) rfl (.inl ⟨by rfl, fun w hw => by clear hw; go_simp⟩) h0 ?_
   try simp only [Act.put, lay_out]
   refine tK 6 (.int .i64 (A m)) rfl (.inl ⟨by rfl, fun w' hw => by have hc := hw.1; clear hw; go_simp⟩) h0 ?_
   try simp only [Act.put, lay_out]
   refine tK 7 (.int .i64 (m : Int)) rfl (.inl ⟨by rfl, fun w hw => by clear hw; go_simp⟩) h0 ?_
   try simp only [Act.put, lay_out]
   refine tK 8 (.pointer (some ⟨w.heap.size + 1, 0, none⟩)) rfl (.inl ⟨by rfl, fun w hw => by clear hw; go_simp⟩) h0 ?_
   try simp only [Act.put, lay_out]
   refine tK 9 (.pointer (some ⟨w.heap.size + 1, m, none⟩)) rfl (.inl ⟨by rfl, fun w hw => by clear hw; go_simp⟩) h0 ?_
   try simp only [Act.put, lay_out]
   refine tK 10 (.int .i64 (B m)) rfl (.inl ⟨by rfl, fun w' hw => by have hc := hw.2; clear hw; go_simp⟩) h0 ?_
   try simp only [Act.put, lay_out]
   refine tK 13 (.pointer (some ⟨lb, 0, none⟩)) rfl (.inl ⟨by rfl, fun w hw => by clear hw; go_simp⟩) h0 ?_
   try simp only [Act.put, lay_out]
   refine wpAnyH_ready (rs := [11]) (by kernel_rfl) (by simp) (AllReadyH.cons rfl (fun K hK => ?_) AllReadyH.nil)
   rw [if_pos (by rfl)]
   go_simp
   go_at_call 45
   (with_reducible refine (dop0_any 5 (m : Int) (A m) (B m) _).mono ?_); rintro e w5 ⟨rfl, hb⟩
   have Y1 := hid (Y0.out.self hM hb)
   clear hb
   refine hK.out _ _ (⟨row_c (Y1.out.bx (w.heap.size, wdV A) (by simp)).2 (wdV_at _ _ HM3.out), row_c (Y1.out.bx ((w.heap.size + 1), wdV B) (by simp)).2 (wdV_at _ _ HM3.out)⟩) (fun h1x => ?_)
   clear hK K
   try simp only [Act.put, lay_out]
   refine wpAnyH_ready (rs := [12]) (by kernel_rfl) (by simp) (AllReadyH.cons rfl (fun K hK => ?_) AllReadyH.nil)
   rw [if_pos (by rfl)]
   go_simp
   go_at_call 44
   (with_reducible refine (ydo0 hM ⟨5, (m : Int), A m, B m, -1, 0⟩ Y1.out.z HQM.out HKM.out HOM.out).mono ?_); rintro e w6 ⟨rfl, hz, hs⟩
   have Y2 := hid (Y1.out.on hz hs)
   clear hz hs
   refine hK.out _ _ (⟨row_c (Y2.out.bx (w.heap.size, wdV A) (by simp)).2 (wdV_at _ _ HM3.out), row_c (Y2.out.bx ((w.heap.size + 1), wdV B) (by simp)).2 (wdV_at _ _ HM3.out)⟩) (fun h2x => ?_)
   clear hK K
   try simp only [Act.put, lay_out]
   refine tK 14 (.pointer (some ⟨lb, m, none⟩)) rfl (.inl ⟨by rfl, fun w hw => by clear hw; go_simp⟩) h2x ?_
   try simp only [Act.put, lay_out]
   refine wpAnyH_ready (rs := [15]) (by kernel_rfl) (by simp) (AllReadyH.cons rfl (fun K hK => ?_) AllReadyH.nil)
   rw [if_pos (by rfl)]
   have cl : w6.cell? ⟨lb, m, none⟩ = some (.int .i64 (eaR S (opXor A B) 0 none3 m m)) := row_c (Y2.out.bx _ (List.mem_cons_self ..)).2 (wdV_at _ _ HM3.out)
   have fl := frozen_of_row w6 _ m _ _ (Y2.out.bx _ (List.mem_cons_self ..)).2
   go_simp
   have Y3 := hid (Y2.out.cell hM (by intro q hq; have := HNL.out; simp at hq; rcases hq with rfl | rfl | rfl <;> (simp; omega)) m (.int .i64 ((eaS S (opXor A B) 0 m).doR ⟨5, (m : Int), A m, B m, -1, 0⟩)))
   refine hK.out _ _ (⟨row_c (Y3.out.bx (w.heap.size, wdV A) (by simp)).2 (wdV_at _ _ HM3.out), row_c (Y3.out.bx ((w.heap.size + 1), wdV B) (by simp)).2 (wdV_at _ _ HM3.out)⟩) (fun h3x => ?_)
   clear hK K
   try simp only [Act.put, lay_out]
   refine wpAnyH_done (by kernel_rfl) ?_ _
   refine NoPanic.normal ?_
   clear h0 h1x h2x h3x
   try simp only [Act.put, lay_out]
   go_wp2
   go_roundw
   case rel =>
    refine ⟨m + 1, by omega, by go_num, ?_⟩
    have := Y2.out.cell hM (by intro q hq; have := HNL.out; simp at hq; rcases hq with rfl | rfl | rfl <;> (simp; omega)) m (.int .i64 ((eaS S (opXor A B) 0 m).doR ⟨5, (m : Int), A m, B m, -1, 0⟩))
    rw [wdV_upd _ _ _ HM3.out] at this
    rw [HE.out, HF.out]
    exact this
   case measure => simp [intOf]; omega
  ·
   obtain rfl : m = n := by omega
   clear hlt
   go_wp2_with (first
    | (refine step_load_row rfl 37 _ rfl lb 37 (wdV (eaR S (opXor A B) 0 none3 m)) _ rfl (HI.out.bx (lb, wdV (eaR S (opXor A B) 0 none3 m)) (by simp)).2 Tryz.underlying37 rfl (by kernel_rfl) ?_)
    | (refine step_store_row rfl 37 _ _ rfl (w.heap.size + 2) 37 _ (wdV (eaR S (opXor A B) 0 none3 m)) rfl rfl (HI.out.bx ((w.heap.size + 2), #[.int .i64 0, .int .i64 0, .int .i64 0]) (by simp)).2 (by kernel_rfl) rfl (by kernel_rfl) ?_))
   have ZF := hid (((HI.out.swap (bs' := [((w.heap.size + 2), #[.int .i64 0, .int .i64 0, .int .i64 0]), (lb, wdV (eaR S (opXor A B) 0 none3 m))]) (by intro q hq; simp at hq ⊢; rcases hq with rfl | rfl <;> simp)).row hM (by intro q hq; have := HNL.out; simp at hq; subst hq; simp; omega) (wdV (eaR S (opXor A B) 0 none3 m))))
   exact bodyPost_ret (results_cell_row (by rfl) _ _ (w.heap.size + 2) 37 (wdV (eaR S (opXor A B) 0 none3 m)) (0, 0) _ rfl (ZF.out.bx _ (List.mem_cons_self ..)).2 Tryz.underlying37 rfl (by kernel_rfl)) rfl ⟨rfl, ZF.out.fin⟩

theorem xorS_bq {k : Nat} {S : Ms} (h : Bq k S) (hn : S.n = 2 ∨ S.n = 3) {A B : Nat → Int} (hA : Wb A) (hB : Wb B) : Bq (k + 6) (xorS S A B) :=
 (eaS_bq h 0 S.sh (fun j hj => opXor_wf hA hB (by have := sh_bd hn; omega))).mono (by have := sh_bd hn; omega)
open Go.RowKit
set_option maxRecDepth 100000
section
variable {Pm : World → Nat → Ms → (Nat → Prop) → Prop} (hM : Mach Pm) (hS : ShI Pm) {lo : Nat} {X : Nat → Prop} {W w : World} {b bd k : Nat} {S S2 : Ms}
include hM hS
theorem qxor (A B : Nat → Int) (h : Bz Pm lo X W w b bd S S2) (hq : Bq k S) (hk : k + 10 ≤ 100000) (hn : S.n = 2 ∨ S.n = 3) (g0 : Wb A) (g1 : Wb B) :
  Calls Tryz.prog 60 #[.pointer (some ⟨b, 0, none⟩), .agg (wdV A), .agg (wdV B)] w fun e w' => e = .returned (.agg (wdV (xorR S A B))) ∧ Bz Pm lo X W w' b bd (xorS S A B) S2 ∧ ∀ k, X k → w'.heap[k]? = w.heap[k]? := by
 obtain ⟨F, G, ov, bv, vv, tv, h1, h2, h3, h4, h5, h6, h7⟩ := h
 exact (hS.xor b k S F A B w h1 hq hk hn g0 g1).mono fun e w' hr => ⟨hr.1, Bz.prog hM h1 h2 h3 h4 h5 h6 h7 hr.2⟩
end
open Go.ChangeShapes Go.WideShapes Go.ChangeAt Go.RowKit Go.Deep
set_option maxRecDepth 100000
theorem words_open {H : Type} {enc : TypeId × Value → H} {P : Program} {W : World} {held : Bool} {t e : TypeId} {base : Nat} {v : Value} {d : DataW H} {p : List MemPlace} {ts : List TypeId} {ds : List (DataW H)} {j : Nat}
  (ht : P.underlying t = some (.slice e)) (he : P.underlying e = some (.int .u64)) (hc : P.cellsOf e = 1) (hb : P.bytesOf e = 8)
  (hv : Value.okWide P W .any base t v) (h : DataW.Trod enc P W 0 (fun _ => true) held t v d p) (hlt : ∀ x ∈ p, x.block < W.heap.size)
  (hsz : (DataW.weightsEach P ts ds).all (· ≤ reachBytes) = true) (hj : ts[j]? = some t) (hd : ds[j]? = some d) :
  ∃ (tw : Nat → Nat) (TN : Nat), RdS .u64 W (fun g => g < W.heap.size) v (wdL tw TN) ∧ (∀ i, i < TN → tw i < 2 ^ 64) ∧ TN ≤ 17592186043904 := by
 obtain ⟨zs, ⟨a, cap, rfl, hl, hw, hp⟩, hcap⟩ := rd_open2 ht he hc hb hv h hlt hsz hj hd
 obtain ⟨hz, hbd⟩ := wdL_of hw
 have hc2 := hcap _ _ _ rfl
 have h8 : IntKind.u64.bits / 8 = 8 := rfl
 refine ⟨_, zs.length, hz ▸ ⟨a, cap, rfl, hc2.1, hc2.2, hl, hw, fun h0 => ?_⟩, hbd, by rw [h8] at hl; omega⟩
 obtain ⟨b, off, e1, e2, e3⟩ := hp h0
 exact ⟨b, off, e1, e2, e2, e3⟩

theorem xo_sf {S : Ms} {A B : Nat → Int} {x y : Nat} (W : Wt S) (hA : Sf S A x) (hB : Sf S B y) (h : (xorS S A B).e = 0) : Sf (xorS S A B) (xorR S A B) (x ^^^ y) ∧ S.e = 0 := by
 obtain ⟨h1, h2⟩ := xor_vl h W.skip W.n hA.gw hB.gw
 exact ⟨⟨h2, by rw [h1, hA.vl, hB.vl]⟩, eaS_e h 0 (Nat.zero_le _)⟩
theorem sr_sf {S : Ms} {A : Nat → Int} {x k c : Nat} (W : Wt S) (hq : Bq k S) (hc : c < 64) (hA : Sf S A x) (h : (oneS S 10 A c).e = 0) : Sf (oneS S 10 A c) (oneR S 10 A c) (wsr x c) ∧ S.e = 0 := by
 obtain ⟨h1, h2⟩ := one_vl h W.skip W.n (by decide) hq.v hA.gw
 refine ⟨⟨h2, ?_⟩, eaS_e h 0 (Nat.zero_le _)⟩
 rw [h1, hA.vl]
 unfold mvN
 rw [ev10, Nat.mod_eq_of_lt hc]
theorem xorR_wb {k : Nat} {S : Ms} (h : Bq k S) (hk : k + 10 ≤ 1000000) (hn : S.n = 2 ∨ S.n = 3) {A B : Nat → Int} (hA : Wb A) (hB : Wb B) : Wb (xorR S A B) := by
 have := sh_bd hn
 exact eaR_wb h 0 none3_wb _ (fun j hj => opXor_wf hA hB (by omega)) (by omega)
theorem xorS_ext (S : Ms) (A B : Nat → Int) : Ext S (xorS S A B) := eaS_ext _ _ _ _
section
variable {S : Ms} {k : Nat} {dom : Bool} {A B : Nat → Int} {x y : Nat}
def foN (m x : Nat) : Nat → Nat
 | 0 => x
 | j + 1 => foN m x j ||| wsr (foN m x j) (2 ^ (m - 1 - j))
theorem foN_step (m x j : Nat) : foN m x (j + 1) = (foN m x j ||| wsr (foN m x j) (2 ^ (m - 1 - j))) := rfl
theorem bfX_sf {m : Nat} (hm : m ≤ 6) (W : Wt S) (hq : Bq k S) (wA : Wb A) (hA : Sf S A x) {j : Nat} (hk : k + 70 * j ≤ 1000000) (h : (bfX dom m S A j).1.e = 0) : Sf (bfX dom m S A j).1 (bfX dom m S A j).2 (foN m x j) ∧ S.e = 0 := by
 induction j with
 | zero => exact ⟨hA, h⟩
 | succ j ih =>
  have k0 : k + 70 * j ≤ 1000000 := by clear h ih; omega
  have k1 : k + 70 * j + 70 ≤ 1000000 := by clear h ih; omega
  have k2 : k + 70 * j + 6 + 60 ≤ 1000000 := by clear h ih; omega
  obtain ⟨q1, q2⟩ := bfX_bq (dom := dom) hm W.n hq wA (j := j) k0
  have W1 := W.ext (bfX_ext dom m S A j)
  have hs := sh_lt (j := j) hm
  have ih' := ih k0
  rw [bfX_step] at h ⊢
  rw [foN_step]
  generalize foN m x j = X at *
  generalize (bfX dom m S A j).1 = T at *
  generalize (bfX dom m S A j).2 = R at *
  generalize 2 ^ (m - 1 - j) = c at *
  obtain ⟨o1, o2, _, _⟩ := stp_bq (dom := dom) W1.n hs q1 q2 k1
  have e1 : (oneS T 10 R c).e = 0 := bo_e h
  have e0 : T.e = 0 := eaS_e (m := T.sh) e1 0 (Nat.zero_le _)
  obtain ⟨a1, a2⟩ := ih' e0
  obtain ⟨b1, _⟩ := sr_sf W1 q1 hs a1 e1
  have hO := oneS_ext T 10 R c
  have h' : (boS (oneS T 10 R c) dom R (oneR T 10 R c)).e = 0 := h
  have W2 := W1.ext hO
  have a3 := a1.ext hO
  clear h ih ih' W1 hq wA hA q1 hs e1 e0 a1 hO
  have r := bo_sf (dom := dom) W2 o1 k2 q2 o2 a3 b1 h'
  exact ⟨r.1, a2⟩
theorem on_e {S : Ms} {K : Int} {A : Nat → Int} {c : Nat} (h : (oneS S K A c).e = 0) : S.e = 0 := eaS_e h 0 (Nat.zero_le _)
theorem xo_e {S : Ms} {A B : Nat → Int} (h : (xorS S A B).e = 0) : S.e = 0 := eaS_e h 0 (Nat.zero_le _)
theorem bfX_sf_e {m j : Nat} (h : (bfX dom m S A j).1.e = 0) : S.e = 0 := by
 induction j with
 | zero => exact h
 | succ j ih =>
  rw [bfX_step] at h
  generalize (bfX dom m S A j).1 = T at *
  generalize (bfX dom m S A j).2 = R at *
  generalize 2 ^ (m - 1 - j) = c at *
  exact ih (on_e (bo_e h))
def bpS (S : Ms) (dom : Bool) (C A B : Nat → Int) : Ms := xorS (baS (xorS S A B) dom C (xorR S A B)) A (baR (xorS S A B) dom C (xorR S A B))
def bpR (S : Ms) (dom : Bool) (C A B : Nat → Int) : Nat → Int := xorR (baS (xorS S A B) dom C (xorR S A B)) A (baR (xorS S A B) dom C (xorR S A B))
def bkS (S : Ms) (dom : Bool) (A B : Nat → Int) : Ms := notS (bfS (xorS S A B) dom (xorR S A B) 64) (bfR (xorS S A B) dom (xorR S A B) 64)
def bkR (S : Ms) (dom : Bool) (A B : Nat → Int) : Nat → Int := notR (bfS (xorS S A B) dom (xorR S A B) 64) (bfR (xorS S A B) dom (xorR S A B) 64)
theorem bpS_ext (S : Ms) (dom : Bool) (C A B : Nat → Int) : Ext S (bpS S dom C A B) := ((xorS_ext _ _ _).trans (baS_ext _ _ _ _)).trans (xorS_ext _ _ _)
theorem bkS_ext (S : Ms) (dom : Bool) (A B : Nat → Int) : Ext S (bkS S dom A B) := ((xorS_ext _ _ _).trans (bfX_ext _ _ _ _ _)).trans (notS_ext _ _)
theorem bp_bq {C : Nat → Int} (h : Bq k S) (hn : S.n = 2 ∨ S.n = 3) (hk : k + 60 ≤ 1000000) (hC : Wb C) (hA : Wb A) (hB : Wb B) : Bq (k + 47) (bpS S dom C A B) ∧ Wb (bpR S dom C A B) := by
 have h1 := xorS_bq h hn hA hB
 have h2 := xorR_wb h (by omega) hn hA hB
 obtain ⟨g1, g2⟩ := ba_bq (dom := dom) h1 (by omega) hC h2
 have n2 : (baS (xorS S A B) dom C (xorR S A B)).n = 2 ∨ (baS (xorS S A B) dom C (xorR S A B)).n = 3 := by rw [((xorS_ext S A B).trans (baS_ext _ dom C _)).n]; exact hn
 exact ⟨xorS_bq g1 n2 hA g2, xorR_wb g1 (by omega) n2 hA g2⟩
theorem bk_bq (h : Bq k S) (hn : S.n = 2 ∨ S.n = 3) (hk : k + 450 ≤ 1000000) (hA : Wb A) (hB : Wb B) : Bq (k + 440) (bkS S dom A B) ∧ Wb (bkR S dom A B) := by
 have h1 := xorS_bq h hn hA hB
 have h2 := xorR_wb h (by omega) hn hA hB
 have hl := lgW_le 64
 obtain ⟨g1, g2⟩ := bfX_bq (dom := dom) (lgW_le 64) (by rw [(xorS_ext S A B).n]; exact hn) h1 h2 (j := lgW 64) (by omega)
 exact ⟨(notS_bq g1 g2).mono (by omega), notR_wb g1 (by omega) g2⟩
theorem bp_sf {C : Nat → Int} {c : Nat} (W : Wt S) (hC : Sf S C c) (hA : Sf S A x) (hB : Sf S B y) (h : (bpS S dom C A B).e = 0) : Sf (bpS S dom C A B) (bpR S dom C A B) (x ^^^ (c &&& (x ^^^ y))) ∧ S.e = 0 := by
 have e2 : (baS (xorS S A B) dom C (xorR S A B)).e = 0 := xo_e h
 have e1 : (xorS S A B).e = 0 := ba_e e2
 obtain ⟨a1, a2⟩ := xo_sf W hA hB e1
 have hX := xorS_ext S A B
 have W1 := W.ext hX
 obtain ⟨b1, _⟩ := ba_sf W1 (hC.ext hX) a1 e2
 have hY := baS_ext (xorS S A B) dom C (xorR S A B)
 exact ⟨(xo_sf (W1.ext hY) ((hA.ext hX).ext hY) b1 h).1, a2⟩
theorem bk_sf (W : Wt S) (hq : Bq k S) (hk : k + 450 ≤ 1000000) (wA : Wb A) (wB : Wb B) (hA : Sf S A x) (hB : Sf S B y) (h : (bkS S dom A B).e = 0) : Sf (bkS S dom A B) (bkR S dom A B) (wnt (foN (lgW 64) (x ^^^ y) (lgW 64))) ∧ S.e = 0 := by
 unfold bkS at h
 have e2 : (bfS (xorS S A B) dom (xorR S A B) 64).e = 0 := nt_e h
 have h1 := xorS_bq hq W.n wA wB
 have hl := lgW_le 64
 have k0 : k + 10 ≤ 1000000 := by clear h e2; omega
 have k1 : k + 6 + 70 * lgW 64 ≤ 1000000 := by clear h e2; omega
 have h2 := xorR_wb hq k0 W.n wA wB
 have hX := xorS_ext S A B
 have W1 := W.ext hX
 have e1 : (xorS S A B).e = 0 := bfX_sf_e (dom := dom) (m := lgW 64) (S := xorS S A B) (A := xorR S A B) (j := lgW 64) e2
 obtain ⟨a1, a2⟩ := xo_sf W hA hB e1
 obtain ⟨g1, g2⟩ := bfX_bq (dom := dom) (lgW_le 64) W1.n h1 h2 (j := lgW 64) k1
 obtain ⟨b1, _⟩ := bfX_sf (dom := dom) (lgW_le 64) W1 h1 h2 a1 (j := lgW 64) k1 e2
 have W2 : Wt (bfS (xorS S A B) dom (xorR S A B) 64) := W1.ext (bfX_ext dom (lgW 64) _ _ (lgW 64))
 unfold bkS bkR
 exact ⟨(nt_sf W2 (S := bfS (xorS S A B) dom (xorR S A B) 64) (A := bfR (xorS S A B) dom (xorR S A B) 64) g1 b1 h).1, a2⟩
end
open Go.RowKit
set_option maxRecDepth 100000
set_option maxHeartbeats 6400000 in
theorem ypick {Pm : World → Nat → Ms → (Nat → Prop) → Prop} (hM : Mach Pm) {lo : Nat} {X : Nat → Prop} {W w : World} {b bd k : Nat} {S S2 : Ms} (K : Int) (C A B : Nat → Int) (h : Bz Pm lo X W w bd b S2 S) (hq : Bq k S) (hk : k + 120 ≤ 100000) (hn : S.n = 2 ∨ S.n = 3) (hK : I64 K) (hC : Wb C) (hA : Wb A) (hB : Wb B) :
  Calls Tryz.prog 29 #[.pointer (some ⟨b, 0, none⟩), .int .i64 K, .agg (wdV C), .agg (wdV A), .agg (wdV B)] w fun e w' => e = .returned (.agg (wdV (bpR S (isDom K) C A B))) ∧ Bz Pm lo X W w' bd b S2 (bpS S (isDom K) C A B) ∧ ∀ k, X k → w'.heap[k]? = w.heap[k]? := by
 have q1 := xorS_bq hq hn hA hB
 have w1_ := xorR_wb hq (by omega) hn hA hB
 obtain ⟨q2, w2_⟩ := ba_bq (dom := isDom K) q1 (by omega) hC w1_
 have n1 : (xorS S A B).n = 2 ∨ (xorS S A B).n = 3 := by rw [(xorS_ext S A B).n]; exact hn
 have n2 : (baS (xorS S A B) (isDom K) C (xorR S A B)).n = 2 ∨ (baS (xorS S A B) (isDom K) C (xorR S A B)).n = 3 := by rw [(baS_ext (xorS S A B) (isDom K) C (xorR S A B)).n]; exact n1
 have HC1 : Hid (∀ (bs : List (Nat × Obj)) (w' : World), Gy Pm lo X w w w' bd b S2 S bs → Calls Tryz.prog 61 #[.pointer (some ⟨b, 0, none⟩), .agg (wdV A), .agg (wdV B)] w' fun e w2 => e = .returned (.agg (wdV (xorR S A B))) ∧ Gy Pm lo X w w w2 bd b S2 (xorS S A B) bs) := hid (fun bs w' h' => h'.lift (fun _ _ hz => yxor hM hz hq (by omega) hn A B hA hB))
 have HC2 : Hid (∀ (bs : List (Nat × Obj)) (w' : World), Gy Pm lo X w w w' bd b S2 (xorS S A B) bs → Calls Tryz.prog 14 #[.pointer (some ⟨b, 0, none⟩), .int .i64 K, .agg (wdV C), .agg (wdV (xorR S A B))] w' fun e w2 => e = .returned (.agg (wdV (baR (xorS S A B) (isDom K) C (xorR S A B)))) ∧ Gy Pm lo X w w w2 bd b S2 (baS (xorS S A B) (isDom K) C (xorR S A B)) bs) := hid (fun bs w' h' => h'.lift (fun _ _ hz => yand hM K C (xorR S A B) hz q1 (by omega) n1 hK hC w1_))
 have HC3 : Hid (∀ (bs : List (Nat × Obj)) (w' : World), Gy Pm lo X w w w' bd b S2 (baS (xorS S A B) (isDom K) C (xorR S A B)) bs → Calls Tryz.prog 61 #[.pointer (some ⟨b, 0, none⟩), .agg (wdV A), .agg (wdV (baR (xorS S A B) (isDom K) C (xorR S A B)))] w' fun e w2 => e = .returned (.agg (wdV (bpR S (isDom K) C A B))) ∧ Gy Pm lo X w w w2 bd b S2 (bpS S (isDom K) C A B) bs) := hid (fun bs w' h' => h'.lift (fun _ _ hz => yxor hM hz q2 (by omega) n2 A (baR (xorS S A B) (isDom K) C (xorR S A B)) hA w2_))
 have HLOW : Hid (Below lo W w) := hid h.low
 obtain ⟨w1, hw1⟩ : ∃ w1, ((((w).alloc (.cells (wdV C) 37)).alloc (.cells (wdV A) 37)).alloc (.cells (wdV B) 37)).alloc (.cells #[.int .i64 0, .int .i64 0, .int .i64 0] 37) = w1 := ⟨_, rfl⟩
 have H1 : Hid (Gy Pm lo X w w w1 bd b S2 S [(w.heap.size + 3, Obj.cells #[.int .i64 0, .int .i64 0, .int .i64 0] 37 (0, 0)), (w.heap.size + 2, Obj.cells (wdV B) 37 (0, 0)), (w.heap.size + 1, Obj.cells (wdV A) 37 (0, 0)), (w.heap.size, Obj.cells (wdV C) 37 (0, 0))]) := hid (by
  have := (((((Gy.start h.base).new hM (wdV C) 37).new hM (wdV A) 37).new hM (wdV B) 37).new hM #[.int .i64 0, .int .i64 0, .int .i64 0] 37)
  rw [hw1] at this
  simp only [sz_al] at this
  exact this)
 have HW := hid hw1
 clear q1 w1_ q2 w2_ n1 n2 hC hA hB hK h hq hk hn hw1
 generalize bpS S (isDom K) C A B = S9 at *
 generalize bpR S (isDom K) C A B = R9 at *
 generalize baS (xorS S A B) (isDom K) C (xorR S A B) = T2 at *
 generalize baR (xorS S A B) (isDom K) C (xorR S A B) = R2 at *
 generalize xorS S A B = T1 at *
 generalize xorR S A B = R1 at *
 go_enter Tryz.func29, Tryz.ntmps29
 go_upto_region 1 with fail
 rw [HW.out]
 have G0 := hid (H1.out.self hM ((Below.refl _ w1).drew))
 refine wp_region_noPanic ?_
 refine wp_region_held_drew (S := fun w' => w'.heap[w.heap.size]? = some (.cells (wdV C) 37 (0, 0)) ∧ w'.heap[w.heap.size + 1]? = some (.cells (wdV A) 37 (0, 0)) ∧ w'.heap[w.heap.size + 2]? = some (.cells (wdV B) 37 (0, 0))) (by kernel_rfl) (⟨G0.out.bl 3 rfl, G0.out.bl 2 rfl, G0.out.bl 1 rfl⟩) (fun h0 => ?_)
 generalize w1.drew = y0 at *
 refine tK 0 (.pointer (some ⟨b, 0, none⟩)) rfl (.inl ⟨by rfl, fun w hw => by clear hw; go_simp⟩) h0 ?_
 try simp only [Act.put, lay_out]
 refine tK 1 (.int .i64 K) rfl (.inl ⟨by rfl, fun w hw => by clear hw; go_simp⟩) h0 ?_
 try simp only [Act.put, lay_out]
 refine tK 2 (.agg (wdV C)) rfl (yields_load_row (by rfl) 37 _ rfl (w.heap.size) 37 (wdV C) _ rfl (fun w hw => hw.1) Tryz.underlying37 rfl (by kernel_rfl)) h0 ?_
 try simp only [Act.put, lay_out]
 refine tK 3 (.pointer (some ⟨b, 0, none⟩)) rfl (.inl ⟨by rfl, fun w hw => by clear hw; go_simp⟩) h0 ?_
 try simp only [Act.put, lay_out]
 refine tK 4 (.agg (wdV A)) rfl (yields_load_row (by rfl) 37 _ rfl (w.heap.size + 1) 37 (wdV A) _ rfl (fun w hw => hw.2.1) Tryz.underlying37 rfl (by kernel_rfl)) h0 ?_
 try simp only [Act.put, lay_out]
 refine tK 5 (.agg (wdV B)) rfl (yields_load_row (by rfl) 37 _ rfl (w.heap.size + 2) 37 (wdV B) _ rfl (fun w hw => hw.2.2) Tryz.underlying37 rfl (by kernel_rfl)) h0 ?_
 try simp only [Act.put, lay_out]
 refine wpAnyH_ready (rs := [6, 8]) (by kernel_rfl) (by simp) (AllReadyH.cons rfl (fun K hK => ?_) (AllReadyH.cons rfl (fun K hK => ?_) AllReadyH.nil))
 ·
  rw [if_pos (by rfl)]
  go_simp
  go_at_call 61
  (with_reducible refine (HC1.out _ _ G0.out).mono ?_); rintro e y1 ⟨rfl, hz⟩
  have G1 := hid hz
  clear hz
  refine hK.out _ _ (⟨G1.out.bl 3 rfl, G1.out.bl 2 rfl, G1.out.bl 1 rfl⟩) (fun h1x => ?_)
  clear hK K
  try simp only [Act.put, lay_out]
  refine wpAnyH_ready (rs := [7, 8]) (by kernel_rfl) (by simp) (AllReadyH.cons rfl (fun K hK => ?_) (AllReadyH.cons rfl (fun K hK => ?_) AllReadyH.nil))
  ·
   rw [if_pos (by rfl)]
   go_simp
   go_at_call 14
   (with_reducible refine (HC2.out _ _ G1.out).mono ?_); rintro e y2 ⟨rfl, hz⟩
   have G2 := hid hz
   clear hz
   refine hK.out _ _ (⟨G2.out.bl 3 rfl, G2.out.bl 2 rfl, G2.out.bl 1 rfl⟩) (fun h2x => ?_)
   clear hK K
   try simp only [Act.put, lay_out]
   refine wpAnyH_ready (rs := [8]) (by kernel_rfl) (by simp) (AllReadyH.cons rfl (fun K hK => ?_) AllReadyH.nil)
   rw [if_pos (by rfl)]
   go_simp
   have G3 := hid (G2.out.new hM #[.int .i64 0, .int .i64 0, .int .i64 0] 37)
   obtain ⟨g11, hg11⟩ : ∃ g11, y2.heap.size = g11 := ⟨_, rfl⟩
   rw [hg11] at G3
   rw [hg11]
   generalize y2.alloc (.cells #[.int .i64 0, .int .i64 0, .int .i64 0] 37) = y3 at *
   clear hg11
   refine hK.out _ _ (⟨G3.out.bl 4 rfl, G3.out.bl 3 rfl, G3.out.bl 2 rfl⟩) (fun h3x => ?_)
   clear hK K
   try simp only [Act.put, lay_out]
   refine wpAnyH_ready (rs := [9]) (by kernel_rfl) (by simp) (AllReadyH.cons rfl (fun K hK => ?_) AllReadyH.nil)
   rw [if_pos (by rfl)]
   refine wp_store_row 37 _ _ rfl (g11) (wdV R2) rfl rfl 37 _ (G3.out.bl 0 rfl) (by kernel_rfl) rfl (by kernel_rfl) ?_
   have G4 := hid (G3.out.rowI hM 0 rfl (wdV R2))
   generalize y3.setRow (g11) (wdV R2) = y4 at *
   refine hK.out _ _ (⟨G4.out.bl 4 rfl, G4.out.bl 3 rfl, G4.out.bl 2 rfl⟩) (fun h4x => ?_)
   clear hK K
   try simp only [Act.put, lay_out]
   refine wpAnyH_done (by kernel_rfl) ?_ _
   refine NoPanic.normal ?_
   clear h0 h1x h2x h3x h4x
   try simp only [Act.put, lay_out]
   go_wp2_with (first
    | (refine step_load_row rfl 37 _ rfl (w.heap.size + 1) 37 (wdV A) _ rfl (G4.out.bl 3 rfl) Tryz.underlying37 rfl (by kernel_rfl) ?_)
    | (refine step_load_row rfl 37 _ rfl (g11) 37 (wdV R2) _ rfl (G4.out.bl 0 rfl) Tryz.underlying37 rfl (by kernel_rfl) ?_)
    | (go_at_call 61; (with_reducible refine (HC3.out _ _ G4.out).mono ?_); rintro e w6 ⟨rfl, hb⟩; have H6 := hid hb; clear hb)
    | (refine step_store_row rfl 37 _ _ rfl (w.heap.size + 3) 37 _ (wdV R9) rfl rfl (H6.out.bl 1 rfl) (by kernel_rfl) rfl (by kernel_rfl) ?_))
   have H9 := hid (H6.out.rowI hM 1 rfl (wdV R9))
   exact bodyPost_ret (results_cell_row (by rfl) _ _ (w.heap.size + 3) 37 (wdV R9) (0, 0) _ rfl (H9.out.bl 1 rfl) Tryz.underlying37 rfl (by kernel_rfl)) rfl ⟨rfl, H9.out.fin.1.up HLOW.out, H9.out.fin.2⟩
  ·
   rw [if_pos (by rfl)]
   go_simp
   have G2 := hid (G1.out.new hM #[.int .i64 0, .int .i64 0, .int .i64 0] 37)
   obtain ⟨g11, hg11⟩ : ∃ g11, y1.heap.size = g11 := ⟨_, rfl⟩
   rw [hg11] at G2
   rw [hg11]
   generalize y1.alloc (.cells #[.int .i64 0, .int .i64 0, .int .i64 0] 37) = y2 at *
   clear hg11
   refine hK.out _ _ (⟨G2.out.bl 4 rfl, G2.out.bl 3 rfl, G2.out.bl 2 rfl⟩) (fun h2x => ?_)
   clear hK K
   try simp only [Act.put, lay_out]
   refine wpAnyH_ready (rs := [7]) (by kernel_rfl) (by simp) (AllReadyH.cons rfl (fun K hK => ?_) AllReadyH.nil)
   rw [if_pos (by rfl)]
   go_simp
   go_at_call 14
   (with_reducible refine (HC2.out _ _ G2.out).mono ?_); rintro e y3 ⟨rfl, hz⟩
   have G3 := hid hz
   clear hz
   refine hK.out _ _ (⟨G3.out.bl 4 rfl, G3.out.bl 3 rfl, G3.out.bl 2 rfl⟩) (fun h3x => ?_)
   clear hK K
   try simp only [Act.put, lay_out]
   refine wpAnyH_ready (rs := [9]) (by kernel_rfl) (by simp) (AllReadyH.cons rfl (fun K hK => ?_) AllReadyH.nil)
   rw [if_pos (by rfl)]
   refine wp_store_row 37 _ _ rfl (g11) (wdV R2) rfl rfl 37 _ (G3.out.bl 0 rfl) (by kernel_rfl) rfl (by kernel_rfl) ?_
   have G4 := hid (G3.out.rowI hM 0 rfl (wdV R2))
   generalize y3.setRow (g11) (wdV R2) = y4 at *
   refine hK.out _ _ (⟨G4.out.bl 4 rfl, G4.out.bl 3 rfl, G4.out.bl 2 rfl⟩) (fun h4x => ?_)
   clear hK K
   try simp only [Act.put, lay_out]
   refine wpAnyH_done (by kernel_rfl) ?_ _
   refine NoPanic.normal ?_
   clear h0 h1x h2x h3x h4x
   try simp only [Act.put, lay_out]
   go_wp2_with (first
    | (refine step_load_row rfl 37 _ rfl (w.heap.size + 1) 37 (wdV A) _ rfl (G4.out.bl 3 rfl) Tryz.underlying37 rfl (by kernel_rfl) ?_)
    | (refine step_load_row rfl 37 _ rfl (g11) 37 (wdV R2) _ rfl (G4.out.bl 0 rfl) Tryz.underlying37 rfl (by kernel_rfl) ?_)
    | (go_at_call 61; (with_reducible refine (HC3.out _ _ G4.out).mono ?_); rintro e w6 ⟨rfl, hb⟩; have H6 := hid hb; clear hb)
    | (refine step_store_row rfl 37 _ _ rfl (w.heap.size + 3) 37 _ (wdV R9) rfl rfl (H6.out.bl 1 rfl) (by kernel_rfl) rfl (by kernel_rfl) ?_))
   have H9 := hid (H6.out.rowI hM 1 rfl (wdV R9))
   exact bodyPost_ret (results_cell_row (by rfl) _ _ (w.heap.size + 3) 37 (wdV R9) (0, 0) _ rfl (H9.out.bl 1 rfl) Tryz.underlying37 rfl (by kernel_rfl)) rfl ⟨rfl, H9.out.fin.1.up HLOW.out, H9.out.fin.2⟩
 ·
  rw [if_pos (by rfl)]
  go_simp
  have G1 := hid (G0.out.new hM #[.int .i64 0, .int .i64 0, .int .i64 0] 37)
  obtain ⟨g11, hg11⟩ : ∃ g11, y0.heap.size = g11 := ⟨_, rfl⟩
  rw [hg11] at G1
  rw [hg11]
  generalize y0.alloc (.cells #[.int .i64 0, .int .i64 0, .int .i64 0] 37) = y1 at *
  clear hg11
  refine hK.out _ _ (⟨G1.out.bl 4 rfl, G1.out.bl 3 rfl, G1.out.bl 2 rfl⟩) (fun h1x => ?_)
  clear hK K
  try simp only [Act.put, lay_out]
  refine wpAnyH_ready (rs := [6]) (by kernel_rfl) (by simp) (AllReadyH.cons rfl (fun K hK => ?_) AllReadyH.nil)
  rw [if_pos (by rfl)]
  go_simp
  go_at_call 61
  (with_reducible refine (HC1.out _ _ G1.out).mono ?_); rintro e y2 ⟨rfl, hz⟩
  have G2 := hid hz
  clear hz
  refine hK.out _ _ (⟨G2.out.bl 4 rfl, G2.out.bl 3 rfl, G2.out.bl 2 rfl⟩) (fun h2x => ?_)
  clear hK K
  try simp only [Act.put, lay_out]
  refine wpAnyH_ready (rs := [7]) (by kernel_rfl) (by simp) (AllReadyH.cons rfl (fun K hK => ?_) AllReadyH.nil)
  rw [if_pos (by rfl)]
  go_simp
  go_at_call 14
  (with_reducible refine (HC2.out _ _ G2.out).mono ?_); rintro e y3 ⟨rfl, hz⟩
  have G3 := hid hz
  clear hz
  refine hK.out _ _ (⟨G3.out.bl 4 rfl, G3.out.bl 3 rfl, G3.out.bl 2 rfl⟩) (fun h3x => ?_)
  clear hK K
  try simp only [Act.put, lay_out]
  refine wpAnyH_ready (rs := [9]) (by kernel_rfl) (by simp) (AllReadyH.cons rfl (fun K hK => ?_) AllReadyH.nil)
  rw [if_pos (by rfl)]
  refine wp_store_row 37 _ _ rfl (g11) (wdV R2) rfl rfl 37 _ (G3.out.bl 0 rfl) (by kernel_rfl) rfl (by kernel_rfl) ?_
  have G4 := hid (G3.out.rowI hM 0 rfl (wdV R2))
  generalize y3.setRow (g11) (wdV R2) = y4 at *
  refine hK.out _ _ (⟨G4.out.bl 4 rfl, G4.out.bl 3 rfl, G4.out.bl 2 rfl⟩) (fun h4x => ?_)
  clear hK K
  try simp only [Act.put, lay_out]
  refine wpAnyH_done (by kernel_rfl) ?_ _
  refine NoPanic.normal ?_
  clear h0 h1x h2x h3x h4x
  try simp only [Act.put, lay_out]
  go_wp2_with (first
   | (refine step_load_row rfl 37 _ rfl (w.heap.size + 1) 37 (wdV A) _ rfl (G4.out.bl 3 rfl) Tryz.underlying37 rfl (by kernel_rfl) ?_)
   | (refine step_load_row rfl 37 _ rfl (g11) 37 (wdV R2) _ rfl (G4.out.bl 0 rfl) Tryz.underlying37 rfl (by kernel_rfl) ?_)
   | (go_at_call 61; (with_reducible refine (HC3.out _ _ G4.out).mono ?_); rintro e w6 ⟨rfl, hb⟩; have H6 := hid hb; clear hb)
   | (refine step_store_row rfl 37 _ _ rfl (w.heap.size + 3) 37 _ (wdV R9) rfl rfl (H6.out.bl 1 rfl) (by kernel_rfl) rfl (by kernel_rfl) ?_))
  have H9 := hid (H6.out.rowI hM 1 rfl (wdV R9))
  exact bodyPost_ret (results_cell_row (by rfl) _ _ (w.heap.size + 3) 37 (wdV R9) (0, 0) _ rfl (H9.out.bl 1 rfl) Tryz.underlying37 rfl (by kernel_rfl)) rfl ⟨rfl, H9.out.fin.1.up HLOW.out, H9.out.fin.2⟩
set_option maxHeartbeats 6400000 in
theorem yalike {Pm : World → Nat → Ms → (Nat → Prop) → Prop} (hM : Mach Pm) {lo : Nat} {X : Nat → Prop} {W w : World} {b bd k : Nat} {S S2 : Ms} (K : Int) (A B : Nat → Int) (h : Bz Pm lo X W w bd b S2 S) (hq : Bq k S) (hk : k + 700 ≤ 100000) (hn : S.n = 2 ∨ S.n = 3) (hK : I64 K) (hA : Wb A) (hB : Wb B) :
  Calls Tryz.prog 31 #[.pointer (some ⟨b, 0, none⟩), .int .i64 K, .agg (wdV A), .agg (wdV B)] w fun e w' => e = .returned (.agg (wdV (bkR S (isDom K) A B))) ∧ Bz Pm lo X W w' bd b S2 (bkS S (isDom K) A B) ∧ ∀ k, X k → w'.heap[k]? = w.heap[k]? := by
 have hl9 := lgW_le 64
 have q1 := xorS_bq hq hn hA hB
 have w1_ := xorR_wb hq (by omega) hn hA hB
 have n1 : (xorS S A B).n = 2 ∨ (xorS S A B).n = 3 := by rw [(xorS_ext S A B).n]; exact hn
 obtain ⟨q2, w2_⟩ := bfX_bq (dom := isDom K) (lgW_le 64) n1 q1 w1_ (j := lgW 64) (by omega)
 have n2 : (bfS (xorS S A B) (isDom K) (xorR S A B) 64).n = 2 ∨ (bfS (xorS S A B) (isDom K) (xorR S A B) 64).n = 3 := by rw [show (bfS (xorS S A B) (isDom K) (xorR S A B) 64).n = (xorS S A B).n from (bfX_ext (isDom K) (lgW 64) (xorS S A B) (xorR S A B) (lgW 64)).n]; exact n1
 have HC1 : Hid (∀ (bs : List (Nat × Obj)) (w' : World), Gy Pm lo X w w w' bd b S2 S bs → Calls Tryz.prog 61 #[.pointer (some ⟨b, 0, none⟩), .agg (wdV A), .agg (wdV B)] w' fun e w2 => e = .returned (.agg (wdV (xorR S A B))) ∧ Gy Pm lo X w w w2 bd b S2 (xorS S A B) bs) := hid (fun bs w' h' => h'.lift (fun _ _ hz => yxor hM hz hq (by omega) hn A B hA hB))
 have HC2 : Hid (∀ (bs : List (Nat × Obj)) (w' : World), Gy Pm lo X w w w' bd b S2 (xorS S A B) bs → Calls Tryz.prog 22 #[.pointer (some ⟨b, 0, none⟩), .int .i64 K, .agg (wdV (xorR S A B)), .int .i64 64] w' fun e w2 => e = .returned (.agg (wdV (bfR (xorS S A B) (isDom K) (xorR S A B) 64))) ∧ Gy Pm lo X w w w2 bd b S2 (bfS (xorS S A B) (isDom K) (xorR S A B) 64) bs) := hid (fun bs w' h' => h'.lift (fun _ _ hz => yfold hM K (xorR S A B) 64 hz q1 (by omega) n1 hK w1_))
 have HC3 : Hid (∀ (bs : List (Nat × Obj)) (w' : World), Gy Pm lo X w w w' bd b S2 (bfS (xorS S A B) (isDom K) (xorR S A B) 64) bs → Calls Tryz.prog 51 #[.pointer (some ⟨b, 0, none⟩), .agg (wdV (bfR (xorS S A B) (isDom K) (xorR S A B) 64))] w' fun e w2 => e = .returned (.agg (wdV (bkR S (isDom K) A B))) ∧ Gy Pm lo X w w w2 bd b S2 (bkS S (isDom K) A B) bs) := hid (fun bs w' h' => h'.lift (fun _ _ hz => ynot hM hz q2 (by omega) (bfR (xorS S A B) (isDom K) (xorR S A B) 64) w2_))
 have HLOW : Hid (Below lo W w) := hid h.low
 obtain ⟨w1, hw1⟩ : ∃ w1, (((w).alloc (.cells (wdV A) 37)).alloc (.cells (wdV B) 37)).alloc (.cells #[.int .i64 0, .int .i64 0, .int .i64 0] 37) = w1 := ⟨_, rfl⟩
 have H1 : Hid (Gy Pm lo X w w w1 bd b S2 S [(w.heap.size + 2, Obj.cells #[.int .i64 0, .int .i64 0, .int .i64 0] 37 (0, 0)), (w.heap.size + 1, Obj.cells (wdV B) 37 (0, 0)), (w.heap.size, Obj.cells (wdV A) 37 (0, 0))]) := hid (by
  have := ((((Gy.start h.base).new hM (wdV A) 37).new hM (wdV B) 37).new hM #[.int .i64 0, .int .i64 0, .int .i64 0] 37)
  rw [hw1] at this
  simp only [sz_al] at this
  exact this)
 have HW := hid hw1
 clear hl9 q1 w1_ q2 w2_ n1 n2 hA hB hK h hq hk hn hw1
 generalize bkS S (isDom K) A B = S9 at *
 generalize bkR S (isDom K) A B = R9 at *
 generalize bfS (xorS S A B) (isDom K) (xorR S A B) 64 = T2 at *
 generalize bfR (xorS S A B) (isDom K) (xorR S A B) 64 = R2 at *
 generalize xorS S A B = T1 at *
 generalize xorR S A B = R1 at *
 go_enter Tryz.func31, Tryz.ntmps31
 go_upto_region 1 with fail
 rw [HW.out]
 go_wp2_with (first
  | (refine step_load_row rfl 37 _ rfl (w.heap.size) 37 (wdV A) _ rfl (H1.out.bl 2 rfl) Tryz.underlying37 rfl (by kernel_rfl) ?_)
  | (refine step_load_row rfl 37 _ rfl (w.heap.size + 1) 37 (wdV B) _ rfl (H1.out.bl 1 rfl) Tryz.underlying37 rfl (by kernel_rfl) ?_)
  | (go_at_call 61; (with_reducible refine (HC1.out _ _ H1.out).mono ?_); rintro e w2 ⟨rfl, hb⟩; have H2 := hid hb; clear hb)
  | (go_at_call 22; (with_reducible refine (HC2.out _ _ H2.out).mono ?_); rintro e w3 ⟨rfl, hb⟩; have H3 := hid hb; clear hb)
  | (go_at_call 51; (with_reducible refine (HC3.out _ _ H3.out).mono ?_); rintro e w4 ⟨rfl, hb⟩; have H4 := hid hb; clear hb)
  | (refine step_store_row rfl 37 _ _ rfl (w.heap.size + 2) 37 _ (wdV R9) rfl rfl (H4.out.bl 0 rfl) (by kernel_rfl) rfl (by kernel_rfl) ?_))
 have H9 := hid (H4.out.rowI hM 0 rfl (wdV R9))
 exact bodyPost_ret (results_cell_row (by rfl) _ _ (w.heap.size + 2) 37 (wdV R9) (0, 0) _ rfl (H9.out.bl 0 rfl) Tryz.underlying37 rfl (by kernel_rfl)) rfl ⟨rfl, H9.out.fin.1.up HLOW.out, H9.out.fin.2⟩
set_option maxHeartbeats 6400000 in
theorem qpick {Pm : World → Nat → Ms → (Nat → Prop) → Prop} (hM : Mach Pm) {lo : Nat} {X : Nat → Prop} {W w : World} {b bd k : Nat} {S S2 : Ms} (K : Int) (C A B : Nat → Int) (h : Bz Pm lo X W w b bd S S2) (hp : Pv w) (hl : gpair < lo) (hq : Bq k S) (hk : k + 120 ≤ 100000) (hn : S.n = 2 ∨ S.n = 3) (hK : I64 K) (hC : Wb C) (hA : Wb A) (hB : Wb B) :
  Calls Tryz.prog 28 #[.pointer (some ⟨b, 0, none⟩), .int .i64 K, .agg (wdV C), .agg (wdV A), .agg (wdV B)] w fun e w' => e = .returned (.agg (wdV (bpR S (isDom K) C A B))) ∧ Bz Pm lo X W w' b bd (bpS S (isDom K) C A B) S2 ∧ ∀ k, X k → w'.heap[k]? = w.heap[k]? := by
 have q1 := xorS_bq hq hn hA hB
 have w1_ := xorR_wb hq (by omega) hn hA hB
 obtain ⟨q2, w2_⟩ := ba_bq (dom := isDom K) q1 (by omega) hC w1_
 have n1 : (xorS S A B).n = 2 ∨ (xorS S A B).n = 3 := by rw [(xorS_ext S A B).n]; exact hn
 have n2 : (baS (xorS S A B) (isDom K) C (xorR S A B)).n = 2 ∨ (baS (xorS S A B) (isDom K) C (xorR S A B)).n = 3 := by rw [(baS_ext (xorS S A B) (isDom K) C (xorR S A B)).n]; exact n1
 have HC1 : Hid (∀ (bs : List (Nat × Obj)) (w' : World), Gy Pm lo X w w w' b bd S S2 bs → Calls Tryz.prog 60 #[.pointer (some ⟨b, 0, none⟩), .agg (wdV A), .agg (wdV B)] w' fun e w2 => e = .returned (.agg (wdV (xorR S A B))) ∧ Gy Pm lo X w w w2 b bd (xorS S A B) S2 bs) := hid (fun bs w' h' => h'.lift (fun _ _ hz => qxor hM (shI hM) A B hz hq (by omega) hn hA hB))
 have HC2 : Hid (∀ (bs : List (Nat × Obj)) (w' : World), Gy Pm lo X w w w' b bd (xorS S A B) S2 bs → Calls Tryz.prog 13 #[.pointer (some ⟨b, 0, none⟩), .int .i64 K, .agg (wdV C), .agg (wdV (xorR S A B))] w' fun e w2 => e = .returned (.agg (wdV (baR (xorS S A B) (isDom K) C (xorR S A B)))) ∧ Gy Pm lo X w w w2 b bd (baS (xorS S A B) (isDom K) C (xorR S A B)) S2 bs) := hid (fun bs w' h' => h'.lift (fun _ _ hz => qand hM K C (xorR S A B) hz (Pv.bz hp hl h'.z) hl q1 (by omega) n1 hK hC w1_))
 have HC3 : Hid (∀ (bs : List (Nat × Obj)) (w' : World), Gy Pm lo X w w w' b bd (baS (xorS S A B) (isDom K) C (xorR S A B)) S2 bs → Calls Tryz.prog 60 #[.pointer (some ⟨b, 0, none⟩), .agg (wdV A), .agg (wdV (baR (xorS S A B) (isDom K) C (xorR S A B)))] w' fun e w2 => e = .returned (.agg (wdV (bpR S (isDom K) C A B))) ∧ Gy Pm lo X w w w2 b bd (bpS S (isDom K) C A B) S2 bs) := hid (fun bs w' h' => h'.lift (fun _ _ hz => qxor hM (shI hM) A (baR (xorS S A B) (isDom K) C (xorR S A B)) hz q2 (by omega) n2 hA w2_))
 have HLOW : Hid (Below lo W w) := hid h.low
 obtain ⟨w1, hw1⟩ : ∃ w1, ((((w).alloc (.cells (wdV C) 37)).alloc (.cells (wdV A) 37)).alloc (.cells (wdV B) 37)).alloc (.cells #[.int .i64 0, .int .i64 0, .int .i64 0] 37) = w1 := ⟨_, rfl⟩
 have H1 : Hid (Gy Pm lo X w w w1 b bd S S2 [(w.heap.size + 3, Obj.cells #[.int .i64 0, .int .i64 0, .int .i64 0] 37 (0, 0)), (w.heap.size + 2, Obj.cells (wdV B) 37 (0, 0)), (w.heap.size + 1, Obj.cells (wdV A) 37 (0, 0)), (w.heap.size, Obj.cells (wdV C) 37 (0, 0))]) := hid (by
  have := (((((Gy.start h.base).new hM (wdV C) 37).new hM (wdV A) 37).new hM (wdV B) 37).new hM #[.int .i64 0, .int .i64 0, .int .i64 0] 37)
  rw [hw1] at this
  simp only [sz_al] at this
  exact this)
 have HW := hid hw1
 clear q1 w1_ q2 w2_ n1 n2 hC hA hB hK h hq hk hn hp hl hw1
 generalize bpS S (isDom K) C A B = S9 at *
 generalize bpR S (isDom K) C A B = R9 at *
 generalize baS (xorS S A B) (isDom K) C (xorR S A B) = T2 at *
 generalize baR (xorS S A B) (isDom K) C (xorR S A B) = R2 at *
 generalize xorS S A B = T1 at *
 generalize xorR S A B = R1 at *
 go_enter Tryz.func28, Tryz.ntmps28
 go_upto_region 1 with fail
 rw [HW.out]
 go_upto_region 2 with (first
  | (refine step_load_row rfl 37 _ rfl (w.heap.size + 1) 37 (wdV A) _ rfl (H1.out.bl 2 rfl) Tryz.underlying37 rfl (by kernel_rfl) ?_)
  | (refine step_load_row rfl 37 _ rfl (w.heap.size + 2) 37 (wdV B) _ rfl (H1.out.bl 1 rfl) Tryz.underlying37 rfl (by kernel_rfl) ?_)
  | (go_at_call 60; (with_reducible refine (HC1.out _ _ H1.out).mono ?_); rintro e w2 ⟨rfl, hb⟩; have H2 := hid hb; clear hb))
 have H3 := hid (H2.out.new hM (wdV R1) 37)
 obtain ⟨g11, hg11⟩ : ∃ g11, w2.heap.size = g11 := ⟨_, rfl⟩
 rw [hg11] at H3
 generalize w2.alloc (.cells #[.int .i64 (R1 0), .int .i64 (R1 1), .int .i64 (R1 2)] 37) = w3 at *
 rw [hg11]
 clear hg11 H2 H1
 have G0 := hid (H3.out.self hM ((Below.refl _ w3).drew))
 refine wp_region_noPanic ?_
 refine wp_region_held_drew (S := fun w' => w'.heap[w.heap.size]? = some (.cells (wdV C) 37 (0, 0)) ∧ w'.heap[w.heap.size + 1]? = some (.cells (wdV A) 37 (0, 0)) ∧ w'.heap[g11]? = some (.cells (wdV R1) 37 (0, 0))) (by kernel_rfl) (⟨G0.out.bl 4 rfl, G0.out.bl 3 rfl, G0.out.bl 0 rfl⟩) (fun h0 => ?_)
 generalize w3.drew = y0 at *
 refine tK 0 (.pointer (some ⟨b, 0, none⟩)) rfl (.inl ⟨by rfl, fun w hw => by clear hw; go_simp⟩) h0 ?_
 try simp only [Act.put, lay_out]
 refine tK 1 (.agg (wdV A)) rfl (yields_load_row (by rfl) 37 _ rfl (w.heap.size + 1) 37 (wdV A) _ rfl (fun w hw => hw.2.1) Tryz.underlying37 rfl (by kernel_rfl)) h0 ?_
 try simp only [Act.put, lay_out]
 refine tK 2 (.pointer (some ⟨b, 0, none⟩)) rfl (.inl ⟨by rfl, fun w hw => by clear hw; go_simp⟩) h0 ?_
 try simp only [Act.put, lay_out]
 refine tK 3 (.int .i64 K) rfl (.inl ⟨by rfl, fun w hw => by clear hw; go_simp⟩) h0 ?_
 try simp only [Act.put, lay_out]
 refine tK 4 (.agg (wdV C)) rfl (yields_load_row (by rfl) 37 _ rfl (w.heap.size) 37 (wdV C) _ rfl (fun w hw => hw.1) Tryz.underlying37 rfl (by kernel_rfl)) h0 ?_
 try simp only [Act.put, lay_out]
 refine tK 5 (.agg (wdV R1)) rfl (yields_load_row (by rfl) 37 _ rfl (g11) 37 (wdV R1) _ rfl (fun w hw => hw.2.2) Tryz.underlying37 rfl (by kernel_rfl)) h0 ?_
 try simp only [Act.put, lay_out]
 refine wpAnyH_ready (rs := [6]) (by kernel_rfl) (by simp) (AllReadyH.cons rfl (fun K hK => ?_) AllReadyH.nil)
 rw [if_pos (by rfl)]
 go_simp
 go_at_call 13
 (with_reducible refine (HC2.out _ _ G0.out).mono ?_); rintro e y1 ⟨rfl, hz⟩
 have G1 := hid hz
 clear hz
 refine hK.out _ _ (⟨G1.out.bl 4 rfl, G1.out.bl 3 rfl, G1.out.bl 0 rfl⟩) (fun h1x => ?_)
 clear hK K
 try simp only [Act.put, lay_out]
 refine wpAnyH_ready (rs := [7]) (by kernel_rfl) (by simp) (AllReadyH.cons rfl (fun K hK => ?_) AllReadyH.nil)
 rw [if_pos (by rfl)]
 go_simp
 go_at_call 60
 (with_reducible refine (HC3.out _ _ G1.out).mono ?_); rintro e y2 ⟨rfl, hz⟩
 have G2 := hid hz
 clear hz
 refine hK.out _ _ (⟨G2.out.bl 4 rfl, G2.out.bl 3 rfl, G2.out.bl 0 rfl⟩) (fun h2x => ?_)
 clear hK K
 try simp only [Act.put, lay_out]
 refine wpAnyH_ready (rs := [8]) (by kernel_rfl) (by simp) (AllReadyH.cons rfl (fun K hK => ?_) AllReadyH.nil)
 rw [if_pos (by rfl)]
 refine wp_store_row 37 _ _ rfl (w.heap.size + 3) (wdV R9) rfl rfl 37 _ (G2.out.bl 1 rfl) (by kernel_rfl) rfl (by kernel_rfl) ?_
 have G3 := hid (G2.out.rowI hM 1 rfl (wdV R9))
 generalize y2.setRow (w.heap.size + 3) (wdV R9) = y3 at *
 refine hK.out _ _ (⟨G3.out.bl 4 rfl, G3.out.bl 3 rfl, G3.out.bl 0 rfl⟩) (fun h3x => ?_)
 clear hK K
 try simp only [Act.put, lay_out]
 refine wpAnyH_done (by kernel_rfl) ?_ _
 refine NoPanic.normal ?_
 clear h0 h1x h2x h3x
 try simp only [Act.put, lay_out]
 go_wp2
 exact bodyPost_ret (results_cell_row (by rfl) _ _ (w.heap.size + 3) 37 (wdV R9) (0, 0) _ rfl (G3.out.bl 1 rfl) Tryz.underlying37 rfl (by kernel_rfl)) rfl ⟨rfl, G3.out.fin.1.up HLOW.out, G3.out.fin.2⟩
set_option maxHeartbeats 6400000 in
theorem qalike {Pm : World → Nat → Ms → (Nat → Prop) → Prop} (hM : Mach Pm) {lo : Nat} {X : Nat → Prop} {W w : World} {b bd k : Nat} {S S2 : Ms} (K : Int) (A B : Nat → Int) (h : Bz Pm lo X W w b bd S S2) (hp : Pv w) (hl : gpair < lo) (hq : Bq k S) (hk : k + 700 ≤ 100000) (hn : S.n = 2 ∨ S.n = 3) (hK : I64 K) (hA : Wb A) (hB : Wb B) :
  Calls Tryz.prog 30 #[.pointer (some ⟨b, 0, none⟩), .int .i64 K, .agg (wdV A), .agg (wdV B)] w fun e w' => e = .returned (.agg (wdV (bkR S (isDom K) A B))) ∧ Bz Pm lo X W w' b bd (bkS S (isDom K) A B) S2 ∧ ∀ k, X k → w'.heap[k]? = w.heap[k]? := by
 have hl9 := lgW_le 64
 have q1 := xorS_bq hq hn hA hB
 have w1_ := xorR_wb hq (by omega) hn hA hB
 have n1 : (xorS S A B).n = 2 ∨ (xorS S A B).n = 3 := by rw [(xorS_ext S A B).n]; exact hn
 obtain ⟨q2, w2_⟩ := bfX_bq (dom := isDom K) (lgW_le 64) n1 q1 w1_ (j := lgW 64) (by omega)
 have n2 : (bfS (xorS S A B) (isDom K) (xorR S A B) 64).n = 2 ∨ (bfS (xorS S A B) (isDom K) (xorR S A B) 64).n = 3 := by rw [show (bfS (xorS S A B) (isDom K) (xorR S A B) 64).n = (xorS S A B).n from (bfX_ext (isDom K) (lgW 64) (xorS S A B) (xorR S A B) (lgW 64)).n]; exact n1
 have HC1 : Hid (∀ (bs : List (Nat × Obj)) (w' : World), Gy Pm lo X w w w' b bd S S2 bs → Calls Tryz.prog 60 #[.pointer (some ⟨b, 0, none⟩), .agg (wdV A), .agg (wdV B)] w' fun e w2 => e = .returned (.agg (wdV (xorR S A B))) ∧ Gy Pm lo X w w w2 b bd (xorS S A B) S2 bs) := hid (fun bs w' h' => h'.lift (fun _ _ hz => qxor hM (shI hM) A B hz hq (by omega) hn hA hB))
 have HC2 : Hid (∀ (bs : List (Nat × Obj)) (w' : World), Gy Pm lo X w w w' b bd (xorS S A B) S2 bs → Calls Tryz.prog 21 #[.pointer (some ⟨b, 0, none⟩), .int .i64 K, .agg (wdV (xorR S A B)), .int .i64 64] w' fun e w2 => e = .returned (.agg (wdV (bfR (xorS S A B) (isDom K) (xorR S A B) 64))) ∧ Gy Pm lo X w w w2 b bd (bfS (xorS S A B) (isDom K) (xorR S A B) 64) S2 bs) := hid (fun bs w' h' => h'.lift (fun _ _ hz => qfold hM K (xorR S A B) 64 hz (Pv.bz hp hl h'.z) hl q1 (by omega) n1 hK w1_))
 have HC3 : Hid (∀ (bs : List (Nat × Obj)) (w' : World), Gy Pm lo X w w w' b bd (bfS (xorS S A B) (isDom K) (xorR S A B) 64) S2 bs → Calls Tryz.prog 50 #[.pointer (some ⟨b, 0, none⟩), .agg (wdV (bfR (xorS S A B) (isDom K) (xorR S A B) 64))] w' fun e w2 => e = .returned (.agg (wdV (bkR S (isDom K) A B))) ∧ Gy Pm lo X w w w2 b bd (bkS S (isDom K) A B) S2 bs) := hid (fun bs w' h' => h'.lift (fun _ _ hz => qnot hM (shI hM) (bfR (xorS S A B) (isDom K) (xorR S A B) 64) hz q2 (by omega) n2 w2_))
 have HLOW : Hid (Below lo W w) := hid h.low
 obtain ⟨w1, hw1⟩ : ∃ w1, (((w).alloc (.cells (wdV A) 37)).alloc (.cells (wdV B) 37)).alloc (.cells #[.int .i64 0, .int .i64 0, .int .i64 0] 37) = w1 := ⟨_, rfl⟩
 have H1 : Hid (Gy Pm lo X w w w1 b bd S S2 [(w.heap.size + 2, Obj.cells #[.int .i64 0, .int .i64 0, .int .i64 0] 37 (0, 0)), (w.heap.size + 1, Obj.cells (wdV B) 37 (0, 0)), (w.heap.size, Obj.cells (wdV A) 37 (0, 0))]) := hid (by
  have := ((((Gy.start h.base).new hM (wdV A) 37).new hM (wdV B) 37).new hM #[.int .i64 0, .int .i64 0, .int .i64 0] 37)
  rw [hw1] at this
  simp only [sz_al] at this
  exact this)
 have HW := hid hw1
 clear hl9 q1 w1_ q2 w2_ n1 n2 hA hB hK h hq hk hn hp hl hw1
 generalize bkS S (isDom K) A B = S9 at *
 generalize bkR S (isDom K) A B = R9 at *
 generalize bfS (xorS S A B) (isDom K) (xorR S A B) 64 = T2 at *
 generalize bfR (xorS S A B) (isDom K) (xorR S A B) 64 = R2 at *
 generalize xorS S A B = T1 at *
 generalize xorR S A B = R1 at *
 go_enter Tryz.func30, Tryz.ntmps30
 go_upto_region 1 with fail
 rw [HW.out]
 go_wp2_with (first
  | (refine step_load_row rfl 37 _ rfl (w.heap.size) 37 (wdV A) _ rfl (H1.out.bl 2 rfl) Tryz.underlying37 rfl (by kernel_rfl) ?_)
  | (refine step_load_row rfl 37 _ rfl (w.heap.size + 1) 37 (wdV B) _ rfl (H1.out.bl 1 rfl) Tryz.underlying37 rfl (by kernel_rfl) ?_)
  | (go_at_call 60; (with_reducible refine (HC1.out _ _ H1.out).mono ?_); rintro e w2 ⟨rfl, hb⟩; have H2 := hid hb; clear hb)
  | (go_at_call 21; (with_reducible refine (HC2.out _ _ H2.out).mono ?_); rintro e w3 ⟨rfl, hb⟩; have H3 := hid hb; clear hb)
  | (go_at_call 50; (with_reducible refine (HC3.out _ _ H3.out).mono ?_); rintro e w4 ⟨rfl, hb⟩; have H4 := hid hb; clear hb)
  | (refine step_store_row rfl 37 _ _ rfl (w.heap.size + 2) 37 _ (wdV R9) rfl rfl (H4.out.bl 0 rfl) (by kernel_rfl) rfl (by kernel_rfl) ?_))
 have H9 := hid (H4.out.rowI hM 0 rfl (wdV R9))
 exact bodyPost_ret (results_cell_row (by rfl) _ _ (w.heap.size + 2) 37 (wdV R9) (0, 0) _ rfl (H9.out.bl 0 rfl) Tryz.underlying37 rfl (by kernel_rfl)) rfl ⟨rfl, H9.out.fin.1.up HLOW.out, H9.out.fin.2⟩
end Go.Proofs.YthkijncnndoafaaGreatDoor
