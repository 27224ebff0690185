import Derived.WalkKit
import Derived.ProofKit
import Derived.OpenShut
import Derived.SizedLaws
import Derived.BigQuiet
import Derived.Deep.QuietTactic
import Derived.Deep.RegionLaw
import Derived.Laws.CopyOwn
import GoSem.ClaimJoined
import Derived.Deep.Slices
import Derived.Deep.Fields
import Derived.Laws.Rows
import Derived.Laws.Tables
import Derived.Laws.StructEq
import Derived.ChangeKeysEq
import Derived.Deep.WholeRow
import Derived.Deep.RegionHeld3
import Derived.BigRegion
import Derived.StillTailTactics
import Derived.ArgAppend
import Derived.Deep.AppendLies
import Derived.Deep.MidRow
import Derived.Lib.AppendZerosOnto
import Derived.Deep.Matrix
import Derived.Laws.IdiomArrays
import Derived.Deep.RegionHeld
import Derived.Test.YthkijncnndoafaaGreatDoorGen
import Derived.ChangeArms
import Derived.Test.YthkijncnndoafaaGreatDoorProg
import Derived.Test.YthkijncnndoafaaGreatDoorTmd
import Derived.Test.YthkijncnndoafaaGreatDoorSgw
import Derived.Test.YthkijncnndoafaaGreatDoorShp
import Derived.Test.YthkijncnndoafaaGreatDoorWlm
import Derived.Test.YthkijncnndoafaaGreatDoorAcw
import Derived.Test.YthkijncnndoafaaGreatDoorWdg
import Derived.Test.YthkijncnndoafaaGreatDoorOcb
import Derived.Test.YthkijncnndoafaaGreatDoorWde
import Derived.Test.YthkijncnndoafaaGreatDoorMpw
import Derived.Test.YthkijncnndoafaaGreatDoorFrp
import Derived.Test.YthkijncnndoafaaGreatDoorFrq
import Derived.Test.YthkijncnndoafaaGreatDoorShy
import Derived.Test.YthkijncnndoafaaGreatDoorTmi
import Derived.Test.YthkijncnndoafaaGreatDoorTmc
import Derived.Test.YthkijncnndoafaaGreatDoorBta
import Derived.Test.YthkijncnndoafaaGreatDoorBtb
import Derived.Test.YthkijncnndoafaaGreatDoorBtc
import Derived.Test.YthkijncnndoafaaGreatDoorBtf
namespace Go.Proofs.YthkijncnndoafaaGreatDoor
open Go.ChangeShapes Go.WideShapes Go.ChangeAt Go.RowKit

section row
variable {H : Type} {enc : TypeId × Value → H} {P : Program}

end row

open Go.RowKit

open Go.ChangeShapes Go.WideShapes Go.ChangeAt Go.RowKit Go.Deep

open Go.RowKit

open Go.ChangeShapes Go.WideShapes Go.ChangeAt Go.RowKit

section prog
variable {P : Program}

end prog
section prog2
variable {P : Program}
end prog2

open Go.RowKit

section
variable {P : Program} {ops : Array Oper} {S : World → Prop} {o : Oper} {a : Act}
end

open Go.ChangeShapes Go.WideShapes Go.ChangeAt Go.RowKit

open Go.ChangeShapes Go.WideShapes Go.ChangeAt Go.RowKit

section
variable {w w' : World} {n g off b B : Nat} {f : Nat → Nat}
end

section
variable {P : Program} (w : World)
end

section
variable {w w' : World} {B c m cap n b : Nat} {E : TypeId} {gs os cs : Nat → Nat} {F : Nat → Nat → Nat}
end

section
variable {P : Program} {w : World} {o : Oper} {a : Act}
end

open Go.RowKit
set_option maxRecDepth 100000
section
variable {b : Nat} {w w' : World} {v : Value} {xs : List Int}
end
section
variable {b : Nat} {w w' : World} {v : Value} {xs : List Int} {l : List (Value × List Int)}
end
section
variable {α : Type} {a b c d e f g x : α} {l : List α}
end
open Go.ChangeShapes Go.WideShapes Go.ChangeAt Go.RowKit

section
variable {P : Program} (w : World)
end
open Go.ChangeShapes Go.WideShapes Go.ChangeAt Go.RowKit Go.Deep

open Go.ChangeAt Go.RowKit
set_option maxRecDepth 100000

open Go.ChangeShapes Go.WideShapes Go.ChangeAt Go.RowKit Go.Deep

theorem rd_of_part {H : Type} {enc : TypeId × Value → H} {P : Program} {W : World} {held : Bool} {k : IntKind} {t e : TypeId} {d : DataW H} {p : List MemPlace} {v : Value} {fuel : Nat}
  (ht : P.underlying t = some (.slice e)) (he : P.underlying e = some (.int k)) (hc : P.cellsOf e = 1) (hb : P.bytesOf e = k.bits / 8)
  (hf : DataW.trod enc P W 0 (fun _ => true) held fuel t [v] = some (d, p)) (hlt : ∀ x ∈ p, x.block < W.heap.size) (hw : ∀ m ∈ d.weights P t, m ≤ reachBytes) :
  ∃ zs, Rd k W v zs ∧ ∀ a n c, v = .slice a n c → n ≤ c ∧ c ≤ maxLen := by
 rcases open_ints ht he hc hf with ⟨hcs, hx⟩ | ⟨a, len, cap, zs, hcs, _, hl, hm, hz, hx, hcell, hwz⟩
 ·
  simp at hcs
  subst hcs
  exact ⟨[], ⟨none, 0, rfl, by simp, by simp, by simp⟩, fun a n c e => by injection e with e1 e2 e3; subst e2; subst e3; unfold maxLen; omega⟩
 ·
  simp at hcs
  subst hcs
  simp only [Prod.mk.injEq] at hx
  obtain ⟨rfl, rfl⟩ := hx
  simp only [if_true] at hz
  have hreach := hw _ (by simp only [DataW.weights, ht]; exact .head _)
  rw [hb] at hreach
  simp only [lits, List.length_map, List.length_take, List.length_drop, reachBytes] at hreach
  have hle : (zs.take len).length = len := by simp; omega
  refine ⟨zs.take len, ⟨some a, cap, by rw [hle], ?_, fun z hz' => hwz z (List.mem_of_mem_take hz'), fun hp => ?_⟩, fun a n c e => by injection e with e1 e2 e3; subst e2; subst e3; exact ⟨hl, hm⟩⟩
  ·
   rw [hle]
   refine Nat.le_trans (Nat.mul_le_mul_right _ ?_) hreach
   omega
  ·
   rw [hle] at hp ⊢
   obtain ⟨b, off, spot⟩ := a
   have hspot : spot = none := by simpa [Addr.add] using World.cell?_spot (hcell 0 (by omega))
   subst hspot
   refine ⟨b, off, rfl, hlt (.cell b off) (MemPlace.mem_row.2 ⟨0, by omega, by simp⟩), fun j hj => ?_⟩
   have := hcell j (by omega)
   rw [add_plain] at this
   rw [this]
   simp [nth, List.getD, hj]
open Go.RowKit
section
variable {P : Program}
end
open Go.ChangeShapes Go.WideShapes Go.ChangeAt Go.RowKit

section
variable {k : IntKind} {w w' : World} {B : Nat} {E : TypeId} {v v' : Value} {us : List Value} {Z : List (List Int)}
end

open Go.ChangeShapes Go.WideShapes Go.ChangeAt Go.RowKit

section
variable {P : Program} {md : Region.Mode} {ops : Array Oper} {Q : Exit → Act → World → Prop} {S S' : World → Prop}
end
section
variable {P : Program} {md : Region.Mode} {ops : Array Oper} {S : World → Prop} {Q : Exit → Act → World → Prop}
end
open Go.ChangeShapes Go.WideShapes Go.ChangeAt Go.RowKit Go.Deep

theorem each_has {H : Type} {P : Program} : ∀ {ts : List TypeId} {l : List (DataW H)} {i : Nat} {t : TypeId} {d : DataW H}, ts[i]? = some t → l[i]? = some d → ∀ n ∈ d.weights P t, n ∈ DataW.weightsEach P ts l
 | t :: ts, d :: l, 0, _, _, h1, h2, n, hn => by
  injection h1 with h1; injection h2 with h2; subst h1 h2
  rw [DataW.weightsEach]; exact List.mem_append_left _ hn
 | t :: ts, d :: l, i + 1, _, _, h1, h2, n, hn => by
  rw [DataW.weightsEach]; exact List.mem_append_right _ (each_has (i := i) (by simpa using h1) (by simpa using h2) n hn)
 | [], _, _, _, _, h1, _, _, _ => by simp at h1
 | _ :: _, [], _, _, _, _, h2, _, _ => by simp at h2

section
variable {t f g : Nat → Nat}
end
def cb (q : Fin 5 → Bool) : Fin 5 → Bool := fun x => (q x).xor (q (x + 2) && !(q (x + 1)))
section
variable {t mk f g : Nat → Nat}
end
open Go.RowKit
set_option maxRecDepth 100000
section
variable {Pm : World → Nat → Ms → (Nat → Prop) → Prop} (hM : Mach Pm) {lo : Nat} {X : Nat → Prop} {W w : World} {b bd k : Nat} {S S2 : Ms}
include hM
variable {V : World → (Nat → Prop) → Prop} (hT : TmI Pm V)
include hT
end
theorem tdraws_any (n : Int) (w : World) : Calls Tryz.prog 39 #[.int .i64 n] w fun e w' => e = .returned (.int .i64 (tmD n)) ∧ w' = w := by
 unfold tmD
 by_cases h2 : n = 2
 ·
  subst h2
  go_enter Tryz.func39, Tryz.ntmps39
  go_wp2
  go_ret
  exact ⟨rfl, rfl⟩
 ·
  by_cases h3 : n = 3
  ·
   subst h3
   go_enter Tryz.func39, Tryz.ntmps39
   go_wp2
   go_ret
   exact ⟨rfl, rfl⟩
  ·
   rw [if_neg h2, if_neg h3]
   have q2 : ((n : Int) == 2) = false := by simpa using h2
   have q3 : ((n : Int) == 3) = false := by simpa using h3
   clear h2 h3
   go_enter Tryz.func39, Tryz.ntmps39
   go_wp2
   go_ret
   exact ⟨rfl, rfl⟩
open Go.RowKit
set_option maxRecDepth 100000
theorem rdraws_any (n : Int) (w : World) : Calls Tryz.prog 38 #[.int .i64 n] w fun e w' => e = .returned (.int .i64 (frD n)) ∧ w' = w := by
 unfold frD
 by_cases h2 : n = 2
 ·
  subst h2
  go_enter Tryz.func38, Tryz.ntmps38
  go_wp2
  go_ret
  exact ⟨rfl, rfl⟩
 ·
  by_cases h3 : n = 3
  ·
   subst h3
   go_enter Tryz.func38, Tryz.ntmps38
   go_wp2
   go_ret
   exact ⟨rfl, rfl⟩
  ·
   rw [if_neg h2, if_neg h3]
   have q2 : ((n : Int) == 2) = false := by simpa using h2
   have q3 : ((n : Int) == 3) = false := by simpa using h3
   clear h2 h3
   go_enter Tryz.func38, Tryz.ntmps38
   go_wp2
   go_ret
   exact ⟨rfl, rfl⟩
section
variable {Pm : World → Nat → Ms → (Nat → Prop) → Prop} (hM : Mach Pm) {lo : Nat} {X : Nat → Prop} {W w : World} {b bd k : Nat} {S S2 : Ms}
include hM
end

section
variable {S : Ms} {k : Nat} {dom : Bool} {A B : Nat → Int} {x y : Nat}
def anN (y : Nat → Nat) : Nat → Nat
 | 0 => y 0
 | j + 1 => anN y j ||| y (j + 1)
theorem bnX_sf {V : Nat → Nat → Int} {z : Nat → Nat} (W : Wt S) (hq : Bq k S) (wV : ∀ j, Wb (V j)) : ∀ {j}, k + 60 * j ≤ 1000000 → (∀ i, i ≤ j → Sf S (V i) (z i)) → (bnX dom V S j).1.e = 0 → Sf (bnX dom V S j).1 (bnX dom V S j).2 (anN z j) ∧ S.e = 0
 | 0, _, hV, h => ⟨hV 0 (Nat.le_refl _), h⟩
 | j + 1, hk, hV, h => by
  have k0 : k + 60 * j ≤ 1000000 := by clear h; omega
  have k1 : k + 60 * j + 60 ≤ 1000000 := by clear h; omega
  obtain ⟨q1, q2⟩ := bnX_bq (dom := dom) hq wV (j := j) k0
  have hX := bnX_ext dom V S j
  have e0 : (bnX dom V S j).1.e = 0 := bo_e h
  obtain ⟨a1, a2⟩ := bnX_sf W hq wV (j := j) k0 (fun i hi => hV i (Nat.le_succ_of_le hi)) e0
  exact ⟨(bo_sf (W.ext hX) q1 k1 q2 (wV _) a1 ((hV (j + 1) (Nat.le_refl _)).ext hX) h).1, a2⟩
end
open Go.RowKit
set_option maxRecDepth 100000
set_option maxHeartbeats 6400000 in
theorem yless {Pm : World → Nat → Ms → (Nat → Prop) → Prop} (hM : Mach Pm) {lo : Nat} {X : Nat → Prop} {W w : World} {b bd k : Nat} {S S2 : Ms} (K : Int) (A B : Nat → Int) (h : Bz Pm lo X W w bd b S2 S) (hq : Bq k S) (hk : k + 70 ≤ 100000) (hn : S.n = 2 ∨ S.n = 3) (hK : I64 K) (hA : Wb A) (hB : Wb B) :
  Calls Tryz.prog 16 #[.pointer (some ⟨b, 0, none⟩), .int .i64 K, .agg (wdV A), .agg (wdV B)] w fun e w' => e = .returned (.agg (wdV (blR S (isDom K) A B))) ∧ Bz Pm lo X W w' bd b S2 (blS S (isDom K) A B) ∧ ∀ k, X k → w'.heap[k]? = w.heap[k]? := by
 have HC1 : Hid (∀ (bs : List (Nat × Obj)) (w' : World), Gy Pm lo X w w w' bd b S2 S bs → Calls Tryz.prog 51 #[.pointer (some ⟨b, 0, none⟩), .agg (wdV A)] w' fun e w2 => e = .returned (.agg (wdV (notR S A))) ∧ Gy Pm lo X w w w2 bd b S2 (notS S A) bs) := hid (fun bs w' h' => h'.lift (fun _ _ hz => ynot hM hz hq (by omega) A hA))
 have HC2 : Hid (∀ (bs : List (Nat × Obj)) (w' : World), Gy Pm lo X w w w' bd b S2 (notS S A) bs → Calls Tryz.prog 14 #[.pointer (some ⟨b, 0, none⟩), .int .i64 K, .agg (wdV (notR S A)), .agg (wdV B)] w' fun e w2 => e = .returned (.agg (wdV (blR S (isDom K) A B))) ∧ Gy Pm lo X w w w2 bd b S2 (blS S (isDom K) A B) bs) := hid (fun bs w' h' => h'.lift (fun _ _ hz => yand hM K (notR S A) B hz (notS_bq hq hA) (by omega) (by rw [(notS_ext S A).n]; exact hn) hK (notR_wb hq (by omega) hA) hB))
 have HLOW : Hid (Below lo W w) := hid h.low
 obtain ⟨w1, hw1⟩ : ∃ w1, (((w).alloc (.cells (wdV A) 37)).alloc (.cells (wdV B) 37)).alloc (.cells #[.int .i64 0, .int .i64 0, .int .i64 0] 37) = w1 := ⟨_, rfl⟩
 have H1 : Hid (Gy Pm lo X w w w1 bd b S2 S [(w.heap.size + 2, Obj.cells #[.int .i64 0, .int .i64 0, .int .i64 0] 37 (0, 0)), (w.heap.size + 1, Obj.cells (wdV B) 37 (0, 0)), (w.heap.size, Obj.cells (wdV A) 37 (0, 0))]) := hid (by
  have := ((((Gy.start h.base).new hM (wdV A) 37).new hM (wdV B) 37).new hM #[.int .i64 0, .int .i64 0, .int .i64 0] 37)
  rw [hw1] at this
  simp only [sz_al] at this
  exact this)
 have HW := hid hw1
 clear hA hB hK h hq hk hn hw1
 generalize blS S (isDom K) A B = S9 at *
 generalize blR S (isDom K) A B = R9 at *
 generalize notS S A = T1 at *
 generalize notR S A = R1 at *
 go_enter Tryz.func16, Tryz.ntmps16
 go_upto_region 1 with fail
 rw [HW.out]
 have G0 := hid (H1.out.self hM ((Below.refl _ w1).drew))
 refine wp_region_noPanic ?_
 refine wp_region_held_drew (S := fun w' => w'.heap[w.heap.size]? = some (.cells (wdV A) 37 (0, 0)) ∧ w'.heap[w.heap.size + 1]? = some (.cells (wdV B) 37 (0, 0))) (by kernel_rfl) (⟨G0.out.bl 2 rfl, G0.out.bl 1 rfl⟩) (fun h0 => ?_)
 generalize w1.drew = y0 at *
 refine tK 0 (.pointer (some ⟨b, 0, none⟩)) rfl (.inl ⟨by rfl, fun w hw => by clear hw; go_simp⟩) h0 ?_
 try simp only [Act.put, lay_out]
 refine tK 1 (.int .i64 K) rfl (.inl ⟨by rfl, fun w hw => by clear hw; go_simp⟩) h0 ?_
 try simp only [Act.put, lay_out]
 refine tK 2 (.pointer (some ⟨b, 0, none⟩)) rfl (.inl ⟨by rfl, fun w hw => by clear hw; go_simp⟩) h0 ?_
 try simp only [Act.put, lay_out]
 refine tK 3 (.agg (wdV A)) rfl (yields_load_row (by rfl) 37 _ rfl (w.heap.size) 37 (wdV A) _ rfl (fun w hw => hw.1) Tryz.underlying37 rfl (by kernel_rfl)) h0 ?_
 try simp only [Act.put, lay_out]
 refine tK 5 (.agg (wdV B)) rfl (yields_load_row (by rfl) 37 _ rfl (w.heap.size + 1) 37 (wdV B) _ rfl (fun w hw => hw.2) Tryz.underlying37 rfl (by kernel_rfl)) h0 ?_
 try simp only [Act.put, lay_out]
 refine wpAnyH_ready (rs := [4]) (by kernel_rfl) (by simp) (AllReadyH.cons rfl (fun K hK => ?_) AllReadyH.nil)
 rw [if_pos (by rfl)]
 go_simp
 go_at_call 51
 (with_reducible refine (HC1.out _ _ G0.out).mono ?_); rintro e y1 ⟨rfl, hz⟩
 have G1 := hid hz
 clear hz
 refine hK.out _ _ (⟨G1.out.bl 2 rfl, G1.out.bl 1 rfl⟩) (fun h1x => ?_)
 clear hK K
 try simp only [Act.put, lay_out]
 refine wpAnyH_ready (rs := [6]) (by kernel_rfl) (by simp) (AllReadyH.cons rfl (fun K hK => ?_) AllReadyH.nil)
 rw [if_pos (by rfl)]
 go_simp
 go_at_call 14
 (with_reducible refine (HC2.out _ _ G1.out).mono ?_); rintro e y2 ⟨rfl, hz⟩
 have G2 := hid hz
 clear hz
 refine hK.out _ _ (⟨G2.out.bl 2 rfl, G2.out.bl 1 rfl⟩) (fun h2x => ?_)
 clear hK K
 try simp only [Act.put, lay_out]
 refine wpAnyH_ready (rs := [7]) (by kernel_rfl) (by simp) (AllReadyH.cons rfl (fun K hK => ?_) AllReadyH.nil)
 rw [if_pos (by rfl)]
 refine wp_store_row 37 _ _ rfl (w.heap.size + 2) (wdV R9) rfl rfl 37 _ (G2.out.bl 0 rfl) (by kernel_rfl) rfl (by kernel_rfl) ?_
 have G3 := hid (G2.out.rowI hM 0 rfl (wdV R9))
 generalize y2.setRow (w.heap.size + 2) (wdV R9) = y3 at *
 refine hK.out _ _ (⟨G3.out.bl 2 rfl, G3.out.bl 1 rfl⟩) (fun h3x => ?_)
 clear hK K
 try simp only [Act.put, lay_out]
 refine wpAnyH_done (by kernel_rfl) ?_ _
 refine NoPanic.normal ?_
 clear h0 h1x h2x h3x
 try simp only [Act.put, lay_out]
 go_wp2
 exact bodyPost_ret (results_cell_row (by rfl) _ _ (w.heap.size + 2) 37 (wdV R9) (0, 0) _ rfl (G3.out.bl 0 rfl) Tryz.underlying37 rfl (by kernel_rfl)) rfl ⟨rfl, G3.out.fin.1.up HLOW.out, G3.out.fin.2⟩
open Go.RowKit
set_option maxRecDepth 100000

set_option maxHeartbeats 6400000 in
theorem yany {Pm : World → Nat → Ms → (Nat → Prop) → Prop} (hM : Mach Pm) {lo : Nat} {X : Nat → Prop} {W w : World} {b bd k : Nat} {S S2 : Ms} (K : Int) (V : Nat → Nat → Int) (L : Nat) (v : Value) (h : Bz Pm lo X W w bd b S2 S) (hq : Bq k S) (hk : k + 60 * L + 200 ≤ 100000) (hn : S.n = 2 ∨ S.n = 3) (hK : I64 K) (hV : ∀ j, Wb (V j)) (hr : WsR w v L V X) :
  Calls Tryz.prog 20 #[.pointer (some ⟨b, 0, none⟩), .int .i64 K, v] w fun e w' => e = .returned (.agg (wdV (bnR S (isDom K) V L))) ∧ Bz Pm lo X W w' bd b S2 (bnS S (isDom K) V L) ∧ ∀ k, X k → w'.heap[k]? = w.heap[k]? := by
 have HC0 : Hid (∀ (bs : List (Nat × Obj)) (w' : World), Gy Pm lo X w w w' bd b S2 S bs → Calls Tryz.prog 12 #[.pointer (some ⟨b, 0, none⟩), .int .i64 3, .int .u64 0] w' fun e w2 => e = .returned (.agg (wdV (cstR S 3 0))) ∧ Gy Pm lo X w w w2 bd b S2 (cstS S 3 0) bs) := hid (fun bs w' h' => h'.lift (fun _ _ hz => ycst hM hz hq (by omega) hn 3 (i64k 3 (by decide) (by decide)) 0 (by decide)))
 have HC1 : Hid (∀ i, 0 < i → i < L → ∀ (bs : List (Nat × Obj)) (w' : World), Gy Pm lo X w w w' bd b S2 (bnX (isDom K) V S (i - 1)).1 bs → Calls Tryz.prog 18 #[.pointer (some ⟨b, 0, none⟩), .int .i64 K, .agg (wdV (bnX (isDom K) V S (i - 1)).2), .agg (wdV (V i))] w' fun e w2 => e = .returned (.agg (wdV (bnX (isDom K) V S i).2)) ∧ Gy Pm lo X w w w2 bd b S2 (bnX (isDom K) V S i).1 bs) := hid (fun i h0 hj bs w' h' => h'.lift (fun _ _ hz => by
  obtain ⟨j, rfl⟩ : ∃ j, i = j + 1 := ⟨i - 1, by omega⟩
  rw [Nat.add_sub_cancel] at hz ⊢
  obtain ⟨b1, b2⟩ := bnX_bq (dom := isDom K) hq hV (j := j) (by omega)
  exact yor hM K (bnX (isDom K) V S j).2 (V (j + 1)) hz b1 (by omega) (by rw [(bnX_ext (isDom K) V S j).n]; exact hn) hK b2 (hV (j + 1))))
 have HLB : Hid (L ≤ 2000) := hid (by omega)
 obtain ⟨va, cap, rfl, hcl, hcm, hrd⟩ := hr
 have HLOW : Hid (Below lo W w) := hid h.low
 obtain ⟨w1, hw1⟩ : ∃ w1, (w).alloc (.cells #[.int .i64 0, .int .i64 0, .int .i64 0] 37) = w1 := ⟨_, rfl⟩
 have H1 : Hid (Gy Pm lo X w w w1 bd b S2 S [(w.heap.size, Obj.cells #[.int .i64 0, .int .i64 0, .int .i64 0] 37 (0, 0))]) := hid (by
  have := ((Gy.start h.base).new hM #[.int .i64 0, .int .i64 0, .int .i64 0] 37)
  rw [hw1] at this
  skip
  exact this)
 have HW := hid hw1
 clear hV hK h hq hk hn hw1
 by_cases hL : L = 0
 ·
  subst hL
  clear HC1 hrd
  have e1 : bnR S (isDom K) V 0 = cstR S 3 0 := if_pos rfl
  have e2 : bnS S (isDom K) V 0 = cstS S 3 0 := if_pos rfl
  rw [e1, e2]
  clear e1 e2
  generalize cstS S 3 0 = S9 at *
  generalize cstR S 3 0 = R9 at *
  go_enter Tryz.func20, Tryz.ntmps20
  go_upto_region 1 with fail
  rw [HW.out]
  go_wp2_with (first
   | (go_at_call 12; (with_reducible refine (HC0.out _ _ H1.out).mono ?_); rintro e w2 ⟨rfl, hb⟩; have H2 := hid hb; clear hb)
   | (refine step_store_row rfl 37 _ _ rfl (w.heap.size) 37 _ (wdV R9) rfl rfl (H2.out.bl 0 rfl) (by kernel_rfl) rfl (by kernel_rfl) ?_))
  have H9 := hid (H2.out.rowI hM 0 rfl (wdV R9))
  exact bodyPost_ret (results_cell_row (by rfl) _ _ (w.heap.size) 37 (wdV R9) (0, 0) _ rfl (H9.out.bl 0 rfl) Tryz.underlying37 rfl (by kernel_rfl)) rfl ⟨rfl, H9.out.fin.1.up HLOW.out, H9.out.fin.2⟩
 ·
  clear HC0
  obtain ⟨g, off, rfl, hX, hg, hcell⟩ := hrd (by omega)
  have e1 : bnR S (isDom K) V L = (bnX (isDom K) V S (L - 1)).2 := if_neg hL
  have e2 : bnS S (isDom K) V L = (bnX (isDom K) V S (L - 1)).1 := if_neg hL
  rw [e1, e2]
  clear e1 e2
  obtain ⟨St, hSt⟩ : ∃ St : Nat → Ms, ∀ j, (bnX (isDom K) V S j).1 = St j := ⟨_, fun _ => rfl⟩
  obtain ⟨R, hR⟩ : ∃ R : Nat → Nat → Int, ∀ j, (bnX (isDom K) V S j).2 = R j := ⟨_, fun _ => rfl⟩
  have HS0 : Hid (S = St 0 ∧ V 0 = R 0) := hid ⟨hSt 0, hR 0⟩
  simp only [hSt, hR] at HC1 ⊢
  clear hSt hR
  have HCE : Hid (∀ (wx : World) (S' : Ms) (bs : List (Nat × Obj)), Gy Pm lo X w w wx bd b S2 S' bs → ∀ j, j < L → ∀ c, c < 3 → wx.cell? ⟨g, off + j * 3 + c, none⟩ = some (.int .i64 (V j c))) := hid (fun wx S' bs hg' j hj c hc => by
   have h2 := (hg'.st g hX).2
   rw [← hcell j hj c hc]
   unfold World.cell?
   rw [h2])
  have HLL : Hid (0 < L) := hid (by omega)
  have l0 : (0 : Int) < (L : Int) := by omega
  have HLC : Hid (L ≤ cap) := hid hcl
  have q0 : ((L : Int) == 0) = false := by simp; omega
  clear hrd hX hg hcell hL hcm
  go_enter Tryz.func20, Tryz.ntmps20
  go_upto_region 1 with fail
  rw [HW.out]
  go_upto_region 4 with (refine step_load_wdm rfl _ rfl g off (V 0) rfl (fun c hc => by have := HCE.out _ _ _ H1.out 0 HLL.out c hc; rw [Nat.zero_mul, Nat.add_zero] at this; exact this) ?_)
  have H2 := hid (H1.out.new hM (wdV (V 0)) 37)
  obtain ⟨g7, hg7⟩ : ∃ g7, w1.heap.size = g7 := ⟨_, rfl⟩
  rw [hg7] at H2
  have H3 : Hid (Gy Pm lo X w w (w1.alloc (.cells #[.int .i64 (V 0 0), .int .i64 (V 0 1), .int .i64 (V 0 2)] 37)) bd b S2 (St 0) [(g7, Obj.cells (wdV (R 0)) 37 (0, 0)), (w.heap.size, Obj.cells #[.int .i64 0, .int .i64 0, .int .i64 0] 37 (0, 0))]) := hid (by have := H2.out; rw [← HS0.out.1, ← HS0.out.2]; exact this)
  generalize w1.alloc (.cells #[.int .i64 (V 0 0), .int .i64 (V 0 1), .int .i64 (V 0 2)] 37) = w3 at *
  rw [hg7]
  clear hg7 H2 H1 q0
  go_wp2
  go_loopw [8] (fun iv wr => ∃ j : Nat, 0 < j ∧ j ≤ L ∧ iv = .int .i64 (j : Int) ∧ Gy Pm lo X w w wr bd b S2 (St (j - 1)) [(g7, Obj.cells (wdV (R (j - 1))) 37 (0, 0)), (w.heap.size, Obj.cells #[.int .i64 0, .int .i64 0, .int .i64 0] 37 (0, 0))]) (fun iv _ => L - (intOf iv).toNat)
  case atStart => exact ⟨1, by decide, HLL.out, rfl, H3.out⟩
  case round =>
   clear H3
   obtain ⟨j, h0, hj, rfl, hJ⟩ := hrel
   have HJ := hid hJ
   clear hJ
   have hlb := HLB.out
   by_cases hlt : j < L
   ·
    have j1 : (j : Int) < (L : Int) := by omega
    have j0 : (0 : Int) ≤ (j : Int) := by omega
    have HJL : Hid (j < L) := hid hlt
    have HJP : Hid (0 < j) := hid h0
    replace HC1 := hid (HC1.out j h0 hlt)
    clear hj hlt h0
    go_upto_region 7 with fail
    have G0 := hid (HJ.out.self hM ((Below.refl _ wr).drew))
    refine wp_region_rt (fun w' => True) (fun w' => w'.heap[g7]? = some (.cells (wdV (R (j - 1))) 37 (0, 0)) ∧ ∀ c, c < 3 → w'.cell? ⟨g, off + j * 3 + c, none⟩ = some (.int .i64 (V j c))) 8 (by kernel_rfl) (⟨trivial, G0.out.bl 0 rfl, HCE.out _ _ _ G0.out j HJL.out⟩) (fun h0 => ?_)
    generalize wr.drew = y0 at *
    refine rt_takeA (i := 0) (v := .pointer (some ⟨b, 0, none⟩)) rfl (by kernel_rfl) (by kernel_rfl) (by kernel_rfl) rfl (fun _ _ _ h => h) (.inl ⟨by rfl, fun w hw => by clear hw; go_simp⟩) h0 ?_
    try simp only [Act.put, lay_out]
    refine rt_takeA (i := 1) (v := .int .i64 K) rfl (by kernel_rfl) (by kernel_rfl) (by kernel_rfl) rfl (fun _ _ _ h => h) (.inl ⟨by rfl, fun w hw => by clear hw; go_simp⟩) h0 ?_
    try simp only [Act.put, lay_out]
    refine rt_takeT (i := 2) (v := .agg (wdV (R (j - 1)))) rfl (by kernel_rfl) (by kernel_rfl) (by kernel_rfl) rfl (by kernel_rfl) (by kernel_rfl) (fun _ _ _ h => h) (yields_load_row (by rfl) 37 _ rfl (g7) 37 (wdV (R (j - 1))) _ rfl (fun w hw => hw.1) Tryz.underlying37 rfl (by kernel_rfl)) h0 ?_
    try simp only [Act.put, lay_out]
    refine rt_takeA (i := 3) (v := .slice (some ⟨g, off, none⟩) L cap) rfl (by kernel_rfl) (by kernel_rfl) (by kernel_rfl) rfl (fun _ _ _ h => h) (.inl ⟨by rfl, fun w hw => by clear hw; go_simp⟩) h0 ?_
    try simp only [Act.put, lay_out]
    refine rt_takeA (i := 4) (v := .int .i64 (j : Int)) rfl (by kernel_rfl) (by kernel_rfl) (by kernel_rfl) rfl (fun _ _ _ h => h) (.inl ⟨by rfl, fun w hw => by clear hw; go_simp⟩) h0 ?_
    try simp only [Act.put, lay_out]
    refine rt_takeA (i := 5) (v := .pointer (some ⟨g, off + j * 3, none⟩)) rfl (by kernel_rfl) (by kernel_rfl) (by kernel_rfl) rfl (fun _ _ _ h => h) (.inl ⟨by rfl, fun w hw => by clear hw; go_simp⟩) h0 ?_
    try simp only [Act.put, lay_out]
    refine rt_takeT (i := 6) (v := .agg (wdV (V j))) rfl (by kernel_rfl) (by kernel_rfl) (by kernel_rfl) rfl (by kernel_rfl) (by kernel_rfl) (fun _ _ _ h => h) (yields_load_wdm (by rfl) _ rfl g (off + j * 3) (V j) rfl (fun w hw => hw.2)) h0 ?_
    try simp only [Act.put, lay_out]
    refine rt_ready (rs := [7]) (by kernel_rfl) (by simp) (RtReady.consT rfl (fun K hK => ?_) RtReady.nil)
    rw [if_pos (by rfl)]
    go_simp
    go_at_call 18
    (with_reducible refine (HC1.out _ _ G0.out).mono ?_); rintro e y1 ⟨rfl, hz⟩
    have G1 := hid hz
    clear hz
    refine hK.out _ _ (⟨trivial, G1.out.bl 0 rfl, HCE.out _ _ _ G1.out j HJL.out⟩) (fun h1x => ?_)
    clear hK K
    try simp only [Act.put, lay_out]
    refine rt_ready (rs := [8]) (by kernel_rfl) (by simp) (RtReady.consS rfl (by kernel_rfl) (fun K hK => ?_) RtReady.nil)
    rw [if_pos (by rfl)]
    refine wp_store_row 37 _ _ rfl g7 (wdV (R j)) rfl rfl 37 _ (G1.out.bl 0 rfl) (by kernel_rfl) rfl (by kernel_rfl) ?_
    have G3 := hid (G1.out.rowI hM 0 rfl (wdV (R j)))
    generalize y1.setRow g7 (wdV (R j)) = y3 at *
    refine hK.out _ _ (trivial) (fun h2x => ?_)
    clear hK K
    try simp only [Act.put, lay_out]
    refine rt_done (by kernel_rfl) ?_ _
    try refine NoPanic.normal ?_
    clear h0 h1x h2x
    try simp only [Act.put, lay_out]
    go_wp2
    go_roundw
    case rel => exact ⟨j + 1, Nat.succ_pos j, HJL.out, by go_num, G3.out⟩
    case measure => have := HJL.out; simp [intOf]; omega
   ·
    obtain rfl : L = j := by omega
    clear hlt hj h0
    go_wp2_with (first
     | (refine step_load_row rfl 37 _ rfl (g7) 37 (wdV (R (L - 1))) _ rfl (HJ.out.bl 0 rfl) Tryz.underlying37 rfl (by kernel_rfl) ?_)
     | (refine step_store_row rfl 37 _ _ rfl (w.heap.size) 37 _ (wdV (R (L - 1))) rfl rfl (HJ.out.bl 1 rfl) (by kernel_rfl) rfl (by kernel_rfl) ?_))
    have H9 := hid (HJ.out.rowI hM 1 rfl (wdV (R (L - 1))))
    exact bodyPost_ret (results_cell_row (by rfl) _ _ (w.heap.size) 37 (wdV (R (L - 1))) (0, 0) _ rfl (H9.out.bl 1 rfl) Tryz.underlying37 rfl (by kernel_rfl)) rfl ⟨rfl, H9.out.fin.1.up HLOW.out, H9.out.fin.2⟩
open Go.RowKit
set_option maxRecDepth 100000
def baD (n : Int) : Int := frD n + tmD n
def baN (n : Int) : Int := if n = 2 then 12 else if n = 3 then 33 else 0
theorem frD_le (n : Int) : 0 ≤ frD n ∧ frD n ≤ 3 := by
 unfold frD
 repeat' split
 all_goals omega
theorem tmD_le (n : Int) : 0 ≤ tmD n ∧ tmD n ≤ 3 := by
 unfold tmD
 repeat' split
 all_goals omega
theorem tdr0_any (n : Int) (w : World) : Calls Tryz.prog 37 #[.int .i64 n] w fun e w' => e = .returned (.int .i64 (tmD n)) ∧ w' = w := by
 unfold tmD
 by_cases h2 : n = 2
 ·
  subst h2
  go_enter Tryz.func37, Tryz.ntmps37
  go_wp2
  go_ret
  exact ⟨rfl, rfl⟩
 ·
  by_cases h3 : n = 3
  ·
   subst h3
   go_enter Tryz.func37, Tryz.ntmps37
   go_wp2
   go_ret
   exact ⟨rfl, rfl⟩
  ·
   rw [if_neg h2, if_neg h3]
   have q2 : ((n : Int) == 2) = false := by simpa using h2
   have q3 : ((n : Int) == 3) = false := by simpa using h3
   clear h2 h3
   go_enter Tryz.func37, Tryz.ntmps37
   go_wp2
   go_ret
   exact ⟨rfl, rfl⟩
theorem bdr_any (n : Int) (w : World) : Calls Tryz.prog 7 #[.int .i64 n] w fun e w' => e = .returned (.int .i64 (baD n)) ∧ w' = w := by
 have h1 := frD_le n
 have h2 := tmD_le n
 have e1 : IntKind.i64.wrap (frD n + tmD n) = baD n := by unfold baD; rw [IntKind.wrap_i64]; omega
 go_enter Tryz.func7, Tryz.ntmps7
 go_wp2_with (first
  | (go_at_call 36; (with_reducible refine (fdraws_any n _).mono ?_); rintro e w1 ⟨rfl, rfl⟩)
  | (go_at_call 37; (with_reducible refine (tdr0_any n _).mono ?_); rintro e w1 ⟨rfl, rfl⟩))
 go_ret
 exact ⟨by first | rw [e1] | rfl, rfl⟩
theorem rbdr_any (n : Int) (w : World) : Calls Tryz.prog 8 #[.int .i64 n] w fun e w' => e = .returned (.int .i64 (baD n)) ∧ w' = w := by
 have h1 := frD_le n
 have h2 := tmD_le n
 have e1 : IntKind.i64.wrap (frD n + tmD n) = baD n := by unfold baD; rw [IntKind.wrap_i64]; omega
 go_enter Tryz.func8, Tryz.ntmps8
 go_wp2_with (first
  | (go_at_call 38; (with_reducible refine (rdraws_any n _).mono ?_); rintro e w1 ⟨rfl, rfl⟩)
  | (go_at_call 39; (with_reducible refine (tdraws_any n _).mono ?_); rintro e w1 ⟨rfl, rfl⟩))
 go_ret
 exact ⟨by first | rw [e1] | rfl, rfl⟩
theorem bto1_any (n : Int) (w : World) : Calls Tryz.prog 40 #[.int .i64 1, .int .i64 n] w fun e w' => e = .returned (.int .i64 (tmN 1 n)) ∧ w' = w := by
 by_cases n2 : n = 2
 ·
  subst n2
  go_enter Tryz.func40, Tryz.ntmps40
  go_wp2
  go_ret
  exact ⟨rfl, rfl⟩
 ·
  by_cases n3 : n = 3
  ·
   subst n3
   go_enter Tryz.func40, Tryz.ntmps40
   go_wp2
   go_ret
   exact ⟨rfl, rfl⟩
  ·
   have e : tmN 1 n = 0 := by unfold tmN; rw [if_pos (by decide), if_neg n2, if_neg n3]
   rw [e]
   have q2 : ((n : Int) == 2) = false := by simpa using n2
   have q3 : ((n : Int) == 3) = false := by simpa using n3
   clear n2 n3 e
   go_enter Tryz.func40, Tryz.ntmps40
   go_wp2
   go_ret
   exact ⟨rfl, rfl⟩
theorem bops_any (n : Int) (w : World) : Calls Tryz.prog 9 #[.int .i64 n] w fun e w' => e = .returned (.int .i64 (baN n)) ∧ w' = w := by
 have HF := hid (fun w => fdraws_any n w)
 have HT := hid (fun w => bto1_any n w)
 obtain ⟨x, y, z, hx, hy, hz, e1, e2⟩ : ∃ x y z, frD n = x ∧ tmN 1 n = y ∧ baN n = z ∧ IntKind.i64.wrap (3 * x) = 3 * x ∧ IntKind.i64.wrap (3 * x + y) = z := by
  refine ⟨_, _, _, rfl, rfl, rfl, ?_, ?_⟩
  ·
   have := frD_le n
   rw [IntKind.wrap_i64]; omega
  ·
   unfold baN frD tmN
   by_cases n2 : n = 2
   · subst n2; decide
   ·
    by_cases n3 : n = 3
    · subst n3; decide
    · rw [if_neg n2, if_neg n3, if_neg n2, if_neg n3, if_pos (by decide), if_neg n2, if_neg n3]; decide
 rw [hx] at HF
 rw [hy] at HT
 rw [hz]
 clear hx hy hz
 go_enter Tryz.func9, Tryz.ntmps9
 go_wp2_with (first
  | (go_at_call 36; (with_reducible refine (HF.out _).mono ?_); rintro e w1 ⟨rfl, rfl⟩)
  | (go_at_call 40; (with_reducible refine (HT.out _).mono ?_); rintro e w1 ⟨rfl, rfl⟩))
 go_ret
 exact ⟨by first | rw [e1, e2] | rfl, rfl⟩
theorem rbops_any (n : Int) (w : World) : Calls Tryz.prog 10 #[.int .i64 n] w fun e w' => e = .returned (.int .i64 (baN n)) ∧ w' = w := by
 unfold baN
 by_cases h2 : n = 2
 ·
  subst h2
  go_enter Tryz.func10, Tryz.ntmps10
  go_wp2
  go_ret
  exact ⟨rfl, rfl⟩
 ·
  by_cases h3 : n = 3
  ·
   subst h3
   go_enter Tryz.func10, Tryz.ntmps10
   go_wp2
   go_ret
   exact ⟨rfl, rfl⟩
  ·
   rw [if_neg h2, if_neg h3]
   have q2 : ((n : Int) == 2) = false := by simpa using h2
   have q3 : ((n : Int) == 3) = false := by simpa using h3
   clear h2 h3
   go_enter Tryz.func10, Tryz.ntmps10
   go_wp2
   go_ret
   exact ⟨rfl, rfl⟩

theorem less_eq {a b : Nat} (ha : a < 2 ^ 64) (hb : b < 2 ^ 64) : wnt a &&& b = b - (a &&& b) := by
 have h1 := split_and hb ha
 rw [Nat.and_comm b a, Nat.and_comm b (wnt a)] at h1
 omega

def orN (f : Nat → Nat) : Nat → Nat
 | 0 => 0
 | i + 1 => orN f i ||| f i
theorem orN_lt {f : Nat → Nat} (hf : ∀ i, f i < 2 ^ 64) : ∀ i, orN f i < 2 ^ 64
 | 0 => Nat.two_pow_pos 64
 | i + 1 => Nat.or_lt_two_pow (orN_lt hf i) (hf i)
theorem anN_or (f : Nat → Nat) : ∀ j, anN f j = orN f (j + 1)
 | 0 => by show f 0 = 0 ||| f 0; rw [Nat.zero_or]
 | j + 1 => by rw [show anN f (j + 1) = anN f j ||| f (j + 1) from rfl, anN_or f j]; rfl
def mnN (Kd : Int) (f : Nat → Nat) (L : Nat) : Nat := if Kd = 0 then f 0 &&& f 1 else if Kd = 1 then f 1 - (f 0 &&& f 1) else if Kd = 2 then f 0 ||| f 1 else orN f L
def lyV (S : Ms) (x : Nat → Nat) (L : Nat) (j : Nat) : Nat → Int := if j < L then lyR S x j else none3
def tkS (Kd : Int) (dom : Bool) (z : Int) (S : Ms) (x : Nat → Nat) (L : Nat) : Ms :=
 if Kd = 0 then baS (lyS S x L) dom (lyR S x 0) (lyR S x 1) else if Kd = 1 then blS (lyS S x L) dom (lyR S x 0) (lyR S x 1) else if Kd = 2 then boS (lyS S x L) dom (lyR S x 0) (lyR S x 1)
 else if Kd = 3 then bnS (lyS S x L) dom (lyV S x L) L else bfS (lyS S x L) dom (lyR S x 0) z
def tkR (Kd : Int) (dom : Bool) (z : Int) (S : Ms) (x : Nat → Nat) (L : Nat) : Nat → Int :=
 if Kd = 0 then baR (lyS S x L) dom (lyR S x 0) (lyR S x 1) else if Kd = 1 then blR (lyS S x L) dom (lyR S x 0) (lyR S x 1) else if Kd = 2 then boR (lyS S x L) dom (lyR S x 0) (lyR S x 1)
 else if Kd = 3 then bnR (lyS S x L) dom (lyV S x L) L else bfR (lyS S x L) dom (lyR S x 0) z
section
variable {S : Ms} {x : Nat → Nat} {L : Nat} {Kd z : Int} {dom : Bool}
theorem tk_laid (h : Bq 0 S) (hn : S.n = 2 ∨ S.n = 3) (hx : ∀ i, x i < 2 ^ 64) (hL5 : L ≤ 5) : Bq 30 (lyS S x L) ∧ ((lyS S x L).n = 2 ∨ (lyS S x L).n = 3) ∧ (∀ j, j < L → Wb (lyR S x j)) ∧ (∀ j, Wb (lyV S x L j)) := by
 have h1 : Bq (0 + 6 * L) (lyS S x L) := ly_bq h hn hx L
 have hw : ∀ j, j < L → Wb (lyR S x j) := fun j hj => lyR_wb h hn hx (by omega)
 refine ⟨h1.mono (by omega), by rw [lyS_n]; exact hn, hw, fun j => ?_⟩
 unfold lyV
 split
 · exact hw j (by assumption)
 · exact none3_wb
theorem tk_bq (h : Bq 0 S) (hn : S.n = 2 ∨ S.n = 3) (hx : ∀ i, x i < 2 ^ 64) (hL : 2 ≤ L) (hL5 : L ≤ 5) : Bq 1000 (tkS Kd dom z S x L) := by
 obtain ⟨h1, h2, h3, h4⟩ := tk_laid h hn hx hL5
 have hl := lgW_le z
 unfold tkS
 repeat' split
 · exact (ba_bq h1 (by decide) (h3 0 (by omega)) (h3 1 (by omega))).1.mono (by omega)
 · exact (bl_bq h1 (by decide) (h3 0 (by omega)) (h3 1 (by omega))).1.mono (by omega)
 · exact (bo_bq h1 (by decide) (h3 0 (by omega)) (h3 1 (by omega))).1.mono (by omega)
 ·
  unfold bnS
  rw [if_neg (by omega)]
  exact (bnX_bq (dom := dom) h1 h4 (j := L - 1) (by omega)).1.mono (by omega)
 · exact (bfX_bq (dom := dom) hl h2 h1 (h3 0 (by omega)) (j := lgW z) (by omega)).1.mono (by omega)
theorem tk_ext : Ext (lyS S x L) (tkS Kd dom z S x L) := by
 unfold tkS
 repeat' split
 · exact baS_ext _ _ _ _
 · exact blS_ext _ _ _ _
 · exact boS_ext _ _ _ _
 ·
  unfold bnS
  split
  · exact cstS_ext _ _ _
  · exact bnX_ext _ _ _ _
 · exact bfX_ext _ _ _ _ _
theorem tk_dry (h : S.dry = false) : (tkS Kd dom z S x L).dry = false := (tk_ext.dry.trans ((by have := lyS_more S x 0 L; rw [Nat.zero_add] at this; exact this : Ext S (lyS S x L)).dry)).trans h
theorem bn_e {V : Nat → Nat → Int} : ∀ j, (bnX dom V S j).1.e = 0 → S.e = 0
 | 0, h => h
 | j + 1, h => bn_e j (bo_e (S := (bnX dom V S j).1) (dom := dom) (A := (bnX dom V S j).2) (B := V (j + 1)) h)
theorem tk_vl (W : Wt S) (h : Bq 0 S) (hx : ∀ i, x i < 2 ^ 64) (hL : 2 ≤ L) (hL5 : L ≤ 5) (hk : 0 ≤ Kd ∧ Kd ≤ 3) (he : (tkS Kd dom z S x L).e = 0) : vlN (tkS Kd dom z S x L).v (tkS Kd dom z S x L).L (tkR Kd dom z S x L) = mnN Kd x L := by
 obtain ⟨h1, h2, h3, h4⟩ := tk_laid h W.n hx hL5
 have WL : Wt (lyS S x L) := W.ext (by have := lyS_more S x 0 L; rw [Nat.zero_add] at this; exact this)
 rcases (by omega : Kd = 0 ∨ Kd = 1 ∨ Kd = 2 ∨ Kd = 3) with rfl | rfl | rfl | rfl
 ·
  have eS : tkS 0 dom z S x L = baS (lyS S x L) dom (lyR S x 0) (lyR S x 1) := if_pos rfl
  have eR : tkR 0 dom z S x L = baR (lyS S x L) dom (lyR S x 0) (lyR S x 1) := if_pos rfl
  rw [eS] at he ⊢
  rw [eR]
  have e0 : (lyS S x L).e = 0 := ba_e (S := lyS S x L) he
  exact (ba_sf (S := lyS S x L) WL (ly_sf W (i := 0) (by omega) e0) (ly_sf W (i := 1) (by omega) e0) he).1.vl
 ·
  have eS : tkS 1 dom z S x L = blS (lyS S x L) dom (lyR S x 0) (lyR S x 1) := (if_neg (by decide)).trans (if_pos rfl)
  have eR : tkR 1 dom z S x L = blR (lyS S x L) dom (lyR S x 0) (lyR S x 1) := (if_neg (by decide)).trans (if_pos rfl)
  rw [eS] at he ⊢
  rw [eR]
  have e0 : (lyS S x L).e = 0 := nt_e (S := lyS S x L) (A := lyR S x 0) (ba_e (S := notS (lyS S x L) (lyR S x 0)) (dom := dom) (A := notR (lyS S x L) (lyR S x 0)) (B := lyR S x 1) he)
  exact (bl_sf (S := lyS S x L) WL h1 (ly_sf W (i := 0) (by omega) e0) (ly_sf W (i := 1) (by omega) e0) he).1.vl.trans (less_eq (hx 0) (hx 1))
 ·
  have eS : tkS 2 dom z S x L = boS (lyS S x L) dom (lyR S x 0) (lyR S x 1) := (if_neg (by decide)).trans ((if_neg (by decide)).trans (if_pos rfl))
  have eR : tkR 2 dom z S x L = boR (lyS S x L) dom (lyR S x 0) (lyR S x 1) := (if_neg (by decide)).trans ((if_neg (by decide)).trans (if_pos rfl))
  rw [eS] at he ⊢
  rw [eR]
  have e0 : (lyS S x L).e = 0 := bo_e (S := lyS S x L) (dom := dom) (A := lyR S x 0) (B := lyR S x 1) he
  exact (bo_sf (S := lyS S x L) WL h1 (by decide) (h3 0 (by omega)) (h3 1 (by omega)) (ly_sf W (i := 0) (by omega) e0) (ly_sf W (i := 1) (by omega) e0) he).1.vl
 ·
  have eS : tkS 3 dom z S x L = (bnX dom (lyV S x L) (lyS S x L) (L - 1)).1 := (if_neg (by decide)).trans ((if_neg (by decide)).trans ((if_neg (by decide)).trans ((if_pos rfl).trans (if_neg (by omega)))))
  have eR : tkR 3 dom z S x L = (bnX dom (lyV S x L) (lyS S x L) (L - 1)).2 := (if_neg (by decide)).trans ((if_neg (by decide)).trans ((if_neg (by decide)).trans ((if_pos rfl).trans (if_neg (by omega)))))
  rw [eS] at he ⊢
  rw [eR]
  have e0 : (lyS S x L).e = 0 := bn_e (S := lyS S x L) (dom := dom) (V := lyV S x L) (L - 1) he
  have hs := (bnX_sf (S := lyS S x L) (dom := dom) (V := lyV S x L) (z := x) WL h1 h4 (j := L - 1) (by omega) (fun i hi => by
   unfold lyV
   rw [if_pos (by omega)]
   exact ly_sf W (i := i) (by omega) e0) he).1.vl
  rw [hs, anN_or, show L - 1 + 1 = L by omega]
  rfl
end
open Go.RowKit Go.Deep
set_option maxRecDepth 100000
theorem wo64 {a b : Nat} (ha : a < 2 ^ 64) (hb : b < 2 ^ 64) : bits .or .u64 (a : Int) (b : Int) = ((a ||| b : Nat) : Int) := by
 have h1 : (BitVec.ofInt 64 (a : Int)).toNat = a := by
  rw [BitVec.ofInt_natCast, BitVec.toNat_ofNat]; exact Nat.mod_eq_of_lt (by omega)
 have h2 : (BitVec.ofInt 64 (b : Int)).toNat = b := by
  rw [BitVec.ofInt_natCast, BitVec.toNat_ofNat]; exact Nat.mod_eq_of_lt (by omega)
 have hx : a ||| b < 2 ^ 64 := Nat.or_lt_two_pow ha hb
 show IntKind.u64.wrap ((BitVec.ofInt 64 (a : Int) ||| BitVec.ofInt 64 (b : Int)).toNat : Int) = _
 rw [BitVec.toNat_or, h1, h2, IntKind.wrap_u64]
 omega
abbrev as6 (t3 : Bool) (Kd K z : Int) (lv mv : Value) : Array Value := #[.bool t3, .int .i64 Kd, .int .i64 K, .int .i64 z, lv, mv]
theorem fn6_any (t3 : Bool) (Kd K z : Int) (lv mv : Value) (w : World) : Calls Tryz.prog 5 #[.agg (as6 t3 Kd K z lv mv)] w fun e w' => e = .returned (.int .i64 (if t3 = true then 3 else 2)) ∧ Below w.heap.size w w' := by
 obtain ⟨w1, hw1⟩ : ∃ w1, w.alloc (.cells (as6 t3 Kd K z lv mv) 24) = w1 := ⟨_, rfl⟩
 have HB1 : Hid (Below w.heap.size w w1) := hid (by rw [← hw1]; exact (Below.refl _ _).alloc (Nat.le_refl _) _)
 have hx : w1.heap[w.heap.size]? = some (.cells (as6 t3 Kd K z lv mv) 24 (0, 0)) := by rw [← hw1]; exact heap_alloc_new _ _
 have c0 := row_c (i := 0) (u := .bool t3) hx rfl
 have HW := hid hw1
 clear hw1 hx
 go_enter Tryz.func5, Tryz.ntmps5
 go_upto_region 1 with fail
 rw [HW.out]
 cases t3
 ·
  go_wp2
  go_ret
  exact ⟨rfl, HB1.out⟩
 ·
  go_wp2
  go_ret
  exact ⟨rfl, HB1.out⟩
set_option maxHeartbeats 3200000 in
theorem meant_any (t3 : Bool) (Kd K z : Int) (lv mv : Value) (gl cap L : Nat) (x : Nat → Nat) (hx : ∀ i, x i < 2 ^ 64) (hL : 2 ≤ L) (hL5 : L ≤ 5) (w : World) (hc : ∀ j, j < L → w.cell? ⟨gl, j, none⟩ = some (.int .u64 (x j : Int))) :
  Calls Tryz.prog 27 #[.agg (as6 t3 Kd K z lv mv), .slice (some ⟨gl, 0, none⟩) L cap] w fun e w' => e = .returned (.int .u64 (mnN Kd x L : Nat)) ∧ Below w.heap.size w w' := by
 obtain ⟨w1, hw1⟩ : ∃ w1, w.alloc (.cells (as6 t3 Kd K z lv mv) 24) = w1 := ⟨_, rfl⟩
 have hb1 : Below w.heap.size w w1 := by rw [← hw1]; exact (Below.refl _ _).alloc (Nat.le_refl _) _
 have HB1 := hid hb1
 have hr : w1.heap[w.heap.size]? = some (.cells (as6 t3 Kd K z lv mv) 24 (0, 0)) := by rw [← hw1]; exact heap_alloc_new _ _
 have c1 := row_c (i := 1) (u := .int .i64 Kd) hr rfl
 have k0 : w1.cell? ⟨gl, 0, none⟩ = some (.int .u64 (x 0 : Int)) := tcell_self (hc 0 (by omega)) hb1
 have k1 : w1.cell? ⟨gl, 1, none⟩ = some (.int .u64 (x 1 : Int)) := tcell_self (hc 1 (by omega)) hb1
 have HCL : Hid (∀ wx, Below w1.heap.size w1 wx → ∀ j, j < L → wx.cell? ⟨gl, j, none⟩ = some (.int .u64 (x j : Int))) := hid (fun wx hb j hj => tcell_self (tcell_self (hc j hj) hb1) hb)
 have l0 := hx 0
 have l1 := hx 1
 have p0 : (0 : Int) < (L : Int) := by omega
 have p1 : (1 : Int) < (L : Int) := by omega
 have HXB := hid hx
 have HL5 := hid hL5
 have HW := hid hw1
 clear hw1 hb1 hr hc hx hL hL5
 by_cases h0 : Kd = 0
 ·
  subst h0
  have e : mnN 0 x L = x 0 &&& x 1 := if_pos rfl
  rw [e]
  have eA := wn64 l0 l1
  generalize x 0 &&& x 1 = r at *
  generalize x 0 = x0 at *
  generalize x 1 = x1 at *
  clear e l0 l1
  go_enter Tryz.func27, Tryz.ntmps27
  go_upto_region 1 with fail
  rw [HW.out]
  go_wp2_with fail
  go_region
  go_wp2
  go_ret
  exact ⟨rfl, HB1.out.drew⟩
 ·
  by_cases h1 : Kd = 1
  ·
   subst h1
   have e : mnN 1 x L = x 1 - (x 0 &&& x 1) := (if_neg (by decide)).trans (if_pos rfl)
   rw [e]
   have eA := wn64 l0 l1
   have la := Nat.and_le_right (n := x 0) (m := x 1)
   generalize x 0 &&& x 1 = r at *
   generalize x 0 = x0 at *
   generalize x 1 = x1 at *
   have eS : IntKind.u64.wrap ((x1 : Int) - (r : Int)) = ((x1 - r : Nat) : Int) := by rw [IntKind.wrap_u64]; omega
   generalize x1 - r = r2 at *
   clear e l0 l1 la h0
   go_enter Tryz.func27, Tryz.ntmps27
   go_upto_region 1 with fail
   rw [HW.out]
   go_wp2_with fail
   go_region
   go_wp2
   go_ret
   exact ⟨rfl, HB1.out.drew⟩
  ·
   by_cases h2 : Kd = 2
   ·
    subst h2
    have e : mnN 2 x L = x 0 ||| x 1 := (if_neg (by decide)).trans ((if_neg (by decide)).trans (if_pos rfl))
    rw [e]
    have eA := wo64 l0 l1
    generalize x 0 ||| x 1 = r at *
    generalize x 0 = x0 at *
    generalize x 1 = x1 at *
    clear e l0 l1 h0 h1
    go_enter Tryz.func27, Tryz.ntmps27
    go_upto_region 1 with fail
    rw [HW.out]
    go_wp2_with fail
    go_region
    go_wp2
    go_ret
    exact ⟨rfl, HB1.out.drew⟩
   ·
    have e : mnN Kd x L = orN x L := (if_neg h0).trans ((if_neg h1).trans (if_neg h2))
    rw [e]
    have q0 : ((Kd : Int) == 0) = false := by simpa using h0
    have q1 : ((Kd : Int) == 1) = false := by simpa using h1
    have q2 : ((Kd : Int) == 2) = false := by simpa using h2
    have HON : Hid (∀ i, orN x (i + 1) = orN x i ||| x i) := hid (fun _ => rfl)
    have HO0 : Hid (orN x 0 = 0) := hid rfl
    have HOL := hid (orN_lt HXB.out)
    clear e h0 h1 h2 k0 k1 l0 l1
    obtain ⟨o, ho⟩ : ∃ o, orN x = o := ⟨_, rfl⟩
    simp only [ho] at HON HO0 HOL ⊢
    clear ho
    go_enter Tryz.func27, Tryz.ntmps27
    go_upto_region 1 with fail
    rw [HW.out]
    go_upto_region 10 with fail
    clear q0 q1 q2 c1
    go_loopw [5, 6] (fun nv iv wr => ∃ i : Nat, i ≤ L ∧ iv = .int .i64 (i : Int) ∧ nv = .int .u64 (o i : Int) ∧ Below w1.heap.size w1 wr) (fun _ iv _ => L - (intOf iv).toNat)
    case atStart => exact ⟨0, by omega, rfl, by rw [HO0.out]; rfl, Below.refl _ _⟩
    case round =>
     obtain ⟨i, hi, rfl, rfl, hI⟩ := hrel
     have HI := hid hI
     clear hI
     have hl5 := HL5.out
     by_cases hlt : i < L
     ·
      have j1 : (i : Int) < (L : Int) := by omega
      have j0 : (0 : Int) ≤ (i : Int) := by omega
      have ci := HCL.out _ HI.out i hlt
      have eO := wo64 (HOL.out i) (HXB.out i)
      rw [← HON.out i] at eO
      go_wp2
      go_roundw
      case rel => exact ⟨i + 1, by omega, by go_num, by first | rw [eO] | rfl, HI.out⟩
      case measure => simp [intOf]; omega
     ·
      obtain rfl : i = L := by omega
      go_wp2
      go_ret
      exact ⟨rfl, HB1.out.trans (HI.out.mono HB1.out.size)⟩
open Go.RowKit
set_option maxRecDepth 100000
def RowO (E : TypeId) (k : Nat) (v : Value) (n : Nat) (c : Nat → List Value) (g : Nat) (o : Obj) : Prop :=
 ∃ cap cur, v = .slice (some ⟨g, 0, none⟩) n cap ∧ o = .cells cur E (0, 0) ∧ n ≤ cap ∧ cap ≤ maxLen ∧ cur.size = cap * k ∧ cur.toList.take (n * k) = recs c n ∧ (recs c n).length = n * k
section
variable {E : TypeId} {k n g lo : Nat} {v : Value} {c : Nat → List Value} {o : Obj} {w : World}
theorem RowO.orw (h : RowO E k v n c g o) (hb : lo ≤ g) (hg : w.heap[g]? = some o) : Orw w lo E k v n c := by
 obtain ⟨cap, cur, rfl, rfl, h1, h2, h3, h4, h5⟩ := h
 exact ⟨h5, .inr ⟨g, cap, cur, rfl, hb, hg, h1, h2, h3, h4⟩⟩
theorem RowO.of {cap : Nat} (h : Orw w lo E k (.slice (some ⟨g, 0, none⟩) n cap) n c) : ∃ o, RowO E k (.slice (some ⟨g, 0, none⟩) n cap) n c g o ∧ w.heap[g]? = some o := by
 obtain ⟨h5, h⟩ := h
 rcases h with ⟨e, _⟩ | ⟨g', cap', cur, e, hb, hg, h1, h2, h3, h4⟩
 · cases e
 ·
  cases e
  exact ⟨_, ⟨cap, cur, rfl, rfl, h1, h2, h3, h4, h5⟩, hg⟩
theorem RowO.own (h : RowO E k v n c g o) : v.ownBlock = some g := by
 obtain ⟨cap, cur, rfl, _⟩ := h
 rfl
theorem RowO.form (h : RowO E k v n c g o) : ∃ cap, v = .slice (some ⟨g, 0, none⟩) n cap ∧ n ≤ cap ∧ cap ≤ maxLen := by
 obtain ⟨cap, cur, e, _, h1, h2, _⟩ := h
 exact ⟨cap, e, h1, h2⟩
theorem RowO.cell (h : RowO E k v n c g o) (hc : ∀ i, (c i).length = k) (hg : w.heap[g]? = some o) {i j : Nat} (hi : i < n) (hj : j < k) {u : Value} (hu : (c i)[j]? = some u) : w.cell? ⟨g, i * k + j, none⟩ = some u := by
 have h1 := h.orw (Nat.zero_le g) hg
 obtain ⟨cap, cur, rfl, _⟩ := h
 exact Orw.cell h1 hc hi hj hu
end
section
variable {Pm : World → Nat → Ms → (Nat → Prop) → Prop} {lo : Nat} {X0 : Nat → Prop} {W w0 wx wy : World} {p b : Nat} {S1 S2 : Ms} {bs : List (Nat × Obj)}
end
theorem info23W : (Tryz.prog.info? 37).map (fun i => (i.zero, i.size, i.bytes)) = some (some (.agg #[.int .i64 0, .int .i64 0, .int .i64 0]), 3, 24) := by kernel_rfl
theorem info23U : (Tryz.prog.info? 34).map (fun i => (i.zero, i.size, i.bytes)) = some (some (.int .u64 0), 1, 8) := by kernel_rfl
theorem wp_append_rowO {P : Program} {w : World} {o : Oper} {a : Act} {K : Act → World → Prop} {Q : Exit → Act → World → Prop} (s x : Operand) (t : TypeId)
  (ho : o.op = .call { callee := .builtin .append, args := #[s, x], argTypes := #[t, t] }) (E : TypeId) (k by_ : Nat) (z : Value) (ht : P.underlying t = some (.slice E))
  (hinfo : (P.info? E).map (fun i => (i.zero, i.size, i.bytes)) = some (some z, k, by_)) (hz : z.cells.size = k) (hk : 0 < k)
  (sv : Value) (n : Nat) (c : Nat → List Value) {g0 : Nat} {o0 : Obj} (hs : a.eval s = sv) (hr : RowO E k sv n c g0 o0) (h0 : w.heap[g0]? = some o0) (ad : Addr) (cap : Nat) (hx : a.eval x = .slice (some ad) 1 cap) (hl : (c n).length = k) (hone : ∀ u ∈ c n, u.oneCell' = true)
  (hns : ∀ j u, (c n)[j]? = some u → w.cell? (ad.add j) = some u) (hm : n + 1 ≤ maxLen) (hlim : (n + 1) * by_ ≤ 140737488355328)
  (h : ∀ g cap' w' o', RowO E k (.slice (some ⟨g, 0, none⟩) (n + 1) cap') (n + 1) c g o' → w'.heap[g]? = some o' → w.grownBy w' (some g0) → (some g0 = some g ∨ g = w.heap.size) → K (a.put o.dst (.slice (some ⟨g, 0, none⟩) (n + 1) cap')) w') : o.wp P a w K Q :=
 wp_append_rec s x t ho 0 E k by_ z ht hinfo hz hk sv n c hs (hr.orw (Nat.zero_le _) h0) ad cap hx hl hone hns hm hlim (Nat.zero_le _) (fun g cap' w' h1 h2 h3 => by
  obtain ⟨o', e1, e2⟩ := RowO.of h1
  rw [hr.own] at h2 h3
  exact h g cap' w' o' e1 e2 h2 h3)
theorem wpList_append_rowO {P : Program} {w : World} {ops : Array Oper} {rest : List Oper} {o : Oper} {a : Act} {Q : Exit → Act → World → Prop} (hgd : o.guard = none) (s x : Operand) (t : TypeId)
  (ho : o.op = .call { callee := .builtin .append, args := #[s, x], argTypes := #[t, t] }) (E : TypeId) (k by_ : Nat) (z : Value) (ht : P.underlying t = some (.slice E))
  (hinfo : (P.info? E).map (fun i => (i.zero, i.size, i.bytes)) = some (some z, k, by_)) (hz : z.cells.size = k) (hk : 0 < k)
  (sv : Value) (n : Nat) (c : Nat → List Value) {g0 : Nat} {o0 : Obj} (hs : a.eval s = sv) (hr : RowO E k sv n c g0 o0) (h0 : w.heap[g0]? = some o0) (ad : Addr) (cap : Nat) (hx : a.eval x = .slice (some ad) 1 cap) (hl : (c n).length = k) (hone : ∀ u ∈ c n, u.oneCell' = true)
  (hns : ∀ j u, (c n)[j]? = some u → w.cell? (ad.add j) = some u) (hm : n + 1 ≤ maxLen) (hlim : (n + 1) * by_ ≤ 140737488355328)
  (h : ∀ g cap' w' o', RowO E k (.slice (some ⟨g, 0, none⟩) (n + 1) cap') (n + 1) c g o' → w'.heap[g]? = some o' → w.grownBy w' (some g0) → (some g0 = some g ∨ g = w.heap.size) → wpList P ops Q rest (a.put o.dst (.slice (some ⟨g, 0, none⟩) (n + 1) cap')) w') : wpList P ops Q (o :: rest) a w :=
 wpList_plain hgd fun _ hK => wp_append_rowO s x t ho E k by_ z ht hinfo hz hk sv n c hs hr h0 ad cap hx hl hone hns hm hlim fun g cap' w' o' h1 h2 h3 h4 => hK _ _ (h g cap' w' o' h1 h2 h3 h4)
theorem wdV_get (R : Nat → Int) {c : Nat} (hc : c < 3) : (wdV R).toList[c]? = some (.int .i64 (R c)) := by
 rcases (by omega : c = 0 ∨ c = 1 ∨ c = 2) with rfl | rfl | rfl <;> rfl
theorem rowO_c {w : World} {v : Value} {L g : Nat} {R : Nat → Nat → Int} {o : Obj} (h : RowO 37 3 v L (fun j => (wdV (R j)).toList) g o) (hg : w.heap[g]? = some o) {j c : Nat} (hj : j < L) (hc : c < 3) : w.cell? ⟨g, j * 3 + c, none⟩ = some (.int .i64 (R j c)) :=
 h.cell (fun _ => rfl) hg hj hc (wdV_get (R j) hc)
theorem rowO_u {w : World} {v : Value} {L g : Nat} {x : Nat → Nat} {o : Obj} (h : RowO 34 1 v L (fun j => [.int .u64 (x j : Int)]) g o) (hg : w.heap[g]? = some o) {j : Nat} (hj : j < L) : w.cell? ⟨g, j, none⟩ = some (.int .u64 (x j : Int)) := by
 have := h.cell (fun _ => rfl) hg hj (Nat.zero_lt_one) (u := .int .u64 (x j : Int)) rfl
 rw [Nat.mul_one, Nat.add_zero] at this
 exact this
theorem rowO_ws {w : World} {v : Value} {L g : Nat} {R V : Nat → Nat → Int} {o : Obj} {X : Nat → Prop} (h : RowO 37 3 v L (fun j => (wdV (R j)).toList) g o) (hg : w.heap[g]? = some o) (hX : X g) (hV : ∀ j, j < L → V j = R j) : WsR w v L V X := by
 obtain ⟨cap, e, h1, h2⟩ := h.form
 refine ⟨some ⟨g, 0, none⟩, cap, e, h1, h2, fun _ => ⟨g, 0, rfl, hX, (Array.getElem?_eq_some_iff.1 hg).1, fun j hj c hc => ?_⟩⟩
 rw [Nat.zero_add, hV j hj]
 exact rowO_c h hg hj hc
def btX (x : Nat → Nat) (i j : Nat) : Nat := if j < i then x j else if j = 0 then 7 else 9
theorem btX_lt {x : Nat → Nat} (hx : ∀ i, x i < 2 ^ 64) (i j : Nat) : btX x i j < 2 ^ 64 := by
 unfold btX
 split
 · exact hx j
 · split <;> decide
def btL (i : Nat) : Nat := if i < 2 then 2 else i
theorem btX_next (x : Nat → Nat) (i j : Nat) (h : j ≠ i) : btX x (i + 1) j = btX x i j := by
 unfold btX
 by_cases e : j < i
 · rw [if_pos e, if_pos (by omega)]
 · rw [if_neg e, if_neg (by omega)]
theorem btX_at (x : Nat → Nat) (i : Nat) : btX x (i + 1) i = x i := if_pos (Nat.lt_succ_self i)
theorem rdS_cells {w : World} {F : Nat → Prop} {v : Value} {x : Nat → Nat} {L : Nat} (h : RdS .u64 w F v (wdL x L)) (_ : ∀ g, F g → g < w.heap.size) : ∃ a cap, v = .slice a L cap ∧ L ≤ cap ∧ cap ≤ maxLen ∧ (0 < L → ∃ g off, a = some ⟨g, off, none⟩ ∧ ∀ w', Below w.heap.size w w' → ∀ j, j < L → w'.cell? ⟨g, off + j, none⟩ = some (.int .u64 (x j : Int))) := by
 obtain ⟨a, cap, e, h1, h2, _, _, h3⟩ := h
 rw [wdL_len] at e h1 h3
 refine ⟨a, cap, e, h1, h2, fun h0 => ?_⟩
 obtain ⟨g, off, e2, hg, _, hc⟩ := h3 h0
 refine ⟨g, off, e2, fun w' hb j hj => tcell_self ?_ hb⟩
 rw [hc j hj, wdL_nth x hj]
theorem btL_ge (i : Nat) : 2 ≤ btL i := by unfold btL; split <;> omega
theorem btL_le {i : Nat} (h : i ≤ 5) : btL i ≤ 5 := by unfold btL; split <;> omega
theorem bt_store {x : Nat → Nat} {i g cap : Nat} {cur : Array Value} (hi : i < 2) (h : RowO 34 1 (.slice (some ⟨g, 0, none⟩) 2 cap) 2 (fun j => [.int .u64 (btX x i j : Int)]) g (.cells cur 34 (0, 0))) :
  RowO 34 1 (.slice (some ⟨g, 0, none⟩) 2 cap) 2 (fun j => [.int .u64 (btX x (i + 1) j : Int)]) g (.cells (cur.setIfInBounds i (.int .u64 (x i : Int))) 34 (0, 0)) := by
 obtain ⟨cap', cur', e1, e2, h1, h2, h3, h4, h5⟩ := h
 cases e1
 cases e2
 refine ⟨cap, _, rfl, rfl, h1, h2, by rw [Array.size_setIfInBounds]; exact h3, ?_, rfl⟩
 rw [Array.toList_setIfInBounds, List.take_set, h4]
 rcases (by omega : i = 0 ∨ i = 1) with rfl | rfl
 · rfl
 · rfl
theorem bt_start {x : Nat → Nat} {g : Nat} : RowO 34 1 (.slice (some ⟨g, 0, none⟩) 2 2) 2 (fun j => [.int .u64 (btX x 0 j : Int)]) g (.cells #[.int .u64 7, .int .u64 9] 34 (0, 0)) :=
 ⟨2, _, rfl, rfl, Nat.le_refl _, by decide, rfl, rfl, rfl⟩
theorem row_none {E : TypeId} {k g : Nat} {c : Nat → List Value} : RowO E k (.slice (some ⟨g, 0, none⟩) 0 0) 0 c g (.cells #[] E (0, 0)) :=
 ⟨0, #[], rfl, rfl, Nat.le_refl _, Nat.zero_le _, by simp, by simp [recs], by simp [recs]⟩
structure Bx (lo : Nat) (W w : World) (bs : List (Nat × Obj)) : Prop where
 low : Below lo W w
 los : lo ≤ w.heap.size
 bx : ∀ q ∈ bs, lo ≤ q.1 ∧ w.heap[q.1]? = some q.2
 nd : (bs.map (·.1)).Nodup
section
variable {lo : Nat} {W w w' : World} {bs : List (Nat × Obj)}
theorem Bx.start (W : World) : Bx W.heap.size W W [] := ⟨Below.refl _ _, Nat.le_refl _, fun q hq => (List.not_mem_nil hq).elim, by simp⟩
end
end Go.Proofs.YthkijncnndoafaaGreatDoor
