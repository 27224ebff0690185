import Derived.Test.YteoiekooaokhaaaProg
import Derived.Test.YteoiekooaokhaaaCmr
/- CmacGoes: what it holds. -/
namespace Go.Proofs.Yteoiekooaokhaaa
open Go.RowKit
set_option maxRecDepth 100000

theorem step_copy16 {ops : Array Oper} {o : Oper} {a : Act} {w : World} {K : Act → World → Prop} {Q : Exit → Act → World → Prop} {X : Prop} (hgd : o.guard = none) (d s : Operand)
    (ho : o.op = .call { callee := .builtin .copy, args := #[d, s], argTypes := #[22, 22] }) (g dc gb off cb : Nat) (f0 fb : Nat → Nat) (hd : a.eval d = .slice (some ⟨g, 0, none⟩) 16 dc) (hs : a.eval s = .slice (some ⟨gb, off, none⟩) 16 cb)
    (hA : At w g 16 39 f0) (hB : Wd w 16 gb off fb) (h : K (a.put o.dst (.int .i64 16)) (w.setRow g (ba 16 fb))) : if Region.wanted o (yielded ops a.tmps) = true then Oper.wp Try.prog o a w K Q else X := by
  have hw : Region.wanted o (yielded ops a.tmps) = true := by simp [Region.wanted, hgd]
  rw [if_pos hw]
  have hrun := run_copy_row (P := Try.prog) w 22 22 o.type 5 g 0 16 dc ⟨gb, off, none⟩ 16 cb (ba 16 f0) 39 ((ns 16 fb).map (Value.int .u8)) Try.underlying22 (by kernel_rfl) hA (by rw [List.length_map, ns_len]; rfl)
    (fun j v hj => by
      have hj16 : j < 16 := by have := (List.getElem?_eq_some_iff.1 hj).1; rwa [List.length_map, ns_len] at this
      rw [List.getElem?_map, ns_at fb hj16] at hj
      rw [Addr.add_mid, hB.cell j hj16]
      simpa using hj) (by rw [List.length_map, ns_len, ba_size]; omega) (fun v hv => by obtain ⟨z, _, rfl⟩ := List.mem_map.1 hv; rfl)
  have e : ((ba 16 f0).toList.take 0 ++ (ns 16 fb).map (Value.int .u8) ++ (ba 16 f0).toList.drop (0 + ((ns 16 fb).map (Value.int .u8)).length)).toArray = ba 16 fb := by
    have := splice16 (ba 16 f0).toList (by rw [Array.length_toList, ba_size]) fb
    unfold splice at this
    rw [List.append_assoc]
    exact this
  rw [e, List.length_map, ns_len] at hrun
  unfold Oper.wp
  simp [execOp, ho, resolve, invoke, builtin, hd, hs, hrun, Result.andThen]
  exact h

/-- What CmacGoes holds: w1 the world behind New; the block's box nb. -/
structure Gs (b : Nat) (w1 W : World) (d c cap R R1 : Nat) (Y : Nat → Nat → Nat) (nb : Nat) (β : Nat → Nat) : Prop where
  base : Gc w1 d b c cap R R1 Y
  gc : Gc W d b c cap R R1 Y
  low : Only b w1 W
  beg : At W nb 16 39 β
  num : nb < w1.heap.size ∧ nb ≠ b
section
variable {b : Nat} {w1 W W' : World} {d c cap R R1 nb n : Nat} {Y : Nat → Nat → Nat} {β : Nat → Nat}
theorem Gs.asked (h : Gs b w1 W d c cap R R1 Y nb β) (hg : Gc W' d b c cap R R1 Y) (o : Only b W W') : Gs b w1 W' d c cap R R1 Y nb β := ⟨h.base, hg, h.low.trans o, at_asked h.beg o h.num.2, h.num⟩
theorem Gs.self (h : Gs b w1 W d c cap R R1 Y nb β) (hb : Below W.heap.size W W') : Gs b w1 W' d c cap R R1 Y nb β := h.asked (h.gc.self hb) (Only.of_below hb)
theorem Gs.row (h : Gs b w1 W d c cap R R1 Y nb β) (hn : w1.heap.size ≤ n) (cs : Array Value) : Gs b w1 (W.setRow n cs) d c cap R R1 Y nb β :=
  ⟨h.base, (h.base.row h.gc h.low hn cs).1, (h.base.row h.gc h.low hn cs).2, h.beg.rowApart (by have := h.num.1; omega) cs, h.num⟩
end
/-- Two variables of 16 bytes, new. -/
theorem two_zero (w : World) : At ((w.alloc (.cells z16 39)).alloc (.cells z16 39)) w.heap.size 16 39 (fun _ => 0) ∧ At ((w.alloc (.cells z16 39)).alloc (.cells z16 39)) (w.heap.size + 1) 16 39 (fun _ => 0) ∧ Below w.heap.size w ((w.alloc (.cells z16 39)).alloc (.cells z16 39)) := by
  have h := bx2_zero w (fun _ => 0)
  exact ⟨h.key, h.beg, h.low⟩
theorem head_ns {M : Nat} (v v' : Value) (x y : Nat → Nat) (w : World) (h : Rd .u8 w v (ns 16 x)) (h' : Rd .u8 w v' (ns M y)) (hx : B16 x) (hy : ∀ j, j < M → y j < 256) (_hM : M ≤ 60000) :
    Calls Try.prog 18 #[v, v'] w fun e w' => ∃ u, e = .returned u ∧ Own .u8 w.heap.size 5 w' u (ns (min 16 M) (xorF x y)) ∧ Below w.heap.size w w' := by
  refine (refxor_any v v' _ _ w h h').mono ?_
  rintro e w' ⟨u, rfl, hown, hlow⟩
  rw [ns_len, ns_len, xorL_ns x y hx hy (min 16 M) (Nat.min_le_left _ _) (Nat.min_le_right _ _)] at hown
  exact ⟨u, rfl, hown, hlow⟩
end Go.Proofs.Yteoiekooaokhaaa
