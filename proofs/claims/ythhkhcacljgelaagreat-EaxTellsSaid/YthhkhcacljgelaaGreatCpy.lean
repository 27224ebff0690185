import Derived.Test.YthhkhcacljgelaaGreatProg
import Derived.Test.YthhkhcacljgelaaGreatKyy
/- Blocks of 16 bytes: copies, new ones. -/
namespace Go.Proofs.YthhkhcacljgelaaGreat
open Go.RowKit
set_option maxRecDepth 100000

/-- 16 zeros, as the walk spells them. -/
abbrev z16 : Array Value := #[.int .u8 0, .int .u8 0, .int .u8 0, .int .u8 0, .int .u8 0, .int .u8 0, .int .u8 0, .int .u8 0, .int .u8 0, .int .u8 0, .int .u8 0, .int .u8 0, .int .u8 0, .int .u8 0, .int .u8 0, .int .u8 0]
theorem bx2_zero (w : World) (s : Nat → Nat) : Bx2 w ((w.alloc (.cells (ba 16 s) 48)).alloc (.cells z16 48)) s (fun _ => 0) := Bx2.start w s (fun _ => 0)
theorem at_zero (w : World) : At (w.alloc (.cells z16 48)) w.heap.size 16 48 (fun _ => 0) := At.new w 16 48 (fun _ => 0)
theorem at_asked {w w' : World} {b g : Nat} {z : Nat → Nat} (h : At w g 16 48 z) (o : Only b w w') (hg : g ≠ b) : At w' g 16 48 z := (o.block _ h.lt hg).trans h
/-- Two variables of 16 bytes, new. -/
theorem two_zero (w : World) : At ((w.alloc (.cells z16 48)).alloc (.cells z16 48)) w.heap.size 16 48 (fun _ => 0) ∧ At ((w.alloc (.cells z16 48)).alloc (.cells z16 48)) (w.heap.size + 1) 16 48 (fun _ => 0) ∧ Below w.heap.size w ((w.alloc (.cells z16 48)).alloc (.cells z16 48)) := by
  have h := bx2_zero w (fun _ => 0)
  exact ⟨h.key, h.beg, h.low⟩
theorem splice16 (cur : List Value) (hc : cur.length = 16) (f : Nat → Nat) : (splice cur 0 ((ns 16 f).map (Value.int .u8))).toArray = ba 16 f := by
  rw [ns_ba]
  simp [splice, hc, ba_size, List.drop_eq_nil_of_le]
theorem wpList_copy16 {P : Program} {w : World} {ops : Array Oper} {rest : List Oper} {o : Oper} {a : Act} {Q : Exit → Act → World → Prop} (hgd : o.guard = none) (d s : Operand)
    (ho : o.op = .call { callee := .builtin .copy, args := #[d, s], argTypes := #[22, 22] }) (hu : P.underlying 22 = some (.slice 5)) (hsz : (P.info? 5).map (·.size) = some 1)
    (g dc gb off cb : Nat) (f0 fb : Nat → Nat) (hd : a.eval d = .slice (some ⟨g, 0, none⟩) 16 dc) (hs : a.eval s = .slice (some ⟨gb, off, none⟩) 16 cb) (hA : At w g 16 48 f0) (hB : Wd w 16 gb off fb) (w0 : World) (hb : Below g w0 w)
    (h : ∀ w', At w' g 16 48 fb → Below g w0 w' → wpList P ops Q rest (a.put o.dst (.int .i64 16)) w') : wpList P ops Q (o :: rest) a w := by
  refine wpList_copy_splice hgd d s 22 22 ho 5 hu hsz _ _ 16 dc 16 cb hd hs g 0 (ba 16 f0).toList 48 (by rw [Array.toArray_toList]; exact hA) ((ns 16 fb).map (Value.int .u8)) (by rw [List.length_map, ns_len]; rfl) (fun _ => ⟨rfl, _, rfl, fun j v hj => ?_⟩) (by rw [List.length_map, ns_len, Array.length_toList, ba_size]; omega) (fun v hv => by obtain ⟨z, _, rfl⟩ := List.mem_map.1 hv; rfl) g w0 hb (Nat.le_refl _) (fun w' hg hb' => ?_)
  · have hj16 : j < 16 := by have := (List.getElem?_eq_some_iff.1 hj).1; rwa [List.length_map, ns_len] at this
    rw [List.getElem?_map, ns_at fb hj16] at hj
    rw [Addr.add_mid, hB.cell j hj16]
    simpa using hj
  · rw [List.length_map, ns_len]
    refine h w' ?_ hb'
    have := hg.out
    rwa [splice16 _ (by rw [Array.length_toList, ba_size])] at this

theorem step_copy16 {ops : Array Oper} {o : Oper} {a : Act} {w : World} {K : Act → World → Prop} {Q : Exit → Act → World → Prop} {X : Prop} (hgd : o.guard = none) (d s : Operand)
    (ho : o.op = .call { callee := .builtin .copy, args := #[d, s], argTypes := #[22, 22] }) (g dc gb off cb : Nat) (f0 fb : Nat → Nat) (hd : a.eval d = .slice (some ⟨g, 0, none⟩) 16 dc) (hs : a.eval s = .slice (some ⟨gb, off, none⟩) 16 cb)
    (hA : At w g 16 48 f0) (hB : Wd w 16 gb off fb) (h : K (a.put o.dst (.int .i64 16)) (w.setRow g (ba 16 fb))) : if Region.wanted o (yielded ops a.tmps) = true then Oper.wp Tryz.prog o a w K Q else X := by
  have hw : Region.wanted o (yielded ops a.tmps) = true := by simp [Region.wanted, hgd]
  rw [if_pos hw]
  have hrun := run_copy_row (P := Tryz.prog) w 22 22 o.type 5 g 0 16 dc ⟨gb, off, none⟩ 16 cb (ba 16 f0) 48 ((ns 16 fb).map (Value.int .u8)) Tryz.underlying22 (by kernel_rfl) hA (by rw [List.length_map, ns_len]; rfl)
    (fun j v hj => by
      have hj16 : j < 16 := by have := (List.getElem?_eq_some_iff.1 hj).1; rwa [List.length_map, ns_len] at this
      rw [List.getElem?_map, ns_at fb hj16] at hj
      rw [Addr.add_mid, hB.cell j hj16]
      simpa using hj) (by rw [List.length_map, ns_len, ba_size]; omega) (fun v hv => by obtain ⟨z, _, rfl⟩ := List.mem_map.1 hv; rfl)
  have e : ((ba 16 f0).toList.take 0 ++ (ns 16 fb).map (Value.int .u8) ++ (ba 16 f0).toList.drop (0 + ((ns 16 fb).map (Value.int .u8)).length)).toArray = ba 16 fb := by
    have := splice16 (ba 16 f0).toList (by rw [Array.length_toList, ba_size]) fb
    unfold splice at this
    rw [List.append_assoc]
    exact this
  rw [e, List.length_map, ns_len] at hrun
  unfold Oper.wp
  simp [execOp, ho, resolve, invoke, builtin, hd, hs, hrun, Result.andThen]
  exact h

end Go.Proofs.YthhkhcacljgelaaGreat
