import Derived.Test.YteoiekooaokhaaaProg
import Derived.Test.YteoiekooaokhaaaCmd
import Derived.Test.YteoiekooaokhaaaArd
/- The document's Block and Masks. -/
namespace Go.Proofs.Yteoiekooaokhaaa
open Go.RowKit
set_option maxRecDepth 100000

theorem splice16 (cur : List Value) (hc : cur.length = 16) (f : Nat → Nat) : (splice cur 0 ((ns 16 f).map (Value.int .u8))).toArray = ba 16 f := by
  rw [ns_ba]
  simp [splice, hc, ba_size, List.drop_eq_nil_of_le]
theorem wpList_copy16 {P : Program} {w : World} {ops : Array Oper} {rest : List Oper} {o : Oper} {a : Act} {Q : Exit → Act → World → Prop} (hgd : o.guard = none) (d s : Operand)
    (ho : o.op = .call { callee := .builtin .copy, args := #[d, s], argTypes := #[22, 22] }) (hu : P.underlying 22 = some (.slice 5)) (hsz : (P.info? 5).map (·.size) = some 1)
    (g dc gb off cb : Nat) (f0 fb : Nat → Nat) (hd : a.eval d = .slice (some ⟨g, 0, none⟩) 16 dc) (hs : a.eval s = .slice (some ⟨gb, off, none⟩) 16 cb) (hA : At w g 16 39 f0) (hB : Wd w 16 gb off fb) (w0 : World) (hb : Below g w0 w)
    (h : ∀ w', At w' g 16 39 fb → Below g w0 w' → wpList P ops Q rest (a.put o.dst (.int .i64 16)) w') : wpList P ops Q (o :: rest) a w := by
  refine wpList_copy_splice hgd d s 22 22 ho 5 hu hsz _ _ 16 dc 16 cb hd hs g 0 (ba 16 f0).toList 39 (by rw [Array.toArray_toList]; exact hA) ((ns 16 fb).map (Value.int .u8)) (by rw [List.length_map, ns_len]; rfl) (fun _ => ⟨rfl, _, rfl, fun j v hj => ?_⟩) (by rw [List.length_map, ns_len, Array.length_toList, ba_size]; omega) (fun v hv => by obtain ⟨z, _, rfl⟩ := List.mem_map.1 hv; rfl) g w0 hb (Nat.le_refl _) (fun w' hg hb' => ?_)
  · have hj16 : j < 16 := by have := (List.getElem?_eq_some_iff.1 hj).1; rwa [List.length_map, ns_len] at this
    rw [List.getElem?_map, ns_at fb hj16] at hj
    rw [Addr.add_mid, hB.cell j hj16]
    simpa using hj
  · rw [List.length_map, ns_len]
    refine h w' ?_ hb'
    have := hg.out
    rwa [splice16 _ (by rw [Array.length_toList, ba_size])] at this

theorem Ky.block {w : World} {v : Value} {R R1 : Nat} {Y : Nat → Nat → Nat} (h : Ky w v R R1 Y) (f : Nat → Nat) (hf : B16 f) (W : World) (hb : Below w.heap.size w W) :
    Calls Try.prog 46 #[v, .agg (ba 16 f)] W fun e w' => e = .returned (.agg (ba 16 (blkF Y R f))) ∧ Below W.heap.size W w' :=
  refblock_any v R R1 Y f W h.num.1 h.num.2.1 h.num.2.2 hf h.yb (fun w' hw => h.exp w' (hb.trans (hw.mono hb.size)))

/-- What is told by the document's Block. -/
def BlkP (w : World) (z : Nat → Nat) (e : Ending) (w' : World) : Prop := ∃ g, e = .returned (.slice (some ⟨g, 0, none⟩) 16 16) ∧ Wd w' 16 g 0 z ∧ w.heap.size ≤ g ∧ Below w.heap.size w w'
set_option maxHeartbeats 800000 in
theorem refblk_any (kv : Value) (R R1 : Nat) (Y : Nat → Nat → Nat) (g off c : Nat) (f : Nat → Nat) (w : World) (hk : Ky w kv R R1 Y) (hf : Wd w 16 g off f) :
    Calls Try.prog 28 #[kv, .slice (some ⟨g, off, none⟩) 16 c] w fun e w' => BlkP w (blkF Y R f) e w' := by
  have HA := hid (at_zero w)
  have HL : Hid (Below w.heap.size w (w.alloc (.cells z16 39))) := hid ((Below.refl _ _).alloc (Nat.le_refl _) _)
  have HW := hid hf
  have HB := hid (fun W (h : Below w.heap.size w W) => hk.block f hf.byte W h)
  have HZ := hid (blkF_b hk.yb hf.byte)
  have HA2 : Hid (At ((w.alloc (.cells z16 39)).setRow w.heap.size (ba 16 (fun _ => 0))) w.heap.size 16 39 (fun _ => 0) ∧ Below w.heap.size w ((w.alloc (.cells z16 39)).setRow w.heap.size (ba 16 (fun _ => 0)))) := hid ⟨HA.out.row _, below_setRow HL.out (Nat.le_refl _) _⟩
  clear hk hf
  go_enter Try.func28, Try.ntmps28
  go_wp2_with (first
    | (refine step_store_ba rfl 39 (.tmp 5) (.tmp 6) rfl w.heap.size 16 39 (fun _ => 0) (fun _ => 0) rfl rfl HA.out infoa ?_
       generalize (w.alloc (.cells z16 39)).setRow w.heap.size (ba 16 (fun _ => 0)) = w1 at *)
    | (refine wpList_copy16 rfl (.tmp 7) (.tmp 8) rfl Try.underlying22 (by kernel_rfl) w.heap.size 16 g off c (fun _ => 0) f rfl rfl HA2.out.1 (HW.out.self HA2.out.2) w HA2.out.2 ?_; intro w2 hA2 hb2; have HA3 := hid hA2; have HB3 := hid hb2; clear hA2 hb2)
    | (refine step_load_ba rfl 39 _ rfl w.heap.size 16 39 5 f rfl HA3.out Try.underlying39 infoa ?_)
    | (go_at_call 46; (with_reducible refine (HB.out w2 HB3.out).mono ?_); rintro e w3 ⟨rfl, hlow⟩; have HA4 := hid (HA3.out.self hlow); have HB4 := hid (HB3.out.trans (hlow.mono HB3.out.size)); clear hlow)
    | (refine step_store_ba rfl 39 _ _ rfl w.heap.size 16 39 f (blkF Y R f) rfl rfl HA4.out infoa ?_; have HA5 := hid (HA4.out.row (blkF Y R f)); have HB5 := hid (below_setRow HB4.out (Nat.le_refl _) (ba 16 (blkF Y R f)))))
  go_ret
  exact ⟨w.heap.size, rfl, Wd.of_at HA5.out HZ.out, Nat.le_refl _, HB5.out⟩
set_option maxHeartbeats 800000 in
theorem refblk_nil (kv : Value) (R R1 : Nat) (Y : Nat → Nat → Nat) (w : World) (hk : Ky w kv R R1 Y) :
    Calls Try.prog 28 #[kv, .slice none 0 0] w fun e w' => BlkP w (blkF Y R (fun _ => 0)) e w' := by
  have HA := hid (at_zero w)
  have HL : Hid (Below w.heap.size w (w.alloc (.cells z16 39))) := hid ((Below.refl _ _).alloc (Nat.le_refl _) _)
  have HB := hid (fun W (h : Below w.heap.size w W) => hk.block (fun _ => 0) B16.zero W h)
  have HZ := hid (blkF_b hk.yb B16.zero)
  have HA2 : Hid (At ((w.alloc (.cells z16 39)).setRow w.heap.size (ba 16 (fun _ => 0))) w.heap.size 16 39 (fun _ => 0) ∧ Below w.heap.size w ((w.alloc (.cells z16 39)).setRow w.heap.size (ba 16 (fun _ => 0)))) := hid ⟨HA.out.row _, below_setRow HL.out (Nat.le_refl _) _⟩
  clear hk
  generalize blkF Y R (fun _ => 0) = z at *
  go_enter Try.func28, Try.ntmps28
  go_wp2_with (first
    | (refine step_store_ba rfl 39 (.tmp 5) (.tmp 6) rfl w.heap.size 16 39 (fun _ => 0) (fun _ => 0) rfl rfl HA.out infoa ?_
       generalize (w.alloc (.cells z16 39)).setRow w.heap.size (ba 16 (fun _ => 0)) = w1 at *)
    | (refine wpList_copy_nothing rfl (.tmp 7) (.tmp 8) 22 22 rfl 5 Try.underlying22 (by kernel_rfl) _ _ _ _ _ _ rfl rfl (by decide) ?_)
    | (refine step_load_ba rfl 39 _ rfl w.heap.size 16 39 5 (fun _ => 0) rfl HA2.out.1 Try.underlying39 infoa ?_)
    | (go_at_call 46; (with_reducible refine (HB.out w1 HA2.out.2).mono ?_); rintro e w3 ⟨rfl, hlow⟩; have HA4 := hid (HA2.out.1.self hlow); have HB4 := hid (HA2.out.2.trans (hlow.mono HA2.out.2.size)); clear hlow)
    | (refine step_store_ba rfl 39 _ _ rfl w.heap.size 16 39 (fun _ => 0) z rfl rfl HA4.out infoa ?_; have HA5 := hid (HA4.out.row z); have HB5 := hid (below_setRow HB4.out (Nat.le_refl _) (ba 16 z))))
  go_ret
  exact ⟨w.heap.size, rfl, Wd.of_at HA5.out HZ.out, Nat.le_refl _, HB5.out⟩

theorem refmasks_any (kv : Value) (R R1 : Nat) (Y : Nat → Nat → Nat) (w : World) (hk : Ky w kv R R1 Y) :
    Calls Try.prog 10 #[kv] w fun e w' => ∃ g1 c1 g2 c2, e = .returned (.tuple #[.slice (some ⟨g1, 0, none⟩) 16 c1, .slice (some ⟨g2, 0, none⟩) 16 c2]) ∧ Wd w' 16 g1 0 (m1F Y R) ∧ Wd w' 16 g2 0 (m2F Y R) ∧ w.heap.size ≤ g1 ∧ w.heap.size ≤ g2 ∧ Below w.heap.size w w' := by
  have HC := hid (refblk_nil kv R R1 Y w hk)
  have HZ := hid (blkF_b hk.yb B16.zero)
  have HM1 := hid (m1F_b hk.yb)
  have HM2 := hid (m2F_b hk.yb)
  have HE : Hid (dbF (blkF Y R (fun _ => 0)) = m1F Y R ∧ dbF (m1F Y R) = m2F Y R) := hid ⟨rfl, rfl⟩
  generalize blkF Y R (fun _ => 0) = z at *
  generalize m1F Y R = m1 at *
  generalize m2F Y R = m2 at *
  unfold BlkP at HC
  clear hk
  go_enter Try.func10, Try.ntmps10
  go_wp2_with (first
    | (go_at_call 28; (with_reducible refine HC.out.mono ?_); rintro e w1 ⟨g, rfl, hw, hg, hlow⟩
       have HR1 := hid (hw.rd 16 (by decide))
       have HL1 := hid hlow
       clear hw hg hlow)
    | (go_at_call 27; (with_reducible refine (refdouble_ns (.slice (some ⟨g, 0, none⟩) 16 16) z w1 HR1.out HZ.out).mono ?_); rintro e w3 ⟨g1, c1, rfl, hown, hlow⟩
       rw [HE.out.1] at hown
       have HW3 := hid (wd_own hown HM1.out)
       have HR3 := hid (HW3.out.1.rd c1 (by decide))
       have HL3 := hid hlow
       clear hown hlow)
    | (go_at_call 27; (with_reducible refine (refdouble_ns (.slice (some ⟨g1, 0, none⟩) 16 c1) m1 w3 HR3.out HM1.out).mono ?_); rintro e w4 ⟨g2, c2, rfl, hown, hlow⟩
       rw [HE.out.2] at hown
       have HW4 := hid (wd_own hown HM2.out)
       have HL4 := hid hlow
       clear hown hlow))
  go_ret2
  have h1 := HL1.out.size
  have h3 := HL3.out.size
  exact ⟨g1, c1, g2, c2, rfl, HW3.out.1.self HL4.out, HW4.out.1, Nat.le_trans h1 HW3.out.2, Nat.le_trans (Nat.le_trans h1 h3) HW4.out.2, (HL1.out.trans (HL3.out.mono h1)).trans (HL4.out.mono (Nat.le_trans h1 h3))⟩
end Go.Proofs.Yteoiekooaokhaaa
