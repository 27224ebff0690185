import Derived.Test.YtflfnaiklnbaiaaProg
import Derived.Test.YtflfnaiklnbaiaaShr
import Derived.Test.YtflfnaiklnbaiaaOda
import Derived.Test.YtflfnaiklnbaiaaTmh
import Derived.Test.YtflfnaiklnbaiaaRgt
import Derived.Test.YtflfnaiklnbaiaaWdc
/- Times: the program's parts, over any machine: what two shares give each other. -/
namespace Go.Proofs.Ytflfnaiklnbaiaa
open Go.RowKit Go.Maps
set_option maxRecDepth 100000
theorem laidOutT : laidOutB Try.prog = true := by kernel_rfl
theorem kprK : Keyed Try.prog 111 := Keyed.of_law (deep_law_laid laidOutT (m := 3) (by omega) (of_decide_eq_true (by kernel_rfl)) (by kernel_rfl) (by kernel_rfl))
theorem prkP : PrK Try.prog 111 := fun i hi j hj => by
  have h : ∀ i j : Nat, i < 3 → j < 3 → (keyOf Try.prog 111 (prV i j)).isSome = true := fun i j hi hj => by
    rcases (by omega : i = 0 ∨ i = 1 ∨ i = 2) with rfl | rfl | rfl <;> rcases (by omega : j = 0 ∨ j = 1 ∨ j = 2) with rfl | rfl | rfl <;> kernel_rfl
  exact Option.isSome_iff_exists.1 (h i j hi hj)
theorem zeroI (w : World) : (zeroValue 3).run Try.prog w = .ok (.int .i64 0) w := by kernel_rfl
/-- The cells of parts: the machine in block b, the masks in block g, the products. -/
abbrev ptC (b g : Nat) (p : Nat → Int) : Array Value := #[.pointer (some ⟨b, 0, none⟩), .map (some g), .int .i64 (p 0), .int .i64 (p 1), .int .i64 (p 2), .int .i64 (p 3), .int .i64 (p 4), .int .i64 (p 5), .int .i64 (p 6), .int .i64 (p 7), .int .i64 (p 8)]
theorem pt_at (b g : Nat) (p : Nat → Int) {j : Nat} (hj : j < 9) : (ptC b g p)[2 + j]? = some (.int .i64 (p j)) := by
  rcases (by omega : j = 0 ∨ j = 1 ∨ j = 2 ∨ j = 3 ∨ j = 4 ∨ j = 5 ∨ j = 6 ∨ j = 7 ∨ j = 8) with rfl | rfl | rfl | rfl | rfl | rfl | rfl | rfl | rfl <;> rfl
/-- A block that is a map of masks. -/
abbrev Msk (c : Nat) (r : Nat → Int) (o : Obj) : Prop := MapO Try.prog 111 3 c r o
theorem Msk.run {c : Nat} {r : Nat → Int} {o : Obj} (h : Msk c r o) {w : World} {g i k : Nat} (hg : w.heap[g]? = some o) (hi : i < 3) (hk : k < 3) : (Instr.lookup 103 (.map (some g)) (prV i k) false).run Try.prog w = .ok (.int .i64 (r (i * 3 + k))) w := MapO.look kprK Try.underlying103 Try.underlying3 (zeroI w) h hg hi hk
theorem Ow.atB {Pm : World → Nat → Ms → (Nat → Prop) → Prop} {F0 : Nat → Prop} {w0 w : World} {b : Nat} {S : Ms} {bs : List (Nat × Obj)} (h : Ow Pm F0 w0 w b S bs) {n : Nat} {u : Obj} (hi : (n, u) ∈ bs) : w.heap[n]? = some u := (h.bx (n, u) hi).2
theorem built_pr (x y : Int) : Try.prog.built 111 [(0, .int .i64 x), (1, .int .i64 y)] = some #[.int .i64 x, .int .i64 y] := by kernel_rfl
theorem yields_build_pr {ops : Array Oper} {S : World → Prop} {o : Oper} {a : Act} (hw : Region.wanted o (yielded ops a.tmps) = true) (u v : Operand) (ho : o.op = .build 111 #[(0, u), (1, v)]) (x y : Int) (hx : a.eval u = .int .i64 x) (hy : a.eval v = .int .i64 y) : YieldsIf Try.prog ops S o (.agg #[.int .i64 x, .int .i64 y]) a :=
  .inl ⟨hw, fun w _ => by
    unfold execOp
    have e : ((#[(0, u), (1, v)] : Array (Nat × Operand)).map fun (i, x) => (i, a.eval x)).toList = [(0, .int .i64 x), (1, .int .i64 y)] := by simp [hx, hy]
    have hb := run_build (P := Try.prog) w 111 ((#[(0, u), (1, v)] : Array (Nat × Operand)).map fun (i, x) => (i, a.eval x)) _ (by rw [e]; exact built_pr x y)
    simp only [ho, Sem.run_bind, hb, Result.andThen_ok, Sem.run_pure]⟩
set_option maxHeartbeats 1600000 in
theorem txor_any {Pm : World → Nat → Ms → (Nat → Prop) → Prop} (hM : Mach Pm) {F0 : Nat → Prop} {w0 w : World} {b : Nat} {bs : List (Nat × Obj)} (g : Nat) (p : Nat → Int) (k i : Nat) (x z : Int) (S : Ms) (h : Ow Pm F0 w0 w b S bs) (hq : Bq k S) (hk : k ≤ 100000) (hi : i ≤ 1000) (hx : I64 x) (hz : I64 z) :
    Calls Try.prog 61 #[.agg (ptC b g p), .int .i64 (i : Int), .int .i64 x, .int .i64 z] w fun e w' => e = .returned (.int .i64 (dR0 S (xr6 i x z))) ∧ Ow Pm F0 w0 w' b (dS0 S (xr6 i x z)) bs := by
  have HC : Hid (∀ (bs' : List (Nat × Obj)) (w' : World), Ow Pm F0 w0 w' b S bs' → Calls Try.prog 69 #[.pointer (some ⟨b, 0, none⟩), .int .i64 5, .int .i64 (i : Int), .int .i64 x, .int .i64 z] w' fun e w2 => e = .returned (.int .i64 (dR0 S (xr6 i x z))) ∧ Ow Pm F0 w0 w2 b (dS0 S (xr6 i x z)) bs') := hid (fun bs' w' h' => h'.lift hM (fun F hF => hM.two b k S F 5 (i : Int) x z w' hF hq (by omega) (xr6_wf hi hx hz)))
  obtain ⟨w1, hw1⟩ : ∃ w1, w.alloc (.cells (ptC b g p) 106) = w1 := ⟨_, rfl⟩
  have H1 := hid (h.new hM (ptC b g p) 106)
  rw [hw1] at H1
  have HW := hid hw1
  have c0 := row_c (i := 0) (u := .pointer (some ⟨b, 0, none⟩)) (H1.out.bl 0 rfl) rfl
  clear h hq hk hi hx hz hw1
  generalize dS0 S (xr6 i x z) = S2 at *
  generalize dR0 S (xr6 i x z) = x2 at *
  go_enter Try.func61, Try.ntmps61
  go_upto_region 1 with fail
  rw [HW.out]
  go_wp2_with (go_at_call 69; (with_reducible refine (HC.out _ _ H1.out).mono ?_); rintro e w2 ⟨rfl, hb⟩; have H2 := hid hb; clear hb c0)
  go_ret
  exact ⟨rfl, H2.out.drop⟩
set_option maxHeartbeats 3200000 in
theorem tdom_any {Pm : World → Nat → Ms → (Nat → Prop) → Prop} (hM : Mach Pm) {F0 : Nat → Prop} {w0 w : World} {b : Nat} {bs : List (Nat × Obj)} (g : Nat) (o : Obj) (c : Nat) (r p : Nat → Int) (q i k : Nat) (S : Ms) (h : Ow Pm F0 w0 w b S bs) (hg : (g, o) ∈ bs) (ho : Msk c r o) (hq : Bq q S) (hk : q + 2 ≤ 100000) (hi : i < 3) (hk3 : k < 3) (hr : Wb r) (hp : Wb p) :
    Calls Try.prog 44 #[.agg (ptC b g p), .int .i64 (i : Int), .int .i64 (k : Int)] w fun e w' => e = .returned (.int .i64 (moG dS0 dR0 true r p S i k).2) ∧ Ow Pm F0 w0 w' b (moG dS0 dR0 true r p S i k).1 bs := by
  rw [moG_dom]
  have HC : Hid (∀ (w' : World), Ow Pm F0 w0 w' b S ((w.heap.size, .cells (ptC b g p) 106 (0, 0)) :: bs) → Calls Try.prog 61 #[.agg (ptC b g p), .int .i64 (i : Int), .int .i64 (p (i * 3 + k)), .int .i64 (r (i * 3 + k))] w' fun e w2 => e = .returned (.int .i64 (dR0 S (xr6 i (p (i * 3 + k)) (r (i * 3 + k))))) ∧ Ow Pm F0 w0 w2 b (dS0 S (xr6 i (p (i * 3 + k)) (r (i * 3 + k)))) ((w.heap.size, .cells (ptC b g p) 106 (0, 0)) :: bs)) := hid (fun w' h' => txor_any hM g p q i _ _ S h' hq (by omega) (by omega) (hp _) (hr _))
  obtain ⟨w1, hw1⟩ : ∃ w1, w.alloc (.cells (ptC b g p) 106) = w1 := ⟨_, rfl⟩
  have H1 := hid (h.new hM (ptC b g p) 106)
  rw [hw1] at H1
  obtain ⟨g3, hg3⟩ : ∃ g3, w.heap.size = g3 := ⟨_, rfl⟩
  rw [hg3] at H1
  have HG3 := hid hg3
  have HW := hid hw1
  have HO := hid ho
  have HG := hid hg
  have HI := hid hi
  have HK := hid hk3
  rw [hg3] at HC
  have HY1 : Hid ((ptC b g p)[2 + i * 3 + k]? = some (.int .i64 (p (i * 3 + k)))) := hid (by rw [Nat.add_assoc]; exact pt_at b g p (by omega))
  have i0 : (0 : Int) ≤ (i : Int) := by omega
  have i3 : (i : Int) < 3 := by omega
  have k0 : (0 : Int) ≤ (k : Int) := by omega
  have k3 : (k : Int) < 3 := by omega
  clear h hg ho hq hk hi hk3 hr hp hg3 hw1
  obtain ⟨y, hy⟩ : ∃ y, p (i * 3 + k) = y := ⟨_, rfl⟩
  obtain ⟨z, hz⟩ : ∃ z, r (i * 3 + k) = z := ⟨_, rfl⟩
  have HZ2 := hid hz
  rw [hy] at HY1
  simp only [hy, hz] at HC ⊢
  clear hy hz
  generalize dS0 S (xr6 i y z) = S2 at *
  generalize dR0 S (xr6 i y z) = x2 at *
  go_enter Try.func44, Try.ntmps44
  go_upto_region 1 with fail
  rw [HW.out, HG3.out]
  have H2 := hid (H1.out.self hM ((Below.refl _ w1).drew))
  refine wp_region_noPanic ?_
  refine wp_region_held_drew (S := fun w' => w'.heap[g3]? = some (.cells (ptC b g p) 106 (0, 0)) ∧ (Instr.lookup 103 (.map (some g)) (prV i k) false).run Try.prog w' = .ok (.int .i64 z) w') (by kernel_rfl) (⟨H2.out.bl 0 rfl, by have q := Msk.run HO.out (H2.out.drop.atB HG.out) HI.out HK.out; rw [HZ2.out] at q; exact q⟩) (fun h0 => ?_)
  generalize w1.drew = y1 at *
  refine wpAnyH_take (i := 0) (v := .agg (ptC b g p)) rfl (by kernel_rfl) (by kernel_rfl) (by kernel_rfl) (fun _ _ _ h => h) (yields_load_row (by rfl) 106 _ rfl g3 106 (ptC b g p) _ rfl (fun w hw => hw.1) Try.underlying106 rfl (by kernel_rfl)) h0 ?_
  try simp only [Act.put, lay_out]
  refine wpAnyH_take (i := 1) (v := .int .i64 (i : Int)) rfl (by kernel_rfl) (by kernel_rfl) (by kernel_rfl) (fun _ _ _ h => h) (.inl ⟨by rfl, fun w hw => by clear hw; go_simp⟩) h0 ?_
  try simp only [Act.put, lay_out]
  refine wpAnyH_take (i := 2) (v := .int .i64 (i : Int)) rfl (by kernel_rfl) (by kernel_rfl) (by kernel_rfl) (fun _ _ _ h => h) (.inl ⟨by rfl, fun w hw => by clear hw; go_simp⟩) h0 ?_
  try simp only [Act.put, lay_out]
  refine wpAnyH_take (i := 3) (v := .int .i64 (k : Int)) rfl (by kernel_rfl) (by kernel_rfl) (by kernel_rfl) (fun _ _ _ h => h) (.inl ⟨by rfl, fun w hw => by clear hw; go_simp⟩) h0 ?_
  try simp only [Act.put, lay_out]
  refine wpAnyH_take (i := 4) (v := .pointer (some ⟨g3, 2, none⟩)) rfl (by kernel_rfl) (by kernel_rfl) (by kernel_rfl) (fun _ _ _ h => h) (.inl ⟨by rfl, fun w hw => by clear hw; go_simp⟩) h0 ?_
  try simp only [Act.put, lay_out]
  refine wpAnyH_take (i := 5) (v := .pointer (some ⟨g3, 2 + i * 3, none⟩)) rfl (by kernel_rfl) (by kernel_rfl) (by kernel_rfl) (fun _ _ _ h => h) (.inl ⟨by rfl, fun w hw => by clear hw; go_simp⟩) h0 ?_
  try simp only [Act.put, lay_out]
  refine wpAnyH_take (i := 6) (v := .pointer (some ⟨g3, 2 + i * 3 + k, none⟩)) rfl (by kernel_rfl) (by kernel_rfl) (by kernel_rfl) (fun _ _ _ h => h) (.inl ⟨by rfl, fun w hw => by clear hw; go_simp⟩) h0 ?_
  try simp only [Act.put, lay_out]
  refine wpAnyH_take (i := 7) (v := .int .i64 y) rfl (by kernel_rfl) (by kernel_rfl) (by kernel_rfl) (fun _ _ _ h => h) (.inl ⟨by rfl, fun w' hw => by have hc := row_c (i := 2 + i * 3 + k) (u := .int .i64 y) (hw.1) (HY1.out); clear hw; go_simp⟩) h0 ?_
  try simp only [Act.put, lay_out]
  refine wpAnyH_take (i := 8) (v := .pointer (some ⟨g3, 1, none⟩)) rfl (by kernel_rfl) (by kernel_rfl) (by kernel_rfl) (fun _ _ _ h => h) (.inl ⟨by rfl, fun w hw => by clear hw; go_simp⟩) h0 ?_
  try simp only [Act.put, lay_out]
  refine wpAnyH_take (i := 9) (v := .map (some g)) rfl (by kernel_rfl) (by kernel_rfl) (by kernel_rfl) (fun _ _ _ h => h) (.inl ⟨by rfl, fun w' hw => by have hc := row_c (i := 1) (u := .map (some g)) (hw.1) (rfl); clear hw; go_simp⟩) h0 ?_
  try simp only [Act.put, lay_out]
  refine wpAnyH_take (i := 10) (v := .int .i64 (i : Int)) rfl (by kernel_rfl) (by kernel_rfl) (by kernel_rfl) (fun _ _ _ h => h) (.inl ⟨by rfl, fun w hw => by clear hw; go_simp⟩) h0 ?_
  try simp only [Act.put, lay_out]
  refine wpAnyH_take (i := 11) (v := .int .i64 (k : Int)) rfl (by kernel_rfl) (by kernel_rfl) (by kernel_rfl) (fun _ _ _ h => h) (.inl ⟨by rfl, fun w hw => by clear hw; go_simp⟩) h0 ?_
  try simp only [Act.put, lay_out]
  refine wpAnyH_take (i := 12) (v := .agg #[.int .i64 (i : Int), .int .i64 (k : Int)]) rfl (by kernel_rfl) (by kernel_rfl) (by kernel_rfl) (fun _ _ _ h => h) (yields_build_pr (by rfl) _ _ rfl (i : Int) (k : Int) rfl rfl) h0 ?_
  try simp only [Act.put, lay_out]
  refine wpAnyH_take (i := 13) (v := .int .i64 z) rfl (by kernel_rfl) (by kernel_rfl) (by kernel_rfl) (fun _ _ _ h => h) (yields_lookP (by rfl) _ _ rfl z rfl rfl (fun w hw => hw.2)) h0 ?_
  try simp only [Act.put, lay_out]
  refine wpAnyH_ready (rs := [14]) (by kernel_rfl) (by simp) (AllReadyH.cons rfl (fun K hK => ?_) AllReadyH.nil)
  rw [if_pos (by rfl)]
  go_simp
  go_at_call 61
  (with_reducible refine (HC.out _ H2.out).mono ?_); rintro e y2 ⟨rfl, hz⟩
  have H3 := hid hz
  clear hz
  refine hK.out _ _ (⟨H3.out.bl 0 rfl, by have q := Msk.run HO.out (H3.out.drop.atB HG.out) HI.out HK.out; rw [HZ2.out] at q; exact q⟩) (fun h1x => ?_)
  clear hK K
  try simp only [Act.put, lay_out]
  refine wpAnyH_take (i := 15) (v := .int .i64 x2) rfl (by kernel_rfl) (by kernel_rfl) (by kernel_rfl) (fun _ _ _ h => h) (.inl ⟨by rfl, fun w hw => by clear hw; go_simp⟩) h1x ?_
  try simp only [Act.put, lay_out]
  refine wpAnyH_done (by kernel_rfl) ?_ _
  refine NoPanic.normal ?_
  clear h0 h1x
  try simp only [Act.put, lay_out]
  go_wp2
  go_ret
  exact ⟨rfl, H3.out.drop⟩
set_option maxHeartbeats 3200000 in
theorem tiswU_any {Pm : World → Nat → Ms → (Nat → Prop) → Prop} (hM : Mach Pm) {F0 : Nat → Prop} {w0 w : World} {b : Nat} {bs : List (Nat × Obj)} (g : Nat) (o : Obj) (c : Nat) (r p : Nat → Int) (q i k : Nat) (S : Ms) (h : Ow Pm F0 w0 w b S bs) (hg : (g, o) ∈ bs) (ho : Msk c r o) (_ : Bq q S) (_ : q + 2 ≤ 100000) (hi : i < 3) (hk3 : k < 3) (hik : i < k) (_ : Wb r) (_ : Wb p) :
    Calls Try.prog 45 #[.agg (ptC b g p), .int .i64 (i : Int), .int .i64 (k : Int)] w fun e w' => e = .returned (.int .i64 (moG dS0 dR0 false r p S i k).2) ∧ Ow Pm F0 w0 w' b (moG dS0 dR0 false r p S i k).1 bs := by
  rw [moG_up _ _ _ hik]
  have HR : Hid (∀ w', Ow Pm F0 w0 w' b S ((w.heap.size, .cells (ptC b g p) 106 (0, 0)) :: bs) → (Instr.lookup 103 (.map (some g)) (prV i k) false).run Try.prog w' = .ok (.int .i64 (r (i * 3 + k))) w') := hid (fun w' h' => Msk.run ho (h'.drop.atB hg) hi hk3)
  obtain ⟨w1, hw1⟩ : ∃ w1, w.alloc (.cells (ptC b g p) 106) = w1 := ⟨_, rfl⟩
  have H1 := hid (h.new hM (ptC b g p) 106)
  rw [hw1] at H1
  obtain ⟨g3, hg3⟩ : ∃ g3, w.heap.size = g3 := ⟨_, rfl⟩
  rw [hg3] at H1
  have HG3 := hid hg3
  have HW := hid hw1
  have HO := hid ho
  have HG := hid hg
  have HI := hid hi
  have HK := hid hk3
  rw [hg3] at HR
  have q1 : decide ((k : Int) > (i : Int)) = true := decide_eq_true (by omega)
  have q2 : decide ((i : Int) < (k : Int)) = true := decide_eq_true (by omega)
  have q3 : decide (i < k) = true := decide_eq_true hik
  clear h hg ho hi hk3 hg3 hw1 hik
  obtain ⟨z, hz⟩ : ∃ z, r (i * 3 + k) = z := ⟨_, rfl⟩
  rw [hz] at HR
  rw [hz]
  clear hz
  have c1 := row_c (i := 1) (u := .map (some g)) (H1.out.bl 0 rfl) rfl
  have l1 := HR.out _ H1.out
  go_enter Try.func45, Try.ntmps45
  go_upto_region 1 with fail
  rw [HW.out, HG3.out]
  go_wp2
  go_ret
  exact ⟨rfl, H1.out.drop⟩
set_option maxHeartbeats 3200000 in
theorem tiswD_any {Pm : World → Nat → Ms → (Nat → Prop) → Prop} (hM : Mach Pm) {F0 : Nat → Prop} {w0 w : World} {b : Nat} {bs : List (Nat × Obj)} (g : Nat) (o : Obj) (c : Nat) (r p : Nat → Int) (q i k : Nat) (S : Ms) (h : Ow Pm F0 w0 w b S bs) (hg : (g, o) ∈ bs) (ho : Msk c r o) (hq : Bq q S) (hk : q + 2 ≤ 100000) (hi : i < 3) (hk3 : k < 3) (hki : k < i) (hsym : r (i * 3 + k) = r (k * 3 + i)) (hr : Wb r) (hp : Wb p) :
    Calls Try.prog 45 #[.agg (ptC b g p), .int .i64 (i : Int), .int .i64 (k : Int)] w fun e w' => e = .returned (.int .i64 (moG dS0 dR0 false r p S i k).2) ∧ Ow Pm F0 w0 w' b (moG dS0 dR0 false r p S i k).1 bs := by
  rw [moG_down _ _ _ hki]
  have w1_ : opwf (xr6 i (r (k * 3 + i)) (p (k * 3 + i))) := xr6_wf (by omega) (hr _) (hp _)
  have HC1 : Hid (∀ (w' : World), Ow Pm F0 w0 w' b S ((w.heap.size, .cells (ptC b g p) 106 (0, 0)) :: bs) → Calls Try.prog 61 #[.agg (ptC b g p), .int .i64 (i : Int), .int .i64 (r (k * 3 + i)), .int .i64 (p (k * 3 + i))] w' fun e w2 => e = .returned (.int .i64 (dR0 S (xr6 i (r (k * 3 + i)) (p (k * 3 + i))))) ∧ Ow Pm F0 w0 w2 b (dS0 S (xr6 i (r (k * 3 + i)) (p (k * 3 + i)))) ((w.heap.size, .cells (ptC b g p) 106 (0, 0)) :: bs)) := hid (fun w' h' => txor_any hM g p q i _ _ S h' hq (by omega) (by omega) (hr _) (hp _))
  have x1_ : I64 (dR0 S (xr6 i (r (k * 3 + i)) (p (k * 3 + i)))) := doR_bd hq (by omega) _
  have b1_ : Bq (q + 1) (dS0 S (xr6 i (r (k * 3 + i)) (p (k * 3 + i)))) := hq.does w1_ (by decide)
  have HC2 : Hid (∀ (w' : World), Ow Pm F0 w0 w' b (dS0 S (xr6 i (r (k * 3 + i)) (p (k * 3 + i)))) ((w.heap.size, .cells (ptC b g p) 106 (0, 0)) :: bs) → Calls Try.prog 61 #[.agg (ptC b g p), .int .i64 (i : Int), .int .i64 (dR0 S (xr6 i (r (k * 3 + i)) (p (k * 3 + i)))), .int .i64 (p (i * 3 + k))] w' fun e w2 => e = .returned (.int .i64 (dR0 (dS0 S (xr6 i (r (k * 3 + i)) (p (k * 3 + i)))) (xr6 i (dR0 S (xr6 i (r (k * 3 + i)) (p (k * 3 + i)))) (p (i * 3 + k))))) ∧ Ow Pm F0 w0 w2 b (dS0 (dS0 S (xr6 i (r (k * 3 + i)) (p (k * 3 + i)))) (xr6 i (dR0 S (xr6 i (r (k * 3 + i)) (p (k * 3 + i)))) (p (i * 3 + k)))) ((w.heap.size, .cells (ptC b g p) 106 (0, 0)) :: bs)) := hid (fun w' h' => txor_any hM g p (q + 1) i _ _ _ h' b1_ (by omega) (by omega) x1_ (hp _))
  have HR : Hid (∀ w', Ow Pm F0 w0 w' b S ((w.heap.size, .cells (ptC b g p) 106 (0, 0)) :: bs) → (Instr.lookup 103 (.map (some g)) (prV i k) false).run Try.prog w' = .ok (.int .i64 (r (k * 3 + i))) w') := hid (fun w' h' => hsym ▸ Msk.run ho (h'.drop.atB hg) hi hk3)
  obtain ⟨w1, hw1⟩ : ∃ w1, w.alloc (.cells (ptC b g p) 106) = w1 := ⟨_, rfl⟩
  have H1 := hid (h.new hM (ptC b g p) 106)
  rw [hw1] at H1
  obtain ⟨g3, hg3⟩ : ∃ g3, w.heap.size = g3 := ⟨_, rfl⟩
  rw [hg3] at H1
  have HG3 := hid hg3
  have HW := hid hw1
  have HO := hid ho
  have HG := hid hg
  have HI := hid hi
  have HK := hid hk3
  rw [hg3] at HR HC1 HC2
  have HY1 : Hid ((ptC b g p)[2 + k * 3 + i]? = some (.int .i64 (p (k * 3 + i)))) := hid (by rw [Nat.add_assoc]; exact pt_at b g p (by omega))
  have HY2 : Hid ((ptC b g p)[2 + i * 3 + k]? = some (.int .i64 (p (i * 3 + k)))) := hid (by rw [Nat.add_assoc]; exact pt_at b g p (by omega))
  have i0 : (0 : Int) ≤ (i : Int) := by omega
  have i3 : (i : Int) < 3 := by omega
  have k0 : (0 : Int) ≤ (k : Int) := by omega
  have k3 : (k : Int) < 3 := by omega
  have q1 : decide ((k : Int) > (i : Int)) = false := decide_eq_false (by omega)
  have q2 : decide ((i : Int) < (k : Int)) = false := decide_eq_false (by omega)
  have q3 : decide (i < k) = false := decide_eq_false (by omega)
  clear h hg ho hq hk hi hk3 hr hp hg3 hw1 hki w1_ x1_ b1_ hsym
  obtain ⟨y1v, hy1⟩ : ∃ y1v, p (k * 3 + i) = y1v := ⟨_, rfl⟩
  obtain ⟨y2v, hy2⟩ : ∃ y2v, p (i * 3 + k) = y2v := ⟨_, rfl⟩
  obtain ⟨z, hz⟩ : ∃ z, r (k * 3 + i) = z := ⟨_, rfl⟩
  rw [hy1] at HY1
  rw [hy2] at HY2
  rw [hz] at HR
  simp only [hy1, hy2, hz] at HC1 HC2 ⊢
  clear hy1 hy2 hz
  generalize dS0 S (xr6 i z y1v) = S2 at *
  generalize dR0 S (xr6 i z y1v) = x2 at *
  generalize dS0 S2 (xr6 i x2 y2v) = S3 at *
  generalize dR0 S2 (xr6 i x2 y2v) = x3 at *
  have c1 := row_c (i := 1) (u := .map (some g)) (H1.out.bl 0 rfl) rfl
  have l1 := HR.out _ H1.out
  go_enter Try.func45, Try.ntmps45
  go_upto_region 1 with fail
  rw [HW.out, HG3.out]
  go_upto_region 4 with fail
  clear c1 l1
  have H2 := hid (H1.out.self hM ((Below.refl _ w1).drew))
  refine wp_region_noPanic ?_
  refine wp_region_held_drew (S := fun w' => w'.heap[g3]? = some (.cells (ptC b g p) 106 (0, 0))) (by kernel_rfl) (H2.out.bl 0 rfl) (fun h0 => ?_)
  generalize w1.drew = y1 at *
  refine wpAnyH_take (i := 0) (v := .agg (ptC b g p)) rfl (by kernel_rfl) (by kernel_rfl) (by kernel_rfl) (fun _ _ _ h => h) (yields_load_row (by rfl) 106 _ rfl g3 106 (ptC b g p) _ rfl (fun w hw => hw) Try.underlying106 rfl (by kernel_rfl)) h0 ?_
  try simp only [Act.put, lay_out]
  refine wpAnyH_take (i := 1) (v := .int .i64 (i : Int)) rfl (by kernel_rfl) (by kernel_rfl) (by kernel_rfl) (fun _ _ _ h => h) (.inl ⟨by rfl, fun w hw => by clear hw; go_simp⟩) h0 ?_
  try simp only [Act.put, lay_out]
  refine wpAnyH_take (i := 2) (v := .agg (ptC b g p)) rfl (by kernel_rfl) (by kernel_rfl) (by kernel_rfl) (fun _ _ _ h => h) (yields_load_row (by rfl) 106 _ rfl g3 106 (ptC b g p) _ rfl (fun w hw => hw) Try.underlying106 rfl (by kernel_rfl)) h0 ?_
  try simp only [Act.put, lay_out]
  refine wpAnyH_take (i := 3) (v := .int .i64 (i : Int)) rfl (by kernel_rfl) (by kernel_rfl) (by kernel_rfl) (fun _ _ _ h => h) (.inl ⟨by rfl, fun w hw => by clear hw; go_simp⟩) h0 ?_
  try simp only [Act.put, lay_out]
  refine wpAnyH_take (i := 4) (v := .int .i64 z) rfl (by kernel_rfl) (by kernel_rfl) (by kernel_rfl) (fun _ _ _ h => h) (.inl ⟨by rfl, fun w hw => by clear hw; go_simp⟩) h0 ?_
  try simp only [Act.put, lay_out]
  refine wpAnyH_take (i := 5) (v := .int .i64 (k : Int)) rfl (by kernel_rfl) (by kernel_rfl) (by kernel_rfl) (fun _ _ _ h => h) (.inl ⟨by rfl, fun w hw => by clear hw; go_simp⟩) h0 ?_
  try simp only [Act.put, lay_out]
  refine wpAnyH_take (i := 6) (v := .int .i64 (i : Int)) rfl (by kernel_rfl) (by kernel_rfl) (by kernel_rfl) (fun _ _ _ h => h) (.inl ⟨by rfl, fun w hw => by clear hw; go_simp⟩) h0 ?_
  try simp only [Act.put, lay_out]
  refine wpAnyH_take (i := 7) (v := .pointer (some ⟨g3, 2, none⟩)) rfl (by kernel_rfl) (by kernel_rfl) (by kernel_rfl) (fun _ _ _ h => h) (.inl ⟨by rfl, fun w hw => by clear hw; go_simp⟩) h0 ?_
  try simp only [Act.put, lay_out]
  refine wpAnyH_take (i := 8) (v := .pointer (some ⟨g3, 2 + k * 3, none⟩)) rfl (by kernel_rfl) (by kernel_rfl) (by kernel_rfl) (fun _ _ _ h => h) (.inl ⟨by rfl, fun w hw => by clear hw; go_simp⟩) h0 ?_
  try simp only [Act.put, lay_out]
  refine wpAnyH_take (i := 9) (v := .pointer (some ⟨g3, 2 + k * 3 + i, none⟩)) rfl (by kernel_rfl) (by kernel_rfl) (by kernel_rfl) (fun _ _ _ h => h) (.inl ⟨by rfl, fun w hw => by clear hw; go_simp⟩) h0 ?_
  try simp only [Act.put, lay_out]
  refine wpAnyH_take (i := 10) (v := .int .i64 y1v) rfl (by kernel_rfl) (by kernel_rfl) (by kernel_rfl) (fun _ _ _ h => h) (.inl ⟨by rfl, fun w' hw => by have hc := row_c (i := 2 + k * 3 + i) (u := .int .i64 y1v) (hw) (HY1.out); clear hw; go_simp⟩) h0 ?_
  try simp only [Act.put, lay_out]
  refine wpAnyH_take (i := 12) (v := .int .i64 (i : Int)) rfl (by kernel_rfl) (by kernel_rfl) (by kernel_rfl) (fun _ _ _ h => h) (.inl ⟨by rfl, fun w hw => by clear hw; go_simp⟩) h0 ?_
  try simp only [Act.put, lay_out]
  refine wpAnyH_take (i := 13) (v := .int .i64 (k : Int)) rfl (by kernel_rfl) (by kernel_rfl) (by kernel_rfl) (fun _ _ _ h => h) (.inl ⟨by rfl, fun w hw => by clear hw; go_simp⟩) h0 ?_
  try simp only [Act.put, lay_out]
  refine wpAnyH_take (i := 14) (v := .pointer (some ⟨g3, 2, none⟩)) rfl (by kernel_rfl) (by kernel_rfl) (by kernel_rfl) (fun _ _ _ h => h) (.inl ⟨by rfl, fun w hw => by clear hw; go_simp⟩) h0 ?_
  try simp only [Act.put, lay_out]
  refine wpAnyH_take (i := 15) (v := .pointer (some ⟨g3, 2 + i * 3, none⟩)) rfl (by kernel_rfl) (by kernel_rfl) (by kernel_rfl) (fun _ _ _ h => h) (.inl ⟨by rfl, fun w hw => by clear hw; go_simp⟩) h0 ?_
  try simp only [Act.put, lay_out]
  refine wpAnyH_take (i := 16) (v := .pointer (some ⟨g3, 2 + i * 3 + k, none⟩)) rfl (by kernel_rfl) (by kernel_rfl) (by kernel_rfl) (fun _ _ _ h => h) (.inl ⟨by rfl, fun w hw => by clear hw; go_simp⟩) h0 ?_
  try simp only [Act.put, lay_out]
  refine wpAnyH_take (i := 17) (v := .int .i64 y2v) rfl (by kernel_rfl) (by kernel_rfl) (by kernel_rfl) (fun _ _ _ h => h) (.inl ⟨by rfl, fun w' hw => by have hc := row_c (i := 2 + i * 3 + k) (u := .int .i64 y2v) (hw) (HY2.out); clear hw; go_simp⟩) h0 ?_
  try simp only [Act.put, lay_out]
  refine wpAnyH_ready (rs := [11]) (by kernel_rfl) (by simp) (AllReadyH.cons rfl (fun K hK => ?_) AllReadyH.nil)
  rw [if_pos (by rfl)]
  go_simp
  go_at_call 61
  (with_reducible refine (HC1.out _ H2.out).mono ?_); rintro e y2 ⟨rfl, hz⟩
  have H3 := hid hz
  clear hz
  refine hK.out _ _ (H3.out.bl 0 rfl) (fun h1x => ?_)
  clear hK K
  try simp only [Act.put, lay_out]
  refine wpAnyH_ready (rs := [18]) (by kernel_rfl) (by simp) (AllReadyH.cons rfl (fun K hK => ?_) AllReadyH.nil)
  rw [if_pos (by rfl)]
  go_simp
  go_at_call 61
  (with_reducible refine (HC2.out _ H3.out).mono ?_); rintro e y3 ⟨rfl, hz⟩
  have H4 := hid hz
  clear hz
  refine hK.out _ _ (H4.out.bl 0 rfl) (fun h2x => ?_)
  clear hK K
  try simp only [Act.put, lay_out]
  refine wpAnyH_take (i := 19) (v := .int .i64 x3) rfl (by kernel_rfl) (by kernel_rfl) (by kernel_rfl) (fun _ _ _ h => h) (.inl ⟨by rfl, fun w hw => by clear hw; go_simp⟩) h2x ?_
  try simp only [Act.put, lay_out]
  refine wpAnyH_done (by kernel_rfl) ?_ _
  refine NoPanic.normal ?_
  clear h0 h1x h2x
  try simp only [Act.put, lay_out]
  go_wp2
  go_ret
  exact ⟨rfl, H4.out.drop⟩
end Go.Proofs.Ytflfnaiklnbaiaa

/- Times: a share, with what it gets of the others. -/
namespace Go.Proofs.Ytflfnaiklnbaiaa
open Go.RowKit Go.Maps
set_option maxRecDepth 100000
theorem tisw_any {Pm : World → Nat → Ms → (Nat → Prop) → Prop} (hM : Mach Pm) {F0 : Nat → Prop} {w0 w : World} {b : Nat} {bs : List (Nat × Obj)} (g : Nat) (o : Obj) (c : Nat) (r p : Nat → Int) (q i k : Nat) (S : Ms) (h : Ow Pm F0 w0 w b S bs) (hg : (g, o) ∈ bs) (ho : Msk c r o) (hq : Bq q S) (hk : q + 2 ≤ 100000) (hi : i < 3) (hk3 : k < 3) (hne : k ≠ i) (hsym : r (i * 3 + k) = r (k * 3 + i)) (hr : Wb r) (hp : Wb p) :
    Calls Try.prog 45 #[.agg (ptC b g p), .int .i64 (i : Int), .int .i64 (k : Int)] w fun e w' => e = .returned (.int .i64 (moG dS0 dR0 false r p S i k).2) ∧ Ow Pm F0 w0 w' b (moG dS0 dR0 false r p S i k).1 bs := by
  by_cases h1 : i < k
  · exact tiswU_any hM g o c r p q i k S h hg ho hq hk hi hk3 h1 hr hp
  · exact tiswD_any hM g o c r p q i k S h hg ho hq hk hi hk3 (by omega) hsym hr hp
set_option maxHeartbeats 6400000 in
theorem tshare_isw {Pm : World → Nat → Ms → (Nat → Prop) → Prop} (hM : Mach Pm) {F0 : Nat → Prop} {w0 w : World} {b : Nat} {bs : List (Nat × Obj)} (g : Nat) (o : Obj) (c : Nat) (r p : Nat → Int) (q nn i : Nat) (S : Ms) (h : Ow Pm F0 w0 w b S bs) (hg : (g, o) ∈ bs) (ho : Msk c r o) (hq : Bq q S) (hk : q + 12 ≤ 100000) (hn : S.n = (nn : Int)) (hn3 : nn ≤ 3) (hi : i < 3) (hsym : ∀ k, k < nn → r (i * 3 + k) = r (k * 3 + i)) (hr : Wb r) (hp : Wb p) :
    Calls Try.prog 59 #[.agg (ptC b g p), .int .i64 (i : Int), .func (.func 45) #[] #[]] w fun e w' => e = .returned (.int .i64 (fnI dS0 dR0 false r p S i nn).2) ∧ Ow Pm F0 w0 w' b (fnI dS0 dR0 false r p S i nn).1 bs := by
  have HB : ∀ k, k ≤ nn → Bn (q + 3 * k) (nn : Int) (fnI dS0 dR0 false r p S i k).1 ∧ I64 (fnI dS0 dR0 false r p S i k).2 := fun k hk2 => fnI_bq ⟨hq, hn⟩ (by omega) hr hp (by omega)
  have HNB : Hid (∀ (w' : World), Ow Pm F0 w0 w' b (fnI dS0 dR0 false r p S i 0).1 ((w.heap.size, .cells (ptC b g p) 106 (0, 0)) :: bs) → Calls Try.prog 58 #[.pointer (some ⟨b, 0, none⟩)] w' fun e w2 => e = .returned (.int .i64 (nn : Int)) ∧ Below w'.heap.size w' w2) := hid (fun w' h' => h'.asks (fun F hF => by have := hM.n b q S F w' hF hq (by omega); rw [hn] at this; exact this))
  have HMO : Hid (∀ k, k < nn → k ≠ i → ∀ (w' : World), Ow Pm F0 w0 w' b (fnI dS0 dR0 false r p S i k).1 ((w.heap.size, .cells (ptC b g p) 106 (0, 0)) :: bs) → Calls Try.prog 45 #[.agg (ptC b g p), .int .i64 (i : Int), .int .i64 (k : Int)] w' fun e w2 => e = .returned (.int .i64 (moG dS0 dR0 false r p (fnI dS0 dR0 false r p S i k).1 i k).2) ∧ Ow Pm F0 w0 w2 b (moG dS0 dR0 false r p (fnI dS0 dR0 false r p S i k).1 i k).1 ((w.heap.size, .cells (ptC b g p) 106 (0, 0)) :: bs)) := hid (fun k hk2 hne w' h' => by
    have hb := (HB k (by omega)).1
    exact tisw_any hM g o c r p _ i k _ h' (by simp [hg]) ho hb.1 (by omega) hi (by omega) hne (hsym k (by omega)) hr hp)
  have HXO : Hid (∀ k, k < nn → k ≠ i → ∀ (w' : World), Ow Pm F0 w0 w' b (moG dS0 dR0 false r p (fnI dS0 dR0 false r p S i k).1 i k).1 ((w.heap.size, .cells (ptC b g p) 106 (0, 0)) :: bs) → Calls Try.prog 61 #[.agg (ptC b g p), .int .i64 (i : Int), .int .i64 (fnI dS0 dR0 false r p S i k).2, .int .i64 (moG dS0 dR0 false r p (fnI dS0 dR0 false r p S i k).1 i k).2] w' fun e w2 => e = .returned (.int .i64 (fnI dS0 dR0 false r p S i (k + 1)).2) ∧ Ow Pm F0 w0 w2 b (fnI dS0 dR0 false r p S i (k + 1)).1 ((w.heap.size, .cells (ptC b g p) 106 (0, 0)) :: bs)) := hid (fun k hk2 hne w' h' => by
    obtain ⟨hb, hb2⟩ := HB k (by omega)
    obtain ⟨m1, m2⟩ := moG_bq (dom := false) (i := i) (j := k) hb (by omega) hr hp (by omega)
    have := fnI_step (dom := false) (S := S) (r := r) (p := p) (i := i) (k := k) hne _ _ _ _ rfl rfl rfl
    rw [this]
    exact txor_any hM g p _ i _ _ _ h' m1.1 (by omega) (by omega) hb2 m2)
  have HSM : Hid ((fnI dS0 dR0 false r p S i (i + 1)).1 = (fnI dS0 dR0 false r p S i i).1 ∧ (fnI dS0 dR0 false r p S i (i + 1)).2 = (fnI dS0 dR0 false r p S i i).2) := hid ⟨congrArg Prod.fst fnI_same, congrArg Prod.snd fnI_same⟩
  obtain ⟨w1, hw1⟩ : ∃ w1, w.alloc (.cells (ptC b g p) 106) = w1 := ⟨_, rfl⟩
  have H1 : Hid (Ow Pm F0 w0 w1 b (fnI dS0 dR0 false r p S i 0).1 ((w.heap.size, .cells (ptC b g p) 106 (0, 0)) :: bs)) := hid (by have := h.new hM (ptC b g p) 106; rw [hw1] at this; exact this)
  have HP0 : Hid ((fnI dS0 dR0 false r p S i 0).2 = p (i * 3 + i)) := hid rfl
  obtain ⟨g3, hg3⟩ : ∃ g3, w.heap.size = g3 := ⟨_, rfl⟩
  rw [hg3] at H1 HNB HMO HXO
  have HG3 := hid hg3
  have HW := hid hw1
  have HI := hid hi
  have HN3 := hid hn3
  have HII : Hid ((ptC b g p)[2 + i * 3 + i]? = some (.int .i64 (p (i * 3 + i)))) := hid (by rw [Nat.add_assoc]; exact pt_at b g p (by omega))
  have i0 : (0 : Int) ≤ (i : Int) := by omega
  have i3 : (i : Int) < 3 := by omega
  clear HB h hg ho hq hk hn hn3 hi hr hp hg3 hw1 hsym
  obtain ⟨FS, hFS⟩ : ∃ FS : Nat → Ms, ∀ j, (fnI dS0 dR0 false r p S i j).1 = FS j := ⟨_, fun _ => rfl⟩
  obtain ⟨FW, hFW⟩ : ∃ FW : Nat → Int, ∀ j, (fnI dS0 dR0 false r p S i j).2 = FW j := ⟨_, fun _ => rfl⟩
  simp only [hFS, hFW] at *
  clear hFS hFW
  rw [← HP0.out] at HII
  have c0 := row_c (i := 0) (u := .pointer (some ⟨b, 0, none⟩)) (H1.out.bl 0 rfl) rfl
  have cI := row_c (i := 2 + i * 3 + i) (H1.out.bl 0 rfl) HII.out
  go_enter Try.func59, Try.ntmps59
  go_upto_region 1 with fail
  rw [HW.out, HG3.out]
  go_upto_region 3 with (go_at_call 58; (with_reducible refine (HNB.out _ H1.out).mono ?_); rintro e w2 ⟨rfl, hb⟩; have H2 := hid (H1.out.self hM hb); clear hb c0 cI)
  go_loopw [7, 18] (fun sv kv wr => ∃ k : Nat, k ≤ nn ∧ kv = .int .i64 k ∧ sv = .int .i64 (FW k) ∧ Ow Pm F0 w0 wr b (FS k) ((g3, .cells (ptC b g p) 106 (0, 0)) :: bs)) (fun _ kv _ => nn - (intOf kv).toNat)
  case atStart => exact ⟨0, by omega, rfl, rfl, H2.out⟩
  case round =>
    clear H2 H1
    obtain ⟨k, hk, rfl, rfl, hJ⟩ := hrel
    have HJ := hid hJ
    clear hJ
    have hn3 := HN3.out
    by_cases hlt : k < nn
    · have k1 : (k : Int) < (nn : Int) := by omega
      have k0 : (0 : Int) ≤ (k : Int) := by omega
      have HKX : Hid (k + 1 ≤ nn) := hid (by omega)
      by_cases hik : k = i
      · subst hik
        have q1 : ((k : Int) != (k : Int)) = false := by simp
        clear hk
        go_wp2
        go_roundw
        case rel => exact ⟨k + 1, HKX.out, by go_num, by rw [HSM.out.2], by rw [HSM.out.1]; exact HJ.out⟩
        case measure => simp [intOf]; omega
      · have q1 : ((k : Int) != (i : Int)) = true := by simp; omega
        replace HMO := hid (HMO.out k hlt hik)
        replace HXO := hid (HXO.out k hlt hik)
        generalize (moG dS0 dR0 false r p (FS k) i k).1 = T1 at *
        generalize (moG dS0 dR0 false r p (FS k) i k).2 = x1 at *
        clear hk hik
        go_upto_region 6 with fail
        have G0 := hid (HJ.out.self hM ((Below.refl _ wr).drew))
        refine wp_region_noPanic ?_
        refine wp_region_held_drew (S := fun w' => w'.heap[g3]? = some (.cells (ptC b g p) 106 (0, 0))) (by kernel_rfl) (G0.out.bl 0 rfl) (fun h0 => ?_)
        generalize wr.drew = y0 at *
        refine wpAnyH_take (i := 0) (v := .agg (ptC b g p)) rfl (by kernel_rfl) (by kernel_rfl) (by kernel_rfl) (fun _ _ _ h => h) (yields_load_row (by rfl) 106 _ rfl g3 106 (ptC b g p) _ rfl (fun w hw => hw) Try.underlying106 rfl (by kernel_rfl)) h0 ?_
        try simp only [Act.put, lay_out]
        refine wpAnyH_take (i := 1) (v := .int .i64 (i : Int)) rfl (by kernel_rfl) (by kernel_rfl) (by kernel_rfl) (fun _ _ _ h => h) (.inl ⟨by rfl, fun w hw => by clear hw; go_simp⟩) h0 ?_
        try simp only [Act.put, lay_out]
        refine wpAnyH_take (i := 2) (v := .int .i64 (FW k)) rfl (by kernel_rfl) (by kernel_rfl) (by kernel_rfl) (fun _ _ _ h => h) (.inl ⟨by rfl, fun w hw => by clear hw; go_simp⟩) h0 ?_
        try simp only [Act.put, lay_out]
        refine wpAnyH_take (i := 3) (v := .func (.func 45) #[] #[]) rfl (by kernel_rfl) (by kernel_rfl) (by kernel_rfl) (fun _ _ _ h => h) (.inl ⟨by rfl, fun w hw => by clear hw; go_simp⟩) h0 ?_
        try simp only [Act.put, lay_out]
        refine wpAnyH_take (i := 4) (v := .agg (ptC b g p)) rfl (by kernel_rfl) (by kernel_rfl) (by kernel_rfl) (fun _ _ _ h => h) (yields_load_row (by rfl) 106 _ rfl g3 106 (ptC b g p) _ rfl (fun w hw => hw) Try.underlying106 rfl (by kernel_rfl)) h0 ?_
        try simp only [Act.put, lay_out]
        refine wpAnyH_take (i := 5) (v := .int .i64 (i : Int)) rfl (by kernel_rfl) (by kernel_rfl) (by kernel_rfl) (fun _ _ _ h => h) (.inl ⟨by rfl, fun w hw => by clear hw; go_simp⟩) h0 ?_
        try simp only [Act.put, lay_out]
        refine wpAnyH_take (i := 6) (v := .int .i64 (k : Int)) rfl (by kernel_rfl) (by kernel_rfl) (by kernel_rfl) (fun _ _ _ h => h) (.inl ⟨by rfl, fun w hw => by clear hw; go_simp⟩) h0 ?_
        try simp only [Act.put, lay_out]
        refine wpAnyH_ready (rs := [7]) (by kernel_rfl) (by simp) (AllReadyH.cons rfl (fun K hK => ?_) AllReadyH.nil)
        rw [if_pos (by rfl)]
        go_simp
        go_at_call 45
        (with_reducible refine (HMO.out _ G0.out).mono ?_); rintro e y1 ⟨rfl, hz⟩
        have G1 := hid hz
        clear hz
        refine hK.out _ _ (G1.out.bl 0 rfl) (fun h1x => ?_)
        clear hK K
        try simp only [Act.put, lay_out]
        refine wpAnyH_ready (rs := [8]) (by kernel_rfl) (by simp) (AllReadyH.cons rfl (fun K hK => ?_) AllReadyH.nil)
        rw [if_pos (by rfl)]
        go_simp
        go_at_call 61
        (with_reducible refine (HXO.out _ G1.out).mono ?_); rintro e y2 ⟨rfl, hz⟩
        have G2 := hid hz
        clear hz
        refine hK.out _ _ (G2.out.bl 0 rfl) (fun h2x => ?_)
        clear hK K
        try simp only [Act.put, lay_out]
        refine wpAnyH_take (i := 9) (v := .int .i64 (FW (k + 1))) rfl (by kernel_rfl) (by kernel_rfl) (by kernel_rfl) (fun _ _ _ h => h) (.inl ⟨by rfl, fun w hw => by clear hw; go_simp⟩) h2x ?_
        try simp only [Act.put, lay_out]
        refine wpAnyH_done (by kernel_rfl) ?_ _
        refine NoPanic.normal ?_
        clear h0 h1x h2x
        try simp only [Act.put, lay_out]
        go_wp2
        go_roundw
        case rel => exact ⟨k + 1, HKX.out, by go_num, rfl, G2.out⟩
        case measure => simp [intOf]; omega
    · obtain rfl : nn = k := by omega
      clear hlt hk
      go_wp2
      go_ret
      exact ⟨rfl, HJ.out.drop⟩
set_option maxHeartbeats 6400000 in
theorem tshare_dom {Pm : World → Nat → Ms → (Nat → Prop) → Prop} (hM : Mach Pm) {F0 : Nat → Prop} {w0 w : World} {b : Nat} {bs : List (Nat × Obj)} (g : Nat) (o : Obj) (c : Nat) (r p : Nat → Int) (q nn i : Nat) (S : Ms) (h : Ow Pm F0 w0 w b S bs) (hg : (g, o) ∈ bs) (ho : Msk c r o) (hq : Bq q S) (hk : q + 12 ≤ 100000) (hn : S.n = (nn : Int)) (hn3 : nn ≤ 3) (hi : i < 3) (hr : Wb r) (hp : Wb p) :
    Calls Try.prog 59 #[.agg (ptC b g p), .int .i64 (i : Int), .func (.func 44) #[] #[]] w fun e w' => e = .returned (.int .i64 (fnI dS0 dR0 true r p S i nn).2) ∧ Ow Pm F0 w0 w' b (fnI dS0 dR0 true r p S i nn).1 bs := by
  have HB : ∀ k, k ≤ nn → Bn (q + 3 * k) (nn : Int) (fnI dS0 dR0 true r p S i k).1 ∧ I64 (fnI dS0 dR0 true r p S i k).2 := fun k hk2 => fnI_bq ⟨hq, hn⟩ (by omega) hr hp (by omega)
  have HNB : Hid (∀ (w' : World), Ow Pm F0 w0 w' b (fnI dS0 dR0 true r p S i 0).1 ((w.heap.size, .cells (ptC b g p) 106 (0, 0)) :: bs) → Calls Try.prog 58 #[.pointer (some ⟨b, 0, none⟩)] w' fun e w2 => e = .returned (.int .i64 (nn : Int)) ∧ Below w'.heap.size w' w2) := hid (fun w' h' => h'.asks (fun F hF => by have := hM.n b q S F w' hF hq (by omega); rw [hn] at this; exact this))
  have HMO : Hid (∀ k, k < nn → k ≠ i → ∀ (w' : World), Ow Pm F0 w0 w' b (fnI dS0 dR0 true r p S i k).1 ((w.heap.size, .cells (ptC b g p) 106 (0, 0)) :: bs) → Calls Try.prog 44 #[.agg (ptC b g p), .int .i64 (i : Int), .int .i64 (k : Int)] w' fun e w2 => e = .returned (.int .i64 (moG dS0 dR0 true r p (fnI dS0 dR0 true r p S i k).1 i k).2) ∧ Ow Pm F0 w0 w2 b (moG dS0 dR0 true r p (fnI dS0 dR0 true r p S i k).1 i k).1 ((w.heap.size, .cells (ptC b g p) 106 (0, 0)) :: bs)) := hid (fun k hk2 hne w' h' => by
    have hb := (HB k (by omega)).1
    exact tdom_any hM g o c r p _ i k _ h' (by simp [hg]) ho hb.1 (by omega) hi (by omega) hr hp)
  have HXO : Hid (∀ k, k < nn → k ≠ i → ∀ (w' : World), Ow Pm F0 w0 w' b (moG dS0 dR0 true r p (fnI dS0 dR0 true r p S i k).1 i k).1 ((w.heap.size, .cells (ptC b g p) 106 (0, 0)) :: bs) → Calls Try.prog 61 #[.agg (ptC b g p), .int .i64 (i : Int), .int .i64 (fnI dS0 dR0 true r p S i k).2, .int .i64 (moG dS0 dR0 true r p (fnI dS0 dR0 true r p S i k).1 i k).2] w' fun e w2 => e = .returned (.int .i64 (fnI dS0 dR0 true r p S i (k + 1)).2) ∧ Ow Pm F0 w0 w2 b (fnI dS0 dR0 true r p S i (k + 1)).1 ((w.heap.size, .cells (ptC b g p) 106 (0, 0)) :: bs)) := hid (fun k hk2 hne w' h' => by
    obtain ⟨hb, hb2⟩ := HB k (by omega)
    obtain ⟨m1, m2⟩ := moG_bq (dom := true) (i := i) (j := k) hb (by omega) hr hp (by omega)
    have := fnI_step (dom := true) (S := S) (r := r) (p := p) (i := i) (k := k) hne _ _ _ _ rfl rfl rfl
    rw [this]
    exact txor_any hM g p _ i _ _ _ h' m1.1 (by omega) (by omega) hb2 m2)
  have HSM : Hid ((fnI dS0 dR0 true r p S i (i + 1)).1 = (fnI dS0 dR0 true r p S i i).1 ∧ (fnI dS0 dR0 true r p S i (i + 1)).2 = (fnI dS0 dR0 true r p S i i).2) := hid ⟨congrArg Prod.fst fnI_same, congrArg Prod.snd fnI_same⟩
  obtain ⟨w1, hw1⟩ : ∃ w1, w.alloc (.cells (ptC b g p) 106) = w1 := ⟨_, rfl⟩
  have H1 : Hid (Ow Pm F0 w0 w1 b (fnI dS0 dR0 true r p S i 0).1 ((w.heap.size, .cells (ptC b g p) 106 (0, 0)) :: bs)) := hid (by have := h.new hM (ptC b g p) 106; rw [hw1] at this; exact this)
  have HP0 : Hid ((fnI dS0 dR0 true r p S i 0).2 = p (i * 3 + i)) := hid rfl
  obtain ⟨g3, hg3⟩ : ∃ g3, w.heap.size = g3 := ⟨_, rfl⟩
  rw [hg3] at H1 HNB HMO HXO
  have HG3 := hid hg3
  have HW := hid hw1
  have HI := hid hi
  have HN3 := hid hn3
  have HII : Hid ((ptC b g p)[2 + i * 3 + i]? = some (.int .i64 (p (i * 3 + i)))) := hid (by rw [Nat.add_assoc]; exact pt_at b g p (by omega))
  have i0 : (0 : Int) ≤ (i : Int) := by omega
  have i3 : (i : Int) < 3 := by omega
  clear HB h hg ho hq hk hn hn3 hi hr hp hg3 hw1
  obtain ⟨FS, hFS⟩ : ∃ FS : Nat → Ms, ∀ j, (fnI dS0 dR0 true r p S i j).1 = FS j := ⟨_, fun _ => rfl⟩
  obtain ⟨FW, hFW⟩ : ∃ FW : Nat → Int, ∀ j, (fnI dS0 dR0 true r p S i j).2 = FW j := ⟨_, fun _ => rfl⟩
  simp only [hFS, hFW] at *
  clear hFS hFW
  rw [← HP0.out] at HII
  have c0 := row_c (i := 0) (u := .pointer (some ⟨b, 0, none⟩)) (H1.out.bl 0 rfl) rfl
  have cI := row_c (i := 2 + i * 3 + i) (H1.out.bl 0 rfl) HII.out
  go_enter Try.func59, Try.ntmps59
  go_upto_region 1 with fail
  rw [HW.out, HG3.out]
  go_upto_region 3 with (go_at_call 58; (with_reducible refine (HNB.out _ H1.out).mono ?_); rintro e w2 ⟨rfl, hb⟩; have H2 := hid (H1.out.self hM hb); clear hb c0 cI)
  go_loopw [7, 18] (fun sv kv wr => ∃ k : Nat, k ≤ nn ∧ kv = .int .i64 k ∧ sv = .int .i64 (FW k) ∧ Ow Pm F0 w0 wr b (FS k) ((g3, .cells (ptC b g p) 106 (0, 0)) :: bs)) (fun _ kv _ => nn - (intOf kv).toNat)
  case atStart => exact ⟨0, by omega, rfl, rfl, H2.out⟩
  case round =>
    clear H2 H1
    obtain ⟨k, hk, rfl, rfl, hJ⟩ := hrel
    have HJ := hid hJ
    clear hJ
    have hn3 := HN3.out
    by_cases hlt : k < nn
    · have k1 : (k : Int) < (nn : Int) := by omega
      have k0 : (0 : Int) ≤ (k : Int) := by omega
      have HKX : Hid (k + 1 ≤ nn) := hid (by omega)
      by_cases hik : k = i
      · subst hik
        have q1 : ((k : Int) != (k : Int)) = false := by simp
        clear hk
        go_wp2
        go_roundw
        case rel => exact ⟨k + 1, HKX.out, by go_num, by rw [HSM.out.2], by rw [HSM.out.1]; exact HJ.out⟩
        case measure => simp [intOf]; omega
      · have q1 : ((k : Int) != (i : Int)) = true := by simp; omega
        replace HMO := hid (HMO.out k hlt hik)
        replace HXO := hid (HXO.out k hlt hik)
        generalize (moG dS0 dR0 true r p (FS k) i k).1 = T1 at *
        generalize (moG dS0 dR0 true r p (FS k) i k).2 = x1 at *
        clear hk hik
        go_upto_region 6 with fail
        have G0 := hid (HJ.out.self hM ((Below.refl _ wr).drew))
        refine wp_region_noPanic ?_
        refine wp_region_held_drew (S := fun w' => w'.heap[g3]? = some (.cells (ptC b g p) 106 (0, 0))) (by kernel_rfl) (G0.out.bl 0 rfl) (fun h0 => ?_)
        generalize wr.drew = y0 at *
        refine wpAnyH_take (i := 0) (v := .agg (ptC b g p)) rfl (by kernel_rfl) (by kernel_rfl) (by kernel_rfl) (fun _ _ _ h => h) (yields_load_row (by rfl) 106 _ rfl g3 106 (ptC b g p) _ rfl (fun w hw => hw) Try.underlying106 rfl (by kernel_rfl)) h0 ?_
        try simp only [Act.put, lay_out]
        refine wpAnyH_take (i := 1) (v := .int .i64 (i : Int)) rfl (by kernel_rfl) (by kernel_rfl) (by kernel_rfl) (fun _ _ _ h => h) (.inl ⟨by rfl, fun w hw => by clear hw; go_simp⟩) h0 ?_
        try simp only [Act.put, lay_out]
        refine wpAnyH_take (i := 2) (v := .int .i64 (FW k)) rfl (by kernel_rfl) (by kernel_rfl) (by kernel_rfl) (fun _ _ _ h => h) (.inl ⟨by rfl, fun w hw => by clear hw; go_simp⟩) h0 ?_
        try simp only [Act.put, lay_out]
        refine wpAnyH_take (i := 3) (v := .func (.func 44) #[] #[]) rfl (by kernel_rfl) (by kernel_rfl) (by kernel_rfl) (fun _ _ _ h => h) (.inl ⟨by rfl, fun w hw => by clear hw; go_simp⟩) h0 ?_
        try simp only [Act.put, lay_out]
        refine wpAnyH_take (i := 4) (v := .agg (ptC b g p)) rfl (by kernel_rfl) (by kernel_rfl) (by kernel_rfl) (fun _ _ _ h => h) (yields_load_row (by rfl) 106 _ rfl g3 106 (ptC b g p) _ rfl (fun w hw => hw) Try.underlying106 rfl (by kernel_rfl)) h0 ?_
        try simp only [Act.put, lay_out]
        refine wpAnyH_take (i := 5) (v := .int .i64 (i : Int)) rfl (by kernel_rfl) (by kernel_rfl) (by kernel_rfl) (fun _ _ _ h => h) (.inl ⟨by rfl, fun w hw => by clear hw; go_simp⟩) h0 ?_
        try simp only [Act.put, lay_out]
        refine wpAnyH_take (i := 6) (v := .int .i64 (k : Int)) rfl (by kernel_rfl) (by kernel_rfl) (by kernel_rfl) (fun _ _ _ h => h) (.inl ⟨by rfl, fun w hw => by clear hw; go_simp⟩) h0 ?_
        try simp only [Act.put, lay_out]
        refine wpAnyH_ready (rs := [7]) (by kernel_rfl) (by simp) (AllReadyH.cons rfl (fun K hK => ?_) AllReadyH.nil)
        rw [if_pos (by rfl)]
        go_simp
        go_at_call 44
        (with_reducible refine (HMO.out _ G0.out).mono ?_); rintro e y1 ⟨rfl, hz⟩
        have G1 := hid hz
        clear hz
        refine hK.out _ _ (G1.out.bl 0 rfl) (fun h1x => ?_)
        clear hK K
        try simp only [Act.put, lay_out]
        refine wpAnyH_ready (rs := [8]) (by kernel_rfl) (by simp) (AllReadyH.cons rfl (fun K hK => ?_) AllReadyH.nil)
        rw [if_pos (by rfl)]
        go_simp
        go_at_call 61
        (with_reducible refine (HXO.out _ G1.out).mono ?_); rintro e y2 ⟨rfl, hz⟩
        have G2 := hid hz
        clear hz
        refine hK.out _ _ (G2.out.bl 0 rfl) (fun h2x => ?_)
        clear hK K
        try simp only [Act.put, lay_out]
        refine wpAnyH_take (i := 9) (v := .int .i64 (FW (k + 1))) rfl (by kernel_rfl) (by kernel_rfl) (by kernel_rfl) (fun _ _ _ h => h) (.inl ⟨by rfl, fun w hw => by clear hw; go_simp⟩) h2x ?_
        try simp only [Act.put, lay_out]
        refine wpAnyH_done (by kernel_rfl) ?_ _
        refine NoPanic.normal ?_
        clear h0 h1x h2x
        try simp only [Act.put, lay_out]
        go_wp2
        go_roundw
        case rel => exact ⟨k + 1, HKX.out, by go_num, rfl, G2.out⟩
        case measure => simp [intOf]; omega
    · obtain rfl : nn = k := by omega
      clear hlt hk
      go_wp2
      go_ret
      exact ⟨rfl, HJ.out.drop⟩
end Go.Proofs.Ytflfnaiklnbaiaa

/- Times: the program's masks in a map, and its products. -/
namespace Go.Proofs.Ytflfnaiklnbaiaa
open Go.RowKit Go.Maps
set_option maxRecDepth 100000
/-- A new box, whatever it holds. -/
theorem Ow.newO {Pm : World → Nat → Ms → (Nat → Prop) → Prop} (hM : Mach Pm) {F0 : Nat → Prop} {w0 w : World} {b : Nat} {S : Ms} {bs : List (Nat × Obj)} (h : Ow Pm F0 w0 w b S bs) (u : Obj) : Ow Pm F0 w0 (w.alloc u) b S ((w.heap.size, u) :: bs) := by
  have h' := h.self hM ((Below.refl w.heap.size w).alloc (Nat.le_refl _) u)
  obtain ⟨F, h1, h2, h3⟩ := h.ex
  refine ⟨⟨F, hM.stays h1 (by rw [sz_al]; omega) (fun k hk => Below.heap_alloc w _ k (hM.lt h1 k hk)), h2, fun q hq => ?_⟩, h'.tch, fun q hq => ?_, ?_⟩
  · rcases List.mem_cons.1 hq with rfl | hq
    · exact fun e => by have := hM.lt h1 _ e; omega
    · exact h3 q hq
  · rcases List.mem_cons.1 hq with rfl | hq
    · exact ⟨h.tch.size, heap_alloc_new _ _⟩
    · exact h'.bx q hq
  · rw [List.map_cons, List.nodup_cons]
    refine ⟨fun e => ?_, h.nd⟩
    obtain ⟨q, hq, e⟩ := List.mem_map.1 e
    have := h.lt hq
    have e' : q.1 = w.heap.size := e
    omega
set_option maxHeartbeats 6400000 in
theorem tdrawn_any {Pm : World → Nat → Ms → (Nat → Prop) → Prop} (hM : Mach Pm) {F0 : Nat → Prop} {w0 w : World} {b : Nat} {bs : List (Nat × Obj)} (q nn : Nat) (S : Ms) (h : Ow Pm F0 w0 w b S bs) (hq : Bq q S) (hk : q + 12 ≤ 100000) (hn : S.n = (nn : Int)) (hn3 : nn ≤ 3) :
    Calls Try.prog 56 #[.pointer (some ⟨b, 0, none⟩)] w fun e w' => ∃ g o, e = .returned (.map (some g)) ∧ Msk 100 (mkG dS0 dR0 S nn).2 o ∧ Ow Pm F0 w0 w' b (mkG dS0 dR0 S nn).1 ((g, o) :: bs) := by
  have HB : ∀ k i, k < nn → i ≤ k → Bn (q + 9) (nn : Int) (mkI dS0 dR0 (mkG dS0 dR0 S k).1 (mkG dS0 dR0 S k).2 k i).1 := fun k i hk2 hi => by
    obtain ⟨a1, a2⟩ := mkG_bq ⟨hq, hn⟩ (j := k) (by omega) (by omega)
    exact (mkI_bq a1 a2 (j := k) (i := i) (by omega)).1.mono (by omega)
  have HNB : Hid (∀ (bs' : List (Nat × Obj)) (w' : World), Ow Pm F0 w0 w' b (mkG dS0 dR0 S 0).1 bs' → Calls Try.prog 58 #[.pointer (some ⟨b, 0, none⟩)] w' fun e w2 => e = .returned (.int .i64 (nn : Int)) ∧ Below w'.heap.size w' w2) := hid (fun bs' w' h' => h'.asks (fun F hF => by have := hM.n b q S F w' hF hq (by omega); rw [hn] at this; exact this))
  have HRD : Hid (∀ k i, k < nn → i < k → ∀ (bs' : List (Nat × Obj)) (w' : World), Ow Pm F0 w0 w' b (mkI dS0 dR0 (mkG dS0 dR0 S k).1 (mkG dS0 dR0 S k).2 k i).1 bs' → Calls Try.prog 68 #[.pointer (some ⟨b, 0, none⟩), .int .i64 (-1)] w' fun e w2 => e = .returned (.int .i64 (dR0 (mkI dS0 dR0 (mkG dS0 dR0 S k).1 (mkG dS0 dR0 S k).2 k i).1 rnd6)) ∧ Ow Pm F0 w0 w2 b (mkI dS0 dR0 (mkG dS0 dR0 S k).1 (mkG dS0 dR0 S k).2 k (i + 1)).1 bs') :=
    hid (fun k i hk2 hi bs' w' h' => h'.lift hM (fun F hF => hM.rand b (q + 9) _ F (-1) w' hF (HB k i hk2 (by omega)).1 (by omega) rw1))
  have HWF : Hid (∀ k i, k < nn → i < k → (Lit.int .i64 (dR0 (mkI dS0 dR0 (mkG dS0 dR0 S k).1 (mkG dS0 dR0 S k).2 k i).1 rnd6)).wf = true) := hid (fun k i hk2 hi => by
    have := (HB k i hk2 (by omega)).reg (by omega) rnd6
    exact WalkArith.wf_i64 this)
  have HU : Hid (∀ k i, (mkI dS0 dR0 (mkG dS0 dR0 S k).1 (mkG dS0 dR0 S k).2 k (i + 1)).2 = updI (updI (mkI dS0 dR0 (mkG dS0 dR0 S k).1 (mkG dS0 dR0 S k).2 k i).2 (i * 3 + k) (dR0 (mkI dS0 dR0 (mkG dS0 dR0 S k).1 (mkG dS0 dR0 S k).2 k i).1 rnd6)) (k * 3 + i) (dR0 (mkI dS0 dR0 (mkG dS0 dR0 S k).1 (mkG dS0 dR0 S k).2 k i).1 rnd6)) := hid (fun k i => rfl)
  have HI0 : Hid (∀ k, (mkI dS0 dR0 (mkG dS0 dR0 S k).1 (mkG dS0 dR0 S k).2 k 0).1 = (mkG dS0 dR0 S k).1 ∧ (mkI dS0 dR0 (mkG dS0 dR0 S k).1 (mkG dS0 dR0 S k).2 k 0).2 = (mkG dS0 dR0 S k).2) := hid (fun k => ⟨rfl, rfl⟩)
  have HIk : Hid (∀ k, (mkI dS0 dR0 (mkG dS0 dR0 S k).1 (mkG dS0 dR0 S k).2 k k).1 = (mkG dS0 dR0 S (k + 1)).1 ∧ (mkI dS0 dR0 (mkG dS0 dR0 S k).1 (mkG dS0 dR0 S k).2 k k).2 = (mkG dS0 dR0 S (k + 1)).2) := hid (fun k => ⟨rfl, rfl⟩)
  have HM0 : Hid (Msk 0 (mkG dS0 dR0 S 0).2 (.map #[] 0)) := hid (MapO.made prkP)
  have H1 : Hid (Ow Pm F0 w0 (w.alloc (.map #[] 0)) b (mkG dS0 dR0 S 0).1 ((w.heap.size, .map #[] 0) :: bs)) := hid (h.newO hM (.map #[] 0))
  obtain ⟨g, hg⟩ : ∃ g, w.heap.size = g := ⟨_, rfl⟩
  rw [hg] at H1
  have HG := hid hg
  have HN3 := hid hn3
  clear HB h hq hk hn hn3 hg
  obtain ⟨GS, hGS⟩ : ∃ GS : Nat → Ms, ∀ k, (mkG dS0 dR0 S k).1 = GS k := ⟨_, fun _ => rfl⟩
  obtain ⟨GR, hGR⟩ : ∃ GR : Nat → Nat → Int, ∀ k, (mkG dS0 dR0 S k).2 = GR k := ⟨_, fun _ => rfl⟩
  simp only [hGS, hGR] at *
  clear hGS hGR
  obtain ⟨IS, hIS⟩ : ∃ IS : Nat → Nat → Ms, ∀ k i, (mkI dS0 dR0 (GS k) (GR k) k i).1 = IS k i := ⟨_, fun _ _ => rfl⟩
  obtain ⟨IR, hIR⟩ : ∃ IR : Nat → Nat → Nat → Int, ∀ k i, (mkI dS0 dR0 (GS k) (GR k) k i).2 = IR k i := ⟨_, fun _ _ => rfl⟩
  simp only [hIS, hIR] at *
  clear hIS hIR
  obtain ⟨RG, hRG⟩ : ∃ RG : Nat → Nat → Int, ∀ k i, dR0 (IS k i) rnd6 = RG k i := ⟨_, fun _ _ => rfl⟩
  simp only [hRG] at *
  clear hRG
  have hmm := @run_makeMap Try.prog
  go_enter Try.func56, Try.ntmps56
  go_upto_region 2 with fail
  rw [HG.out]
  generalize w.alloc (.map #[] 0) = w1 at *
  clear hmm
  go_upto_region 3 with (go_at_call 58; (with_reducible refine (HNB.out _ _ H1.out).mono ?_); rintro e w2 ⟨rfl, hb⟩; have H2 := hid (H1.out.self hM hb); clear hb)
  go_loopw [10] (fun kv wr => ∃ (k : Nat) (o : Obj), k ≤ nn ∧ kv = .int .i64 k ∧ Msk (6 * k) (GR k) o ∧ Ow Pm F0 w0 wr b (GS k) ((g, o) :: bs)) (fun kv _ => nn - (intOf kv).toNat)
  case atStart => exact ⟨0, _, by omega, rfl, HM0.out, H2.out⟩
  case round =>
    clear H1 H2 HM0
    obtain ⟨k, o, hk, rfl, hO, hJ⟩ := hrel
    have HJ := hid hJ
    have HO := hid hO
    clear hJ hO
    have hn3 := HN3.out
    by_cases hlt : k < nn
    · have k1 : (k : Int) < (nn : Int) := by omega
      have k0 : (0 : Int) ≤ (k : Int) := by omega
      have HK3 : Hid (k < 3) := hid (by omega)
      have HKX : Hid (k + 1 ≤ nn) := hid (by omega)
      have HJ' : Hid (Ow Pm F0 w0 wr b (IS k 0) ((g, o) :: bs)) := hid (by rw [(HI0.out k).1]; exact HJ.out)
      have HO' : Hid (Msk (6 * k + 2 * 0) (IR k 0) o) := hid (by rw [(HI0.out k).2]; exact HO.out)
      have HLT := hid hlt
      clear HJ HO hk
      go_wp2
      obtain ⟨wo, hwo⟩ : ∃ wo, wr = wo := ⟨_, rfl⟩
      subst hwo
      go_loopw [14] (fun iv wr => ∃ (i : Nat) (o : Obj), i ≤ k ∧ iv = .int .i64 i ∧ Msk (6 * k + 2 * i) (IR k i) o ∧ Ow Pm F0 w0 wr b (IS k i) ((g, o) :: bs)) (fun iv _ => k - (intOf iv).toNat)
      case atStart => exact ⟨0, _, by omega, rfl, HO'.out, HJ'.out⟩
      case round =>
        clear HJ' HO'
        obtain ⟨i, o, hi, rfl, hO, hJ⟩ := hrel
        have HJ := hid hJ
        have HO := hid hO
        clear hJ hO
        have hn3 := HN3.out
        by_cases hli : i < k
        · have i1 : (i : Int) < (k : Int) := by omega
          have i0 : (0 : Int) ≤ (i : Int) := by omega
          have HI3 : Hid (i < 3) := hid (by have := HK3.out; omega)
          have HIX : Hid (i + 1 ≤ k) := hid (by omega)
          have HC1 : Hid (6 * k + 2 * i < maxLen) := hid (by have := HK3.out; unfold maxLen; omega)
          have HC2 : Hid (6 * k + 2 * i + 1 < maxLen) := hid (by have := HK3.out; unfold maxLen; omega)
          replace HRD := hid (HRD.out k i HLT.out hli)
          replace HWF := hid (HWF.out k i HLT.out hli)
          replace HU := hid (HU.out k i)
          clear hi hli
          go_wp2_with (first
            | (go_at_call 68; (with_reducible refine (HRD.out _ _ HJ.out).mono ?_); rintro e w4 ⟨rfl, hb⟩; have H4 := hid hb; clear hb)
            | (at_mapUpdate; refine step_storeP kprK Try.underlying103 Try.underlying3 rfl _ _ _ rfl (i := i) (j := k) (z := RG k i) rfl rfl rfl (H4.out.bl 0 rfl) HO.out HC1.out HI3.out HK3.out HWF.out ?_; intro w5 o5 hb5 hm5 hf5 hs5 hos5; have H5 := hid (H4.out.turn hM hb5 hf5 (Nat.le_of_eq hs5.symm) hos5); have HO5 := hid hm5; clear hb5 hf5 hs5 hos5 hm5)
            | (at_mapUpdate; refine step_storeP kprK Try.underlying103 Try.underlying3 rfl _ _ _ rfl (i := k) (j := i) (z := RG k i) rfl rfl rfl (H5.out.bl 0 rfl) HO5.out HC2.out HK3.out HI3.out HWF.out ?_; intro w6 o6 hb6 hm6 hf6 hs6 hos6; have H6 := hid (H5.out.turn hM hb6 hf6 (Nat.le_of_eq hs6.symm) hos6); have HO6 := hid hm6; clear hb6 hf6 hs6 hos6 hm6))
          go_roundw
          case rel => exact ⟨i + 1, _, HIX.out, by go_num, by rw [HU.out]; exact HO6.out.mono (by omega), H6.out⟩
          case measure => simp [intOf]; omega
        · obtain rfl : i = k := by omega
          clear hli hi
          go_wp2
          go_roundw
          case rel => exact ⟨i + 1, _, HKX.out, by go_num, by rw [← (HIk.out i).2]; exact HO.out.mono (by have := HK3.out; omega), by rw [← (HIk.out i).1]; exact HJ.out⟩
          case measure => simp [intOf]; omega
    · obtain rfl : nn = k := by omega
      clear hlt hk
      go_wp2
      go_ret
      exact ⟨_, _, rfl, HO.out.mono (by have := HN3.out; omega), HJ.out⟩
set_option maxHeartbeats 6400000 in
theorem tprod_any {Pm : World → Nat → Ms → (Nat → Prop) → Prop} (hM : Mach Pm) {F0 : Nat → Prop} {w0 w : World} {b : Nat} {bs : List (Nat × Obj)} (q nn : Nat) (S : Ms) (A B : Nat → Int) (h : Ow Pm F0 w0 w b S bs) (hq : Bq q S) (hk : q + 12 ≤ 100000) (hn : S.n = (nn : Int)) (hn3 : nn ≤ 3) (hA : Wb A) (hB : Wb B) :
    Calls Try.prog 57 #[.pointer (some ⟨b, 0, none⟩), .agg (wdV A), .agg (wdV B)] w fun e w' => e = .returned (.agg (iz 9 (pdG dS0 dR0 A B S nn nn).2)) ∧ Ow Pm F0 w0 w' b (pdG dS0 dR0 A B S nn nn).1 bs := by
  have HG : ∀ i, i ≤ nn → Bn (q + 9) (nn : Int) (pdG dS0 dR0 A B S nn i).1 := fun i hi => (pdG_bq hn3 ⟨hq, hn⟩ hA hB (i := i) (by omega) (by omega)).1.mono (by omega)
  have HB : ∀ i k, i < nn → k ≤ nn → Bn (q + 9) (nn : Int) (pdI dS0 dR0 A B (pdG dS0 dR0 A B S nn i).1 (pdG dS0 dR0 A B S nn i).2 i k).1 := fun i k hi hk2 => by
    obtain ⟨a1, a2⟩ := pdG_bq hn3 ⟨hq, hn⟩ hA hB (i := i) (by omega) (by omega)
    exact (pdI_bq a1 (by omega) hA hB a2 (i := i) (j := k) (by omega)).1.mono (by omega)
  have HNB : Hid (∀ i, i ≤ nn → ∀ (bs' : List (Nat × Obj)) (w' : World), Ow Pm F0 w0 w' b (pdG dS0 dR0 A B S nn i).1 bs' → Calls Try.prog 58 #[.pointer (some ⟨b, 0, none⟩)] w' fun e w2 => e = .returned (.int .i64 (nn : Int)) ∧ Below w'.heap.size w' w2) := hid (fun i hi bs' w' h' => h'.asks (fun F hF => by have := hM.n b (q + 9) _ F w' hF (HG i hi).1 (by omega); rw [(HG i hi).2] at this; exact this))
  have HTW : Hid (∀ i k, i < nn → k < nn → ∀ (bs' : List (Nat × Obj)) (w' : World), Ow Pm F0 w0 w' b (pdI dS0 dR0 A B (pdG dS0 dR0 A B S nn i).1 (pdG dS0 dR0 A B S nn i).2 i k).1 bs' → Calls Try.prog 69 #[.pointer (some ⟨b, 0, none⟩), .int .i64 7, .int .i64 (i : Int), .int .i64 (A i), .int .i64 (B k)] w' fun e w2 => e = .returned (.int .i64 (dR0 (pdI dS0 dR0 A B (pdG dS0 dR0 A B S nn i).1 (pdG dS0 dR0 A B S nn i).2 i k).1 (an6 i (A i) (B k)))) ∧ Ow Pm F0 w0 w2 b (pdI dS0 dR0 A B (pdG dS0 dR0 A B S nn i).1 (pdG dS0 dR0 A B S nn i).2 i (k + 1)).1 bs') := hid (fun i k hi hk2 bs' w' h' => h'.lift hM (fun F hF => hM.two b (q + 9) _ F 7 (i : Int) (A i) (B k) w' hF (HB i k hi (by omega)).1 (by omega) (an6_wf (by omega) (hA i) (hB k))))
  have HU : Hid (∀ i k, (pdI dS0 dR0 A B (pdG dS0 dR0 A B S nn i).1 (pdG dS0 dR0 A B S nn i).2 i (k + 1)).2 = updI (pdI dS0 dR0 A B (pdG dS0 dR0 A B S nn i).1 (pdG dS0 dR0 A B S nn i).2 i k).2 (i * 3 + k) (dR0 (pdI dS0 dR0 A B (pdG dS0 dR0 A B S nn i).1 (pdG dS0 dR0 A B S nn i).2 i k).1 (an6 i (A i) (B k)))) := hid (fun i k => rfl)
  have HI0 : Hid (∀ i, (pdI dS0 dR0 A B (pdG dS0 dR0 A B S nn i).1 (pdG dS0 dR0 A B S nn i).2 i 0).1 = (pdG dS0 dR0 A B S nn i).1 ∧ (pdI dS0 dR0 A B (pdG dS0 dR0 A B S nn i).1 (pdG dS0 dR0 A B S nn i).2 i 0).2 = (pdG dS0 dR0 A B S nn i).2) := hid (fun i => ⟨rfl, rfl⟩)
  have HIn : Hid (∀ i, (pdI dS0 dR0 A B (pdG dS0 dR0 A B S nn i).1 (pdG dS0 dR0 A B S nn i).2 i nn).1 = (pdG dS0 dR0 A B S nn (i + 1)).1 ∧ (pdI dS0 dR0 A B (pdG dS0 dR0 A B S nn i).1 (pdG dS0 dR0 A B S nn i).2 i nn).2 = (pdG dS0 dR0 A B S nn (i + 1)).2) := hid (fun i => ⟨rfl, rfl⟩)
  have HN3 := hid hn3
  have HZ : Hid ((pdG dS0 dR0 A B S nn 0).2 = zero9) := hid rfl
  have H0 := hid (((h.new hM (wdV A) 39).new hM (wdV B) 39).new hM #[.int .i64 0, .int .i64 0, .int .i64 0, .int .i64 0, .int .i64 0, .int .i64 0, .int .i64 0, .int .i64 0, .int .i64 0] 81)
  obtain ⟨w1, hw1⟩ : ∃ w1, (((w.alloc (.cells (wdV A) 39)).alloc (.cells (wdV B) 39)).alloc (.cells #[.int .i64 0, .int .i64 0, .int .i64 0, .int .i64 0, .int .i64 0, .int .i64 0, .int .i64 0, .int .i64 0, .int .i64 0] 81)) = w1 := ⟨_, rfl⟩
  rw [hw1] at H0
  have H1 : Hid (Ow Pm F0 w0 w1 b (pdG dS0 dR0 A B S nn 0).1 ((w.heap.size + 2, .cells #[.int .i64 0, .int .i64 0, .int .i64 0, .int .i64 0, .int .i64 0, .int .i64 0, .int .i64 0, .int .i64 0, .int .i64 0] 81 (0, 0)) :: (w.heap.size + 1, .cells (wdV B) 39 (0, 0)) :: (w.heap.size, .cells (wdV A) 39 (0, 0)) :: bs)) := hid (by have := H0.out; simp only [sz_al] at this; exact this)
  have HW := hid hw1
  clear HG HB h hq hk hn hn3 hA hB hw1 H0
  obtain ⟨GS, hGS⟩ : ∃ GS : Nat → Ms, ∀ k, (pdG dS0 dR0 A B S nn k).1 = GS k := ⟨_, fun _ => rfl⟩
  obtain ⟨GP, hGP⟩ : ∃ GP : Nat → Nat → Int, ∀ k, (pdG dS0 dR0 A B S nn k).2 = GP k := ⟨_, fun _ => rfl⟩
  simp only [hGS, hGP] at *
  clear hGS hGP
  obtain ⟨IS, hIS⟩ : ∃ IS : Nat → Nat → Ms, ∀ i k, (pdI dS0 dR0 A B (GS i) (GP i) i k).1 = IS i k := ⟨_, fun _ _ => rfl⟩
  obtain ⟨IP, hIP⟩ : ∃ IP : Nat → Nat → Nat → Int, ∀ i k, (pdI dS0 dR0 A B (GS i) (GP i) i k).2 = IP i k := ⟨_, fun _ _ => rfl⟩
  simp only [hIS, hIP] at *
  clear hIS hIP
  obtain ⟨RG, hRG⟩ : ∃ RG : Nat → Nat → Int, ∀ i k, dR0 (IS i k) (an6 i (A i) (B k)) = RG i k := ⟨_, fun _ _ => rfl⟩
  simp only [hRG] at *
  clear hRG
  go_enter Try.func57, Try.ntmps57
  go_upto_region 1 with fail
  rw [HW.out]
  go_upto_region 2 with fail
  have H2 := hid (H1.out.new hM (iz 9 zero9) 81)
  obtain ⟨g7, hg7⟩ : ∃ g7, w1.heap.size = g7 := ⟨_, rfl⟩
  rw [hg7] at H2
  have H3 : Hid (Ow Pm F0 w0 (w1.alloc (.cells #[.int .i64 0, .int .i64 0, .int .i64 0, .int .i64 0, .int .i64 0, .int .i64 0, .int .i64 0, .int .i64 0, .int .i64 0] 81)) b (GS 0) ((g7, .cells (iz 9 (GP 0)) 81 (0, 0)) :: (w.heap.size + 2, .cells #[.int .i64 0, .int .i64 0, .int .i64 0, .int .i64 0, .int .i64 0, .int .i64 0, .int .i64 0, .int .i64 0, .int .i64 0] 81 (0, 0)) :: (w.heap.size + 1, .cells (wdV B) 39 (0, 0)) :: (w.heap.size, .cells (wdV A) 39 (0, 0)) :: bs)) := hid (by rw [HZ.out]; exact H2.out)
  rw [hg7]
  generalize w1.alloc (.cells #[.int .i64 0, .int .i64 0, .int .i64 0, .int .i64 0, .int .i64 0, .int .i64 0, .int .i64 0, .int .i64 0, .int .i64 0] 81) = w3 at *
  clear hg7 H2 H1
  replace HNB := HNB
  go_upto_region 3 with (go_at_call 58; (with_reducible refine (HNB.out 0 (Nat.zero_le _) _ _ H3.out).mono ?_); rintro e w2 ⟨rfl, hb⟩; have H4 := hid (H3.out.self hM hb); clear hb)
  go_loopw [12] (fun iv wr => ∃ i : Nat, i ≤ nn ∧ iv = .int .i64 i ∧ Ow Pm F0 w0 wr b (GS i) ((g7, .cells (iz 9 (GP i)) 81 (0, 0)) :: (w.heap.size + 2, .cells #[.int .i64 0, .int .i64 0, .int .i64 0, .int .i64 0, .int .i64 0, .int .i64 0, .int .i64 0, .int .i64 0, .int .i64 0] 81 (0, 0)) :: (w.heap.size + 1, .cells (wdV B) 39 (0, 0)) :: (w.heap.size, .cells (wdV A) 39 (0, 0)) :: bs)) (fun iv _ => nn - (intOf iv).toNat)
  case atStart => exact ⟨0, by omega, rfl, H4.out⟩
  case round =>
    clear H3 H4
    obtain ⟨i, hi, rfl, hI⟩ := hrel
    have HI := hid hI
    clear hI
    have hn3 := HN3.out
    by_cases hlt : i < nn
    · have j1 : (i : Int) < (nn : Int) := by omega
      have j0 : (0 : Int) ≤ (i : Int) := by omega
      have j3 : (i : Int) < 3 := by omega
      have HI3 : Hid (i < 3) := hid (by omega)
      have HIX1 : Hid (i + 1 ≤ nn) := hid (by omega)
      replace HTW := hid (fun k hk => HTW.out i k hlt hk)
      have HNI := hid (HNB.out i hi)
      clear hi
      go_upto_region 6 with (go_at_call 58; (with_reducible refine (HNI.out _ _ HI.out).mono ?_); rintro e w5 ⟨rfl, hb⟩; have H5 := hid (HI.out.self hM hb); clear hb)
      obtain ⟨wo, hwo⟩ : ∃ wo, wr = wo := ⟨_, rfl⟩
      subst hwo
      go_loopw [17] (fun kv wr => ∃ k : Nat, k ≤ nn ∧ kv = .int .i64 k ∧ Ow Pm F0 w0 wr b (IS i k) ((g7, .cells (iz 9 (IP i k)) 81 (0, 0)) :: (w.heap.size + 2, .cells #[.int .i64 0, .int .i64 0, .int .i64 0, .int .i64 0, .int .i64 0, .int .i64 0, .int .i64 0, .int .i64 0, .int .i64 0] 81 (0, 0)) :: (w.heap.size + 1, .cells (wdV B) 39 (0, 0)) :: (w.heap.size, .cells (wdV A) 39 (0, 0)) :: bs)) (fun kv _ => nn - (intOf kv).toNat)
      case atStart => exact ⟨0, by omega, rfl, by rw [(HI0.out i).1, (HI0.out i).2]; exact H5.out⟩
      case round =>
        clear H5 HI
        obtain ⟨k, hk, rfl, hJ⟩ := hrel
        have HJ := hid hJ
        clear hJ
        have hn3 := HN3.out
        by_cases hlk : k < nn
        · have k1 : (k : Int) < (nn : Int) := by omega
          have k0 : (0 : Int) ≤ (k : Int) := by omega
          have k3 : (k : Int) < 3 := by omega
          have HK3 : Hid (k < 3) := hid (by omega)
          have HIX : Hid (i * 3 + k < 9) := hid (by have := HI3.out; omega)
          have HKX : Hid (k + 1 ≤ nn) := hid (by omega)
          replace HTW := hid (HTW.out k hlk)
          replace HU := hid (HU.out i k)
          clear hk
          go_upto_region 8 with fail
          have G0 := hid (HJ.out.self hM ((Below.refl _ wr).drew))
          refine wp_region_noPanic ?_
          refine wp_region_held_drew (S := fun w' => w'.heap[w.heap.size]? = some (.cells (wdV A) 39 (0, 0)) ∧ w'.heap[w.heap.size + 1]? = some (.cells (wdV B) 39 (0, 0))) (by kernel_rfl) (⟨G0.out.bl 3 rfl, G0.out.bl 2 rfl⟩) (fun h0 => ?_)
          generalize wr.drew = y0 at *
          refine wpAnyH_take (i := 0) (v := .int .i64 (i : Int)) rfl (by kernel_rfl) (by kernel_rfl) (by kernel_rfl) (fun _ _ _ h => h) (.inl ⟨by rfl, fun w hw => by clear hw; go_simp⟩) h0 ?_
          try simp only [Act.put, lay_out]
          refine wpAnyH_take (i := 1) (v := .int .i64 (k : Int)) rfl (by kernel_rfl) (by kernel_rfl) (by kernel_rfl) (fun _ _ _ h => h) (.inl ⟨by rfl, fun w hw => by clear hw; go_simp⟩) h0 ?_
          try simp only [Act.put, lay_out]
          refine wpAnyH_take (i := 2) (v := .pointer (some ⟨b, 0, none⟩)) rfl (by kernel_rfl) (by kernel_rfl) (by kernel_rfl) (fun _ _ _ h => h) (.inl ⟨by rfl, fun w hw => by clear hw; go_simp⟩) h0 ?_
          try simp only [Act.put, lay_out]
          refine wpAnyH_take (i := 3) (v := .int .i64 (i : Int)) rfl (by kernel_rfl) (by kernel_rfl) (by kernel_rfl) (fun _ _ _ h => h) (.inl ⟨by rfl, fun w hw => by clear hw; go_simp⟩) h0 ?_
          try simp only [Act.put, lay_out]
          refine wpAnyH_take (i := 4) (v := .int .i64 (i : Int)) rfl (by kernel_rfl) (by kernel_rfl) (by kernel_rfl) (fun _ _ _ h => h) (.inl ⟨by rfl, fun w hw => by clear hw; go_simp⟩) h0 ?_
          try simp only [Act.put, lay_out]
          refine wpAnyH_take (i := 5) (v := .pointer (some ⟨w.heap.size, 0, none⟩)) rfl (by kernel_rfl) (by kernel_rfl) (by kernel_rfl) (fun _ _ _ h => h) (.inl ⟨by rfl, fun w hw => by clear hw; go_simp⟩) h0 ?_
          try simp only [Act.put, lay_out]
          refine wpAnyH_take (i := 6) (v := .pointer (some ⟨w.heap.size, i, none⟩)) rfl (by kernel_rfl) (by kernel_rfl) (by kernel_rfl) (fun _ _ _ h => h) (.inl ⟨by rfl, fun w hw => by clear hw; go_simp⟩) h0 ?_
          try simp only [Act.put, lay_out]
          refine wpAnyH_take (i := 7) (v := .int .i64 (A i)) rfl (by kernel_rfl) (by kernel_rfl) (by kernel_rfl) (fun _ _ _ h => h) (.inl ⟨by rfl, fun w' hw => by have hc := row_c (i := i) (u := .int .i64 (A i)) hw.1 (wdV_at A i HI3.out); clear hw; go_simp⟩) h0 ?_
          try simp only [Act.put, lay_out]
          refine wpAnyH_take (i := 8) (v := .int .i64 (k : Int)) rfl (by kernel_rfl) (by kernel_rfl) (by kernel_rfl) (fun _ _ _ h => h) (.inl ⟨by rfl, fun w hw => by clear hw; go_simp⟩) h0 ?_
          try simp only [Act.put, lay_out]
          refine wpAnyH_take (i := 9) (v := .pointer (some ⟨w.heap.size + 1, 0, none⟩)) rfl (by kernel_rfl) (by kernel_rfl) (by kernel_rfl) (fun _ _ _ h => h) (.inl ⟨by rfl, fun w hw => by clear hw; go_simp⟩) h0 ?_
          try simp only [Act.put, lay_out]
          refine wpAnyH_take (i := 10) (v := .pointer (some ⟨w.heap.size + 1, k, none⟩)) rfl (by kernel_rfl) (by kernel_rfl) (by kernel_rfl) (fun _ _ _ h => h) (.inl ⟨by rfl, fun w hw => by clear hw; go_simp⟩) h0 ?_
          try simp only [Act.put, lay_out]
          refine wpAnyH_take (i := 11) (v := .int .i64 (B k)) rfl (by kernel_rfl) (by kernel_rfl) (by kernel_rfl) (fun _ _ _ h => h) (.inl ⟨by rfl, fun w' hw => by have hc := row_c (i := k) (u := .int .i64 (B k)) hw.2 (wdV_at B k HK3.out); clear hw; go_simp⟩) h0 ?_
          try simp only [Act.put, lay_out]
          refine wpAnyH_take (i := 13) (v := .pointer (some ⟨g7, i * 3, none⟩)) rfl (by kernel_rfl) (by kernel_rfl) (by kernel_rfl) (fun _ _ _ h => h) (.inl ⟨by rfl, fun w hw => by clear hw; go_simp⟩) h0 ?_
          try simp only [Act.put, lay_out]
          refine wpAnyH_ready (rs := [12]) (by kernel_rfl) (by simp) (AllReadyH.cons rfl (fun K hK => ?_) AllReadyH.nil)
          rw [if_pos (by rfl)]
          go_simp
          go_at_call 69
          (with_reducible refine (HTW.out _ _ G0.out).mono ?_); rintro e y2 ⟨rfl, hz⟩
          have G2 := hid hz
          clear hz
          refine hK.out _ _ (⟨G2.out.bl 3 rfl, G2.out.bl 2 rfl⟩) (fun h1x => ?_)
          clear hK K
          try simp only [Act.put, lay_out]
          refine wpAnyH_take (i := 14) (v := .pointer (some ⟨g7, i * 3 + k, none⟩)) rfl (by kernel_rfl) (by kernel_rfl) (by kernel_rfl) (fun _ _ _ h => h) (.inl ⟨by rfl, fun w hw => by clear hw; go_simp⟩) h1x ?_
          try simp only [Act.put, lay_out]
          have cj := row_c (i := i * 3 + k) (G2.out.bl 0 rfl) (iz_get _ HIX.out)
          have fj := frozen_of_row y2 g7 (i * 3 + k) _ _ (G2.out.bl 0 rfl)
          refine wpAnyH_ready (rs := [15]) (by kernel_rfl) (by simp) (AllReadyH.cons rfl (fun K hK => ?_) AllReadyH.nil)
          rw [if_pos (by rfl)]
          go_simp
          clear cj fj
          have G3 : Hid (Ow Pm F0 w0 (y2.setCell ⟨g7, i * 3 + k, none⟩ (.int .i64 (RG i k))) b (IS i (k + 1)) ((g7, .cells (iz 9 (IP i (k + 1))) 81 (0, 0)) :: (w.heap.size + 2, .cells #[.int .i64 0, .int .i64 0, .int .i64 0, .int .i64 0, .int .i64 0, .int .i64 0, .int .i64 0, .int .i64 0, .int .i64 0] 81 (0, 0)) :: (w.heap.size + 1, .cells (wdV B) 39 (0, 0)) :: (w.heap.size, .cells (wdV A) 39 (0, 0)) :: bs)) := hid (by have := G2.out.cellI hM 0 rfl (i * 3 + k) (.int .i64 (RG i k)); rw [iz_set, ← HU.out] at this; exact this)
          generalize y2.setCell ⟨g7, i * 3 + k, none⟩ (.int .i64 (RG i k)) = y3 at *
          refine hK.out _ _ (⟨G3.out.bl 3 rfl, G3.out.bl 2 rfl⟩) (fun h2x => ?_)
          clear hK K
          try simp only [Act.put, lay_out]
          refine wpAnyH_done (by kernel_rfl) ?_ _
          refine NoPanic.normal ?_
          clear h0 h1x h2x
          try simp only [Act.put, lay_out]
          go_wp2
          go_roundw
          case rel => exact ⟨k + 1, HKX.out, by go_num, G3.out⟩
          case measure => simp [intOf]; omega
        · obtain rfl : nn = k := by omega
          clear hlk hk
          go_wp2
          go_roundw
          case rel => exact ⟨i + 1, HIX1.out, by go_num, by rw [← (HIn.out i).1, ← (HIn.out i).2]; exact HJ.out⟩
          case measure => simp [intOf]; omega
    · obtain rfl : nn = i := by omega
      clear hlt hi
      go_wp2_with (first
        | (refine step_load_row rfl 81 _ rfl g7 81 (iz 9 (GP nn)) _ rfl (HI.out.bl 0 rfl) Try.underlying81 rfl (by rw [iz_size]; kernel_rfl) ?_)
        | (refine step_store_row rfl 81 _ _ rfl (w.heap.size + 2) 81 _ (iz 9 (GP nn)) rfl rfl (HI.out.bl 1 rfl) (by rw [iz_size]; kernel_rfl) (by rw [iz_size]; rfl) (by kernel_rfl) ?_))
      have H9 := hid (HI.out.rowI hM 1 rfl (iz 9 (GP nn)))
      exact bodyPost_ret (results_cell_row (by rfl) _ _ (w.heap.size + 2) 81 (iz 9 (GP nn)) (0, 0) _ rfl (H9.out.bl 1 rfl) Try.underlying81 rfl (by rw [iz_size]; kernel_rfl)) rfl ⟨rfl, H9.out.drop.drop.drop.drop⟩
end Go.Proofs.Ytflfnaiklnbaiaa
