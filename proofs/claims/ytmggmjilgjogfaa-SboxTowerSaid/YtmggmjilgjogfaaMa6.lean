import Derived.Test.YtmggmjilgjogfaaMa5
namespace Go.Proofs.Ytmggmjilgjogfaa
open Go.RowKit

theorem info23' {f : Nat → Nat} : (Try.prog.info? 25).map (·.size) = some (ba 8 f).size := by rw [ba_size]; exact info23
theorem rowF_next {m : Nat → Nat} {j k : Nat} (hk : k < 8) (hb : (m k).testBit j = false) : rowF m j (8 - k) k = rowF m j (8 - (k + 1)) (k + 1) := by
  have : 8 - k = (8 - (k + 1)) + 1 := by omega
  rw [this, rowF, if_neg (by simp [hb])]
theorem rowF_hit {m : Nat → Nat} {j k : Nat} (hk : k < 8) (hb : (m k).testBit j = true) : rowF m j (8 - k) k = k := by
  have : 8 - k = (8 - (k + 1)) + 1 := by omega
  rw [this, rowF, if_pos hb]

set_option maxHeartbeats 400000 in
theorem rowWith_any (m : Nat → Nat) (d j : Nat) (w : World) (hm : By m) (hd : d ≤ 8) (hj : j < 8) :
    Calls Try.prog 44 #[.agg (ba 8 m), .int .i64 (d : Int), .int .i64 (j : Int)] w fun e w' => e = .returned (.int .i64 (rowW m d j : Nat)) ∧ Below w.heap.size w w' := by
  have HL := hid ((Below.refl w.heap.size w).alloc (Nat.le_refl _) (.cells (ba 8 m) 25))
  have HM := hid hm
  obtain ⟨r, hr⟩ : ∃ r, rowW m d j = r := ⟨_, rfl⟩
  have HR := hid (show rowF m j (8 - d) d = r by rw [← hr]; exact (if_pos hd).symm)
  rw [hr]
  clear hm hr
  go_enter Try.func44, Try.ntmps44
  go_wp2
  go_loop [7] (fun i => ∃ k : Nat, k ≤ 8 ∧ i = .int .i64 k ∧ rowF m j (8 - k) k = r) (fun i => 8 - (intOf i).toNat)
  case atStart => exact ⟨d, hd, rfl, HR.out⟩
  case round =>
    obtain ⟨k, hk, rfl, hr⟩ := hrel
    have HK := hid hr
    clear hr
    by_cases hlt : k < 8
    · have hg := ba_get m hlt
      have hb := HM.out k hlt
      have hX := bitU hb j
      cases hq : (m k).testBit j
      · have HN := hid (rowF_next hlt hq)
        rw [hq] at hX
        clear hq
        go_wp2
        go_round
        case rel => exact ⟨k + 1, by omega, by go_num, by rw [← HN.out]; exact HK.out⟩
        case measure => simp [intOf]; omega
      · have HN := hid (rowF_hit hlt hq)
        rw [hq] at hX
        clear hq
        go_wp2
        go_ret
        exact ⟨ret_int (by rw [← HK.out, HN.out]), HL.out⟩
    · obtain rfl : k = 8 := by omega
      go_wp2
      go_ret
      have h8 := HK.out
      rw [show rowF m j (8 - 8) 8 = 8 from rfl] at h8
      exact ⟨ret_int (by rw [← h8]; rfl), HL.out⟩

/-- The rows so far: up to k they are turned. -/
def selTo (c : Nat → Bool) (a : Nat → Nat) (d k : Nat) : Nat → Nat := fun i => if i < k then sel c a d i else a i
theorem selTo_zero (c : Nat → Bool) (a : Nat → Nat) (d i : Nat) : a i = selTo c a d 0 i := by simp [selTo]
theorem selTo_end (c : Nat → Bool) (a : Nat → Nat) (d : Nat) {i : Nat} (h : i < 8) : selTo c a d 8 i = sel c a d i := by simp [selTo, h]
theorem selTo_at (c : Nat → Bool) (a : Nat → Nat) (d k : Nat) : selTo c a d k k = a k := by simp [selTo]
theorem selTo_own {c : Nat → Bool} {a : Nat → Nat} {d : Nat} (k : Nat) (h : c d = false) : selTo c a d k d = a d := by unfold selTo sel; rw [h]; simp
theorem selTo_skip {c : Nat → Bool} {a : Nat → Nat} {d k : Nat} (h : c k = false) (i : Nat) : selTo c a d k i = selTo c a d (k + 1) i := by
  unfold selTo sel
  by_cases e : i = k
  · subst e; rw [h]; simp
  · by_cases h1 : i < k
    · have h2 : i < k + 1 := by omega
      simp [h1, h2]
    · rw [if_neg h1, if_neg (by omega)]
theorem selTo_step {c : Nat → Bool} {a : Nat → Nat} {d k : Nat} (h : c k = true) (i : Nat) : upd (selTo c a d k) k (a k ^^^ a d) i = selTo c a d (k + 1) i := by
  unfold upd selTo sel
  by_cases e : i = k
  · subst e; rw [h]; simp
  · rw [if_neg e]
    by_cases h1 : i < k
    · have h2 : i < k + 1 := by omega
      simp [h1, h2]
    · rw [if_neg h1, if_neg (by omega)]
theorem swp_upd (a : Nat → Nat) (d i k : Nat) : upd (upd a d (a i)) i (a d) k = swp a d i k := rfl

/-- Four blocks: the matrix, what goes out twice, the steps. -/
structure R4 (b : Nat) (m s : Nat → Nat) (w wr : World) : Prop where
  low : Below w.heap.size w wr
  far : w.heap.size + 3 ≤ b
  mat : M wr w.heap.size m
  o1 : M wr (w.heap.size + 1) (fun _ => 0)
  o2 : M wr (w.heap.size + 2) (fun _ => 0)
  st : M wr b s
theorem R4.ext {b : Nat} {m s m' s' : Nat → Nat} {w wr : World} (h : R4 b m s w wr) (hm : ∀ i, i < 8 → m i = m' i) (hs : ∀ i, i < 8 → s i = s' i) : R4 b m' s' w wr :=
  ⟨h.low, h.far, h.mat.ext hm, h.o1, h.o2, h.st.ext hs⟩
theorem R4.drew {b : Nat} {m s : Nat → Nat} {w wr : World} (h : R4 b m s w wr) : R4 b m s w wr.drew := ⟨h.low.drew, h.far, h.mat, h.o1, h.o2, h.st⟩
theorem R4.on {b : Nat} {m s : Nat → Nat} {w wr w1 : World} (h : R4 b m s w wr) (hb : Below wr.heap.size wr w1) : R4 b m s w w1 :=
  ⟨h.low.trans (hb.mono h.low.size), h.far, h.mat.self hb, h.o1.self hb, h.o2.self hb, h.st.self hb⟩
theorem R4.setM {b : Nat} {m s : Nat → Nat} {w wr : World} (h : R4 b m s w wr) (j z : Nat) : R4 b (upd m j z) s w (wr.setCell ⟨w.heap.size, j, none⟩ (.int .u8 (z : Int))) :=
  have hb := h.far
  ⟨h.low.setCell (by simp) _, h.far, h.mat.set j z, h.o1.apart (by simp) _, h.o2.apart (by simp) _, h.st.apart (by simp; omega) _⟩
theorem R4.setS {b : Nat} {m s : Nat → Nat} {w wr : World} (h : R4 b m s w wr) (j z : Nat) : R4 b m (upd s j z) w (wr.setCell ⟨b, j, none⟩ (.int .u8 (z : Int))) :=
  have hb := h.far
  ⟨h.low.setCell (by simp; omega) _, h.far, h.mat.apart (by simp; omega) _, h.o1.apart (by simp; omega) _, h.o2.apart (by simp; omega) _, h.st.set j z⟩

theorem R4.start {f : Nat → Nat} {w wr w1 : World} (h : M3 25 f (fun _ => 0) w wr) (hb : Below wr.heap.size wr w1) :
    R4 w1.heap.size f one w ((w1.alloc (.cells (ba 8 (fun _ => 0)) 25)).setRow w1.heap.size (ba 8 one)) := by
  have h1 := h.on hb
  have s1 := h1.src.lt; have s2 := h1.out.lt; have s3 := h1.var.lt
  refine ⟨below_setRow (h1.low.alloc (by omega) _) (by omega) _, by omega, (h1.src.alloc _).rowApart (by omega) _, (h1.out.alloc _).rowApart (by omega) _, (h1.var.alloc _).rowApart (by omega) _, (At.new w1 8 25 _).row _⟩

/-- A whole load in a region that draws its order: it may be taken first. -/
theorem yields_load_ba {P : Program} {ops : Array Oper} {S : World → Prop} {op : Oper} {a : Act} (hw : Region.wanted op (yielded ops a.tmps) = true) (ty : TypeId) (x : Operand) (ho : op.op = .load ty x)
    (b n : Nat) (t e : TypeId) (f : Nat → Nat) (hx : a.eval x = .pointer (some ⟨b, 0, none⟩)) (hS : ∀ w, S w → At w b n t f)
    (hu : P.underlying ty = some (.array n e)) (hi : (P.info? ty).map (·.size) = some n) : YieldsIf P ops S op (.agg (ba n f)) a :=
  .inl ⟨hw, fun w hw' => by
    unfold execOp
    simp only [ho, hx, Instr.loadAt, Instr.sureAddr, Sem.run_bind, Sem.run_pure, Result.andThen_ok, (hS w hw').load ty hu hi]⟩

set_option maxHeartbeats 1600000 in
theorem reduce_any (f : Nat → Nat) (w : World) (hf : By f) :
    Calls Try.prog 33 #[.agg (ba 8 f)] w fun e w' => ∃ m s, e = .returned (.tuple #[.agg (ba 8 m), .agg (ba 8 s)]) ∧ RInv f m s (rk f) 8 ∧ Below w.heap.size w w' := by
  have HS := hid (M3.start 25 f w)
  have HR0 := hid (RInv.start hf)
  have HRK := hid (fun m s d (h : RInv f m s d 8) => h.rank)
  clear hf
  go_enter Try.func33, Try.ntmps33
  go_wp2_with (first
    | (go_at_call 34; refine (one_any _).mono ?_; rintro e w1 ⟨rfl, hlow1⟩; have H4 := hid (R4.start HS.out hlow1); clear hlow1)
    | (refine step_store_ba rfl 25 _ _ rfl w1.heap.size 8 25 (fun _ => 0) one rfl rfl (At.new w1 8 25 (fun _ => 0)) info23 ?_))

  go_loopw [5, 10] (fun dv jv wr => ∃ (m s : Nat → Nat) (d j : Nat), dv = .int .i64 d ∧ jv = .int .i64 j ∧ RInv f m s d j ∧ R4 w1.heap.size m s w wr) (fun _ jv _ => 8 - (intOf jv).toNat)
  case atStart => exact ⟨f, one, 0, 0, rfl, rfl, HR0.out, H4.out⟩
  case round =>
    obtain ⟨m, s, d, j, rfl, rfl, hR, hM⟩ := hrel
    have hj := hR.j8
    have hd := hR.dj
    have HM := hid hM
    have HR := hid hR
    clear hM hR
    by_cases hlt : j < 8
    · obtain ⟨wo, rfl⟩ : ∃ wo : World, wo = wr := ⟨_, rfl⟩
      obtain ⟨i, hi⟩ : ∃ i, rowW m d j = i := ⟨_, rfl⟩
      have HI := hid hi
      have hsp := rowW_spec m j (show d ≤ 8 by omega)
      rw [hi] at hsp
      have hdi : d ≤ i := hsp.1
      have hi8 : i ≤ 8 := hsp.2.1
      clear hsp
      have HC : Hid (∀ w, Calls Try.prog 44 #[.agg (ba 8 m), .int .i64 (d : Int), .int .i64 (j : Int)] w fun e w' => e = .returned (.int .i64 (i : Int)) ∧ Below w.heap.size w w') := hid (fun w => by
        have := rowWith_any m d j w HR.out.bm (by omega) hlt; rw [hi] at this; exact this)
      clear hi
      have hj8 : (j : Int) < 8 := by omega
      by_cases h8 : i = 8
      · subst h8
        go_wp2_with (first
          | (refine step_load_ba rfl 25 _ rfl w.heap.size 8 25 5 m rfl HM.out.mat Try.underlying25 info23 ?_)
          | (go_at_call 44; (with_reducible refine (HC.out _).mono ?_); rintro e w2 ⟨rfl, hlow2⟩; have HM2 := hid (HM.out.on hlow2); clear hlow2))
        go_roundw
        case rel => exact ⟨m, s, d, j + 1, by go_num, by go_num, HR.out.none hlt HI.out, HM2.out⟩
        case measure => simp [intOf]; omega
      · have hne : ((i : Int) == 8) = false := by rw [beq_eq_false_iff_ne]; omega
        go_wp2_with (first
          | (refine step_load_ba rfl 25 _ rfl w.heap.size 8 25 5 m rfl HM.out.mat Try.underlying25 info23 ?_)
          | (go_at_call 44; (with_reducible refine (HC.out _).mono ?_); rintro e w2 ⟨rfl, hlow2⟩; have HM2 := hid (HM.out.on hlow2); clear hlow2))
        have hil : i < 8 := by omega
        have hdl : d < 8 := by omega
        have c1 := HM2.out.mat.cell hil
        have c2 := HM2.out.mat.cell hdl
        have f1 := HM2.out.mat.free i
        have f2 := HM2.out.mat.free d
        have HM3 := hid (((HM2.out.setM d (m i)).setM i (m d)).drew)
        have c3 := (HM2.out.setM d (m i)).mat.cell hil
        have f3 := (HM2.out.setM d (m i)).mat.free i
        go_region
        generalize ((w2.setCell ⟨w.heap.size, d, none⟩ (.int .u8 (m i : Int))).setCell ⟨w.heap.size, i, none⟩ (.int .u8 (m d : Int))).drew = w3 at HM3 ⊢
        clear c1 c2 f1 f2 c3 f3
        have c1 := HM3.out.st.cell hil
        have c2 := HM3.out.st.cell hdl
        have f1 := HM3.out.st.free i
        have f2 := HM3.out.st.free d
        have HM4 := hid (((HM3.out.setS d (s i)).setS i (s d)).drew)
        have c3 := (HM3.out.setS d (s i)).st.cell hil
        have f3 := (HM3.out.setS d (s i)).st.free i
        go_wp2
        go_region
        generalize ((w3.setCell ⟨w1.heap.size, d, none⟩ (.int .u8 (s i : Int))).setCell ⟨w1.heap.size, i, none⟩ (.int .u8 (s d : Int))).drew = w4 at HM4 ⊢
        clear c1 c2 f1 f2 c3 f3
        have HM5 : Hid (R4 w1.heap.size (swp m d i) (swp s d i) w w4) := HM4
        have hr8 : rowW m d j < 8 := by rw [HI.out]; exact hil
        have HCL := hid (HR.out.some hlt hr8)
        have HR1 := hid (HR.out.swap hil hdi)
        rw [HI.out] at HCL
        clear HM4 hr8
        generalize swp m d i = m1 at HM5 HCL HR1
        generalize swp s d i = s1 at HM5 HCL HR1
        have hcd : cond m1 d j d = false := by simp [cond]
        have HCK := hid (fun k => show cond m1 d j k = (decide (k ≠ d) && (m1 k).testBit j) from rfl)
        generalize cond m1 d j = c at HCL HCK hcd
        have HCD := hid hcd
        clear hcd
        go_wp2
        go_loopw [39] (fun kv wr => ∃ k : Nat, k ≤ 8 ∧ kv = .int .i64 k ∧ R4 w1.heap.size (selTo c m1 d k) (selTo c s1 d k) w wr) (fun kv _ => 8 - (intOf kv).toNat)
        case atStart => exact ⟨0, by omega, rfl, HM5.out.ext (fun i _ => selTo_zero c m1 d i) (fun i _ => selTo_zero c s1 d i)⟩
        case round =>
          obtain ⟨k, hk, rfl, hM⟩ := hrel
          have HK := hid hM
          clear hM
          by_cases hltk : k < 8
          · by_cases hkd : k = d
            · subst hkd
              have hne := neF (x := k) rfl
              have HN := hid (HK.out.ext (fun i _ => selTo_skip (a := m1) (d := k) HCD.out i) (fun i _ => selTo_skip (a := s1) (d := k) HCD.out i))
              go_wp2
              go_roundw
              case rel => exact ⟨k + 1, by omega, by go_num, HN.out⟩
              case measure => simp [intOf]; omega
            · have hne := neT hkd
              have c1 := HK.out.mat.cell hltk
              rw [selTo_at] at c1
              have hX := bitU (HR1.out.bm k hltk) j
              have HQ := HCK.out k
              cases hq : (m1 k).testBit j
              · rw [hq] at hX HQ
                have hck : c k = false := by rw [HQ]; simp
                have HN := hid (HK.out.ext (fun i _ => selTo_skip (a := m1) (d := d) hck i) (fun i _ => selTo_skip (a := s1) (d := d) hck i))
                clear hq HQ hck
                go_wp2
                go_roundw
                case rel => exact ⟨k + 1, by omega, by go_num, HN.out⟩
                case measure => simp [intOf]; omega
              · rw [hq] at hX HQ
                have hck : c k = true := by rw [HQ]; simp [hkd]
                have HSM := hid (fun i => selTo_step (a := m1) (d := d) hck i)
                have HSS := hid (fun i => selTo_step (a := s1) (d := d) hck i)
                clear hq HQ hck
                have c2 := HK.out.mat.cell hdl
                rw [selTo_own k HCD.out] at c2
                have f1 := HK.out.mat.free k
                have hx := xor8 (HR1.out.bm k hltk) (HR1.out.bm d hdl)
                have HK1 := hid ((HK.out.setM k (m1 k ^^^ m1 d)).drew)
                go_wp2
                go_region
                generalize (wr.setCell ⟨w.heap.size, k, none⟩ (.int .u8 ((m1 k ^^^ m1 d : Nat) : Int))).drew = w5 at HK1 ⊢
                clear c1 c2 f1 hx
                have c1 := HK1.out.st.cell hltk
                rw [selTo_at] at c1
                have c2 := HK1.out.st.cell hdl
                rw [selTo_own k HCD.out] at c2
                have f1 := HK1.out.st.free k
                have hx := xor8 (HR1.out.bs k hltk) (HR1.out.bs d hdl)
                have HK2 := hid ((HK1.out.setS k (s1 k ^^^ s1 d)).drew)
                go_wp2
                go_region
                go_wp2
                go_roundw
                case rel => exact ⟨k + 1, by omega, by go_num, HK2.out.ext (fun i _ => HSM.out i) (fun i _ => HSS.out i)⟩
                case measure => simp [intOf]; omega
          · obtain rfl : k = 8 := by omega
            have HK1 := hid (HK.out.ext (fun i hi => selTo_end c m1 d hi) (fun i hi => selTo_end c s1 d hi))
            go_wp2
            go_roundw
            case rel => exact ⟨_, _, d + 1, j + 1, by go_num, by go_num, HCL.out, HK1.out⟩
            case measure => simp [intOf]; omega
    · obtain rfl : j = 8 := by omega
      go_wp2
      have hfar := HM.out.far
      have HD := hid HM.out.drew
      refine wp_region_noPanic ?_
      refine wp_region_held_drew (S := fun w' => M w' w.heap.size m ∧ M w' w1.heap.size s) (by kernel_rfl) ⟨HD.out.mat, HD.out.st⟩ (fun h0 => ?_)
      refine wpAnyH_take (i := 0) rfl (by kernel_rfl) (by kernel_rfl) (by kernel_rfl) (fun _ _ _ h => h) (yields_load_ba (by rfl) 25 _ rfl w.heap.size 8 25 5 m rfl (fun w h => h.1) Try.underlying25 info23) h0 ?_
      refine wpAnyH_take (i := 1) rfl (by kernel_rfl) (by kernel_rfl) (by kernel_rfl) (fun _ _ _ h => h) (yields_load_ba (by rfl) 25 _ rfl w1.heap.size 8 25 5 s rfl (fun w h => h.2) Try.underlying25 info23) h0 ?_
      refine wpAnyH_ready (rs := [2]) (by kernel_rfl) (by simp) (AllReadyH.cons rfl (fun K hK => ?_) AllReadyH.nil)
      rw [if_pos (by rfl)]
      refine wp_store_row 25 _ _ rfl (w.heap.size + 1) (ba 8 m) rfl rfl 25 _ HD.out.o1 info23' rfl (ba_one 8 m) ?_
      refine hK.out _ _ ⟨h0.1.rowApart (by omega) _, h0.2.rowApart (by omega) _⟩ (fun h1 => ?_)
      clear hK K
      refine wpAnyH_ready (rs := [3]) (by kernel_rfl) (by simp) (AllReadyH.cons rfl (fun K hK => ?_) AllReadyH.nil)
      rw [if_pos (by rfl)]
      refine wp_store_row 25 _ _ rfl (w.heap.size + 2) (ba 8 s) rfl rfl 25 _ (HD.out.o2.rowApart (by omega) _) info23' rfl (ba_one 8 s) ?_
      refine hK.out _ _ ⟨h1.1.rowApart (by omega) _, h1.2.rowApart (by omega) _⟩ (fun h2 => ?_)
      clear hK K
      refine wpAnyH_done (by kernel_rfl) ?_ _
      refine NoPanic.normal ?_
      have hdone : RInv f m s (rk f) 8 := by rw [HRK.out m s d HR.out]; exact HR.out
      have O1 := hid ((HD.out.o1.row m).rowApart (c := w.heap.size + 2) (by omega) (ba 8 s))
      have O2 := hid ((HD.out.o2.rowApart (c := w.heap.size + 1) (by omega) (ba 8 m)).row s)
      have OL := hid (below_setRow (below_setRow HD.out.low (b := w.heap.size + 1) (by omega) (ba 8 m)) (b := w.heap.size + 2) (by omega) (ba 8 s))
      have HDN := hid hdone
      clear hdone h0 h1 h2
      simp only [Act.put, List.getElem_toArray, List.getElem_cons_zero, List.getElem_cons_succ, List.setIfInBounds_toArray, List.set_cons_zero, List.set_cons_succ]
      go_wp2
      exact ret_ba_ba rfl rfl Try.underlying25 info23 rfl Try.underlying25 info23 rfl O1.out O2.out ⟨m, s, rfl, HDN.out, OL.out⟩
end Go.Proofs.Ytmggmjilgjogfaa
