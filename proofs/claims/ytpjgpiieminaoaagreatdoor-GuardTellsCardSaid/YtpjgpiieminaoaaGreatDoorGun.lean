import Derived.Test.YtpjgpiieminaoaaGreatDoorBop
import Derived.Test.YtpjgpiieminaoaaGreatDoorWls
import Derived.Test.YtpjgpiieminaoaaGreatDoorGen
import Derived.Test.YtpjgpiieminaoaaGreatDoorWmb
/- General: runs that open words and on which all goes well; how many ops open, and what they tell; words that are encoded one behind the other. No program is named. -/
namespace Go.Proofs.YtpjgpiieminaoaaGreatDoor

section
variable {T M L u : Nat} {S : Ms} {A : Nat → Int}
end
/-! ### how many ops open, and what they tell -/
def is12 (o : Op6) : Bool := decide (o.K = 12)
/-- m ops open; each tells no more bits than are left of K bytes. -/
structure Opd (K : Nat) (S : Ms) (m : Nat) : Prop where
  n : cnt is12 S.f S.L = m
  ok : ∀ i, i < S.L → (S.f i).K = 12 → S.v i < 2 ^ (8 * (K - 8 * cnt is12 S.f i))
section
variable {K m : Nat} {S : Ms}
theorem Opd.puts {o : Op6} {x : Nat} (h : Opd K S m) (ho : o.K = 12 → S.makes o x < 2 ^ (8 * (K - 8 * m))) : Opd K (S.put o x) (m + if o.K = 12 then 1 else 0) := by
  refine ⟨?_, fun i hi hk => ?_⟩
  · show cnt is12 (updO S.f S.L o) (S.L + 1) = _
    rw [cnt_updN, h.n]
    unfold is12
    simp only [decide_eq_true_eq]
  · have hi' : i < S.L + 1 := hi
    have hk' : (updO S.f S.L o i).K = 12 := hk
    show updN S.v S.L (S.makes o x) i < 2 ^ (8 * (K - 8 * cnt is12 (updO S.f S.L o) i))
    by_cases e : i = S.L
    · subst e
      rw [updN_at, cnt_upd (Nat.le_refl _), h.n]
      rw [updO_at] at hk'
      exact ho hk'
    · rw [updN_no _ _ e, cnt_upd (by omega)]
      rw [updO_no _ _ e] at hk'
      exact h.ok i (by omega) hk'
theorem Opd.does {o : Op6} {x : Nat} (h : Opd K S m) (ho : o.K ≠ 12) : Opd K (S.doS o x) m := by
  unfold Ms.doS
  repeat' split
  · exact h
  · exact ⟨h.n, h.ok⟩
  · exact ⟨h.n, h.ok⟩
  · exact ⟨h.n, h.ok⟩
  · have := h.puts (o := o) (x := x) (fun e => absurd e ho)
    rw [if_neg ho] at this
    exact this
theorem Opd.begins (h : Opd K S m) (k : Int) : Opd K (S.beginS k) m := by
  unfold Ms.beginS
  repeat' split
  all_goals exact ⟨h.n, h.ok⟩
theorem Opd.ends (h : Opd K S m) : Opd K S.endS m := by
  unfold Ms.endS
  repeat' split
  all_goals exact ⟨h.n, h.ok⟩
theorem Opd.sq {op : Nat → (Nat → Int) → Op6} (ho : ∀ j r, (op j r).K ≠ 12) (h : Opd K S m) : ∀ d, Opd K (sqS S op d) m
  | 0 => h
  | d + 1 => (Opd.sq ho h d).does (ho _ _)
theorem Opd.ea {op : Nat → Op6} (ho : ∀ j, (op j).K ≠ 12) (h : Opd K S m) (lo : Nat) : ∀ d, Opd K (eaS S op lo d) m
  | 0 => h
  | d + 1 => (Opd.ea ho h lo d).does (ho _)
theorem opF2_k (A : Nat → Int) (j : Nat) (r : Nat → Int) : (opF2 A j r).K ≠ 12 := by unfold opF2; split <;> first | (show (1 : Int) ≠ 12; decide) | (show (5 : Int) ≠ 12; decide)
theorem opF3_k (A : Nat → Int) (j : Nat) (r : Nat → Int) : (opF3 A j r).K ≠ 12 := by unfold opF3; split <;> first | (show (1 : Int) ≠ 12; decide) | (show (5 : Int) ≠ 12; decide)
theorem Opd.fr {A : Nat → Int} (h : Opd K S m) : Opd K (frS S false A) m := by
  unfold frS blkS
  refine (Opd.sq (fun j r => ?_) (h.begins 2) _).ends
  unfold frO
  split
  · exact opF3_k A j r
  · exact opF2_k A j r
theorem Opd.one {A : Nat → Int} {c : Nat} (h : Opd K S m) : Opd K (oneS S 8 A c) m := Opd.ea (fun j => by show (8 : Int) ≠ 12; decide) h 0 _
end
/-! ### what is told -/
/-! ### words that are encoded one behind the other -/
/-- All has gone well, in a block. -/
structure Fob (T M : Nat) (S : Ms) (L u : Nat) (kd : Int) : Prop where
  e : S.e = 0
  kind : S.kind = kd
  L : S.L = L
  used : S.used = u
  draws : S.draws = u
  TN : S.TN = T
  free : S.free = T - u
  most : S.most = (M : Int)
  skip : S.skip = 0
  dry : S.dry = false
  n : S.n = 2 ∨ S.n = 3
theorem Fob.len {T M L u : Nat} {S : Ms} {kd : Int} (h : Fob T M S L u kd) : S.len = L := by unfold Ms.len; rw [h.skip, h.L]; omega
theorem Fob.does {T M L u : Nat} {S : Ms} {kd : Int} {o : Op6} {x : Nat} (h : Fob T M S L u kd) (ho : okOp o (L : Int) S.n = true) (h1 : o.K = 1 → u < T) (h2 : o.K = 2 → o.C = S.words) (hL : L < M) : Fob T M (S.doS o x) (L + 1) (u + if o.K = 1 then 1 else 0) kd ∧ S.doR o = (L : Int) := by
  have hbad : S.bad o = false := by
    unfold Ms.bad
    rw [h.len, ho]
    rw [Bool.not_true, Bool.false_or]
    exact decide_eq_false (fun q => q.2 (h2 q.1))
  have hfull : S.full = false := by
    unfold Ms.full
    rw [h.dry, h.len, h.most]
    simp; omega
  have hout : S.out o = false := by
    unfold Ms.out
    rw [h.dry, h.free, h.TN, h.used]
    by_cases e : o.K = 1
    · have := h1 e
      simp only [e, decide_true, Bool.not_false, Bool.true_and, decide_eq_false_iff_not]; omega
    · simp [e]
  have e1 : S.doS o x = S.put o x := by
    unfold Ms.doS
    rw [if_neg (by rw [h.e]; decide), if_neg (by rw [hbad]; decide), if_neg (by rw [hfull]; decide), if_neg (by rw [hout]; decide)]
  have e2 : S.doR o = (L : Int) := by
    unfold Ms.doR
    rw [if_neg (by rw [hbad, hfull, hout, h.e]; simp), h.len]
  refine ⟨?_, e2⟩
  rw [e1]
  have c1 : (if o.K = 1 ∧ S.dry = false then S.used + 1 else S.used) = u + if o.K = 1 then 1 else 0 := by
    by_cases e : o.K = 1
    · rw [if_pos ⟨e, h.dry⟩, if_pos e, h.used]
    · rw [if_neg (fun q => e q.1), if_neg e, h.used]; omega
  have c2 : (if o.K = 1 then S.draws + 1 else S.draws) = u + if o.K = 1 then 1 else 0 := by
    by_cases e : o.K = 1
    · rw [if_pos e, if_pos e, h.draws]
    · rw [if_neg e, if_neg e, h.draws]; omega
  have c3 : (if o.K = 1 ∧ S.dry = false then S.free - 1 else S.free) = T - (u + if o.K = 1 then 1 else 0) := by
    by_cases e : o.K = 1
    · rw [if_pos ⟨e, h.dry⟩, if_pos e, h.free]; omega
    · rw [if_neg (fun q => e q.1), if_neg e, h.free]; omega
  exact ⟨h.e, h.kind, by show S.L + 1 = _; rw [h.L], c1, c2, h.TN, c3, h.most, h.skip, h.dry, h.n⟩
end Go.Proofs.YtpjgpiieminaoaaGreatDoor

/- General: arrays of ints by value, told by a function. No program is named. -/
namespace Go.Proofs.YtpjgpiieminaoaaGreatDoor

/-- The n cells of an array of ints. -/
def iz (n : Nat) (f : Nat → Int) : Array Value := ((List.range n).map fun i => Value.int .i64 (f i)).toArray
theorem iz_size (n : Nat) (f : Nat → Int) : (iz n f).size = n := by simp [iz]
theorem iz_get {n : Nat} (f : Nat → Int) {j : Nat} (h : j < n) : (iz n f)[j]? = some (.int .i64 (f j)) := by simp [iz, h]
end Go.Proofs.YtpjgpiieminaoaaGreatDoor

/- Guard: what the program must tell, whatever it is made of; the chapter's example. -/
namespace Go.Proofs.YtpjgpiieminaoaaGreatDoor
open Go.RowKit Go.Deep
set_option maxRecDepth 100000
/-- What the program's guard must tell. -/
structure GdI (Pm : World → Nat → Ms → (Nat → Prop) → Prop) : Prop where
  op : ∀ {lo : Nat} {X : Nat → Prop} {W w : World} {b bd k : Nat} {S S2 : Ms} (A : Nat → Int), Bz Pm lo X W w b bd S S2 → Pv w → gpair < lo → Bq k S → k + 60 ≤ 100000 → (S.n = 2 ∨ S.n = 3) → Wb A → Calls Tryz.prog 9 #[.pointer (some ⟨b, 0, none⟩), .agg (wdV A)] w fun e w' => e = .returned (.int .u64 (gdV S A : Int)) ∧ Bz Pm lo X W w' b bd (gdS S A) S2 ∧ ∀ k, X k → w'.heap[k]? = w.heap[k]?
  yes : ∀ {lo : Nat} {X : Nat → Prop} {W w : World} {b bd k : Nat} {S S2 : Ms} (A : Nat → Int), Bz Pm lo X W w b bd S S2 → Pv w → gpair < lo → Bq k S → k + 60 ≤ 100000 → (S.n = 2 ∨ S.n = 3) → S.dry = false → Wb A → gmV S A 1 ≤ 1 → Calls Tryz.prog 11 #[.pointer (some ⟨b, 0, none⟩), .agg (wdV A)] w fun e w' => e = .returned (.bool (decide (gmV S A 1 = 1))) ∧ Bz Pm lo X W w' b bd (gmS S A 1) S2 ∧ ∀ k, X k → w'.heap[k]? = w.heap[k]?
  bytes : ∀ {lo : Nat} {X : Nat → Prop} {W w : World} {b bd k : Nat} {S S2 : Ms} (V : Nat → Nat → Int) (L : Nat) (v : Value) (z : Int), Bz Pm lo X W w b bd S S2 → Pv w → gpair < lo → Bq k S → k + 14 * L + 200 ≤ 100000 → (S.n = 2 ∨ S.n = 3) → S.dry = false → (∀ j, Wb (V j)) → WsR w v L V X → I64 z → Calls Tryz.prog 14 #[.pointer (some ⟨b, 0, none⟩), v, .int .i64 z] w (TellsB Pm lo X W w b bd (gyS S V z (gyC z L)) S2 (ns (gyM z (gyC z L)) (gyF S V z)))
  planes : ∀ {lo : Nat} {X : Nat → Prop} {W w : World} {b bd k : Nat} {S S2 : Ms} (V : Nat → Nat → Int) (fz : Nat → Int) (z : Int), Bz Pm lo X W w b bd S S2 → Pv w → gpair < lo → Bq k S → k + 300 ≤ 100000 → (S.n = 2 ∨ S.n = 3) → S.dry = false → (∀ j, Wb (V j)) → (∀ j, j < 8 → ∀ c, c < 3 → fz (j * 3 + c) = V j c) → I64 z → Calls Tryz.prog 16 #[.pointer (some ⟨b, 0, none⟩), .agg (iz 24 fz), .int .i64 z] w (TellsB Pm lo X W w b bd (gpZ S V z) S2 (gpO S V z))
  draws : ∀ (n : Int) (w : World), Calls Tryz.prog 5 #[.int .i64 n] w fun e w' => e = .returned (.int .i64 (frD n)) ∧ w' = w
/-! ### the example -/
def gaw : Nat → Nat := fun _ => 77
def gaS0 : Ms := startD 2 99 gaw 1 0 1
def gaS1 : Ms := cstS gaS0 3 258
def gaR : Nat → Int := cstR gaS0 3 258
def gaV (j : Nat) : Nat → Int := if j = 0 then gaR else none3
def gaS2 : Ms := gyS gaS1 gaV 2 1
theorem ga0_bq : Bq 0 gaS0 := startD_bq 2 99 gaw 1 0 1 0 (.inl rfl) (by decide) (by decide) (by decide) (fun i _ => by unfold gaw; decide) (by decide) (Nat.le_refl _)
theorem ga0_n : gaS0.n = 2 ∨ gaS0.n = 3 := .inl rfl
theorem ga1_bq : Bq 6 gaS1 := cstS_bq ga0_bq ga0_n (i64k 3 (by decide) (by decide)) (by decide)
theorem ga1_n : gaS1.n = 2 ∨ gaS1.n = 3 := by rw [show gaS1.n = gaS0.n from (cstS_ext _ _ _).n]; exact ga0_n
theorem gaV_wb (j : Nat) : Wb (gaV j) := by
  unfold gaV
  split
  · exact cstR_wb ga0_bq (by decide) ga0_n (i64k 3 (by decide) (by decide)) (by decide)
  · exact none3_wb
theorem ga2_e : gaS2.e = 0 := by decide +kernel
theorem ga_tells : ns (gyM 2 (gyC 2 1)) (gyF gaS1 gaV 2) = [2, 1] := by
  have W0 : Wt gaS0 := ⟨rfl, rfl, .inl rfl⟩
  have h2 : (gmS gaS1 (gaV 0) (lwN (8 * gyK 2 0))).e = 0 := ga2_e
  have h1 : (cstS gaS0 3 258).e = 0 := gm_e h2
  obtain ⟨s1, _⟩ := cs_sf (S := gaS0) (c := 258) W0 h1
  have W1 : Wt gaS1 := W0.ext (cstS_ext _ _ _)
  have hv := (gm_sf W1 ga1_bq (A := gaV 0) (x := 258) (c := lwN (8 * gyK 2 0)) s1 h2).1
  have e : gyV gaS1 gaV 2 0 = 258 := hv
  show [((gyF gaS1 gaV 2 0 : Nat) : Int), ((gyF gaS1 gaV 2 1 : Nat) : Int)] = [2, 1]
  have a0 : gyF gaS1 gaV 2 0 = byF (gyV gaS1 gaV 2 0) 0 := rfl
  have a1 : gyF gaS1 gaV 2 1 = byF (gyV gaS1 gaV 2 0) 1 := rfl
  rw [a0, a1, e]
  rfl
set_option maxHeartbeats 12800000 in
theorem gawake_any {Pm : World → Nat → Ms → (Nat → Prop) → Prop} (hM : Mach Pm) (hN : MachN Pm) (hG : GdI Pm) (w : World) (hp : Pv w) :
    Calls Tryz.prog 19 #[] w fun e w' => e = .returned (.bool true) ∧ Below w.heap.size w w' := by
  have hlow := (Below.refl w.heap.size w).alloc (Nat.le_refl _) (.cells #[.int .u64 77] 22)
  have HLOW := hid hlow
  have hp0 := hp.self hlow
  have HGL : Hid (gpair < (w.alloc (.cells #[.int .u64 77] 22)).heap.size) := hid hp0.1
  have HPV := hid hp0
  have HBG : Hid (Calls Tryz.prog 4 #[.int .i64 2, .slice (some ⟨w.heap.size, 0, none⟩) 1 1, .int .i64 99] (w.alloc (.cells #[.int .u64 77] 22)) fun e w' => ∃ p b, e = .returned (.tuple #[.agg (paC p b (.slice none 0 0) (.slice none 0 0)), .bool true]) ∧ Bz Pm (w.alloc (.cells #[.int .u64 77] 22)).heap.size (fun _ => False) (w.alloc (.cells #[.int .u64 77] 22)) w' p b gaS0 gaS0) := hid (by
    have hrd : RdS .u64 (w.alloc (.cells #[.int .u64 77] 22)) (fun g => g < (w.alloc (.cells #[.int .u64 77] 22)).heap.size) (.slice (some ⟨w.heap.size, 0, none⟩) 1 1) (wdL gaw 1) := by
      have hz : wdL gaw 1 = [(77 : Int)] := rfl
      rw [hz]
      refine ⟨some ⟨w.heap.size, 0, none⟩, 1, rfl, Nat.le_refl _, by decide, by show 1 * 8 ≤ _; decide, fun z hz => ?_, fun _ => ⟨w.heap.size, 0, rfl, by rw [sz_al]; omega, by rw [sz_al]; omega, fun j hj => ?_⟩⟩
      · simp at hz; rw [hz]; rfl
      · have hj2 : j < 1 := hj
        obtain rfl : j = 0 := by omega
        exact row_c (i := 0) (heap_alloc_new w _) rfl
    exact lbegins_any hM hN 2 99 (.inl rfl) (by decide) (by decide) gaw 1 _ _ hrd)
  have HSZ : Hid ((w.alloc (.cells #[.int .u64 77] 22)).heap.size = w.heap.size + 1) := hid (sz_al _ _)
  clear hlow hp hp0
  obtain ⟨w0, hw0⟩ : ∃ w0, w.alloc (.cells #[.int .u64 77] 22) = w0 := ⟨_, rfl⟩
  rw [hw0] at HBG HSZ HLOW HGL HPV
  have HW0 := hid hw0
  clear hw0
  have HC1 := hid (fun (w0' wx : World) (p b : Nat) (bs : List (Nat × Obj)) (h : Gy Pm w0.heap.size (fun _ => False) w0 w0' wx p b gaS0 gaS0 bs) => h.lift (f := 7) (args := #[.pointer (some ⟨p, 0, none⟩), .int .u64 258]) (E := fun e => e = .returned (.agg (wdV gaR))) (S1' := gaS1) (fun X W hz => qpub hM (shI hM) 258 hz ga0_bq (by decide) ga0_n (by decide)))
  have HC2 := hid (fun (w0' wx : World) (p b g : Nat) (bs : List (Nat × Obj)) (h : Gy Pm w0.heap.size (fun _ => False) w0 w0' wx p b gaS1 gaS0 ((g, .cells (wdV gaR) 37 (0, 0)) :: bs)) => h.tells (f := 14) (args := #[.pointer (some ⟨p, 0, none⟩), .slice (some ⟨g, 0, none⟩) 1 1, .int .i64 2]) (S1' := gaS2) (S2' := gaS0) (zs := ns (gyM 2 (gyC 2 1)) (gyF gaS1 gaV 2)) (fun X hX0 hX W hz => hG.bytes gaV 1 (.slice (some ⟨g, 0, none⟩) 1 1) 2 hz (Pv.bz HPV.out HGL.out h.z) HGL.out ga1_bq (by decide) ga1_n rfl gaV_wb ⟨_, 1, rfl, Nat.le_refl _, by decide, fun _ => ⟨g, 0, rfl, hX _ (List.mem_cons_self ..), h.lt (List.mem_cons_self ..), fun j hj c hc => by
    obtain rfl : j = 0 := by omega
    rw [Nat.zero_mul, Nat.zero_add]
    exact row_c (i := c) (h.bl 0 rfl) (by rcases (by omega : c = 0 ∨ c = 1 ∨ c = 2) with rfl | rfl | rfl <;> rfl)⟩⟩ (i64k 2 (by decide) (by decide))))
  rw [ga_tells] at HC2
  generalize gaS2 = E2 at *
  generalize gaS1 = E1 at *
  generalize gaS0 = E0 at *
  generalize gaR = R1 at *
  go_enter Tryz.func19, Tryz.ntmps19
  go_upto_region 1 with fail
  go_upto_region 2 with (first
    | (rw [HW0.out]; go_at_call 4; (with_reducible refine (HBG.out).mono ?_); rintro e w2 ⟨p, b, rfl, hz⟩; have Z2 := hid hz; clear hz)
    | (go_at_call 4; (with_reducible refine (HBG.out).mono ?_); rintro e w2 ⟨p, b, rfl, hz⟩; have Z2 := hid hz; clear hz))
  have H3 := hid ((Gy.start Z2.out).new hM (paC p b (.slice none 0 0) (.slice none 0 0)) 31)
  obtain ⟨b1, hb1⟩ : ∃ b1, w2.heap.size = b1 := ⟨_, rfl⟩
  rw [hb1] at H3
  generalize w2.alloc (.cells #[.pointer (some ⟨p, 0, none⟩), .pointer (some ⟨b, 0, none⟩), .slice none 0 0, .slice none 0 0] 31) = w3 at *
  rw [hb1]
  clear hb1 HBG HW0
  go_upto_region 4 with fail
  have G0 := hid (H3.out.self hM ((Below.refl _ w3).drew))
  refine wp_region_noPanic ?_
  refine wp_region_held_drew (S := fun w' => w'.heap[b1]? = some (.cells (paC p b (.slice none 0 0) (.slice none 0 0)) 31 (0, 0))) (by kernel_rfl) (G0.out.mem (by simp)) (fun h0 => ?_)
  generalize w3.drew = y0 at *
  refine wpAnyH_take (i := 0) (v := .pointer (some ⟨b1, 0, none⟩)) rfl (by kernel_rfl) (by kernel_rfl) (by kernel_rfl) (fun _ _ _ h => h) (.inl ⟨by rfl, fun w hw => by clear hw; go_simp⟩) h0 ?_
  try simp only [Act.put, lay_out]
  refine wpAnyH_take (i := 1) (v := .pointer (some ⟨p, 0, none⟩)) rfl (by kernel_rfl) (by kernel_rfl) (by kernel_rfl) (fun _ _ _ h => h) (.inl ⟨by rfl, fun w' hw => by have hc := row_c (i := 0) (u := .pointer (some ⟨p, 0, none⟩)) hw rfl; clear hw; go_simp⟩) h0 ?_
  try simp only [Act.put, lay_out]
  refine wpAnyH_take (i := 2) (v := .pointer (some ⟨b1, 0, none⟩)) rfl (by kernel_rfl) (by kernel_rfl) (by kernel_rfl) (fun _ _ _ h => h) (.inl ⟨by rfl, fun w hw => by clear hw; go_simp⟩) h0 ?_
  try simp only [Act.put, lay_out]
  refine wpAnyH_take (i := 3) (v := .pointer (some ⟨p, 0, none⟩)) rfl (by kernel_rfl) (by kernel_rfl) (by kernel_rfl) (fun _ _ _ h => h) (.inl ⟨by rfl, fun w' hw => by have hc := row_c (i := 0) (u := .pointer (some ⟨p, 0, none⟩)) hw rfl; clear hw; go_simp⟩) h0 ?_
  try simp only [Act.put, lay_out]
  refine wpAnyH_ready (rs := [4]) (by kernel_rfl) (by simp) (AllReadyH.cons rfl (fun K hK => ?_) AllReadyH.nil)
  rw [if_pos (by rfl)]
  go_simp
  go_at_call 7
  (with_reducible refine (HC1.out _ _ _ _ _ G0.out).mono ?_); rintro e y1 ⟨rfl, hz⟩
  have G1 := hid hz
  clear hz
  refine hK.out _ _ (G1.out.mem (by simp)) (fun h1x => ?_)
  clear hK K
  try simp only [Act.put, lay_out]
  refine wpAnyH_ready (rs := [5]) (by kernel_rfl) (by simp) (AllReadyH.cons rfl (fun K hK => ?_) AllReadyH.nil)
  rw [if_pos (by rfl)]
  go_simp
  have G2 := hid (G1.out.new hM (wdV R1) 37)
  refine hK.out _ _ (G2.out.mem (by simp)) (fun h2x => ?_)
  clear hK K
  try simp only [Act.put, lay_out]
  refine wpAnyH_ready (rs := [6]) (by kernel_rfl) (by simp) (AllReadyH.cons rfl (fun K hK => ?_) AllReadyH.nil)
  rw [if_pos (by rfl)]
  go_simp
  go_at_call 14
  (with_reducible refine (HC2.out _ _ _ _ _ _ G2.out).mono ?_); rintro e y3 ⟨v, Ys, rfl, hr, hz⟩
  have G3 := hid hz
  have HR := hid hr
  clear hz hr
  refine hK.out _ _ (G3.out.mem (by simp)) (fun h3x => ?_)
  clear hK K
  try simp only [Act.put, lay_out]
  refine wpAnyH_take (i := 7) (v := v) rfl (by kernel_rfl) (by kernel_rfl) (by kernel_rfl) (fun _ _ _ h => h) (.inl ⟨by rfl, fun w hw => by clear hw; go_simp⟩) h3x ?_
  try simp only [Act.put, lay_out]
  refine wpAnyH_done (by kernel_rfl) ?_ _
  refine NoPanic.normal ?_
  clear h0 h1x h2x h3x
  try simp only [Act.put, lay_out]
  have hrd := HR.out.rd (w := y3) (fun q hq => G3.out.mem (List.mem_append_right _ hq))
  obtain ⟨a, cap, e, _, _, h4⟩ := hrd
  obtain ⟨g, off, e2, hg, hc⟩ := h4 (by decide)
  subst e2
  have c0 := hc 0 (by decide)
  have c1 := hc 1 (by decide)
  have e3 : v = .slice (some ⟨g, off, none⟩) 2 cap := e
  rw [Nat.add_zero] at c0
  have c0' : y3.cell? ⟨g, off, none⟩ = some (.int .u8 2) := c0
  have c1' : y3.cell? ⟨g, off + 1, none⟩ = some (.int .u8 1) := c1
  have HFIN : Hid (Below w.heap.size w y3) := hid (HLOW.out.trans (G3.out.fin.1.low.mono (by have := HSZ.out; omega)))
  subst e3
  clear e hc h4 c0 c1 HR hg
  go_wp2
  go_ret
  exact ⟨rfl, HFIN.out⟩
end Go.Proofs.YtpjgpiieminaoaaGreatDoor

/- Guard: the document's Bytes, over both machines. -/
namespace Go.Proofs.YtpjgpiieminaoaaGreatDoor
open Go.RowKit Go.Deep
set_option maxRecDepth 100000
theorem ginfo8 : (Tryz.prog.info? 5).map (fun i => (i.zero, i.size, i.bytes)) = some (some (.int .u8 0), 1, 1) := by kernel_rfl
theorem gcst_low {z : Int} {j : Nat} : (lwN (8 * gyK z j) : Nat) < 2 ^ 64 := lwN_lt (by have := gyK_le z j; omega)
set_option maxHeartbeats 12800000 in
theorem ygbytes {Pm : World → Nat → Ms → (Nat → Prop) → Prop} (hM : Mach Pm) {lo : Nat} {X : Nat → Prop} {W w : World} {b bd k : Nat} {S S2 : Ms} (V : Nat → Nat → Int) (L : Nat) (v : Value) (z : Int) (h : Bz Pm lo X W w bd b S2 S) (hq : Bq k S) (hk : k + 14 * L + 100 ≤ 100000) (hn : S.n = 2 ∨ S.n = 3) (hd : S.dry = false) (hV : ∀ j, Wb (V j)) (hr : WsR w v L V X) (hz : I64 z) :
    Calls Tryz.prog 15 #[.pointer (some ⟨b, 0, none⟩), v, .int .i64 z] w (TellsB Pm lo X W w bd b S2 (gyS S V z (gyC z L)) (ns (gyM z (gyC z L)) (gyF S V z))) := by
  have HLOW : Hid (Below lo W w) := hid h.low
  have HM : Hid (∀ j, j < gyC z L → ∀ (bs : List (Nat × Obj)) (w' : World), Gy Pm lo X w w w' bd b S2 (gyS S V z j) bs → Calls Tryz.prog 12 #[.pointer (some ⟨b, 0, none⟩), .agg (wdV (V j)), .int .u64 (lwN (8 * gyK z j) : Int)] w' fun e w2 => e = .returned (.int .u64 (gyV S V z j : Int)) ∧ Gy Pm lo X w w w2 bd b S2 (gyS S V z (j + 1)) bs) := hid (fun j hj bs w' h' => h'.lift (fun _ _ hz => by
    have hl := (gyC_lt.1 hj).1
    exact ygmask hM (V j) (lwN (8 * gyK z j)) hz (gyS_bq (N := z) hq hn hV (j := j) (by omega)) (by omega) (by rw [(gyS_ext S V z j).n]; exact hn) (hV j) gcst_low ((gyS_ext S V z j).dry.trans hd)))
  have HY : Hid (∀ j, j < gyC z L → gyV S V z j < 2 ^ 64) := hid (fun j hj => by
    have hl := (gyC_lt.1 hj).1
    exact gyV_lt hq hn hV (by omega))
  obtain ⟨va, cap, rfl, hcl, hcm, hrd⟩ := hr
  have H1 : Hid (Gy Pm lo X w w (w.alloc (.cells #[] 5)) bd b S2 S [(w.heap.size, Obj.cells #[] 5 (0, 0))]) := hid ((Gy.start h.base).new hM #[] 5)
  have HLB : Hid (L ≤ 7200) := hid (by omega)
  have HZ := hid hz
  have HCL := hid hcl
  have HRD := hid hrd
  clear h hq hk hn hd hV hz hcl hcm hrd
  obtain ⟨St, hSt⟩ : ∃ St : Nat → Ms, ∀ j, gyS S V z j = St j := ⟨_, fun _ => rfl⟩
  have HS0 : Hid (S = St 0) := hid (hSt 0)
  obtain ⟨yv, hyv⟩ : ∃ yv : Nat → Nat, ∀ j, gyV S V z j = yv j := ⟨_, fun _ => rfl⟩
  obtain ⟨cF, hcF⟩ : ∃ cF : Nat → Nat, gyF S V z = cF := ⟨_, rfl⟩
  have HCW : Hid (∀ j q, q < 8 → cF (8 * j + q) = byF (yv j) q) := hid (fun j q hq => by rw [← hcF, ← hyv]; exact gyF_word hq)
  have HCL2 : Hid (∀ i, cF i < 256) := hid (fun i => by rw [← hcF]; exact gyF_lt S V z i)
  simp only [hSt, hyv, hcF] at HM HY ⊢
  clear hSt hyv hcF
  have HCE : Hid (∀ j, j < L → ∀ (wx : World) (S' : Ms) (bs : List (Nat × Obj)), Gy Pm lo X w w wx bd b S2 S' bs → ∀ c, c < 3 → wx.cell? ⟨(match va with | some a => a.block | none => 0), (match va with | some a => a.off | none => 0) + j * 3 + c, none⟩ = some (.int .i64 (V j c))) := hid (fun j hj wx S' bs hg' c hc => by
    obtain ⟨g, off, rfl, hX, hg, hcell⟩ := HRD.out (by omega)
    have h2 := (hg'.st g hX).2
    rw [← hcell j hj c hc]
    exact cell_same h2 _)
  obtain ⟨w1, hw1⟩ : ∃ w1, w.alloc (.cells #[] 5) = w1 := ⟨_, rfl⟩
  have H2 : Hid (Gy Pm lo X w w w1 bd b S2 (St 0) [(w.heap.size, Obj.cells #[] 5 (0, 0))]) := hid (by rw [← HS0.out, ← hw1]; exact H1.out)
  have HW := hid hw1
  clear hw1 H1 HS0
  go_enter Tryz.func15, Tryz.ntmps15
  go_upto_region 2 with fail
  rw [HW.out]
  go_wp2
  go_loopw [7, 8, 9] (fun ov iv _ wr => ∃ (j nb g0 : Nat) (o0 : Obj), j ≤ gyC z L ∧ nb = gyM z j ∧ iv = .int .i64 (j : Int) ∧ BoB 5 ov nb cF g0 o0 ∧ w.heap.size ≤ g0 ∧ Gy Pm lo X w w wr bd b S2 (St j) [(g0, o0)]) (fun _ iv _ _ => L - (intOf iv).toNat)
  case atStart => exact ⟨0, 0, w.heap.size, _, Nat.zero_le _, by unfold gyM; omega, rfl, BoB.empty _ _ _, Nat.le_refl _, H2.out⟩
  case round =>
    clear H2
    obtain ⟨j, nb, g0, o0, hj, hnb, rfl, hbo, hg0, hJ⟩ := hrel
    have HJ := hid hJ
    have HBO := hid hbo
    have HNB := hid hnb
    have HG0 := hid hg0
    clear hJ hbo hnb hg0
    have hlb := HLB.out
    have hgc := gyC_le z L
    have hzz := HZ.out
    unfold I64 at hzz
    have ej : IntKind.i64.wrap (8 * (j : Int)) = 8 * (j : Int) := by rw [IntKind.wrap_i64]; omega
    by_cases hlt : j < gyC z L
    · obtain ⟨l1, l2⟩ := gyC_lt.1 hlt
      have HJL : Hid (j < gyC z L) := hid hlt
      have q1 : (j : Int) < (L : Int) := by omega
      have q0 : (0 : Int) ≤ (j : Int) := by omega
      have q2 : decide ((j : Int) < (L : Int)) = true := decide_eq_true q1
      have q3 : decide (8 * (j : Int) < z) = true := decide_eq_true l2
      have HLW0 : Hid (∀ w, Calls Tryz.prog 40 #[.int .i64 (8 * (gyK z j : Int))] w fun e w' => e = .returned (.int .u64 (lwN (8 * gyK z j) : Int)) ∧ w' = w) := hid (fun w => by
        have := reflow_any (8 * (gyK z j : Int)) w
        rw [gyK_low, low_nat _ (by have := gyK_le z j; omega)] at this
        exact this)
      have HST0 : Hid (∀ w, Calls Tryz.prog 39 #[.int .u64 (yv j : Int), .int .i64 (gyK z j : Int)] w fun e w' => ∃ v', e = .returned v' ∧ Rd .u8 w' v' (ns (gyK z j) (byF (yv j))) ∧ Below w.heap.size w w') := hid (fun w => by
        have h8 := gyK_le z j
        have hy := HY.out j hlt
        refine (refstore_any (yv j : Int) (gyK z j : Int) w (by omega)).mono fun e w' ⟨v', e1, e2, e3⟩ => ⟨v', e1, ?_, e3⟩
        rw [show (min (max (gyK z j : Int) 0) 8).toNat = gyK z j by omega, rsL_ns] at e2
        exact e2.rd (by rw [ns_len, show IntKind.u8.bits / 8 = 1 from rfl]; omega) (ns_wf (fun i _ => byF_lt _ _)))
      have HMK := hid (HM.out j hlt)
      have HKP : Hid (0 < gyK z j) := hid (gyK_pos hlt)
      obtain ⟨m1, m2⟩ := gyM_next hlt
      have HNX : Hid (gyM z (j + 1) = nb + gyK z j) := hid (by rw [HNB.out]; exact m2)
      have HCF : Hid (∀ q, q < gyK z j → cF (nb + q) = byF (yv j) q) := hid (fun q hq => by
        rw [HNB.out, m1]
        exact HCW.out j q (by have := gyK_le z j; omega))
      have HLM : Hid (nb + gyK z j ≤ 100000000) := hid (by have h1 := HNB.out; have := gyK_le z j; rw [h1, m1]; omega)
      have hkk : (gyK z j : Int) = min (z - 8 * (j : Int)) 8 := by unfold gyK; omega
      have es : IntKind.i64.wrap (z - 8 * (j : Int)) = z - 8 * (j : Int) := by rw [IntKind.wrap_i64]; omega
      obtain ⟨g, off, rfl, -, -, -⟩ := HRD.out (by omega)
      replace HCE := hid (HCE.out j l1)
      simp only at HCE
      obtain ⟨Vj, hVj⟩ : ∃ Vj, V j = Vj := ⟨_, rfl⟩
      rw [hVj] at HCE HMK
      clear HM HY hVj HCW
      generalize lwN (8 * gyK z j) = lw at *
      obtain ⟨yF, hyF⟩ : ∃ yF, byF (yv j) = yF := ⟨_, rfl⟩
      rw [hyF] at HST0 HCF
      clear hyF
      generalize yv j = y at *
      by_cases h8 : z - 8 * (j : Int) > 8
      · have hk8 : gyK z j = 8 := by omega
        rw [hk8] at HLW0 HST0 HKP HCF HNX HLM
        have HLW : Hid (∀ w, Calls Tryz.prog 40 #[.int .i64 64] w fun e w' => e = .returned (.int .u64 (lw : Int)) ∧ w' = w) := HLW0
        have HST : Hid (∀ w, Calls Tryz.prog 39 #[.int .u64 (y : Int), .int .i64 8] w fun e w' => ∃ v', e = .returned v' ∧ Rd .u8 w' v' (ns 8 yF) ∧ Below w.heap.size w w') := HST0
        have q4 : decide (z - 8 * (j : Int) > 8) = true := decide_eq_true h8
        have q5 : decide (8 < z - 8 * (j : Int)) = true := decide_eq_true h8
        have e64 : IntKind.i64.wrap 64 = 64 := by decide
        clear HLW0 HST0 hk8 hkk h8 m1 m2 hlt hj l2 hgc
        go_upto_region 8 with fail
        have G0 := hid (HJ.out.self hM ((Below.refl _ wr).drew))
        refine wp_region_noPanic ?_
        refine wp_region_held_drew (S := fun w' => ∀ c, c < 3 → w'.cell? ⟨g, off + j * 3 + c, none⟩ = some (.int .i64 (Vj c))) (by kernel_rfl) (HCE.out _ _ _ G0.out) (fun h0 => ?_)
        generalize wr.drew = y0 at *
        refine wpAnyH_take (i := 0) (v := u7) rfl (by kernel_rfl) (by kernel_rfl) (by kernel_rfl) (fun _ _ _ h => h) (.inl ⟨by rfl, fun w hw => by clear hw; go_simp⟩) h0 ?_
        try simp only [Act.put, lay_out]
        refine wpAnyH_take (i := 1) (v := .pointer (some ⟨b, 0, none⟩)) rfl (by kernel_rfl) (by kernel_rfl) (by kernel_rfl) (fun _ _ _ h => h) (.inl ⟨by rfl, fun w hw => by clear hw; go_simp⟩) h0 ?_
        try simp only [Act.put, lay_out]
        refine wpAnyH_take (i := 2) (v := .slice (some ⟨g, off, none⟩) L cap) rfl (by kernel_rfl) (by kernel_rfl) (by kernel_rfl) (fun _ _ _ h => h) (.inl ⟨by rfl, fun w hw => by clear hw; go_simp⟩) h0 ?_
        try simp only [Act.put, lay_out]
        refine wpAnyH_take (i := 3) (v := .int .i64 (j : Int)) rfl (by kernel_rfl) (by kernel_rfl) (by kernel_rfl) (fun _ _ _ h => h) (.inl ⟨by rfl, fun w hw => by clear hw; go_simp⟩) h0 ?_
        try simp only [Act.put, lay_out]
        refine wpAnyH_take (i := 4) (v := .pointer (some ⟨g, off + j * 3, none⟩)) rfl (by kernel_rfl) (by kernel_rfl) (by kernel_rfl) (fun _ _ _ h => h) (.inl ⟨by rfl, fun w hw => by clear hw; go_simp⟩) h0 ?_
        try simp only [Act.put, lay_out]
        refine wpAnyH_take (i := 5) (v := .agg (wdV Vj)) rfl (by kernel_rfl) (by kernel_rfl) (by kernel_rfl) (fun _ _ _ h => h) (yields_load_wdm (by rfl) _ rfl g (off + j * 3) Vj rfl (fun w hw => hw)) h0 ?_
        try simp only [Act.put, lay_out]
        refine wpAnyH_take (i := 6) (v := .int .i64 8) rfl (by kernel_rfl) (by kernel_rfl) (by kernel_rfl) (fun _ _ _ h => h) (.inl ⟨by rfl, fun w hw => by clear hw; go_simp⟩) h0 ?_
        try simp only [Act.put, lay_out]
        refine wpAnyH_take (i := 7) (v := .int .i64 64) rfl (by kernel_rfl) (by kernel_rfl) (by kernel_rfl) (fun _ _ _ h => h) (.inl ⟨by rfl, fun w hw => by clear hw; go_simp⟩) h0 ?_
        try simp only [Act.put, lay_out]
        refine wpAnyH_take (i := 10) (v := .int .i64 8) rfl (by kernel_rfl) (by kernel_rfl) (by kernel_rfl) (fun _ _ _ h => h) (.inl ⟨by rfl, fun w hw => by clear hw; go_simp⟩) h0 ?_
        try simp only [Act.put, lay_out]
        refine wpAnyH_ready (rs := [8]) (by kernel_rfl) (by simp) (AllReadyH.cons rfl (fun K hK => ?_) AllReadyH.nil)
        rw [if_pos (by rfl)]
        go_simp
        go_at_call 40
        (with_reducible refine (HLW.out _).mono ?_); rintro e y1 ⟨rfl, ey⟩
        obtain rfl : y0 = y1 := ey.symm
        refine hK.out _ _ (HCE.out _ _ _ G0.out) (fun h1x => ?_)
        clear hK K
        try simp only [Act.put, lay_out]
        refine wpAnyH_ready (rs := [9]) (by kernel_rfl) (by simp) (AllReadyH.cons rfl (fun K hK => ?_) AllReadyH.nil)
        rw [if_pos (by rfl)]
        go_simp
        go_at_call 12
        (with_reducible refine (HMK.out _ _ G0.out).mono ?_); rintro e y2 ⟨rfl, hz⟩
        have G2 := hid hz
        clear hz
        refine hK.out _ _ (HCE.out _ _ _ G2.out) (fun h2x => ?_)
        clear hK K
        try simp only [Act.put, lay_out]
        refine wpAnyH_ready (rs := [11]) (by kernel_rfl) (by simp) (AllReadyH.cons rfl (fun K hK => ?_) AllReadyH.nil)
        rw [if_pos (by rfl)]
        go_simp
        go_at_call 39
        (with_reducible refine (HST.out _).mono ?_); rintro e y3 ⟨sv, rfl, hrd, hb⟩
        have G3 := hid (G2.out.self hM hb)
        have HR := hid hrd
        clear hb hrd
        refine hK.out _ _ (HCE.out _ _ _ G3.out) (fun h3x => ?_)
        clear hK K
        try simp only [Act.put, lay_out]
        refine wpAnyH_ready (rs := [12]) (by kernel_rfl) (by simp) (AllReadyH.cons rfl (fun K hK => ?_) AllReadyH.nil)
        rw [if_pos (by rfl)]
        refine wp_append_bob _ _ 47 rfl 5 Tryz.underlying47 ginfo8 u7 nb cF rfl HBO.out (G3.out.bl 0 rfl) sv 8 yF rfl HR.out HKP.out HCF.out HLM.out (fun g1 cap' y4 o1 a1 a2 a3 a4 => ?_)
        have G4 := hid (G3.out.grown hM a3 a4 a2)
        have HB1 := hid a1
        clear a1 a2 a3 a4
        refine hK.out _ _ (HCE.out _ _ _ G4.out) (fun h4x => ?_)
        clear hK K
        try simp only [Act.put, lay_out]
        refine wpAnyH_take (i := 13) (v := .slice (some ⟨g1, 0, none⟩) (nb + 8) cap') rfl (by kernel_rfl) (by kernel_rfl) (by kernel_rfl) (fun _ _ _ h => h) (.inl ⟨by rfl, fun w hw => by clear hw; go_simp⟩) h4x ?_
        try simp only [Act.put, lay_out]
        refine wpAnyH_done (by kernel_rfl) ?_ _
        refine NoPanic.normal ?_
        clear h0 h1x h2x h3x h4x
        try simp only [Act.put, lay_out]
        go_wp2
        go_roundw
        case rel => exact ⟨j + 1, nb + 8, g1, o1, HJL.out, HNX.out.symm, by go_num, HB1.out, (G4.out.bx _ (List.mem_cons_self ..)).1, G4.out⟩
        case measure => have := (gyC_lt.1 HJL.out).1; simp [intOf]; omega
      · have q4 : decide (z - 8 * (j : Int) > 8) = false := decide_eq_false h8
        have q5 : decide (8 < z - 8 * (j : Int)) = false := decide_eq_false h8
        obtain ⟨kk, hkn⟩ : ∃ kk : Nat, gyK z j = kk := ⟨_, rfl⟩
        have ek : z - 8 * (j : Int) = (kk : Int) := by omega
        rw [hkn] at HLW0 HST0 HKP HCF HNX HLM
        have em : IntKind.i64.wrap (8 * (kk : Int)) = ((8 * kk : Nat) : Int) := by rw [IntKind.wrap_i64]; omega
        have HLW : Hid (∀ w, Calls Tryz.prog 40 #[.int .i64 ((8 * kk : Nat) : Int)] w fun e w' => e = .returned (.int .u64 (lw : Int)) ∧ w' = w) := hid (fun w => by rw [show ((8 * kk : Nat) : Int) = 8 * (kk : Int) by omega]; exact HLW0.out w)
        have HST := HST0
        rw [ek] at es
        rw [ek] at q4 q5
        have eq2 : IntKind.i64.wrap (z - 8 * (j : Int)) = (kk : Int) := by rw [ek]; exact es
        have q6 : decide ((kk : Int) > 8) = false := q4
        have q7 : decide (8 < (kk : Int)) = false := q5
        clear HLW0 HST0 hkk h8 m1 m2 hlt hj l2 hgc hkn ek es q4 q5
        generalize 8 * kk = m8 at *
        go_upto_region 8 with fail
        have G0 := hid (HJ.out.self hM ((Below.refl _ wr).drew))
        refine wp_region_noPanic ?_
        refine wp_region_held_drew (S := fun w' => ∀ c, c < 3 → w'.cell? ⟨g, off + j * 3 + c, none⟩ = some (.int .i64 (Vj c))) (by kernel_rfl) (HCE.out _ _ _ G0.out) (fun h0 => ?_)
        generalize wr.drew = y0 at *
        refine wpAnyH_take (i := 0) (v := u7) rfl (by kernel_rfl) (by kernel_rfl) (by kernel_rfl) (fun _ _ _ h => h) (.inl ⟨by rfl, fun w hw => by clear hw; go_simp⟩) h0 ?_
        try simp only [Act.put, lay_out]
        refine wpAnyH_take (i := 1) (v := .pointer (some ⟨b, 0, none⟩)) rfl (by kernel_rfl) (by kernel_rfl) (by kernel_rfl) (fun _ _ _ h => h) (.inl ⟨by rfl, fun w hw => by clear hw; go_simp⟩) h0 ?_
        try simp only [Act.put, lay_out]
        refine wpAnyH_take (i := 2) (v := .slice (some ⟨g, off, none⟩) L cap) rfl (by kernel_rfl) (by kernel_rfl) (by kernel_rfl) (fun _ _ _ h => h) (.inl ⟨by rfl, fun w hw => by clear hw; go_simp⟩) h0 ?_
        try simp only [Act.put, lay_out]
        refine wpAnyH_take (i := 3) (v := .int .i64 (j : Int)) rfl (by kernel_rfl) (by kernel_rfl) (by kernel_rfl) (fun _ _ _ h => h) (.inl ⟨by rfl, fun w hw => by clear hw; go_simp⟩) h0 ?_
        try simp only [Act.put, lay_out]
        refine wpAnyH_take (i := 4) (v := .pointer (some ⟨g, off + j * 3, none⟩)) rfl (by kernel_rfl) (by kernel_rfl) (by kernel_rfl) (fun _ _ _ h => h) (.inl ⟨by rfl, fun w hw => by clear hw; go_simp⟩) h0 ?_
        try simp only [Act.put, lay_out]
        refine wpAnyH_take (i := 5) (v := .agg (wdV Vj)) rfl (by kernel_rfl) (by kernel_rfl) (by kernel_rfl) (fun _ _ _ h => h) (yields_load_wdm (by rfl) _ rfl g (off + j * 3) Vj rfl (fun w hw => hw)) h0 ?_
        try simp only [Act.put, lay_out]
        refine wpAnyH_take (i := 6) (v := .int .i64 (kk : Int)) rfl (by kernel_rfl) (by kernel_rfl) (by kernel_rfl) (fun _ _ _ h => h) (.inl ⟨by rfl, fun w hw => by clear hw; go_simp⟩) h0 ?_
        try simp only [Act.put, lay_out]
        refine wpAnyH_take (i := 7) (v := .int .i64 (m8 : Int)) rfl (by kernel_rfl) (by kernel_rfl) (by kernel_rfl) (fun _ _ _ h => h) (.inl ⟨by rfl, fun w hw => by clear hw; go_simp⟩) h0 ?_
        try simp only [Act.put, lay_out]
        refine wpAnyH_take (i := 10) (v := .int .i64 (kk : Int)) rfl (by kernel_rfl) (by kernel_rfl) (by kernel_rfl) (fun _ _ _ h => h) (.inl ⟨by rfl, fun w hw => by clear hw; go_simp⟩) h0 ?_
        try simp only [Act.put, lay_out]
        refine wpAnyH_ready (rs := [8]) (by kernel_rfl) (by simp) (AllReadyH.cons rfl (fun K hK => ?_) AllReadyH.nil)
        rw [if_pos (by rfl)]
        go_simp
        go_at_call 40
        (with_reducible refine (HLW.out _).mono ?_); rintro e y1 ⟨rfl, ey⟩
        obtain rfl : y0 = y1 := ey.symm
        refine hK.out _ _ (HCE.out _ _ _ G0.out) (fun h1x => ?_)
        clear hK K
        try simp only [Act.put, lay_out]
        refine wpAnyH_ready (rs := [9]) (by kernel_rfl) (by simp) (AllReadyH.cons rfl (fun K hK => ?_) AllReadyH.nil)
        rw [if_pos (by rfl)]
        go_simp
        go_at_call 12
        (with_reducible refine (HMK.out _ _ G0.out).mono ?_); rintro e y2 ⟨rfl, hz⟩
        have G2 := hid hz
        clear hz
        refine hK.out _ _ (HCE.out _ _ _ G2.out) (fun h2x => ?_)
        clear hK K
        try simp only [Act.put, lay_out]
        refine wpAnyH_ready (rs := [11]) (by kernel_rfl) (by simp) (AllReadyH.cons rfl (fun K hK => ?_) AllReadyH.nil)
        rw [if_pos (by rfl)]
        go_simp
        go_at_call 39
        (with_reducible refine (HST.out _).mono ?_); rintro e y3 ⟨sv, rfl, hrd, hb⟩
        have G3 := hid (G2.out.self hM hb)
        have HR := hid hrd
        clear hb hrd
        refine hK.out _ _ (HCE.out _ _ _ G3.out) (fun h3x => ?_)
        clear hK K
        try simp only [Act.put, lay_out]
        refine wpAnyH_ready (rs := [12]) (by kernel_rfl) (by simp) (AllReadyH.cons rfl (fun K hK => ?_) AllReadyH.nil)
        rw [if_pos (by rfl)]
        refine wp_append_bob _ _ 47 rfl 5 Tryz.underlying47 ginfo8 u7 nb cF rfl HBO.out (G3.out.bl 0 rfl) sv kk yF rfl HR.out HKP.out HCF.out HLM.out (fun g1 cap' y4 o1 a1 a2 a3 a4 => ?_)
        have G4 := hid (G3.out.grown hM a3 a4 a2)
        have HB1 := hid a1
        clear a1 a2 a3 a4
        refine hK.out _ _ (HCE.out _ _ _ G4.out) (fun h4x => ?_)
        clear hK K
        try simp only [Act.put, lay_out]
        refine wpAnyH_take (i := 13) (v := .slice (some ⟨g1, 0, none⟩) (nb + kk) cap') rfl (by kernel_rfl) (by kernel_rfl) (by kernel_rfl) (fun _ _ _ h => h) (.inl ⟨by rfl, fun w hw => by clear hw; go_simp⟩) h4x ?_
        try simp only [Act.put, lay_out]
        refine wpAnyH_done (by kernel_rfl) ?_ _
        refine NoPanic.normal ?_
        clear h0 h1x h2x h3x h4x
        try simp only [Act.put, lay_out]
        go_wp2
        go_roundw
        case rel => exact ⟨j + 1, nb + kk, g1, o1, HJL.out, HNX.out.symm, by go_num, HB1.out, (G4.out.bx _ (List.mem_cons_self ..)).1, G4.out⟩
        case measure => have := (gyC_lt.1 HJL.out).1; simp [intOf]; omega
    · obtain rfl : j = gyC z L := by omega
      have HEND : Hid (TellsB Pm lo X W w bd b S2 (St (gyC z L)) (ns (gyM z (gyC z L)) cF) (.returned u7) wr) := hid (by
        refine ⟨u7, fun k => k = g0, rfl, ?_, fun k hk => by rw [hk]; exact HG0.out, ?_, fun k hk => (HJ.out.st k hk).2⟩
        · rw [← HNB.out]
          exact HBO.out.rds (HJ.out.bl 0 rfl) (fun i _ => HCL2.out i) (by have h1 := HNB.out; have := gyM_le z (gyC z L); omega)
        · exact (HJ.out.z.less (fun k hk => hk.imp id (fun e => ⟨(g0, o0), List.mem_cons_self .., e.symm⟩))).up HLOW.out)
      have hnot : ¬ ((gyC z L < L) ∧ 8 * (gyC z L : Int) < z) := fun hh => hlt (gyC_lt.2 hh)
      clear HM HY HCW HNB HBO HCE hlt hj
      generalize gyC z L = c at *
      by_cases hl : c < L
      · have q1 : (c : Int) < (L : Int) := by omega
        have q2 : decide ((c : Int) < (L : Int)) = true := decide_eq_true q1
        have q3 : decide (8 * (c : Int) < z) = false := decide_eq_false (fun h => hnot ⟨hl, h⟩)
        clear hnot hl
        go_wp2
        go_ret
        exact HEND.out
      · obtain rfl : L = c := by omega
        clear hnot hl
        go_wp2
        go_ret
        exact HEND.out
end Go.Proofs.YtpjgpiieminaoaaGreatDoor

/- Guard: the document's Planes, over both machines. -/
namespace Go.Proofs.YtpjgpiieminaoaaGreatDoor
open Go.RowKit Go.Deep
set_option maxRecDepth 100000
set_option maxHeartbeats 12800000 in
theorem ygplanes {Pm : World → Nat → Ms → (Nat → Prop) → Prop} (hM : Mach Pm) {lo : Nat} {X : Nat → Prop} {W w : World} {b bd k : Nat} {S S2 : Ms} (V : Nat → Nat → Int) (fz : Nat → Int) (z : Int) (h : Bz Pm lo X W w bd b S2 S) (hq : Bq k S) (hk : k + 300 ≤ 100000) (hn : S.n = 2 ∨ S.n = 3) (hd : S.dry = false) (hV : ∀ j, Wb (V j)) (hfz : ∀ j, j < 8 → ∀ c, c < 3 → fz (j * 3 + c) = V j c) (hz : I64 z) :
    Calls Tryz.prog 17 #[.pointer (some ⟨b, 0, none⟩), .agg (iz 24 fz), .int .i64 z] w (TellsB Pm lo X W w bd b S2 (gpZ S V z) (gpO S V z)) := by
  have HLOW : Hid (Below lo W w) := hid h.low
  obtain ⟨m, hm⟩ : ∃ m, gpM z = m := ⟨_, rfl⟩
  have hm64 : m ≤ 64 := by rw [← hm]; unfold gpM; omega
  have HML := hid hm64
  have HM : Hid (∀ j, j < 8 → ∀ (bs : List (Nat × Obj)) (w' : World), Gy Pm lo X w w w' bd b S2 (gpS S V m j) bs → Calls Tryz.prog 12 #[.pointer (some ⟨b, 0, none⟩), .agg (wdV (V j)), .int .u64 (lwN m : Int)] w' fun e w2 => e = .returned (.int .u64 (gpV S V m j : Int)) ∧ Gy Pm lo X w w w2 bd b S2 (gpS S V m (j + 1)) bs) := hid (fun j hj bs w' h' => h'.lift (fun _ _ hz =>
    ygmask hM (V j) (lwN m) hz (gpS_bq hq hn hV hm64 (j := j) (by omega)) (by omega) (by rw [(gpS_ext S V m j).n]; exact hn) (hV j) (lwN_lt hm64) ((gpS_ext S V m j).dry.trans hd)))
  have HY : Hid (∀ j, j < 8 → gpV S V m j < 2 ^ 64) := hid (fun j hj => gpV_lt hq hn hV hm64 (by omega))
  have H1 : Hid (Gy Pm lo X w w (w.alloc (.cells (iz 24 fz) 39)) bd b S2 S [(w.heap.size, Obj.cells (iz 24 fz) 39 (0, 0))]) := hid ((Gy.start h.base).new hM (iz 24 fz) 39)
  have HLW0 : Hid (∀ w, Calls Tryz.prog 40 #[.int .i64 (m : Int)] w fun e w' => e = .returned (.int .u64 (lwN m : Int)) ∧ w' = w) := hid (fun w => by
    have := reflow_any (m : Int) w
    rw [show (min (max (m : Int) 0) 64).toNat = m by omega, low_nat _ hm64] at this
    exact this)
  have HCE : Hid (∀ j, j < 8 → ∀ wx : World, wx.heap[w.heap.size]? = some (.cells (iz 24 fz) 39 (0, 0)) → ∀ c, c < 3 → wx.cell? ⟨w.heap.size, j * 3 + c, none⟩ = some (.int .i64 (V j c))) := hid (fun j hj wx hx c hc => by
    rw [row_c (i := j * 3 + c) hx (iz_get fz (by omega)), hfz j hj c hc])
  have HEND0 : Hid (∀ wx, Gy Pm lo X w w wx bd b S2 S [(w.heap.size, Obj.cells (iz 24 fz) 39 (0, 0))] → TellsB Pm lo X W w bd b S2 S [] (.returned (.slice none 0 0)) wx) := hid (fun wx hg => ⟨_, fun _ => False, rfl, rdY0, fun _ e => e.elim, (hg.z.less (fun k hk => hk.elim (fun e => .inl e) (fun e => e.elim))).up h.low, fun k hk => (hg.st k hk).2⟩)
  clear h hq hk hn hd hV hfz
  obtain ⟨w1, hw1⟩ : ∃ w1, w.alloc (.cells (iz 24 fz) 39) = w1 := ⟨_, rfl⟩
  rw [hw1] at H1
  have HW := hid hw1
  clear hw1
  by_cases h1 : z < 1
  · have e1 : gpZ S V z = S := if_pos h1
    have e2 : gpO S V z = [] := if_pos h1
    rw [e1, e2]
    have q1 : decide (z > 64) = false := decide_eq_false (by omega)
    have q2 : decide (64 < z) = false := decide_eq_false (by omega)
    have q3 : decide (z < 1) = true := decide_eq_true h1
    clear HM HY HCE HLW0 hm hm64 h1 hz e1 e2
    go_enter Tryz.func17, Tryz.ntmps17
    go_upto_region 1 with fail
    rw [HW.out]
    go_wp2
    go_ret
    exact HEND0.out _ H1.out
  have e1 : gpZ S V z = gpS S V m 8 := (if_neg h1).trans (by rw [hm])
  have e2 : gpO S V z = ns m (gpF S V m 8) := (if_neg h1).trans (by rw [hm])
  rw [e1, e2]
  clear e1 e2 HEND0
  obtain ⟨St, hSt⟩ : ∃ St : Nat → Ms, ∀ j, gpS S V m j = St j := ⟨_, fun _ => rfl⟩
  have HS0 : S = St 0 := hSt 0
  obtain ⟨yv, hyv⟩ : ∃ yv : Nat → Nat, ∀ j, gpV S V m j = yv j := ⟨_, fun _ => rfl⟩
  obtain ⟨pF, hpF⟩ : ∃ pF : Nat → Nat → Nat, ∀ j, gpF S V m j = pF j := ⟨_, fun _ => rfl⟩
  obtain ⟨hF, hhF⟩ : ∃ hF : Nat → Nat → Nat → Nat, ∀ j i, gpH S V m j i = hF j i := ⟨_, fun _ _ => rfl⟩
  have HP0 : Hid (∀ q, pF 0 q = 0) := hid (fun q => by rw [← hpF]; rfl)
  have HP8 : Hid (∀ q, pF 8 q < 256) := hid (fun q => by rw [← hpF]; exact gpF_lt S V m 8 q)
  have HPN : Hid (∀ j i, pF (j + 1) i = pF j i + yv j / 2 ^ i % 2 * 2 ^ j ∧ pF (j + 1) i < 2 ^ (j + 1)) := hid (fun j i => by rw [← hpF, ← hpF, ← hyv]; exact ⟨rfl, gpF_lt S V m (j + 1) i⟩)
  have HPH : Hid (∀ j i, upd (hF j i) i (pF (j + 1) i) = hF j (i + 1)) := hid (fun j i => by rw [← hhF, ← hhF, ← hpF]; exact gpH_next S V m j i)
  have HHA : Hid (∀ j i, hF j i i = pF j i) := hid (fun j i => by rw [← hhF, ← hpF]; exact gpH_at S V m j i)
  have HH0 : Hid (∀ j q, hF j 0 q = pF j q) := hid (fun j q => by rw [← hhF, ← hpF]; exact if_neg (Nat.not_lt_zero q))
  have HHE : Hid (∀ j i q, q < i → hF j i q = pF (j + 1) q) := hid (fun j i q hq => by rw [← hhF, ← hpF]; exact if_pos hq)
  simp only [hSt, hyv, hpF] at HM HY ⊢
  clear hSt hyv hpF hhF
  rw [HS0] at H1
  clear HS0
  generalize lwN m = lw at *
  have q3 : decide (z < 1) = false := decide_eq_false h1
  by_cases h64 : z > 64
  · obtain rfl : m = 64 := by rw [← hm]; unfold gpM; omega
    have q1 : decide (z > 64) = true := decide_eq_true h64
    have q2 : decide (64 < z) = true := decide_eq_true h64
    have HLW : Hid (∀ w, Calls Tryz.prog 40 #[.int .i64 64] w fun e w' => e = .returned (.int .u64 (lw : Int)) ∧ w' = w) := HLW0
    clear hm hm64 h1 h64 hz HLW0
    go_enter Tryz.func17, Tryz.ntmps17
    go_upto_region 1 with fail
    rw [HW.out]
    go_upto_region 5 with fail
    have H2 : Hid (Gy Pm lo X w w (w1.alloc (.cells (madeCells #[.int .u8 0] 64) 5)) bd b S2 (St 0) [(w1.heap.size, Obj.cells (madeCells #[.int .u8 0] 64) 5 (0, 0)), (w.heap.size, Obj.cells (iz 24 fz) 39 (0, 0))]) := hid (H1.out.new hM (madeCells #[.int .u8 0] 64) 5)
    obtain ⟨g7, hg7⟩ : ∃ g7, w1.heap.size = g7 := ⟨_, rfl⟩
    have HG7 : Hid (w.heap.size ≤ g7) := hid (by rw [← hg7]; exact H1.out.le)
    have HBB : Hid (BoB 5 (.slice (some ⟨g7, 0, none⟩) 64 64) 64 (pF 0) g7 (.cells (madeCells #[.int .u8 0] 64) 5 (0, 0))) := hid ((BoB.made 5 64 g7 (by unfold maxLen; have := HML.out; omega)).fext (fun q _ => (HP0.out q).symm))
    have hmk : (Instr.makeSlice 47 (.int .i64 64) (.int .i64 64)).run Tryz.prog w1 = .ok (.slice (some ⟨w1.heap.size, 0, none⟩) 64 64) (w1.alloc (.cells (madeCells #[.int .u8 0] 64) 5)) := run_make_ints (P := Tryz.prog) w1 .u8 .i64 47 5 64 Tryz.underlying47 ginfo8 (by have := HML.out; simp [IntKind.bits] <;> omega) (by decide)
    rw [hg7] at hmk H2
    go_upto_region 6 with fail
    generalize w1.alloc (.cells (madeCells #[.int .u8 0] 64) 5) = w2 at *
    clear hmk hg7 H1
    go_wp2
    go_loopw [8, 9, 10] (fun iv _ _ wr => ∃ (j : Nat) (o0 : Obj), j ≤ 8 ∧ iv = .int .i64 (j : Int) ∧ BoB 5 (.slice (some ⟨g7, 0, none⟩) 64 64) 64 (pF j) g7 o0 ∧ Gy Pm lo X w w wr bd b S2 (St j) [(g7, o0), (w.heap.size, Obj.cells (iz 24 fz) 39 (0, 0))]) (fun iv _ _ _ => 8 - (intOf iv).toNat)
    case atStart => exact ⟨0, _, by omega, rfl, HBB.out, H2.out⟩
    case round =>
      clear H2 HBB
      obtain ⟨j, o0, hj, rfl, hbo, hJ⟩ := hrel
      have HJ := hid hJ
      have HBO := hid hbo
      clear hJ hbo
      by_cases hlt : j < 8
      · have HJL : Hid (j < 8) := hid hlt
        have q1 : (j : Int) < 8 := by omega
        have q0 : (0 : Int) ≤ (j : Int) := by omega
        have ek : IntKind.u64.wrap (j : Int) = (j : Int) := by rw [IntKind.wrap_u64]; omega
        have q2 : decide ((j : Int) < 8) = true := decide_eq_true q1
        have HMK := hid (HM.out j hlt)
        replace HCE := hid (HCE.out j hlt)
        obtain ⟨Vj, hVj⟩ : ∃ Vj, V j = Vj := ⟨_, rfl⟩
        rw [hVj] at HCE HMK
        have HYL := hid (HY.out j hlt)
        have HST := hid (HPN.out j)
        have HHN := hid (HPH.out j)
        clear HM HY hVj hj HPN HPH
        generalize yv j = y at *
        go_upto_region 9 with fail
        have G0 := hid (HJ.out.self hM ((Below.refl _ wr).drew))
        refine wp_region_noPanic ?_
        refine wp_region_held_drew (S := fun w' => ∀ c, c < 3 → w'.cell? ⟨w.heap.size, j * 3 + c, none⟩ = some (.int .i64 (Vj c))) (by kernel_rfl) (HCE.out _ (G0.out.bl 1 rfl)) (fun h0 => ?_)
        generalize wr.drew = y0 at *
        refine wpAnyH_take (i := 0) (v := .pointer (some ⟨b, 0, none⟩)) rfl (by kernel_rfl) (by kernel_rfl) (by kernel_rfl) (fun _ _ _ h => h) (.inl ⟨by rfl, fun w hw => by clear hw; go_simp⟩) h0 ?_
        try simp only [Act.put, lay_out]
        refine wpAnyH_take (i := 1) (v := .int .i64 (j : Int)) rfl (by kernel_rfl) (by kernel_rfl) (by kernel_rfl) (fun _ _ _ h => h) (.inl ⟨by rfl, fun w hw => by clear hw; go_simp⟩) h0 ?_
        try simp only [Act.put, lay_out]
        refine wpAnyH_take (i := 2) (v := .pointer (some ⟨w.heap.size, j * 3, none⟩)) rfl (by kernel_rfl) (by kernel_rfl) (by kernel_rfl) (fun _ _ _ h => h) (.inl ⟨by rfl, fun w hw => by clear hw; go_simp⟩) h0 ?_
        try simp only [Act.put, lay_out]
        refine wpAnyH_take (i := 3) (v := .agg (wdV Vj)) rfl (by kernel_rfl) (by kernel_rfl) (by kernel_rfl) (fun _ _ _ h => h) (yields_load_wdm (by rfl) _ rfl w.heap.size (j * 3) Vj rfl (fun w hw => hw)) h0 ?_
        try simp only [Act.put, lay_out]
        refine wpAnyH_take (i := 4) (v := .int .i64 64) rfl (by kernel_rfl) (by kernel_rfl) (by kernel_rfl) (fun _ _ _ h => h) (.inl ⟨by rfl, fun w hw => by clear hw; go_simp⟩) h0 ?_
        try simp only [Act.put, lay_out]
        refine wpAnyH_ready (rs := [5]) (by kernel_rfl) (by simp) (AllReadyH.cons rfl (fun K hK => ?_) AllReadyH.nil)
        rw [if_pos (by rfl)]
        go_simp
        go_at_call 40
        (with_reducible refine (HLW.out _).mono ?_); rintro e y1 ⟨rfl, ey⟩
        obtain rfl : y0 = y1 := ey.symm
        refine hK.out _ _ (HCE.out _ (G0.out.bl 1 rfl)) (fun h1x => ?_)
        clear hK K
        try simp only [Act.put, lay_out]
        refine wpAnyH_ready (rs := [6]) (by kernel_rfl) (by simp) (AllReadyH.cons rfl (fun K hK => ?_) AllReadyH.nil)
        rw [if_pos (by rfl)]
        go_simp
        go_at_call 12
        (with_reducible refine (HMK.out _ _ G0.out).mono ?_); rintro e y2 ⟨rfl, hz⟩
        have G2 := hid hz
        clear hz
        refine hK.out _ _ (HCE.out _ (G2.out.bl 1 rfl)) (fun h2x => ?_)
        clear hK K
        try simp only [Act.put, lay_out]
        refine wpAnyH_take (i := 7) (v := .int .u64 (y : Int)) rfl (by kernel_rfl) (by kernel_rfl) (by kernel_rfl) (fun _ _ _ h => h) (.inl ⟨by rfl, fun w hw => by clear hw; go_simp⟩) h2x ?_
        try simp only [Act.put, lay_out]
        refine wpAnyH_done (by kernel_rfl) ?_ _
        refine NoPanic.normal ?_
        clear h0 h1x h2x
        try simp only [Act.put, lay_out]
        go_wp2
        have HBI : Hid (BoB 5 (.slice (some ⟨g7, 0, none⟩) 64 64) 64 (hF j 0) g7 o0) := hid (HBO.out.fext (fun q _ => (HH0.out j q).symm))
        go_loopw [9, 10] (fun xv iv wr => ∃ (i : Nat) (o1 : Obj), i ≤ 64 ∧ iv = .int .i64 (i : Int) ∧ xv = .int .u64 ((y / 2 ^ i : Nat) : Int) ∧ BoB 5 (.slice (some ⟨g7, 0, none⟩) 64 64) 64 (hF j i) g7 o1 ∧ Gy Pm lo X w w wr bd b S2 (St (j + 1)) [(g7, o1), (w.heap.size, Obj.cells (iz 24 fz) 39 (0, 0))]) (fun _ iv _ => 64 - (intOf iv).toNat)
        case atStart => exact ⟨0, o0, Nat.zero_le _, rfl, by rw [Nat.pow_zero, Nat.div_one], HBI.out, G2.out⟩
        case round =>
          clear G2 HBI HBO HJ
          obtain ⟨i, o1, hi, rfl, rfl, hbi, hI⟩ := hrel
          have HI := hid hI
          have HBI := hid hbi
          clear hI hbi
          by_cases hil : i < 64
          · have HIL : Hid (i < 64) := hid hil
            have i1 : (i : Int) < 64 := by omega
            have i0 : (0 : Int) ≤ (i : Int) := by omega
            have i2 : decide ((i : Int) < 64) = true := decide_eq_true i1
            have kc := HBI.out.cell (HI.out.bl 0 rfl) hil
            have kf := HBI.out.notFrozen (HI.out.bl 0 rfl) i
            obtain ⟨xx, hxx⟩ : ∃ xx, y / 2 ^ i = xx := ⟨_, rfl⟩
            have hx2 : y / 2 ^ (i + 1) = xx / 2 := by rw [Nat.pow_succ, ← Nat.div_div_eq_div_mul, hxx]
            obtain ⟨s1, hs1⟩ : ∃ s1, xx % 2 * 2 ^ j = s1 := ⟨_, rfl⟩
            have hjp : 2 ^ j ≤ 2 ^ 7 := Nat.pow_le_pow_right (by decide) (by omega)
            have hb2 : xx % 2 < 2 := Nat.mod_lt _ (by decide)
            obtain ⟨hn1, hn2⟩ := HST.out i
            rw [hxx, hs1] at hn1
            have HX2 := hid hx2
            have hs2 : s1 ≤ 128 := by rcases (by omega : xx % 2 = 0 ∨ xx % 2 = 1) with e | e <;> rw [e] at hs1 <;> omega
            have hf0 : hF j i i = pF j i := HHA.out j i
            have e4 : ((hF j i i : Int) + (xx : Int) % 2 * 2 ^ j) % 256 = (pF (j + 1) i : Int) := by
              have h1 : (xx : Int) % 2 = ((xx % 2 : Nat) : Int) := by omega
              have h2 : ((xx % 2 : Nat) : Int) * 2 ^ j = (s1 : Int) := by rw [← hs1]; push_cast; rfl
              rw [h1, h2, hf0]; omega
            have HE4 := hid e4
            have hxy : xx ≤ y := by rw [← hxx]; exact Nat.div_le_self _ _
            have e6 : IntKind.u64.wrap ((xx / 2 : Nat) : Int) = ((xx / 2 : Nat) : Int) := by have := HYL.out; rw [IntKind.wrap_u64]; omega
            have hmm : (64 : Int) ≤ 64 := by have := HML.out; omega
            have e5 : (xx : Int).tdiv 2 = ((xx / 2 : Nat) : Int) := by rw [Int.tdiv_eq_ediv_of_nonneg (by omega)]; omega
            rw [hxx]
            have HHX := hid (HHN.out i)
            obtain ⟨o2, a1, a2⟩ := HBI.out.set hM hil (pF (j + 1) i) HI.out
            have HB2 := hid a1
            have HI2 := hid a2
            clear a1 a2 hi hil hx2 hs1 hb2 hjp hs2 hn1 hn2 hf0 hxx e4 hxy
            generalize hF j i i = fi at *
            generalize pF (j + 1) i = fj at *
            generalize xx / 2 = xh at *
            go_wp2
            go_roundw
            case rel => rw [HE4.out]; exact ⟨i + 1, o2, HIL.out, by go_num, by rw [HX2.out], by rw [← HHX.out]; exact HB2.out, HI2.out⟩
            case measure => have := HIL.out; have := HML.out; simp [intOf]; omega
          · obtain rfl : i = 64 := by omega
            have i2 : decide ((64 : Int) < 64) = false := decide_eq_false (by omega)
            have HBE := hid (HBI.out.fext (fun q hq => HHE.out j _ q hq))
            clear hil hi
            go_wp2
            go_roundw
            case rel => exact ⟨j + 1, o1, HJL.out, by go_num, HBE.out, HI.out⟩
            case measure => have := HJL.out; simp [intOf]; omega
      · obtain rfl : j = 8 := by omega
        have HEND : Hid (TellsB Pm lo X W w bd b S2 (St 8) (ns 64 (pF 8)) (.returned (.slice (some ⟨g7, 0, none⟩) 64 64)) wr) := hid (by
          refine ⟨_, fun k => k = g7, rfl, ?_, fun k hk => by rw [hk]; exact HG7.out, ?_, fun k hk => (HJ.out.st k hk).2⟩
          · exact HBO.out.rds (HJ.out.bl 0 rfl) (fun i _ => HP8.out i) (by have := HML.out; omega)
          · exact (HJ.out.z.less (fun k hk => hk.imp id (fun e => ⟨(g7, o0), List.mem_cons_self .., e.symm⟩))).up HLOW.out)
        clear hlt hj HM HY HCE HBO
        go_wp2
        go_ret
        exact HEND.out
  · obtain rfl : z = (m : Int) := by rw [← hm]; unfold gpM; omega
    have q1 : decide ((m : Int) > 64) = false := decide_eq_false h64
    have q2 : decide (64 < (m : Int)) = false := decide_eq_false h64
    have HLW := HLW0
    clear hm hm64 h1 h64 hz HLW0
    go_enter Tryz.func17, Tryz.ntmps17
    go_upto_region 1 with fail
    rw [HW.out]
    go_upto_region 5 with fail
    have H2 : Hid (Gy Pm lo X w w (w1.alloc (.cells (madeCells #[.int .u8 0] m) 5)) bd b S2 (St 0) [(w1.heap.size, Obj.cells (madeCells #[.int .u8 0] m) 5 (0, 0)), (w.heap.size, Obj.cells (iz 24 fz) 39 (0, 0))]) := hid (H1.out.new hM (madeCells #[.int .u8 0] m) 5)
    obtain ⟨g7, hg7⟩ : ∃ g7, w1.heap.size = g7 := ⟨_, rfl⟩
    have HG7 : Hid (w.heap.size ≤ g7) := hid (by rw [← hg7]; exact H1.out.le)
    have HBB : Hid (BoB 5 (.slice (some ⟨g7, 0, none⟩) m m) m (pF 0) g7 (.cells (madeCells #[.int .u8 0] m) 5 (0, 0))) := hid ((BoB.made 5 m g7 (by unfold maxLen; have := HML.out; omega)).fext (fun q _ => (HP0.out q).symm))
    have hmk : (Instr.makeSlice 47 (.int .i64 (m : Int)) (.int .i64 (m : Int))).run Tryz.prog w1 = .ok (.slice (some ⟨w1.heap.size, 0, none⟩) m m) (w1.alloc (.cells (madeCells #[.int .u8 0] m) 5)) := run_make_ints (P := Tryz.prog) w1 .u8 .i64 47 5 m Tryz.underlying47 ginfo8 (by have := HML.out; simp [IntKind.bits] <;> omega) (by decide)
    rw [hg7] at hmk H2
    go_upto_region 6 with fail
    generalize w1.alloc (.cells (madeCells #[.int .u8 0] m) 5) = w2 at *
    clear hmk hg7 H1
    go_wp2
    go_loopw [8, 9, 10] (fun iv _ _ wr => ∃ (j : Nat) (o0 : Obj), j ≤ 8 ∧ iv = .int .i64 (j : Int) ∧ BoB 5 (.slice (some ⟨g7, 0, none⟩) m m) m (pF j) g7 o0 ∧ Gy Pm lo X w w wr bd b S2 (St j) [(g7, o0), (w.heap.size, Obj.cells (iz 24 fz) 39 (0, 0))]) (fun iv _ _ _ => 8 - (intOf iv).toNat)
    case atStart => exact ⟨0, _, by omega, rfl, HBB.out, H2.out⟩
    case round =>
      clear H2 HBB
      obtain ⟨j, o0, hj, rfl, hbo, hJ⟩ := hrel
      have HJ := hid hJ
      have HBO := hid hbo
      clear hJ hbo
      by_cases hlt : j < 8
      · have HJL : Hid (j < 8) := hid hlt
        have q1 : (j : Int) < 8 := by omega
        have q0 : (0 : Int) ≤ (j : Int) := by omega
        have ek : IntKind.u64.wrap (j : Int) = (j : Int) := by rw [IntKind.wrap_u64]; omega
        have q2 : decide ((j : Int) < 8) = true := decide_eq_true q1
        have HMK := hid (HM.out j hlt)
        replace HCE := hid (HCE.out j hlt)
        obtain ⟨Vj, hVj⟩ : ∃ Vj, V j = Vj := ⟨_, rfl⟩
        rw [hVj] at HCE HMK
        have HYL := hid (HY.out j hlt)
        have HST := hid (HPN.out j)
        have HHN := hid (HPH.out j)
        clear HM HY hVj hj HPN HPH
        generalize yv j = y at *
        go_upto_region 9 with fail
        have G0 := hid (HJ.out.self hM ((Below.refl _ wr).drew))
        refine wp_region_noPanic ?_
        refine wp_region_held_drew (S := fun w' => ∀ c, c < 3 → w'.cell? ⟨w.heap.size, j * 3 + c, none⟩ = some (.int .i64 (Vj c))) (by kernel_rfl) (HCE.out _ (G0.out.bl 1 rfl)) (fun h0 => ?_)
        generalize wr.drew = y0 at *
        refine wpAnyH_take (i := 0) (v := .pointer (some ⟨b, 0, none⟩)) rfl (by kernel_rfl) (by kernel_rfl) (by kernel_rfl) (fun _ _ _ h => h) (.inl ⟨by rfl, fun w hw => by clear hw; go_simp⟩) h0 ?_
        try simp only [Act.put, lay_out]
        refine wpAnyH_take (i := 1) (v := .int .i64 (j : Int)) rfl (by kernel_rfl) (by kernel_rfl) (by kernel_rfl) (fun _ _ _ h => h) (.inl ⟨by rfl, fun w hw => by clear hw; go_simp⟩) h0 ?_
        try simp only [Act.put, lay_out]
        refine wpAnyH_take (i := 2) (v := .pointer (some ⟨w.heap.size, j * 3, none⟩)) rfl (by kernel_rfl) (by kernel_rfl) (by kernel_rfl) (fun _ _ _ h => h) (.inl ⟨by rfl, fun w hw => by clear hw; go_simp⟩) h0 ?_
        try simp only [Act.put, lay_out]
        refine wpAnyH_take (i := 3) (v := .agg (wdV Vj)) rfl (by kernel_rfl) (by kernel_rfl) (by kernel_rfl) (fun _ _ _ h => h) (yields_load_wdm (by rfl) _ rfl w.heap.size (j * 3) Vj rfl (fun w hw => hw)) h0 ?_
        try simp only [Act.put, lay_out]
        refine wpAnyH_take (i := 4) (v := .int .i64 (m : Int)) rfl (by kernel_rfl) (by kernel_rfl) (by kernel_rfl) (fun _ _ _ h => h) (.inl ⟨by rfl, fun w hw => by clear hw; go_simp⟩) h0 ?_
        try simp only [Act.put, lay_out]
        refine wpAnyH_ready (rs := [5]) (by kernel_rfl) (by simp) (AllReadyH.cons rfl (fun K hK => ?_) AllReadyH.nil)
        rw [if_pos (by rfl)]
        go_simp
        go_at_call 40
        (with_reducible refine (HLW.out _).mono ?_); rintro e y1 ⟨rfl, ey⟩
        obtain rfl : y0 = y1 := ey.symm
        refine hK.out _ _ (HCE.out _ (G0.out.bl 1 rfl)) (fun h1x => ?_)
        clear hK K
        try simp only [Act.put, lay_out]
        refine wpAnyH_ready (rs := [6]) (by kernel_rfl) (by simp) (AllReadyH.cons rfl (fun K hK => ?_) AllReadyH.nil)
        rw [if_pos (by rfl)]
        go_simp
        go_at_call 12
        (with_reducible refine (HMK.out _ _ G0.out).mono ?_); rintro e y2 ⟨rfl, hz⟩
        have G2 := hid hz
        clear hz
        refine hK.out _ _ (HCE.out _ (G2.out.bl 1 rfl)) (fun h2x => ?_)
        clear hK K
        try simp only [Act.put, lay_out]
        refine wpAnyH_take (i := 7) (v := .int .u64 (y : Int)) rfl (by kernel_rfl) (by kernel_rfl) (by kernel_rfl) (fun _ _ _ h => h) (.inl ⟨by rfl, fun w hw => by clear hw; go_simp⟩) h2x ?_
        try simp only [Act.put, lay_out]
        refine wpAnyH_done (by kernel_rfl) ?_ _
        refine NoPanic.normal ?_
        clear h0 h1x h2x
        try simp only [Act.put, lay_out]
        go_wp2
        have HBI : Hid (BoB 5 (.slice (some ⟨g7, 0, none⟩) m m) m (hF j 0) g7 o0) := hid (HBO.out.fext (fun q _ => (HH0.out j q).symm))
        go_loopw [9, 10] (fun xv iv wr => ∃ (i : Nat) (o1 : Obj), i ≤ m ∧ iv = .int .i64 (i : Int) ∧ xv = .int .u64 ((y / 2 ^ i : Nat) : Int) ∧ BoB 5 (.slice (some ⟨g7, 0, none⟩) m m) m (hF j i) g7 o1 ∧ Gy Pm lo X w w wr bd b S2 (St (j + 1)) [(g7, o1), (w.heap.size, Obj.cells (iz 24 fz) 39 (0, 0))]) (fun _ iv _ => m - (intOf iv).toNat)
        case atStart => exact ⟨0, o0, Nat.zero_le _, rfl, by rw [Nat.pow_zero, Nat.div_one], HBI.out, G2.out⟩
        case round =>
          clear G2 HBI HBO HJ
          obtain ⟨i, o1, hi, rfl, rfl, hbi, hI⟩ := hrel
          have HI := hid hI
          have HBI := hid hbi
          clear hI hbi
          by_cases hil : i < m
          · have HIL : Hid (i < m) := hid hil
            have i1 : (i : Int) < (m : Int) := by omega
            have i0 : (0 : Int) ≤ (i : Int) := by omega
            have i2 : decide ((i : Int) < (m : Int)) = true := decide_eq_true i1
            have kc := HBI.out.cell (HI.out.bl 0 rfl) hil
            have kf := HBI.out.notFrozen (HI.out.bl 0 rfl) i
            obtain ⟨xx, hxx⟩ : ∃ xx, y / 2 ^ i = xx := ⟨_, rfl⟩
            have hx2 : y / 2 ^ (i + 1) = xx / 2 := by rw [Nat.pow_succ, ← Nat.div_div_eq_div_mul, hxx]
            obtain ⟨s1, hs1⟩ : ∃ s1, xx % 2 * 2 ^ j = s1 := ⟨_, rfl⟩
            have hjp : 2 ^ j ≤ 2 ^ 7 := Nat.pow_le_pow_right (by decide) (by omega)
            have hb2 : xx % 2 < 2 := Nat.mod_lt _ (by decide)
            obtain ⟨hn1, hn2⟩ := HST.out i
            rw [hxx, hs1] at hn1
            have HX2 := hid hx2
            have hs2 : s1 ≤ 128 := by rcases (by omega : xx % 2 = 0 ∨ xx % 2 = 1) with e | e <;> rw [e] at hs1 <;> omega
            have hf0 : hF j i i = pF j i := HHA.out j i
            have e4 : ((hF j i i : Int) + (xx : Int) % 2 * 2 ^ j) % 256 = (pF (j + 1) i : Int) := by
              have h1 : (xx : Int) % 2 = ((xx % 2 : Nat) : Int) := by omega
              have h2 : ((xx % 2 : Nat) : Int) * 2 ^ j = (s1 : Int) := by rw [← hs1]; push_cast; rfl
              rw [h1, h2, hf0]; omega
            have HE4 := hid e4
            have hxy : xx ≤ y := by rw [← hxx]; exact Nat.div_le_self _ _
            have e6 : IntKind.u64.wrap ((xx / 2 : Nat) : Int) = ((xx / 2 : Nat) : Int) := by have := HYL.out; rw [IntKind.wrap_u64]; omega
            have hmm : ((m : Int) : Int) ≤ 64 := by have := HML.out; omega
            have e5 : (xx : Int).tdiv 2 = ((xx / 2 : Nat) : Int) := by rw [Int.tdiv_eq_ediv_of_nonneg (by omega)]; omega
            rw [hxx]
            have HHX := hid (HHN.out i)
            obtain ⟨o2, a1, a2⟩ := HBI.out.set hM hil (pF (j + 1) i) HI.out
            have HB2 := hid a1
            have HI2 := hid a2
            clear a1 a2 hi hil hx2 hs1 hb2 hjp hs2 hn1 hn2 hf0 hxx e4 hxy
            generalize hF j i i = fi at *
            generalize pF (j + 1) i = fj at *
            generalize xx / 2 = xh at *
            go_wp2
            go_roundw
            case rel => rw [HE4.out]; exact ⟨i + 1, o2, HIL.out, by go_num, by rw [HX2.out], by rw [← HHX.out]; exact HB2.out, HI2.out⟩
            case measure => have := HIL.out; have := HML.out; simp [intOf]; omega
          · obtain rfl : m = i := by omega
            have i2 : decide ((m : Int) < (m : Int)) = false := decide_eq_false (by omega)
            have HBE := hid (HBI.out.fext (fun q hq => HHE.out j _ q hq))
            clear hil hi
            go_wp2
            go_roundw
            case rel => exact ⟨j + 1, o1, HJL.out, by go_num, HBE.out, HI.out⟩
            case measure => have := HJL.out; simp [intOf]; omega
      · obtain rfl : j = 8 := by omega
        have HEND : Hid (TellsB Pm lo X W w bd b S2 (St 8) (ns m (pF 8)) (.returned (.slice (some ⟨g7, 0, none⟩) m m)) wr) := hid (by
          refine ⟨_, fun k => k = g7, rfl, ?_, fun k hk => by rw [hk]; exact HG7.out, ?_, fun k hk => (HJ.out.st k hk).2⟩
          · exact HBO.out.rds (HJ.out.bl 0 rfl) (fun i _ => HP8.out i) (by have := HML.out; omega)
          · exact (HJ.out.z.less (fun k hk => hk.imp id (fun e => ⟨(g7, o0), List.mem_cons_self .., e.symm⟩))).up HLOW.out)
        clear hlt hj HM HY HCE HBO
        go_wp2
        go_ret
        exact HEND.out
end Go.Proofs.YtpjgpiieminaoaaGreatDoor

/- General: what GuardTells' machines come to. No program is named. -/
namespace Go.Proofs.YtpjgpiieminaoaaGreatDoor

/-- The eight words that are laid. -/
def luV (S : Ms) (X : Nat → Nat) (j : Nat) : Nat → Int := if j < 8 then lyR S X j else none3
def gtS (Kd z : Int) (mm : Nat) (S : Ms) (X : Nat → Nat) : Ms :=
  if Kd = 0 then gdS (lyS S X 8) (lyR S X 0) else if Kd = 1 then gmS (lyS S X 8) (lyR S X 0) 1 else if Kd = 2 then gyS (lyS S X 8) (luV S X) z (gyC z mm) else gpZ (lyS S X 8) (luV S X) z
theorem luV_at (S : Ms) (X : Nat → Nat) {j : Nat} (h : j < 8) : luV S X j = lyR S X j := if_pos h
section
variable {S : Ms} {X : Nat → Nat} {Kd z : Int} {mm : Nat}
theorem lu_laid (h : Bq 0 S) (hn : S.n = 2 ∨ S.n = 3) (hX : ∀ i, X i < 2 ^ 64) : Bq 48 (lyS S X 8) ∧ ((lyS S X 8).n = 2 ∨ (lyS S X 8).n = 3) ∧ ∀ j, Wb (luV S X j) := by
  refine ⟨ly_bq h hn hX 8, by rw [lyS_n]; exact hn, fun j => ?_⟩
  unfold luV
  split
  · exact lyR_wb h hn hX (by omega)
  · exact none3_wb
theorem gt_bq (h : Bq 0 S) (hn : S.n = 2 ∨ S.n = 3) (hX : ∀ i, X i < 2 ^ 64) (hm : mm ≤ 8) : Bq 200 (gtS Kd z mm S X) := by
  obtain ⟨h1, h2, h3⟩ := lu_laid h hn hX
  have w0 : Wb (lyR S X 0) := by have := h3 0; rwa [luV_at S X (by decide)] at this
  unfold gtS
  split
  · exact (gd_bq h1 (by decide) w0).mono (by decide)
  · split
    · exact (gm_bq h1 h2 (by decide) w0 (by decide)).mono (by decide)
    · split
      · have hc := gyC_le z mm
        exact (gyS_bq (N := z) h1 h2 h3 (j := gyC z mm) (by omega)).mono (by omega)
      · unfold gpZ
        split
        · exact h1.mono (by decide)
        · exact (gpS_bq h1 h2 h3 (m := gpM z) (by unfold gpM; omega) (j := 8) (by decide)).mono (by decide)
theorem gt_ext : Ext (lyS S X 8) (gtS Kd z mm S X) := by
  unfold gtS
  split
  · exact gdS_ext _ _
  · split
    · exact gmS_ext _ _ _
    · split
      · exact gyS_ext _ _ _ _
      · unfold gpZ
        split
        · exact Ext.refl _
        · exact gpS_ext _ _ _ _
theorem gt_dry (h : S.dry = false) : (gtS Kd z mm S X).dry = false := by
  have e0 : Ext S (lyS S X 8) := by have := lyS_more S X 0 8; rwa [Nat.zero_add] at this
  rw [(gt_ext (S := S) (X := X) (Kd := Kd) (z := z) (mm := mm)).dry, e0.dry, h]
theorem lu_dry (h : S.dry = false) : (lyS S X 8).dry = false := by
  have e0 : Ext S (lyS S X 8) := by have := lyS_more S X 0 8; rwa [Nat.zero_add] at this
  rw [e0.dry, h]
/-- The lowest bit that is opened is a bit. -/
theorem lu_yes (W : Wt S) (h : Bq 0 S) (hX : ∀ i, X i < 2 ^ 64) : gmV (lyS S X 8) (lyR S X 0) 1 ≤ 1 := by
  have e0 : Ext S (lyS S X 8) := by have := lyS_more S X 0 8; rwa [Nat.zero_add] at this
  exact gm_le (W.ext e0) (ly_bq h W.n hX 8) (fun he => ly_sf W (i := 0) (m := 8) (by decide) he)
end
/-! ### words in an array of eight -/
/-- Words in a row, the first i laid. -/
def auF (S : Ms) (X : Nat → Nat) (i : Nat) : Nat → Int := fun q => if q / 3 < i then lyR S X (q / 3) (q % 3) else 0
def updW (f : Nat → Int) (i : Nat) (R : Nat → Int) : Nat → Int := fun q => if q / 3 = i then R (q % 3) else f q
theorem auF_next (S : Ms) (X : Nat → Nat) (i : Nat) : updW (auF S X i) i (lyR S X i) = auF S X (i + 1) := by
  funext q
  unfold updW auF
  by_cases e : q / 3 = i
  · rw [if_pos e, if_pos (by omega), e]
  · rw [if_neg e]
    by_cases e2 : q / 3 < i
    · rw [if_pos e2, if_pos (by omega)]
    · rw [if_neg e2, if_neg (by omega)]
theorem auF_at (S : Ms) (X : Nat → Nat) {c d m : Nat} (hc : c < m) (hd : d < 3) : auF S X m (c * 3 + d) = lyR S X c d := by
  unfold auF
  rw [if_pos (by omega), show (c * 3 + d) / 3 = c by omega, show (c * 3 + d) % 3 = d by omega]
theorem auF_0 (S : Ms) (X : Nat → Nat) : auF S X 0 = fun _ => 0 := by funext q; unfold auF; rw [if_neg (by omega)]
end Go.Proofs.YtpjgpiieminaoaaGreatDoor
