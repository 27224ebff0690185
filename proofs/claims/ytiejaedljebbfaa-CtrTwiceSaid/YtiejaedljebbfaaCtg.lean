import Derived.Test.YtiejaedljebbfaaProg
import Derived.Test.YtiejaedljebbfaaArd
import Derived.Test.YtiejaedljebbfaaCtf
/- The document's Stream. -/
namespace Go.Proofs.Ytiejaedljebbfaa
open Go.RowKit
set_option maxRecDepth 100000

/-- The document's stream, k blocks of which are there. -/
structure Ds (w : World) (n : Nat) (F f : Nat → Nat) (k gl cl gb : Nat) (fb : Nat → Nat) (wr : World) : Prop where
  own : Own .u8 w.heap.size 5 wr (.slice (some ⟨gl, 0, none⟩) (16 * k) cl) (ns (16 * k) F)
  cnt : Wd wr 16 gb 0 fb
  eq : Eq16 fb (lat f k)
  ne : gb ≠ gl
  low : Below w.heap.size w wr
  lt : k = 0 ∨ 16 * k < n + 16

theorem splice16 (cur : List Value) (hc : cur.length = 16) (f : Nat → Nat) : (splice cur 0 ((ns 16 f).map (Value.int .u8))).toArray = ba 16 f := by
  rw [ns_ba]
  simp [splice, hc, ba_size, List.drop_eq_nil_of_le]
theorem wpList_copy16 {P : Program} {w : World} {ops : Array Oper} {rest : List Oper} {o : Oper} {a : Act} {Q : Exit → Act → World → Prop} (hgd : o.guard = none) (d s : Operand)
    (ho : o.op = .call { callee := .builtin .copy, args := #[d, s], argTypes := #[22, 22] }) (hu : P.underlying 22 = some (.slice 5)) (hsz : (P.info? 5).map (·.size) = some 1)
    (g dc gb off cb : Nat) (f0 fb : Nat → Nat) (hd : a.eval d = .slice (some ⟨g, 0, none⟩) 16 dc) (hs : a.eval s = .slice (some ⟨gb, off, none⟩) 16 cb) (hA : At w g 16 39 f0) (hB : Wd w 16 gb off fb) (w0 : World) (hb : Below g w0 w)
    (h : ∀ w', At w' g 16 39 fb → Below g w0 w' → wpList P ops Q rest (a.put o.dst (.int .i64 16)) w') : wpList P ops Q (o :: rest) a w := by
  refine wpList_copy_splice hgd d s 22 22 ho 5 hu hsz _ _ 16 dc 16 cb hd hs g 0 (ba 16 f0).toList 39 (by rw [Array.toArray_toList]; exact hA) ((ns 16 fb).map (Value.int .u8)) (by rw [List.length_map, ns_len]; rfl) (fun _ => ⟨rfl, _, rfl, fun j v hj => ?_⟩) (by rw [List.length_map, ns_len, Array.length_toList, ba_size]; omega) (fun v hv => by obtain ⟨z, _, rfl⟩ := List.mem_map.1 hv; rfl) g w0 hb (Nat.le_refl _) (fun w' hg hb' => ?_)
  · have hj16 : j < 16 := by have := (List.getElem?_eq_some_iff.1 hj).1; rwa [List.length_map, ns_len] at this
    rw [List.getElem?_map, ns_at fb hj16] at hj
    rw [Addr.add_mid, hB.cell j hj16]
    simpa using hj
  · rw [List.length_map, ns_len]
    refine h w' ?_ hb'
    have := hg.out
    rwa [splice16 _ (by rw [Array.length_toList, ba_size])] at this
/-- What 'append' of a block makes of a row that is the call's own. -/
theorem wpList_append16 {P : Program} {w : World} {ops : Array Oper} {rest : List Oper} {o : Oper} {a : Act} {Q : Exit → Act → World → Prop} (hgd : o.guard = none) (s x : Operand)
    (ho : o.op = .call { callee := .builtin .append, args := #[s, x], argTypes := #[22, 22] }) (ht : P.underlying 22 = some (.slice 5)) (hinfo : (P.info? 5).map (fun i => (i.zero, i.size, i.bytes)) = some (some (.int .u8 0), 1, 1))
    (B g n c b xc : Nat) (F f : Nat → Nat) (hs : a.eval s = .slice (some ⟨g, 0, none⟩) n c) (hown : Own .u8 B 5 w (.slice (some ⟨g, 0, none⟩) n c) (ns n F)) (hx : a.eval x = .slice (some ⟨b, 0, none⟩) 16 xc) (hA : At w b 16 39 f) (hn : n ≤ 200000) (hB : B ≤ w.heap.size) (hf : ∀ j, j < 16 → f j = F (n + j))
    (h : ∀ g' c' w', Own .u8 B 5 w' (.slice (some ⟨g', 0, none⟩) (n + 16) c') (ns (n + 16) F) → w.grownBy w' (some g) → (g' = g ∨ g' = w.heap.size) → wpList P ops Q rest (a.put o.dst (.slice (some ⟨g', 0, none⟩) (n + 16) c')) w') : wpList P ops Q (o :: rest) a w := by
  obtain ⟨i, hi, hz0, hz1, hz2⟩ := info_parts hinfo
  have hr : w.ownsRow B 5 1 (.slice (some ⟨g, 0, none⟩) n c) n ((ns n F).map (Value.int .u8)) := by
    have h : w.ownsRow _ _ _ _ (ns n F).length _ := hown
    rwa [ns_len] at h
  refine wpList_plain hgd fun _ hK => wp_append_stays w s x 22 ho B 5 i (.int .u8 0) 1 1 ht hi hz0 hz1 hz2 rfl (by decide) g n c _ hs hr ⟨b, 0, none⟩ 16 xc ((ns 16 f).map (Value.int .u8)) hx (by simp [ns_len]) (fun j v hj => ?_) (fun v hv => by obtain ⟨z, _, rfl⟩ := List.mem_map.1 hv; rfl) (by decide) (by unfold maxLen; omega) (by omega) hB
    (fun g' c' w' h1 h2 h3 h4 h5 => hK _ _ (h g' c' w' ?_ h2 h3))
  · have hj16 : j < 16 := by have := (List.getElem?_eq_some_iff.1 hj).1; rwa [List.length_map, ns_len] at this
    rw [List.getElem?_map, ns_at f hj16] at hj
    rw [Addr.add_mid, Nat.zero_add, hA.cell hj16]
    simpa using hj
  · rw [← List.map_append, show ns 16 f = ns 16 (fun j => F (n + j)) from ns_ext fun j hj => hf j hj, ns_app] at h1
    show w'.ownsRow _ _ _ _ (ns (n + 16) F).length _
    rw [ns_len]; exact h1
section
variable {w wr w1 : World} {n k gl cl gb : Nat} {F f fb : Nat → Nat}
theorem Ds.self (h : Ds w n F f k gl cl gb fb wr) (hb : Below wr.heap.size wr w1) : Ds w n F f k gl cl gb fb w1 :=
  ⟨own_same h.own (hb.block _ (h.own.lt gl rfl).2), h.cnt.self hb, h.eq, h.ne, h.low.trans (hb.mono h.low.size), h.lt⟩
theorem Ds.next (h : Ds w n F f k gl cl gb fb wr) (hk : 16 * k < n) {g' c' : Nat} (ho : Own .u8 w.heap.size 5 w1 (.slice (some ⟨g', 0, none⟩) (16 * k + 16) c') (ns (16 * k + 16) F)) (hg : wr.grownBy w1 (some gl)) (_ : g' = gl ∨ g' = wr.heap.size)
    {w2 : World} {gc : Nat} (hw : Wd w2 16 gc 0 (lat fb 1)) (hgc : w1.heap.size ≤ gc) (hl : Below w1.heap.size w1 w2) : Ds w n F f (k + 1) g' c' gc (lat fb 1) w2 := by
  have hl1 := ho.lt g' rfl
  have hl0 := h.own.lt gl rfl
  refine ⟨own_same (by rw [show 16 * (k + 1) = 16 * k + 16 by omega]; exact ho) (hl.block _ hl1.2), hw, (lat_e h.eq 1).trans (lat_succ f k), by omega, ?_, .inr (by omega)⟩
  exact (h.low.grown hg h.low.size (fun j e => by injection e with e; subst e; exact hl0.1)).trans (hl.mono (Nat.le_trans h.low.size hg.size))
theorem Ds.cap (h : Ds w n F f k gl cl gb fb wr) : 16 * k ≤ cl := by
  obtain ⟨h1, h2⟩ := h.own
  rcases h2 with ⟨h0, _⟩ | ⟨g', cap, cur, hv, hb, hc, hn, _⟩
  · cases h0
  · injection hv with _ _ e3
    rw [ns_len] at hn
    omega
theorem Ds.done (h : Ds w n F f k gl cl gb fb wr) (hk : ¬ 16 * k < n) (hF : ∀ j, F j < 256) : w.heap.size ≤ gl ∧ Wd wr n gl 0 F := by
  obtain ⟨hw, hb⟩ := wd_own h.own (fun j _ => hF j)
  have := hw.part (k := 0) (m := n) (by omega)
  rw [Nat.add_zero] at this
  exact ⟨hb, this.ext fun j _ => by rw [Nat.zero_add]⟩
end
/-- The document's counter and one, a new one. -/
theorem refinc_ns (g off c : Nat) (f : Nat → Nat) (w : World) (h : Wd w 16 g off f) :
    Calls Try.prog 25 #[.slice (some ⟨g, off, none⟩) 16 c] w fun e w' => ∃ g' c', e = .returned (.slice (some ⟨g', 0, none⟩) 16 c') ∧ Wd w' 16 g' 0 (lat f 1) ∧ w.heap.size ≤ g' ∧ Below w.heap.size w w' := by
  refine (refinc_any _ _ w (h.rd c (by decide))).mono ?_
  rintro e w' ⟨u, rfl, hown, hlow⟩
  rw [ns_len, inc_lat h.byte] at hown
  obtain ⟨g', c', rfl, hg, _⟩ := hown.part (by rw [ns_len]; decide)
  rw [ns_len] at hown ⊢
  exact ⟨g', c', rfl, Wd.of_own hown (by decide) (lat_b f 1), hg, hlow⟩
theorem Ds.start (w : World) (n : Nat) (F f : Nat → Nat) (hf : B16 f) (u : Value) (w1 : World) (h : Own .u8 (w.heap.size + 1) 5 w1 u (ns 16 f)) (hl : Below (w.heap.size + 1) (w.alloc (.cells #[] 5)) w1) :
    ∃ gb cb, u = .slice (some ⟨gb, 0, none⟩) 16 cb ∧ Ds w n F f 0 w.heap.size 0 gb f w1 := by
  obtain ⟨gb, cb, rfl, hb, _⟩ := h.part (by rw [ns_len]; decide)
  rw [ns_len] at h ⊢
  have he := own_empty (k := .u8) (B := w.heap.size) (E := 5) w (Nat.le_refl _)
  refine ⟨gb, cb, rfl, own_same he (hl.block _ (by omega)), Wd.of_own h (by decide) hf, (lat_zero hf).symm, by omega, ((Below.refl _ w).alloc (Nat.le_refl _) _).trans (hl.mono (by omega)), .inl rfl⟩

set_option maxHeartbeats 3200000 in
theorem refstream_any (kv v : Value) (R R1 n : Nat) (Y : Nat → Nat → Nat) (f : Nat → Nat) (w : World) (hR1 : R1 = R + 1) (hR : 0 < R) (hl : R ≤ 1000) (hn : n ≤ 140000) (hf : B16 f) (hY : YB Y R) (hv : Rd .u8 w v (ns 16 f)) (hX : ∀ w', Below w.heap.size w w' → ExpD kv R1 Y w') :
    Calls Try.prog 15 #[kv, v, .int .i64 n] w fun e w' => ∃ g c, e = .returned (.slice (some ⟨g, 0, none⟩) n c) ∧ w.heap.size ≤ g ∧ n ≤ c ∧ Wd w' n g 0 (strF Y R f) ∧ Below w.heap.size w w' := by
  have HR := hid (And.intro hR1 (And.intro hR hl))
  have HF := hid hf; have HY := hid hY; have HX := hid hX
  have HN := hid hn
  have HZ := hid (hv.self (w' := (w.alloc (.cells #[] 5)).alloc (.cells #[] 5)) (((Below.refl _ w).alloc (Nat.le_refl _) _).alloc (by simp) _))
  obtain ⟨av, cv, rfl, -, -, -⟩ := hv
  rw [ns_len] at *
  have HLI := hid (show (0 + (ns 16 f).length) * (IntKind.u8.bits / 8) ≤ 140737488355328 by rw [ns_len]; decide)
  have HE := hid (own_empty (k := .u8) (B := w.heap.size + 1) (E := 5) (w.alloc (.cells #[] 5)) (by simp))
  rw [World.size_alloc] at HE
  clear hR1 hR hl hf hY hX
  go_enter Try.func15, Try.ntmps15
  go_wp2_with (refine wpList_append_rd rfl (.tmp 11) (.tmp 12) 22 rfl .u8 (w.heap.size + 1) 5 Try.underlying22 info8 (by decide) _ [] rfl HE.out _ (ns 16 f) rfl HZ.out HLI.out (by simp) (w.heap.size + 1) (w.alloc (.cells #[] 5)) ((Below.refl _ _).alloc (by simp) _) (Nat.le_refl _) ?_; intro u w1 hown hlow _; rw [List.nil_append] at hown; have HD := hid (Ds.start w n (strF Y R f) f HF.out u w1 hown hlow); clear hown hlow)
  obtain ⟨gb, cb, rfl, hds⟩ := HD.out
  have HS := hid hds
  clear hds HD HE HZ HLI
  go_loopw [7, 8] (fun x y wr => ∃ (k gl cl gb cb : Nat) (fb : Nat → Nat), x = .slice (some ⟨gl, 0, none⟩) (16 * k) cl ∧ y = .slice (some ⟨gb, 0, none⟩) 16 cb ∧ Ds w n (strF Y R f) f k gl cl gb fb wr) (fun x _ _ => match x with | .slice _ L _ => n - L | _ => 0)
  case atStart => exact ⟨0, w.heap.size, 0, gb, cb, f, rfl, rfl, HS.out⟩
  case round =>
    obtain ⟨k, gl, cl, gb, cb, fb, rfl, rfl, hds⟩ := hrel
    have HD := hid hds
    clear hds HS
    by_cases hk : 16 * k < n
    · have hk1 : ((16 * k : Nat) : Int) < (n : Int) := by omega
      have hA : At (wr.alloc (.cells #[.int .u8 0, .int .u8 0, .int .u8 0, .int .u8 0, .int .u8 0, .int .u8 0, .int .u8 0, .int .u8 0, .int .u8 0, .int .u8 0, .int .u8 0, .int .u8 0, .int .u8 0, .int .u8 0, .int .u8 0, .int .u8 0] 39)) wr.heap.size 16 39 (fun _ => 0) := At.new wr 16 39 (fun _ => 0)
      have HA := hid hA
      have HLO : Hid (Below wr.heap.size wr (wr.alloc (.cells #[.int .u8 0, .int .u8 0, .int .u8 0, .int .u8 0, .int .u8 0, .int .u8 0, .int .u8 0, .int .u8 0, .int .u8 0, .int .u8 0, .int .u8 0, .int .u8 0, .int .u8 0, .int .u8 0, .int .u8 0, .int .u8 0] 39))) := hid ((Below.refl _ _).alloc (Nat.le_refl _) _)
      clear hA
      have HB : Hid (∀ W, Below w.heap.size w W → Calls Try.prog 24 #[kv, .agg (ba 16 fb)] W fun e w' => e = .returned (.agg (ba 16 (blkF Y R fb))) ∧ Below W.heap.size W w') := hid (fun W hW => refblock_any kv R R1 Y fb W HR.out.1 HR.out.2.1 HR.out.2.2 (fun j hj => HD.out.cnt.byte j hj) HY.out (fun w' hb => HX.out w' (hW.trans (hb.mono hW.size))))
      have HBE : Hid (∀ j, j < 16 → blkF Y R fb j = strF Y R f (16 * k + j)) := hid (fun j hj => by
        unfold strF; rw [show (16 * k + j) / 16 = k by omega, show (16 * k + j) % 16 = j by omega]; exact blk_e HD.out.eq j hj)
      have HK := hid hk
      go_wp2_with (first
        | (refine wpList_copy16 rfl (.tmp 19) (.tmp 20) rfl Try.underlying22 (by kernel_rfl) wr.heap.size 16 gb 0 cb (fun _ => 0) fb rfl rfl HA.out (HD.out.self HLO.out).cnt wr HLO.out ?_; intro w2 hA2 hb2; have HA2 := hid hA2; have HB2 := hid hb2; clear hA2 hb2)
        | (refine step_load_ba rfl 39 _ rfl wr.heap.size 16 39 5 fb rfl HA2.out Try.underlying39 infoa ?_)
        | (go_at_call 24; (with_reducible refine (HB.out w2 (HD.out.low.trans (HB2.out.mono HD.out.low.size))).mono ?_); rintro e w3 ⟨rfl, hlow⟩; have HA3 := hid (HA2.out.self hlow); have HB3 := hid (HB2.out.trans (hlow.mono HB2.out.size)); clear hlow)
        | (refine step_store_ba rfl 39 _ _ rfl wr.heap.size 16 39 fb (blkF Y R fb) rfl rfl HA3.out infoa ?_; have HA4 := hid (HA3.out.row (blkF Y R fb)); have HB4 := hid (below_setRow HB3.out (Nat.le_refl _) (ba 16 (blkF Y R fb))))
        | (refine wpList_append16 rfl (.tmp 25) (.tmp 26) rfl Try.underlying22 info8 w.heap.size gl (16 * k) cl wr.heap.size 16 (strF Y R f) (blkF Y R fb) rfl (HD.out.self HB4.out).own rfl HA4.out (by have := HK.out; have := HN.out; omega) (by have := HD.out.low.size; have := HB4.out.size; omega) HBE.out ?_; intro g' c' w5 ho5 hg5 hgl; have HO5 := hid ho5; have HG5 := hid hg5; have HGL := hid hgl; have HW5 : Hid (Wd w5 16 gb 0 fb) := hid ((HD.out.self HB4.out).cnt.same hg5.size (hg5.block _ (HD.out.self HB4.out).cnt.lt (fun e => (HD.out.ne) (by injection e)))); clear ho5 hg5 hgl)
        | (go_at_call 25; (with_reducible refine (refinc_ns gb 0 cb fb w5 HW5.out).mono ?_); rintro e w6 ⟨gc, c6, rfl, hw6, hgc, hl6⟩; have HD6 := hid ((HD.out.self HB4.out).next HK.out HO5.out HG5.out HGL.out hw6 hgc hl6); clear hw6 hgc hl6))
      go_roundw
      case rel => exact ⟨k + 1, g', c', gc, c6, lat fb 1, rfl, rfl, HD6.out⟩
      case measure => have := HK.out; show n - (16 * k + 16) < n - 16 * k; omega
    · have hk1 : ¬ ((16 * k : Nat) : Int) < (n : Int) := by omega
      have hc : (n : Int) ≤ cl := by have := HD.out.cap; omega
      have HQ := hid (HD.out.done hk (fun j => strF_b HY.out f j))
      have HQC : Hid (n ≤ cl) := hid (by omega)
      have HL := hid HD.out.low
      clear hk
      go_wp2
      go_ret
      exact ⟨gl, cl, rfl, HQ.out.1, HQC.out, HQ.out.2, HL.out⟩
end Go.Proofs.Ytiejaedljebbfaa
