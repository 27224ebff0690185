import Derived.Test.YtfjgelialaccdaaProg
import Derived.Test.YtfjgelialaccdaaSqg
import Derived.Test.YtfjgelialaccdaaHin
/- Sponge: a state's blocks are told, for whatever loop ranges over them. -/
namespace Go.Proofs.Ytfjgelialaccdaa
open Go.RowKit Go.Shelf
set_option maxRecDepth 100000
attribute [local go_sem] Oper.semAt_some

theorem told_any (b : Nat) (w : World) :
    Calls Try.prog 46 #[.pointer (some ⟨b, 0, none⟩)] w fun e w' => e = .returned (.func (.func 56) #[] #[.pointer (some ⟨w.heap.size, 0, none⟩)]) ∧ w' = w.alloc (.cells #[.pointer (some ⟨b, 0, none⟩)] 53) := by
  go_enter Try.func46, Try.ntmps46
  go_wp2
  go_ret
  exact ⟨rfl, rfl⟩
/-- Ahead of a round: k blocks have been told. -/
structure Tt (S : Nat → Prop) (J : Nat → World → Prop) (Bp b : Nat) (k : Nat) (wr : World) : Prop where
  box : wr.heap[Bp]? = some (.cells #[.pointer (some ⟨b, 0, none⟩)] 53 (0, 0))
  out : ¬ S Bp ∧ Bp ≠ b
  inv : J k wr
/-- What stands while a block is made. -/
structure Tm (Bp b R : Nat) (mk : Int) (G : Nat → Nat) (w' : World) : Prop where
  box : w'.heap[Bp]? = some (.cells #[.pointer (some ⟨b, 0, none⟩)] 53 (0, 0))
  obj : ∃ a, Wo w' b R mk G a true
theorem first_own (q : Nat) (F : Nat → Nat) (w : World) (hF : W25 F) (hq : 1 ≤ q ∧ q ≤ 24) : Calls Try.prog 57 #[.agg (wa 25 F), .int .i64 ((8 * q : Nat) : Int)] w fun e w' =>
    ∃ g c, e = .returned (.slice (some ⟨g, 0, none⟩) (8 * q) c) ∧ 8 * q ≤ c ∧ Own .u8 w.heap.size 5 w' (.slice (some ⟨g, 0, none⟩) (8 * q) c) (wdL F q) ∧ Below w.heap.size w w' :=
  (first_any q F w hF hq).mono (by
    rintro e w' ⟨v, rfl, ho, hb⟩
    obtain ⟨g, c, rfl, _⟩ := ho.part (by rw [wdL_len]; omega)
    rw [wdL_len] at ho ⊢
    exact ⟨g, c, rfl, (own_cap ho).1, ho, hb⟩)
set_option maxHeartbeats 3200000 in
theorem told_blocks (S : Nat → Prop) (J J2 : Nat → World → Prop) (Jx : World → Prop) (l b Bp q K : Nat) (mk : Int) (F : Nat → Nat) (W : World) (hq : 1 ≤ q ∧ q ≤ 24) (hF : W25 F)
    (hJ : ∀ k A, J k A → k < K ∧ Wo A b (8 * q) mk (stN F k) 0 true) (hS : ∀ k A B, J k A → Below A.heap.size A B → J k B)
    (hM : ∀ k A, J2 k A → (∃ a, Wo A b (8 * q) mk (stN F k) a true) ∧ ∀ B, Only b A B → Wo B b (8 * q) mk (stN F (k + 1)) 0 true → J (k + 1) B)
    (hY : ∀ k A g c N, J k A → W.heap.size ≤ N → 8 * q ≤ c → Own .u8 N 5 A (.slice (some ⟨g, 0, none⟩) (8 * q) c) (wdL (stN F k) q) → YieldAt Fence.wide 4 Try.prog l #[.slice (some ⟨g, 0, none⟩) (8 * q) c] A (fun e B => (e = .returned (.bool true) ∧ J2 k B ∧ Kp S A B) ∨ (e = .returned (.bool false) ∧ Jx B ∧ Kp S A B ∧ ∃ a, Wo B b (8 * q) mk (stN F k) a true)))
    (hW : ∀ k A, J k A → W.heap.size ≤ A.heap.size) (h0 : Tt S J Bp b 0 W) :
    Calls Try.prog 56 #[.func (.yield l) #[] #[], .pointer (some ⟨Bp, 0, none⟩)] W fun e w' => (∃ v, e = .returned v) ∧ Jx w' := by
  have H0 := hid h0
  have HJ := hid hJ
  have HS := hid hS
  have HM := hid hM
  have HY := hid hY
  have HW := hid hW
  have HF := hid (stN_w hF)
  have HFi := hid (fun k w => first_own q (stN F k) w (stN_w hF k) hq)
  have HPe := hid (fun k a w (h : Wo w b (8 * q) mk (stN F k) a true) => perm_any h (stN_w hF k))
  have HSt : Hid (∀ k, pm tun mkf 24 (stN F k) = stN F (k + 1)) := hid fun _ => rfl
  obtain ⟨R, hR⟩ : ∃ R, 8 * q = R := ⟨_, rfl⟩
  rw [hR] at HJ HM HY HFi HPe
  have HR : Hid (R = 8 * q ∧ 1 ≤ q ∧ q ≤ 24) := hid ⟨hR.symm, hq.1, hq.2⟩
  clear h0 hJ hS hM hY hW hF hq hR
  refine (callsIn_wide (n := 5)).1 ?_
  refine callsIn_of_wp Try.func56 rfl trivial ?_ rfl
  simp only [Try.ntmps56, List.size_toArray, List.length_cons, List.length_nil, Nat.reduceAdd, Nat.reduceSub, Array.replicate_succ, Array.replicate_zero, List.push_toArray, List.append_toArray, List.nil_append, List.cons_append]
  gi_wp2
  gi_loopg [3] K (fun m _ wr => ∃ k, m = K - k ∧ Tt S J Bp b k wr)
  case atStart => exact ⟨0, by omega, H0.out⟩
  case round =>
    obtain ⟨k, hgk, hit⟩ := hrel
    have HGk := hid hgk
    have HT : Hid (Tt S J Bp b k wr.drew) := hid ⟨hit.box, hit.out, HS.out _ _ _ hit.inv ((Below.refl _ _).drew)⟩
    clear hit hgk
    have HTm : Hid (Tm Bp b R mk (stN F k) wr.drew) := hid ⟨HT.out.box, 0, (HJ.out _ _ HT.out.inv).2⟩
    have HKK := hid (HJ.out _ _ HT.out.inv).1
    have HFk := hid (HFi.out k)
    have HYk := hid (HY.out k)
    obtain ⟨G, hG⟩ : ∃ G, stN F k = G := ⟨_, rfl⟩
    rw [hG] at HTm HFk HYk
    have HG := hid hG
    clear hG
    gi_wp2
    refine region_S (Tm Bp b R mk G) (by kernel_rfl) ?_
    generalize wr.drew = w2 at *
    refine anyS_take (i := 0) (x := .tmp 0) (p := .func (.yield l) #[] #[]) (v := .func (.yield l) #[] #[]) rfl (asks_of rfl rfl (fun cs b e => (by cases e)) (fun ρ w => rfl) (fun ρ h w hw => by have h := h; clear hw; simp only [execOp]; go_simp)) rfl rfl (by kernel_rfl) (by kernel_rfl) (by kernel_rfl) (fun _ _ _ h => h) HTm.out ?_
    try simp only [Act.put, lay_out]
    refine anyS_take (i := 1) (x := .tmp 1) (p := .pointer (some ⟨Bp, 0, none⟩)) (v := .pointer (some ⟨b, 0, none⟩)) rfl (asks_of rfl rfl (fun cs b e => (by cases e)) (fun ρ w => rfl) (fun ρ h w hw => by have hc := one_box hw.box; clear hw; simp only [execOp]; go_simp)) rfl rfl (by kernel_rfl) (by kernel_rfl) (by kernel_rfl) (fun _ _ _ h => h) HTm.out ?_
    try simp only [Act.put, lay_out]
    refine anyS_take (i := 2) (x := .tmp 4) (p := .pointer (some ⟨b, 0, none⟩)) (v := .pointer (some ⟨b, 0, none⟩)) rfl (asks_of rfl rfl (fun cs b e => (by cases e)) (fun ρ w => rfl) (fun ρ h w hw => by have h := h; clear hw; simp only [execOp]; go_simp)) rfl rfl (by kernel_rfl) (by kernel_rfl) (by kernel_rfl) (fun _ _ _ h => h) HTm.out ?_
    try simp only [Act.put, lay_out]
    refine anyS_take (i := 3) (x := .tmp 5) (p := .pointer (some ⟨b, 0, none⟩)) (v := .pointer (some ⟨b, 2, none⟩)) rfl (asks_of rfl rfl (fun cs b e => (by cases e)) (fun ρ w => rfl) (fun ρ h w hw => by have h := h; clear hw; simp only [execOp]; go_simp)) rfl rfl (by kernel_rfl) (by kernel_rfl) (by kernel_rfl) (fun _ _ _ h => h) HTm.out ?_
    try simp only [Act.put, lay_out]
    refine anyS_take (i := 4) (x := .tmp 6) (p := .pointer (some ⟨b, 2, none⟩)) (v := .agg (wa 25 G)) rfl (by have := asks_load_mid (P := Try.prog) (S := Tm Bp b R mk G) (o := { dst := some 7, op := .load 45 (.tmp 6), type := 45, pos := "sponge.go:170", after := #[{ on := 3, ground := Ground.data }], guard := none }) rfl 45 rfl b 2 (wa 25 G).toList _ (fun w hw => hw.obj.elim fun _ h => h.range) Try.underlying45 rfl (by rw [Array.length_toList, wa_size]; exact kinf25); rw [Array.toArray_toList] at this; exact this) rfl rfl (by kernel_rfl) (by kernel_rfl) (by kernel_rfl) (fun _ _ _ h => h) HTm.out ?_
    try simp only [Act.put, lay_out]
    refine anyS_take (i := 5) (x := .tmp 1) (p := .pointer (some ⟨Bp, 0, none⟩)) (v := .pointer (some ⟨b, 0, none⟩)) rfl (asks_of rfl rfl (fun cs b e => (by cases e)) (fun ρ w => rfl) (fun ρ h w hw => by have hc := one_box hw.box; clear hw; simp only [execOp]; go_simp)) rfl rfl (by kernel_rfl) (by kernel_rfl) (by kernel_rfl) (fun _ _ _ h => h) HTm.out ?_
    try simp only [Act.put, lay_out]
    refine anyS_take (i := 6) (x := .tmp 8) (p := .pointer (some ⟨b, 0, none⟩)) (v := .pointer (some ⟨b, 0, none⟩)) rfl (asks_of rfl rfl (fun cs b e => (by cases e)) (fun ρ w => rfl) (fun ρ h w hw => by have h := h; clear hw; simp only [execOp]; go_simp)) rfl rfl (by kernel_rfl) (by kernel_rfl) (by kernel_rfl) (fun _ _ _ h => h) HTm.out ?_
    try simp only [Act.put, lay_out]
    refine anyS_take (i := 7) (x := .tmp 9) (p := .pointer (some ⟨b, 0, none⟩)) (v := .pointer (some ⟨b, 0, none⟩)) rfl (asks_of rfl rfl (fun cs b e => (by cases e)) (fun ρ w => rfl) (fun ρ h w hw => by have h := h; clear hw; simp only [execOp]; go_simp)) rfl rfl (by kernel_rfl) (by kernel_rfl) (by kernel_rfl) (fun _ _ _ h => h) HTm.out ?_
    try simp only [Act.put, lay_out]
    refine anyS_take (i := 8) (x := .tmp 10) (p := .pointer (some ⟨b, 0, none⟩)) (v := .int .i64 (R : Int)) rfl (asks_of rfl rfl (fun cs b e => (by cases e)) (fun ρ w => rfl) (fun ρ h w hw => by have hc := hw.obj.elim fun _ h => h.rate; clear hw; simp only [execOp]; go_simp)) rfl rfl (by kernel_rfl) (by kernel_rfl) (by kernel_rfl) (fun _ _ _ h => h) HTm.out ?_
    try simp only [Act.put, lay_out]
    refine anyS_take (i := 10) (x := .tmp 1) (p := .pointer (some ⟨Bp, 0, none⟩)) (v := .pointer (some ⟨b, 0, none⟩)) rfl (asks_of rfl rfl (fun cs b e => (by cases e)) (fun ρ w => rfl) (fun ρ h w hw => by have hc := one_box hw.box; clear hw; simp only [execOp]; go_simp)) rfl rfl (by kernel_rfl) (by kernel_rfl) (by kernel_rfl) (fun _ _ _ h => h) HTm.out ?_
    try simp only [Act.put, lay_out]
    refine anyS_take (i := 11) (x := .tmp 13) (p := .pointer (some ⟨b, 0, none⟩)) (v := .pointer (some ⟨b, 0, none⟩)) rfl (asks_of rfl rfl (fun cs b e => (by cases e)) (fun ρ w => rfl) (fun ρ h w hw => by have h := h; clear hw; simp only [execOp]; go_simp)) rfl rfl (by kernel_rfl) (by kernel_rfl) (by kernel_rfl) (fun _ _ _ h => h) HTm.out ?_
    try simp only [Act.put, lay_out]
    refine anyS_take (i := 12) (x := .tmp 14) (p := .pointer (some ⟨b, 0, none⟩)) (v := .pointer (some ⟨b, 27, none⟩)) rfl (asks_of rfl rfl (fun cs b e => (by cases e)) (fun ρ w => rfl) (fun ρ h w hw => by have h := h; clear hw; simp only [execOp]; go_simp)) rfl rfl (by kernel_rfl) (by kernel_rfl) (by kernel_rfl) (fun _ _ _ h => h) HTm.out ?_
    try simp only [Act.put, lay_out]
    have HZ2 := hid (HJ.out _ _ HT.out.inv).2.at
    refine anyS_two (i := 9) (i' := 13) rfl rfl (by kernel_rfl) (fun K9 hK => ?_) (fun K9 hK => ?_)
    · rw [if_pos (by rfl)]
      go_simp
      refine ⟨trivial, ?_⟩
      gi_at_call 57
      refine (callsIn_wide.2 (HFk.out w2)).mono ?_
      rintro e w3 ⟨g, c, rfl, hc, ho, hb⟩
      have HT3 : Hid (Tt S J Bp b k w3) := hid ⟨(hb.block _ (Array.getElem?_eq_some_iff.1 HT.out.box).1).trans HT.out.box, HT.out.out, HS.out _ _ _ HT.out.inv hb⟩
      have HTm3 : Hid (Tm Bp b R mk G w3) := hid ⟨HT3.out.box, HTm.out.obj.elim fun a h => ⟨a, h.self hb⟩⟩
      have HO3 := hid ho
      have HN3 := hid (HW.out _ _ HT.out.inv)
      have HC3 := hid hc
      clear ho hb hc
      refine hK.out _ _ HTm3.out ?_
      clear hK K9
      try simp only [Act.put, lay_out]
      have c13 := (HJ.out _ _ HT3.out.inv).2.at
      refine anyS_one (i := 13) rfl (by kernel_rfl) (fun K9 hK => ?_)
      rw [if_pos (by rfl)]
      go_simp
      refine hK.out _ _ HTm3.out ?_
      clear hK K9 c13
      try simp only [Act.put, lay_out]
      have n1 : (0 : Int) < (c : Int) := by have := HR.out; have := HC3.out; omega
      have n2 : (R : Int) ≤ (c : Int) := by have := HC3.out; omega
      refine anyS_one (i := 14) rfl (by kernel_rfl) (fun K9 hK => ?_)
      rw [if_pos (by rfl)]
      go_simp
      refine hK.out _ _ HTm3.out ?_
      clear hK K9
      try simp only [Act.put, lay_out]
      have hy := HYk.out w3 g c _ HT3.out.inv HN3.out HC3.out HO3.out
      obtain ⟨fn, tmps, assign, body, hy, hRD⟩ := hy
      refine anyS_one (i := 15) rfl (by kernel_rfl) (fun K9 hK => ?_)
      rw [if_pos (by rfl)]
      go_simp
      refine hRD.mono ?_
      clear hRD hy
      rintro e w4 (⟨rfl, hj, hk⟩ | ⟨rfl, hjx, hk, hw⟩)
      · have HB4 := hid (hk.box HT3.out.box HT3.out.out.1)
        have HM4 := hid (HM.out _ _ hj)
        have HTm4 : Hid (Tm Bp b R mk G w4) := hid ⟨HB4.out, by rw [← HG.out]; exact HM4.out.1⟩
        clear hj hk
        refine hK.out _ _ HTm4.out ?_
        clear hK K9
        refine anyS_done (by kernel_rfl) ?_ _
        try simp only [Act.put, lay_out]
        have c1 := one_box HB4.out
        obtain ⟨a4, h4⟩ := HM4.out.1
        have HP4 := hid (HPe.out k a4 w4 h4)
        clear h4
        gi_wp2
        refine ⟨trivial, ?_⟩
        gi_at_call 55
        refine (callsIn_wide.2 HP4.out).mono ?_
        rintro e w5 ⟨⟨v5, rfl⟩, h5, o5⟩
        have HT5 : Hid (Tt S J Bp b (k + 1) w5) := hid ⟨(o5.block _ (Array.getElem?_eq_some_iff.1 HB4.out).1 HT3.out.out.2).trans HB4.out, HT3.out.out, HM4.out.2 w5 o5 h5⟩
        have HK5 := hid (HJ.out _ _ HT5.out.inv).1
        clear h5 o5
        gi_wp2
        gi_roundg (K - (k + 1))
        case rel => exact ⟨k + 1, rfl, HT5.out⟩
        case measure => have := HGk.out; have := HK5.out; omega
      · have HTm4 : Hid (Tm Bp b R mk G w4) := hid ⟨hk.box HT3.out.box HT3.out.out.1, hw⟩
        have HX4 := hid hjx
        clear hjx hk hw
        refine hK.out _ _ HTm4.out ?_
        clear hK K9
        refine anyS_done (by kernel_rfl) ?_ _
        try simp only [Act.put, lay_out]
        gi_wp2
        go_end0
        exact ⟨⟨_, rfl⟩, HX4.out⟩
    · rw [if_pos (by rfl)]
      have c13 := HZ2.out
      go_simp
      refine hK.out _ _ HTm.out ?_
      clear hK K9 c13
      try simp only [Act.put, lay_out]
      refine anyS_one (i := 9) rfl (by kernel_rfl) (fun K9 hK => ?_)
      rw [if_pos (by rfl)]
      go_simp
      refine ⟨trivial, ?_⟩
      gi_at_call 57
      refine (callsIn_wide.2 (HFk.out w2)).mono ?_
      rintro e w3 ⟨g, c, rfl, hc, ho, hb⟩
      have HT3 : Hid (Tt S J Bp b k w3) := hid ⟨(hb.block _ (Array.getElem?_eq_some_iff.1 HT.out.box).1).trans HT.out.box, HT.out.out, HS.out _ _ _ HT.out.inv hb⟩
      have HTm3 : Hid (Tm Bp b R mk G w3) := hid ⟨HT3.out.box, HTm.out.obj.elim fun a h => ⟨a, h.self hb⟩⟩
      have HO3 := hid ho
      have HN3 := hid (HW.out _ _ HT.out.inv)
      have HC3 := hid hc
      clear ho hb hc
      refine hK.out _ _ HTm3.out ?_
      clear hK K9
      try simp only [Act.put, lay_out]
      have n1 : (0 : Int) < (c : Int) := by have := HR.out; have := HC3.out; omega
      have n2 : (R : Int) ≤ (c : Int) := by have := HC3.out; omega
      refine anyS_one (i := 14) rfl (by kernel_rfl) (fun K9 hK => ?_)
      rw [if_pos (by rfl)]
      go_simp
      refine hK.out _ _ HTm3.out ?_
      clear hK K9
      try simp only [Act.put, lay_out]
      have hy := HYk.out w3 g c _ HT3.out.inv HN3.out HC3.out HO3.out
      obtain ⟨fn, tmps, assign, body, hy, hRD⟩ := hy
      refine anyS_one (i := 15) rfl (by kernel_rfl) (fun K9 hK => ?_)
      rw [if_pos (by rfl)]
      go_simp
      refine hRD.mono ?_
      clear hRD hy
      rintro e w4 (⟨rfl, hj, hk⟩ | ⟨rfl, hjx, hk, hw⟩)
      · have HB4 := hid (hk.box HT3.out.box HT3.out.out.1)
        have HM4 := hid (HM.out _ _ hj)
        have HTm4 : Hid (Tm Bp b R mk G w4) := hid ⟨HB4.out, by rw [← HG.out]; exact HM4.out.1⟩
        clear hj hk
        refine hK.out _ _ HTm4.out ?_
        clear hK K9
        refine anyS_done (by kernel_rfl) ?_ _
        try simp only [Act.put, lay_out]
        have c1 := one_box HB4.out
        obtain ⟨a4, h4⟩ := HM4.out.1
        have HP4 := hid (HPe.out k a4 w4 h4)
        clear h4
        gi_wp2
        refine ⟨trivial, ?_⟩
        gi_at_call 55
        refine (callsIn_wide.2 HP4.out).mono ?_
        rintro e w5 ⟨⟨v5, rfl⟩, h5, o5⟩
        have HT5 : Hid (Tt S J Bp b (k + 1) w5) := hid ⟨(o5.block _ (Array.getElem?_eq_some_iff.1 HB4.out).1 HT3.out.out.2).trans HB4.out, HT3.out.out, HM4.out.2 w5 o5 h5⟩
        have HK5 := hid (HJ.out _ _ HT5.out.inv).1
        clear h5 o5
        gi_wp2
        gi_roundg (K - (k + 1))
        case rel => exact ⟨k + 1, rfl, HT5.out⟩
        case measure => have := HGk.out; have := HK5.out; omega
      · have HTm4 : Hid (Tm Bp b R mk G w4) := hid ⟨hk.box HT3.out.box HT3.out.out.1, hw⟩
        have HX4 := hid hjx
        clear hjx hk hw
        refine hK.out _ _ HTm4.out ?_
        clear hK K9
        refine anyS_done (by kernel_rfl) ?_ _
        try simp only [Act.put, lay_out]
        gi_wp2
        go_end0
        exact ⟨⟨_, rfl⟩, HX4.out⟩
end Go.Proofs.Ytfjgelialaccdaa
