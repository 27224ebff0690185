import Derived.Test.YthcjgjhoifnpjaaProg
import Derived.Test.YthcjgjhoifnpjaaSqp
import Derived.Test.YthcjgjhoifnpjaaCtx
import Derived.Shelf.Abstract
import Derived.Shelf.RegionOpen
import Derived.WalkKit
import Derived.OwnWalkIn
import Derived.TacticsInMore
import Derived.Sort.LoopGhostIn
import Derived.LoopIn
import Derived.Test.YthcjgjhoifnpjaaHin
import Derived.Deep.DeepAppendRoom
set_option maxRecDepth 100000
/- Sponge: bytes are told in pieces, for whatever loop ranges over them. -/
namespace Go.Proofs.Ythcjgjhoifnpjaa
open Go.RowKit Go.Shelf
set_option maxRecDepth 100000
attribute [local go_sem] Oper.semAt_some

theorem one_box {w : World} {b : Nat} {v : Value} {t : TypeId} (h : w.heap[b]? = some (.cells #[v] t (0, 0))) : w.cell? ⟨b, 0, none⟩ = some v := by simp [World.cell?, h]
theorem pieces_any (g : Option Addr) (n c f R : Nat) (w : World) :
    Calls Try.prog 58 #[.slice g n c, .int .i64 (f : Int), .int .i64 (R : Int)] w fun e w' => e = .returned (.func (.func 65) #[] #[.pointer (some ⟨w.heap.size, 0, none⟩), .pointer (some ⟨w.heap.size + 2, 0, none⟩), .pointer (some ⟨w.heap.size + 1, 0, none⟩)]) ∧
      w' = ((w.alloc (.cells #[.slice g n c] 22)).alloc (.cells #[.int .i64 (f : Int)] 3)).alloc (.cells #[.int .i64 (R : Int)] 3) := by
  go_enter Try.func58, Try.ntmps58
  go_wp2
  go_ret
  exact ⟨rfl, rfl⟩
/-- What is left alone: whatever S does not name. -/
structure Kp (S : Nat → Prop) (A B : World) : Prop where
  size : A.heap.size ≤ B.heap.size
  block : ∀ j, j < A.heap.size → ¬ S j → B.heap[j]? = A.heap[j]?
theorem Kp.box {S : Nat → Prop} {A B : World} (h : Kp S A B) {g : Nat} {o : Obj} (hw : A.heap[g]? = some o) (hS : ¬ S g) : B.heap[g]? = some o := (h.block g (Array.getElem?_eq_some_iff.1 hw).1 hS).trans hw
/-- How much room a block has when t bytes have been told of a row, f of its first block being filled. -/
def rmN (R f t : Nat) : Nat := if t = 0 then R - f else R
/-- Between two rounds, t bytes being told. -/
structure Pt (S : Nat → Prop) (J : Nat → World → Prop) (Bb Bf Bq R f : Nat) (v : Value) (t : Nat) (wr : World) : Prop where
  row : wr.heap[Bb]? = some (.cells #[v] 22 (0, 0))
  fil : wr.heap[Bf]? = some (.cells #[.int .i64 (f : Int)] 3 (0, 0))
  rat : wr.heap[Bq]? = some (.cells #[.int .i64 (R : Int)] 3 (0, 0))
  out : ¬ S Bb ∧ ¬ S Bf ∧ ¬ S Bq
  inv : J t wr
section
variable {S : Nat → Prop} {J : Nat → World → Prop} {Bb Bf Bq R f t t' : Nat} {v : Value} {wr w' : World}
theorem Pt.drew (hJ : ∀ t A, J t A → J t A.drew) (h : Pt S J Bb Bf Bq R f v t wr) : Pt S J Bb Bf Bq R f v t wr.drew := ⟨h.row, h.fil, h.rat, h.out, hJ _ _ h.inv⟩
theorem Pt.told (h : Pt S J Bb Bf Bq R f v t wr) (hj : J t' w') (hk : Kp S wr w') : Pt S J Bb Bf Bq R f v t' w' := ⟨hk.box h.row h.out.1, hk.box h.fil h.out.2.1, hk.box h.rat h.out.2.2, h.out, hj⟩
end
theorem rmN_pos {R f : Nat} (t : Nat) (h : f < R) : 0 < rmN R f t := by unfold rmN; split <;> omega
theorem pc_next {R f t n s rm : Nat} (hf : f < R) (hrm : rm = rmN R f t) (ht : t = 0 ∨ (f + t) % R = 0) (hs : min rm n = s) (h : 0 < n - s) : R = rmN R f (t + s) ∧ (f + (t + s)) % R = 0 := by
  have h1 := rmN_pos t hf
  have h2 : s = rm := by omega
  rw [h2]
  refine ⟨by unfold rmN; rw [if_neg (by omega)], ?_⟩
  rw [hrm]
  unfold rmN
  by_cases h0 : t = 0
  · subst h0
    rw [if_pos rfl, show f + (0 + (R - f)) = R by omega, Nat.mod_self]
  · rw [if_neg h0, ← Nat.add_assoc, Nat.add_mod_right]
    rcases ht with h | h
    · exact absurd h h0
    · exact h
set_option maxHeartbeats 3200000 in
theorem told_pieces (S : Nat → Prop) (J : Nat → World → Prop) (l Bb Bf Bq R f L cap : Nat) (p : Option Addr) (W : World)
    (hR : f < R ∧ R ≤ 192 ∧ L ≤ 1000000 ∧ L ≤ cap ∧ cap ≤ maxLen) (hp : 0 < L → ∃ g off, p = some ⟨g, off, none⟩) (hJ : ∀ t A, J t A → J t A.drew)
    (hY : ∀ t A s q c, J t A → t < L → (t = 0 ∨ (f + t) % R = 0) → s = min (rmN R f t) (L - t) → (∀ g off, p = some ⟨g, off, none⟩ → q = some ⟨g, off + t, none⟩) → YieldAt Fence.wide 4 Try.prog l #[.slice q s c] A (fun e B => e = .returned (.bool true) ∧ J (t + s) B ∧ Kp S A B))
    (h0 : Pt S J Bb Bf Bq R f (.slice p L cap) 0 W) :
    Calls Try.prog 65 #[.func (.yield l) #[] #[], .pointer (some ⟨Bb, 0, none⟩), .pointer (some ⟨Bq, 0, none⟩), .pointer (some ⟨Bf, 0, none⟩)] W fun e w' => (∃ v, e = .returned v) ∧ J L w' := by
  have H0 := hid (h0.drew hJ)
  have HR := hid hR
  have HP := hid hp
  have HJ := hid hJ
  have HY := hid hY
  have c0 := one_box H0.out.row
  have c1 := one_box H0.out.fil
  have c2 := one_box H0.out.rat
  obtain ⟨r0, hr0⟩ : ∃ r0, R - f = r0 := ⟨_, rfl⟩
  have e1 : IntKind.i64.wrap ((R : Int) - (f : Int)) = (r0 : Int) := by rw [IntKind.wrap_i64]; omega
  have HR0 : Hid (r0 = rmN R f 0) := hid (by unfold rmN; rw [if_pos rfl]; exact hr0.symm)
  clear h0 hR hp hJ hY hr0
  refine (callsIn_wide (n := 5)).1 ?_
  refine callsIn_of_wp Try.func65 rfl trivial ?_ rfl
  simp only [Try.ntmps65, List.size_toArray, List.length_cons, List.length_nil, Nat.reduceAdd, Nat.reduceSub, Array.replicate_succ, Array.replicate_zero, List.push_toArray, List.append_toArray, List.nil_append, List.cons_append]
  gi_wp2
  gi_region
  gi_wp2
  clear c0 c1 c2 e1
  gi_loopg [5, 6] L (fun m v u wr => ∃ (t n rm c : Nat) (q : Option Addr), m = n ∧ t + n = L ∧ v = .slice q n c ∧ u = .int .i64 (rm : Int) ∧ (0 < n → rm = rmN R f t ∧ (t = 0 ∨ (f + t) % R = 0) ∧ ∀ g off, p = some ⟨g, off, none⟩ → q = some ⟨g, off + t, none⟩) ∧ n ≤ c ∧ c ≤ maxLen ∧ Pt S J Bb Bf Bq R f (.slice p L cap) t wr)
  case atStart => exact ⟨0, L, r0, cap, p, rfl, by omega, rfl, rfl, fun _ => ⟨HR0.out, .inl rfl, fun g off h => h⟩, HR.out.2.2.2.1, HR.out.2.2.2.2, H0.out⟩
  case round =>
    obtain ⟨t, n, rm, c, q, hgk, htn, rfl, rfl, hn, hnc, hcm, hpt⟩ := hrel
    have HGk := hid hgk
    clear hgk
    have HI := hid hpt
    clear hpt
    by_cases h0 : 0 < n
    · obtain ⟨hrm, ht, hq⟩ := hn h0
      obtain ⟨g, off, hpo⟩ := HP.out (by omega)
      have hq2 := hq g off hpo
      subst hq2
      obtain ⟨s, hs⟩ : ∃ s, min rm n = s := ⟨_, rfl⟩
      have hmin : min (rm : Int) (n : Int) = (s : Int) := by omega
      have HYI := HY.out t wr s (some ⟨g, off + t, none⟩) c HI.out.inv (by omega) ht (by rw [← hs, hrm, show n = L - t by omega]) (fun g' off' e => hq g' off' e)
      obtain ⟨fn, tmps, assign, body, hy, hRD⟩ := HYI
      have s0 : (0 : Int) ≤ (s : Int) := by omega
      have s1 : (s : Int) ≤ (n : Int) := by omega
      have s2 : (s : Int) ≤ (c : Int) := by omega
      have h1 : (0 : Int) < (n : Int) := by omega
      have HN : Hid (t + n = L ∧ min rm n = s ∧ rm = rmN R f t ∧ (t = 0 ∨ (f + t) % R = 0) ∧ n ≤ c ∧ c ≤ maxLen ∧ p = some ⟨g, off, none⟩ ∧ 0 < n) := hid ⟨htn, hs, hrm, ht, hnc, hcm, hpo, h0⟩
      clear hn hrm ht hq hs htn hnc hcm hpo h0
      gi_wp2
      refine hRD.mono ?_
      clear hRD hy
      rintro e w4 ⟨rfl, hj, hk⟩
      have HT := hid ((HI.out.told hj hk).drew HJ.out)
      clear hj hk
      gi_wp2
      have c2 := one_box HT.out.rat
      have l3 : (n : Int) ≤ (c : Int) := by have := HN.out; omega
      have HM : Hid (0 < s) := hid (by
        have h3 := HN.out
        have h4 := HR.out
        have h5 := rmN_pos (f := f) (R := R) t h4.1
        omega)
      have HX := hid (fun h => pc_next HR.out.1 HN.out.2.2.1 HN.out.2.2.2.1 HN.out.2.1 h)
      by_cases hsc : s < c
      · have l4 : (s : Int) < (c : Int) := by omega
        clear hsc
        gi_region
        gi_wp2
        gi_roundg (n - s)
        case rel => exact ⟨t + s, n - s, R, c - s, _, rfl, by have := HN.out; omega, rfl, rfl, fun h => ⟨(HX.out h).1, .inr (HX.out h).2, fun g' off' e => by
          have h3 := HN.out.2.2.2.2.2.2.1
          rw [h3] at e
          injection e with e
          injection e with e1 e2
          subst e1 e2
          rw [Nat.add_assoc]⟩, by have := HN.out; omega, by have := HN.out; omega, HT.out⟩
        case measure => have := HGk.out; have := HN.out; have := HM.out; omega
      · have l4 : ¬ (s : Int) < (c : Int) := by omega
        clear hsc
        gi_region
        gi_wp2
        gi_roundg (n - s)
        case rel => exact ⟨t + s, n - s, R, c - s, _, rfl, by have := HN.out; omega, rfl, rfl, fun h => absurd h (by have := HN.out; omega), by have := HN.out; omega, by have := HN.out; omega, HT.out⟩
        case measure => have := HGk.out; have := HN.out; have := HM.out; omega
    · have h1 : ¬ (0 : Int) < (n : Int) := by omega
      have HE : Hid (J L wr) := hid (by rw [show L = t by omega]; exact HI.out.inv)
      clear hn htn hnc hcm h0
      gi_wp2
      go_end0
      exact ⟨⟨_, rfl⟩, HE.out⟩
end Go.Proofs.Ythcjgjhoifnpjaa

/- Sponge: a state's blocks are told, for whatever loop ranges over them. -/
namespace Go.Proofs.Ythcjgjhoifnpjaa
open Go.RowKit Go.Shelf
set_option maxRecDepth 100000
attribute [local go_sem] Oper.semAt_some

theorem told_any (b : Nat) (w : World) :
    Calls Try.prog 61 #[.pointer (some ⟨b, 0, none⟩)] w fun e w' => e = .returned (.func (.func 69) #[] #[.pointer (some ⟨w.heap.size, 0, none⟩)]) ∧ w' = w.alloc (.cells #[.pointer (some ⟨b, 0, none⟩)] 61) := by
  go_enter Try.func61, Try.ntmps61
  go_wp2
  go_ret
  exact ⟨rfl, rfl⟩
/-- Ahead of a round: k blocks have been told. -/
structure Tt (S : Nat → Prop) (J : Nat → World → Prop) (Bp b : Nat) (k : Nat) (wr : World) : Prop where
  box : wr.heap[Bp]? = some (.cells #[.pointer (some ⟨b, 0, none⟩)] 61 (0, 0))
  out : ¬ S Bp ∧ Bp ≠ b
  inv : J k wr
/-- What stands while a block is made. -/
structure Tm (Bp b R : Nat) (mk : Int) (G : Nat → Nat) (w' : World) : Prop where
  box : w'.heap[Bp]? = some (.cells #[.pointer (some ⟨b, 0, none⟩)] 61 (0, 0))
  obj : ∃ a, Wo w' b R mk G a true
theorem first_own (q : Nat) (F : Nat → Nat) (w : World) (hF : W25 F) (hq : 1 ≤ q ∧ q ≤ 24) : Calls Try.prog 70 #[.agg (wa 25 F), .int .i64 ((8 * q : Nat) : Int)] w fun e w' =>
    ∃ g c, e = .returned (.slice (some ⟨g, 0, none⟩) (8 * q) c) ∧ 8 * q ≤ c ∧ Own .u8 w.heap.size 5 w' (.slice (some ⟨g, 0, none⟩) (8 * q) c) (wdL F q) ∧ Below w.heap.size w w' :=
  (first_any q F w hF hq).mono (by
    rintro e w' ⟨v, rfl, ho, hb⟩
    obtain ⟨g, c, rfl, _⟩ := ho.part (by rw [wdL_len]; omega)
    rw [wdL_len] at ho ⊢
    exact ⟨g, c, rfl, (own_cap ho).1, ho, hb⟩)
set_option maxHeartbeats 3200000 in
theorem told_blocks (S : Nat → Prop) (J J2 : Nat → World → Prop) (Jx : World → Prop) (l b Bp q K : Nat) (mk : Int) (F : Nat → Nat) (W : World) (hq : 1 ≤ q ∧ q ≤ 24) (hF : W25 F)
    (hJ : ∀ k A, J k A → k < K ∧ Wo A b (8 * q) mk (stN F k) 0 true) (hS : ∀ k A B, J k A → Below A.heap.size A B → J k B)
    (hM : ∀ k A, J2 k A → (∃ a, Wo A b (8 * q) mk (stN F k) a true) ∧ ∀ B, Only b A B → Wo B b (8 * q) mk (stN F (k + 1)) 0 true → J (k + 1) B)
    (hY : ∀ k A g c N, J k A → W.heap.size ≤ N → 8 * q ≤ c → Own .u8 N 5 A (.slice (some ⟨g, 0, none⟩) (8 * q) c) (wdL (stN F k) q) → YieldAt Fence.wide 4 Try.prog l #[.slice (some ⟨g, 0, none⟩) (8 * q) c] A (fun e B => (e = .returned (.bool true) ∧ J2 k B ∧ Kp S A B) ∨ (e = .returned (.bool false) ∧ Jx B ∧ Kp S A B ∧ ∃ a, Wo B b (8 * q) mk (stN F k) a true)))
    (hW : ∀ k A, J k A → W.heap.size ≤ A.heap.size) (h0 : Tt S J Bp b 0 W) :
    Calls Try.prog 69 #[.func (.yield l) #[] #[], .pointer (some ⟨Bp, 0, none⟩)] W fun e w' => (∃ v, e = .returned v) ∧ Jx w' := by
  have H0 := hid h0
  have HJ := hid hJ
  have HS := hid hS
  have HM := hid hM
  have HY := hid hY
  have HW := hid hW
  have HF := hid (stN_w hF)
  have HFi := hid (fun k w => first_own q (stN F k) w (stN_w hF k) hq)
  have HPe := hid (fun k a w (h : Wo w b (8 * q) mk (stN F k) a true) => perm_any h (stN_w hF k))
  have HSt : Hid (∀ k, pm tun mkf 24 (stN F k) = stN F (k + 1)) := hid fun _ => rfl
  obtain ⟨R, hR⟩ : ∃ R, 8 * q = R := ⟨_, rfl⟩
  rw [hR] at HJ HM HY HFi HPe
  have HR : Hid (R = 8 * q ∧ 1 ≤ q ∧ q ≤ 24) := hid ⟨hR.symm, hq.1, hq.2⟩
  clear h0 hJ hS hM hY hW hF hq hR
  refine (callsIn_wide (n := 5)).1 ?_
  refine callsIn_of_wp Try.func69 rfl trivial ?_ rfl
  simp only [Try.ntmps69, List.size_toArray, List.length_cons, List.length_nil, Nat.reduceAdd, Nat.reduceSub, Array.replicate_succ, Array.replicate_zero, List.push_toArray, List.append_toArray, List.nil_append, List.cons_append]
  gi_wp2
  gi_loopg [3] K (fun m _ wr => ∃ k, m = K - k ∧ Tt S J Bp b k wr)
  case atStart => exact ⟨0, by omega, H0.out⟩
  case round =>
    obtain ⟨k, hgk, hit⟩ := hrel
    have HGk := hid hgk
    have HT : Hid (Tt S J Bp b k wr.drew) := hid ⟨hit.box, hit.out, HS.out _ _ _ hit.inv ((Below.refl _ _).drew)⟩
    clear hit hgk
    have HTm : Hid (Tm Bp b R mk (stN F k) wr.drew) := hid ⟨HT.out.box, 0, (HJ.out _ _ HT.out.inv).2⟩
    have HKK := hid (HJ.out _ _ HT.out.inv).1
    have HFk := hid (HFi.out k)
    have HYk := hid (HY.out k)
    obtain ⟨G, hG⟩ : ∃ G, stN F k = G := ⟨_, rfl⟩
    rw [hG] at HTm HFk HYk
    have HG := hid hG
    clear hG
    gi_wp2
    refine region_S (Tm Bp b R mk G) (by kernel_rfl) ?_
    generalize wr.drew = w2 at *
    refine anyS_take (i := 0) (x := .tmp 0) (p := .func (.yield l) #[] #[]) (v := .func (.yield l) #[] #[]) rfl (asks_of rfl rfl (fun cs b e => (by cases e)) (fun ρ w => rfl) (fun ρ h w hw => by have h := h; clear hw; simp only [execOp]; go_simp)) rfl rfl (by kernel_rfl) (by kernel_rfl) (by kernel_rfl) (fun _ _ _ h => h) HTm.out ?_
    try simp only [Act.put, lay_out]
    refine anyS_take (i := 1) (x := .tmp 1) (p := .pointer (some ⟨Bp, 0, none⟩)) (v := .pointer (some ⟨b, 0, none⟩)) rfl (asks_of rfl rfl (fun cs b e => (by cases e)) (fun ρ w => rfl) (fun ρ h w hw => by have hc := one_box hw.box; clear hw; simp only [execOp]; go_simp)) rfl rfl (by kernel_rfl) (by kernel_rfl) (by kernel_rfl) (fun _ _ _ h => h) HTm.out ?_
    try simp only [Act.put, lay_out]
    refine anyS_take (i := 2) (x := .tmp 4) (p := .pointer (some ⟨b, 0, none⟩)) (v := .pointer (some ⟨b, 0, none⟩)) rfl (asks_of rfl rfl (fun cs b e => (by cases e)) (fun ρ w => rfl) (fun ρ h w hw => by have h := h; clear hw; simp only [execOp]; go_simp)) rfl rfl (by kernel_rfl) (by kernel_rfl) (by kernel_rfl) (fun _ _ _ h => h) HTm.out ?_
    try simp only [Act.put, lay_out]
    refine anyS_take (i := 3) (x := .tmp 5) (p := .pointer (some ⟨b, 0, none⟩)) (v := .pointer (some ⟨b, 2, none⟩)) rfl (asks_of rfl rfl (fun cs b e => (by cases e)) (fun ρ w => rfl) (fun ρ h w hw => by have h := h; clear hw; simp only [execOp]; go_simp)) rfl rfl (by kernel_rfl) (by kernel_rfl) (by kernel_rfl) (fun _ _ _ h => h) HTm.out ?_
    try simp only [Act.put, lay_out]
    refine anyS_take (i := 4) (x := .tmp 6) (p := .pointer (some ⟨b, 2, none⟩)) (v := .agg (wa 25 G)) rfl (by have := asks_load_mid (P := Try.prog) (S := Tm Bp b R mk G) (o := { dst := some 7, op := .load 54 (.tmp 6), type := 54, pos := "sponge.go:170", after := #[{ on := 3, ground := Ground.data }], guard := none }) rfl 54 rfl b 2 (wa 25 G).toList _ (fun w hw => hw.obj.elim fun _ h => h.range) Try.underlying54 rfl (by rw [Array.length_toList, wa_size]; exact kinf25); rw [Array.toArray_toList] at this; exact this) rfl rfl (by kernel_rfl) (by kernel_rfl) (by kernel_rfl) (fun _ _ _ h => h) HTm.out ?_
    try simp only [Act.put, lay_out]
    refine anyS_take (i := 5) (x := .tmp 1) (p := .pointer (some ⟨Bp, 0, none⟩)) (v := .pointer (some ⟨b, 0, none⟩)) rfl (asks_of rfl rfl (fun cs b e => (by cases e)) (fun ρ w => rfl) (fun ρ h w hw => by have hc := one_box hw.box; clear hw; simp only [execOp]; go_simp)) rfl rfl (by kernel_rfl) (by kernel_rfl) (by kernel_rfl) (fun _ _ _ h => h) HTm.out ?_
    try simp only [Act.put, lay_out]
    refine anyS_take (i := 6) (x := .tmp 8) (p := .pointer (some ⟨b, 0, none⟩)) (v := .pointer (some ⟨b, 0, none⟩)) rfl (asks_of rfl rfl (fun cs b e => (by cases e)) (fun ρ w => rfl) (fun ρ h w hw => by have h := h; clear hw; simp only [execOp]; go_simp)) rfl rfl (by kernel_rfl) (by kernel_rfl) (by kernel_rfl) (fun _ _ _ h => h) HTm.out ?_
    try simp only [Act.put, lay_out]
    refine anyS_take (i := 7) (x := .tmp 9) (p := .pointer (some ⟨b, 0, none⟩)) (v := .pointer (some ⟨b, 0, none⟩)) rfl (asks_of rfl rfl (fun cs b e => (by cases e)) (fun ρ w => rfl) (fun ρ h w hw => by have h := h; clear hw; simp only [execOp]; go_simp)) rfl rfl (by kernel_rfl) (by kernel_rfl) (by kernel_rfl) (fun _ _ _ h => h) HTm.out ?_
    try simp only [Act.put, lay_out]
    refine anyS_take (i := 8) (x := .tmp 10) (p := .pointer (some ⟨b, 0, none⟩)) (v := .int .i64 (R : Int)) rfl (asks_of rfl rfl (fun cs b e => (by cases e)) (fun ρ w => rfl) (fun ρ h w hw => by have hc := hw.obj.elim fun _ h => h.rate; clear hw; simp only [execOp]; go_simp)) rfl rfl (by kernel_rfl) (by kernel_rfl) (by kernel_rfl) (fun _ _ _ h => h) HTm.out ?_
    try simp only [Act.put, lay_out]
    refine anyS_take (i := 10) (x := .tmp 1) (p := .pointer (some ⟨Bp, 0, none⟩)) (v := .pointer (some ⟨b, 0, none⟩)) rfl (asks_of rfl rfl (fun cs b e => (by cases e)) (fun ρ w => rfl) (fun ρ h w hw => by have hc := one_box hw.box; clear hw; simp only [execOp]; go_simp)) rfl rfl (by kernel_rfl) (by kernel_rfl) (by kernel_rfl) (fun _ _ _ h => h) HTm.out ?_
    try simp only [Act.put, lay_out]
    refine anyS_take (i := 11) (x := .tmp 13) (p := .pointer (some ⟨b, 0, none⟩)) (v := .pointer (some ⟨b, 0, none⟩)) rfl (asks_of rfl rfl (fun cs b e => (by cases e)) (fun ρ w => rfl) (fun ρ h w hw => by have h := h; clear hw; simp only [execOp]; go_simp)) rfl rfl (by kernel_rfl) (by kernel_rfl) (by kernel_rfl) (fun _ _ _ h => h) HTm.out ?_
    try simp only [Act.put, lay_out]
    refine anyS_take (i := 12) (x := .tmp 14) (p := .pointer (some ⟨b, 0, none⟩)) (v := .pointer (some ⟨b, 27, none⟩)) rfl (asks_of rfl rfl (fun cs b e => (by cases e)) (fun ρ w => rfl) (fun ρ h w hw => by have h := h; clear hw; simp only [execOp]; go_simp)) rfl rfl (by kernel_rfl) (by kernel_rfl) (by kernel_rfl) (fun _ _ _ h => h) HTm.out ?_
    try simp only [Act.put, lay_out]
    have HZ2 := hid (HJ.out _ _ HT.out.inv).2.at
    refine anyS_two (i := 9) (i' := 13) rfl rfl (by kernel_rfl) (fun K9 hK => ?_) (fun K9 hK => ?_)
    · rw [if_pos (by rfl)]
      go_simp
      refine ⟨trivial, ?_⟩
      gi_at_call 70
      refine (callsIn_wide.2 (HFk.out w2)).mono ?_
      rintro e w3 ⟨g, c, rfl, hc, ho, hb⟩
      have HT3 : Hid (Tt S J Bp b k w3) := hid ⟨(hb.block _ (Array.getElem?_eq_some_iff.1 HT.out.box).1).trans HT.out.box, HT.out.out, HS.out _ _ _ HT.out.inv hb⟩
      have HTm3 : Hid (Tm Bp b R mk G w3) := hid ⟨HT3.out.box, HTm.out.obj.elim fun a h => ⟨a, h.self hb⟩⟩
      have HO3 := hid ho
      have HN3 := hid (HW.out _ _ HT.out.inv)
      have HC3 := hid hc
      clear ho hb hc
      refine hK.out _ _ HTm3.out ?_
      clear hK K9
      try simp only [Act.put, lay_out]
      have c13 := (HJ.out _ _ HT3.out.inv).2.at
      refine anyS_one (i := 13) rfl (by kernel_rfl) (fun K9 hK => ?_)
      rw [if_pos (by rfl)]
      go_simp
      refine hK.out _ _ HTm3.out ?_
      clear hK K9 c13
      try simp only [Act.put, lay_out]
      have n1 : (0 : Int) < (c : Int) := by have := HR.out; have := HC3.out; omega
      have n2 : (R : Int) ≤ (c : Int) := by have := HC3.out; omega
      refine anyS_one (i := 14) rfl (by kernel_rfl) (fun K9 hK => ?_)
      rw [if_pos (by rfl)]
      go_simp
      refine hK.out _ _ HTm3.out ?_
      clear hK K9
      try simp only [Act.put, lay_out]
      have hy := HYk.out w3 g c _ HT3.out.inv HN3.out HC3.out HO3.out
      obtain ⟨fn, tmps, assign, body, hy, hRD⟩ := hy
      refine anyS_one (i := 15) rfl (by kernel_rfl) (fun K9 hK => ?_)
      rw [if_pos (by rfl)]
      go_simp
      refine hRD.mono ?_
      clear hRD hy
      rintro e w4 (⟨rfl, hj, hk⟩ | ⟨rfl, hjx, hk, hw⟩)
      · have HB4 := hid (hk.box HT3.out.box HT3.out.out.1)
        have HM4 := hid (HM.out _ _ hj)
        have HTm4 : Hid (Tm Bp b R mk G w4) := hid ⟨HB4.out, by rw [← HG.out]; exact HM4.out.1⟩
        clear hj hk
        refine hK.out _ _ HTm4.out ?_
        clear hK K9
        refine anyS_done (by kernel_rfl) ?_ _
        try simp only [Act.put, lay_out]
        have c1 := one_box HB4.out
        obtain ⟨a4, h4⟩ := HM4.out.1
        have HP4 := hid (HPe.out k a4 w4 h4)
        clear h4
        gi_wp2
        refine ⟨trivial, ?_⟩
        gi_at_call 67
        refine (callsIn_wide.2 HP4.out).mono ?_
        rintro e w5 ⟨⟨v5, rfl⟩, h5, o5⟩
        have HT5 : Hid (Tt S J Bp b (k + 1) w5) := hid ⟨(o5.block _ (Array.getElem?_eq_some_iff.1 HB4.out).1 HT3.out.out.2).trans HB4.out, HT3.out.out, HM4.out.2 w5 o5 h5⟩
        have HK5 := hid (HJ.out _ _ HT5.out.inv).1
        clear h5 o5
        gi_wp2
        gi_roundg (K - (k + 1))
        case rel => exact ⟨k + 1, rfl, HT5.out⟩
        case measure => have := HGk.out; have := HK5.out; omega
      · have HTm4 : Hid (Tm Bp b R mk G w4) := hid ⟨hk.box HT3.out.box HT3.out.out.1, hw⟩
        have HX4 := hid hjx
        clear hjx hk hw
        refine hK.out _ _ HTm4.out ?_
        clear hK K9
        refine anyS_done (by kernel_rfl) ?_ _
        try simp only [Act.put, lay_out]
        gi_wp2
        go_end0
        exact ⟨⟨_, rfl⟩, HX4.out⟩
    · rw [if_pos (by rfl)]
      have c13 := HZ2.out
      go_simp
      refine hK.out _ _ HTm.out ?_
      clear hK K9 c13
      try simp only [Act.put, lay_out]
      refine anyS_one (i := 9) rfl (by kernel_rfl) (fun K9 hK => ?_)
      rw [if_pos (by rfl)]
      go_simp
      refine ⟨trivial, ?_⟩
      gi_at_call 70
      refine (callsIn_wide.2 (HFk.out w2)).mono ?_
      rintro e w3 ⟨g, c, rfl, hc, ho, hb⟩
      have HT3 : Hid (Tt S J Bp b k w3) := hid ⟨(hb.block _ (Array.getElem?_eq_some_iff.1 HT.out.box).1).trans HT.out.box, HT.out.out, HS.out _ _ _ HT.out.inv hb⟩
      have HTm3 : Hid (Tm Bp b R mk G w3) := hid ⟨HT3.out.box, HTm.out.obj.elim fun a h => ⟨a, h.self hb⟩⟩
      have HO3 := hid ho
      have HN3 := hid (HW.out _ _ HT.out.inv)
      have HC3 := hid hc
      clear ho hb hc
      refine hK.out _ _ HTm3.out ?_
      clear hK K9
      try simp only [Act.put, lay_out]
      have n1 : (0 : Int) < (c : Int) := by have := HR.out; have := HC3.out; omega
      have n2 : (R : Int) ≤ (c : Int) := by have := HC3.out; omega
      refine anyS_one (i := 14) rfl (by kernel_rfl) (fun K9 hK => ?_)
      rw [if_pos (by rfl)]
      go_simp
      refine hK.out _ _ HTm3.out ?_
      clear hK K9
      try simp only [Act.put, lay_out]
      have hy := HYk.out w3 g c _ HT3.out.inv HN3.out HC3.out HO3.out
      obtain ⟨fn, tmps, assign, body, hy, hRD⟩ := hy
      refine anyS_one (i := 15) rfl (by kernel_rfl) (fun K9 hK => ?_)
      rw [if_pos (by rfl)]
      go_simp
      refine hRD.mono ?_
      clear hRD hy
      rintro e w4 (⟨rfl, hj, hk⟩ | ⟨rfl, hjx, hk, hw⟩)
      · have HB4 := hid (hk.box HT3.out.box HT3.out.out.1)
        have HM4 := hid (HM.out _ _ hj)
        have HTm4 : Hid (Tm Bp b R mk G w4) := hid ⟨HB4.out, by rw [← HG.out]; exact HM4.out.1⟩
        clear hj hk
        refine hK.out _ _ HTm4.out ?_
        clear hK K9
        refine anyS_done (by kernel_rfl) ?_ _
        try simp only [Act.put, lay_out]
        have c1 := one_box HB4.out
        obtain ⟨a4, h4⟩ := HM4.out.1
        have HP4 := hid (HPe.out k a4 w4 h4)
        clear h4
        gi_wp2
        refine ⟨trivial, ?_⟩
        gi_at_call 67
        refine (callsIn_wide.2 HP4.out).mono ?_
        rintro e w5 ⟨⟨v5, rfl⟩, h5, o5⟩
        have HT5 : Hid (Tt S J Bp b (k + 1) w5) := hid ⟨(o5.block _ (Array.getElem?_eq_some_iff.1 HB4.out).1 HT3.out.out.2).trans HB4.out, HT3.out.out, HM4.out.2 w5 o5 h5⟩
        have HK5 := hid (HJ.out _ _ HT5.out.inv).1
        clear h5 o5
        gi_wp2
        gi_roundg (K - (k + 1))
        case rel => exact ⟨k + 1, rfl, HT5.out⟩
        case measure => have := HGk.out; have := HK5.out; omega
      · have HTm4 : Hid (Tm Bp b R mk G w4) := hid ⟨hk.box HT3.out.box HT3.out.out.1, hw⟩
        have HX4 := hid hjx
        clear hjx hk hw
        refine hK.out _ _ HTm4.out ?_
        clear hK K9
        refine anyS_done (by kernel_rfl) ?_ _
        try simp only [Act.put, lay_out]
        gi_wp2
        go_end0
        exact ⟨⟨_, rfl⟩, HX4.out⟩
end Go.Proofs.Ythcjgjhoifnpjaa

/- Sponge: Write. -/
namespace Go.Proofs.Ythcjgjhoifnpjaa
open Go.RowKit Go.Shelf
set_option maxRecDepth 100000
attribute [local go_sem] Oper.semAt_some

theorem region_N {F : Fence} {n : Nat} {P : Program} {ops : Array Oper} {Q : Exit → Act → World → Prop} {id : Nat} {a : Act} {w : World} (S : World → Prop) (hm : P.follows .mixedOrders = true)
    (h : anyS F n P .any ops (nrm Q) S ops.size (Array.replicate ops.size false) a w.drew) : (Code.region id ops true).wpIn F n P Q a w :=
  wpIn_mono (region_S (Q := nrm Q) S hm h) fun e _ _ q => by cases e <;> first | exact q | exact q.elim
theorem Wo.put {w : World} {b R : Nat} {mk : Int} {F : Nat → Nat} {a : Nat} {r : Bool} (h : Wo w b R mk F a r) {l : Nat} (hl : b ≠ l) (o : Obj) : Wo (w.putObj l o) b R mk F a r := (World.putObj_heap_other hl).trans h
theorem only_put {b l : Nat} {w A : World} (h : Only b w A) (hl : w.heap.size ≤ l) (o : Obj) : Only b w (A.putObj l o) :=
  ⟨h.os, h.tape, h.output, by rw [World.putObj_size]; exact h.size, fun j hj hb => (World.putObj_heap_other (by omega)).trans (h.block j hj hb)⟩
/-- Between two rounds: t bytes have been entered. -/
structure Fw (w : World) (b q : Nat) (mk : Int) (zs ps : List Int) (rec : Loop) (t : Nat) (A : World) : Prop where
  loop : A.heap[w.heap.size + 5]? = some (.loop rec)
  dfr : A.heap[w.heap.size + 4]? = some (.deferred (some []))
  box : A.heap[w.heap.size]? = some (.cells #[.pointer (some ⟨b, 0, none⟩)] 61 (0, 0))
  obj : Wo A b (8 * q) mk (wkF q (zs ++ ps.take t)) ((zs ++ ps.take t).length % (8 * q)) false
  low : Only b w A
section
variable {w A B : World} {b q t s : Nat} {mk : Int} {zs ps : List Int} {rec : Loop}
theorem Fw.drew (h : Fw w b q mk zs ps rec t A) : Fw w b q mk zs ps rec t A.drew := ⟨h.loop, h.dfr, h.box, h.obj.drew, h.low.drew⟩
/-- A piece fits its block. -/
theorem pc_fit {f R L t s : Nat} (hf : f < R) (ht : t = 0 ∨ (f + t) % R = 0) (hs : s = min (rmN R f t) (L - t)) : (f + t) % R + s ≤ R := by
  unfold rmN at hs
  by_cases h0 : t = 0
  · subst h0
    rw [if_pos rfl] at hs
    rw [Nat.add_zero, Nat.mod_eq_of_lt hf]; omega
  · rw [if_neg h0] at hs
    rcases ht with h | h
    · exact absurd h h0
    · rw [h]; omega
theorem Fw.entered (h : Fw w b q mk zs ps rec t A) (hq : 1 ≤ q ∧ q ≤ 24) (hz : ∀ z ∈ zs, 0 ≤ z ∧ z ≤ 255) (hp : ∀ z ∈ ps, 0 ≤ z ∧ z ≤ 255) (hs : ((ps.drop t).take s).length = s) (hfit : (zs ++ ps.take t).length % (8 * q) + s ≤ 8 * q)
    {C D : World} (hb : b < w.heap.size) (hC : C = A.putObj (w.heap.size + 5) (.loop { rec with state := .busy })) (hr : ({ rec with state := .ready, pending := none } : Loop) = rec) {e : Ending}
    (hE : EnP C b q ((zs ++ ps.take t).length % (8 * q)) mk (wkF q (zs ++ ps.take t)) false ((ps.drop t).take s) e D) :
    D.heap[w.heap.size + 5]? = some (.loop { rec with state := .busy }) ∧ Fw w b q mk zs ps rec (t + s) (D.putObj (w.heap.size + 5) (.loop { rec with state := .ready, pending := none })) ∧ Kp (fun j => j = b ∨ j = w.heap.size + 5) A (D.putObj (w.heap.size + 5) (.loop { rec with state := .ready, pending := none })) := by
  obtain ⟨_, ho, h1, h2⟩ := hE
  rw [hs] at h1 h2
  have hl : w.heap.size + 5 < A.heap.size := (Array.getElem?_eq_some_iff.1 h.loop).1
  have hsz : C.heap.size = A.heap.size := by rw [hC, World.putObj_size]
  have hCo : ∀ j, j ≠ w.heap.size + 5 → C.heap[j]? = A.heap[j]? := fun j hj => by rw [hC]; exact World.putObj_heap_other hj
  have hD : ∀ j, j < A.heap.size → j ≠ b → j ≠ w.heap.size + 5 → D.heap[j]? = A.heap[j]? := fun j hj hb hn => (ho.block j (by omega) hb).trans (hCo j hn)
  have hDl : D.heap[w.heap.size + 5]? = some (.loop { rec with state := .busy }) := (ho.block _ (by omega) (by omega)).trans (by rw [hC]; exact World.putObj_heap_same hl)
  have htk : zs ++ ps.take t ++ (ps.drop t).take s = zs ++ ps.take (t + s) := by rw [List.append_assoc, ← List.take_add]
  have hbs : ∀ z ∈ zs ++ ps.take t, 0 ≤ z ∧ z ≤ 255 := fun z h => (List.mem_append.1 h).elim (hz z) (fun h => hp z (List.mem_of_mem_take h))
  have hbp : ∀ z ∈ (ps.drop t).take s, 0 ≤ z ∧ z ≤ 255 := fun z h => hp z (List.mem_of_mem_drop (List.mem_of_mem_take h))
  have hobj : Wo D b (8 * q) mk (wkF q (zs ++ ps.take (t + s))) ((zs ++ ps.take (t + s)).length % (8 * q)) false := by
    by_cases hlt : (zs ++ ps.take t).length % (8 * q) + s < 8 * q
    · have h3 := wk_short (zs := zs ++ ps.take t) (ps := (ps.drop t).take s) hq.1 hbs hbp (by rw [hs]; exact hlt)
      rw [htk, hs] at h3
      exact (h1 hlt).to h3.1 h3.2.symm rfl
    · have he : (zs ++ ps.take t).length % (8 * q) + s = 8 * q := by omega
      have h3 := wk_full (zs := zs ++ ps.take t) (ps := (ps.drop t).take s) hq.1 hbs hbp (by rw [hs]; exact he)
      rw [htk] at h3
      exact (h2 he).to h3.1 h3.2.symm rfl
  have hlow : Only b w D := by
    have : Only b w C := by rw [hC]; exact only_put h.low (by omega) _
    exact this.trans ho
  refine ⟨hDl, ⟨?_, (World.putObj_heap_other (by omega)).trans ((hD _ (by omega) (by omega) (by omega)).trans h.dfr), (World.putObj_heap_other (by omega)).trans ((hD _ (by omega) (by omega) (by omega)).trans h.box), hobj.put (by omega) _, only_put hlow (by omega) _⟩, ?_⟩
  · rw [World.putObj_heap_same (Array.getElem?_eq_some_iff.1 hDl).1, hr]
  · exact ⟨by rw [World.putObj_size]; have := ho.size; omega, fun j hj hS => (World.putObj_heap_other (fun e => hS (.inr e))).trans (hD j hj (fun e => hS (.inl e)) (fun e => hS (.inr e)))⟩
end
set_option maxHeartbeats 3200000 in
theorem write_any (b q : Nat) (mk : Int) (zs ps : List Int) (v : Value) (w : World) (hW : Wo w b (8 * q) mk (wkF q zs) (zs.length % (8 * q)) false) (hq : 1 ≤ q ∧ q ≤ 24) (hz : ∀ z ∈ zs, 0 ≤ z ∧ z ≤ 255)
    (hk : Kept b w v ps) (hc : ∀ a n c, v = .slice a n c → n ≤ c ∧ c ≤ maxLen) (hl : ps.length ≤ 1000000) :
    Calls Try.prog 47 #[.pointer (some ⟨b, 0, none⟩), v] w fun e w' => e = .returned (.int .i64 0) ∧ Wo w' b (8 * q) mk (wkF q (zs ++ ps)) ((zs ++ ps).length % (8 * q)) false ∧ Only b w w' := by
  obtain ⟨f, hf⟩ : ∃ f, zs.length % (8 * q) = f := ⟨_, rfl⟩
  have hfl : f < 8 * q := by rw [← hf]; exact Nat.mod_lt _ (by omega)
  obtain ⟨p, cap, rfl, hpa⟩ : ∃ p cap, v = .slice p ps.length cap ∧ (0 < ps.length → ∃ g off, p = some ⟨g, off, none⟩) := by
    obtain ⟨p, cap, e, _, _, h⟩ := hk.rd
    exact ⟨p, cap, e, fun h0 => by obtain ⟨g, off, e, _⟩ := h h0; exact ⟨g, off, e⟩⟩
  obtain ⟨hc1, hc2⟩ := hc _ _ _ rfl
  have hb := hW.lt
  have W1 : Wo (w.alloc (.cells #[.pointer (some ⟨b, 0, none⟩)] 61)) b (8 * q) mk (wkF q zs) f false := by rw [hf] at hW; exact hW.alloc _
  have HNo := hid (nobodys_any W1 hq)
  have c1 := cell_new0 w (.pointer (some ⟨b, 0, none⟩)) 61
  have c28 := W1.done
  have HB1 : Hid (Below w.heap.size w (w.alloc (.cells #[.pointer (some ⟨b, 0, none⟩)] 61))) := hid ((Below.refl _ _).alloc (Nat.le_refl _) _)
  have hN1 : (w.alloc (.cells #[.pointer (some ⟨b, 0, none⟩)] 61)).heap.size = w.heap.size + 1 := by simp
  have hbx : (w.alloc (.cells #[.pointer (some ⟨b, 0, none⟩)] 61)).heap[w.heap.size]? = some (.cells #[.pointer (some ⟨b, 0, none⟩)] 61 (0, 0)) := heap_alloc_new w _
  refine (callsIn_wide (n := 7)).1 ?_
  refine callsIn_of_wp_marks Try.func47 rfl trivial ?_ rfl
  simp only [Try.ntmps47, List.size_toArray, List.length_cons, List.length_nil, Nat.reduceAdd, Nat.reduceSub, Array.replicate_succ, Array.replicate_zero, List.push_toArray, List.append_toArray, List.nil_append, List.cons_append]
  gi_wp2_with (first
    | (refine ⟨trivial, ?_⟩; gi_at_call 57; refine (callsIn_wide.2 HNo.out).mono ?_; rintro e w1 ⟨rfl, rfl⟩))
  have HS2 : Hid ((w.alloc (.cells #[.pointer (some ⟨b, 0, none⟩)] 61)).drew.heap[w.heap.size]? = some (.cells #[.pointer (some ⟨b, 0, none⟩)] 61 (0, 0)) ∧ Wo (w.alloc (.cells #[.pointer (some ⟨b, 0, none⟩)] 61)).drew b (8 * q) mk (wkF q zs) f false) := hid ⟨hbx, W1.drew⟩
  obtain ⟨F, hF⟩ : ∃ F, wkF q zs = F := ⟨_, rfl⟩
  have HF := hid hF
  obtain ⟨R, hR⟩ : ∃ R, 8 * q = R := ⟨_, rfl⟩
  have HR := hid hR
  rw [hF, hR] at HS2
  have HB2 : Hid (Below w.heap.size w (w.alloc (.cells #[.pointer (some ⟨b, 0, none⟩)] 61)).drew) := hid HB1.out.drew
  have hN2 : (w.alloc (.cells #[.pointer (some ⟨b, 0, none⟩)] 61)).drew.heap.size = w.heap.size + 1 := hN1
  have HQ : Hid ((1 ≤ q ∧ q ≤ 24) ∧ (∀ z ∈ zs, 0 ≤ z ∧ z ≤ 255) ∧ ps.length ≤ 1000000 ∧ ps.length ≤ cap ∧ cap ≤ maxLen ∧ (0 < ps.length → ∃ g off, p = some ⟨g, off, none⟩) ∧ f < R ∧ zs.length % R = f ∧ b < w.heap.size) := hid ⟨hq, hz, hl, hc1, hc2, hpa, by omega, by rw [← hR]; exact hf, hb⟩
  have HK := hid hk
  clear hk hc hl hq hz hc1 hc2 hpa hfl hf hb hW W1 HNo c1 c28 HB1 hN1 hbx hF hR
  refine region_N (fun w' => w'.heap[w.heap.size]? = some (.cells #[.pointer (some ⟨b, 0, none⟩)] 61 (0, 0)) ∧ Wo w' b R mk F f false) (by kernel_rfl) ?_
  generalize (w.alloc (.cells #[.pointer (some ⟨b, 0, none⟩)] 61)).drew = w2 at *
  refine anyS_take (i := 0) (x := .tmp 1) (p := (.slice p ps.length cap)) (v := (.slice p ps.length cap)) rfl (asks_of rfl rfl (fun cs b e => (by cases e)) (fun ρ w => rfl) (fun ρ h w hw => by have h := h; clear hw; simp only [execOp]; go_simp)) rfl rfl (by kernel_rfl) (by kernel_rfl) (by kernel_rfl) (fun _ _ _ h => h) HS2.out ?_
  try simp only [Act.put, lay_out]
  refine anyS_take (i := 1) (x := .tmp 2) (p := .pointer (some ⟨w.heap.size, 0, none⟩)) (v := .pointer (some ⟨b, 0, none⟩)) rfl (asks_of rfl rfl (fun cs b e => (by cases e)) (fun ρ w => rfl) (fun ρ h w hw => by have hc := one_box hw.1; clear hw; simp only [execOp]; go_simp)) rfl rfl (by kernel_rfl) (by kernel_rfl) (by kernel_rfl) (fun _ _ _ h => h) HS2.out ?_
  try simp only [Act.put, lay_out]
  refine anyS_take (i := 2) (x := .tmp 15) (p := .pointer (some ⟨b, 0, none⟩)) (v := .pointer (some ⟨b, 0, none⟩)) rfl (asks_of rfl rfl (fun cs b e => (by cases e)) (fun ρ w => rfl) (fun ρ h w hw => by have h := h; clear hw; simp only [execOp]; go_simp)) rfl rfl (by kernel_rfl) (by kernel_rfl) (by kernel_rfl) (fun _ _ _ h => h) HS2.out ?_
  try simp only [Act.put, lay_out]
  refine anyS_take (i := 3) (x := .tmp 16) (p := .pointer (some ⟨b, 0, none⟩)) (v := .pointer (some ⟨b, 27, none⟩)) rfl (asks_of rfl rfl (fun cs b e => (by cases e)) (fun ρ w => rfl) (fun ρ h w hw => by have h := h; clear hw; simp only [execOp]; go_simp)) rfl rfl (by kernel_rfl) (by kernel_rfl) (by kernel_rfl) (fun _ _ _ h => h) HS2.out ?_
  try simp only [Act.put, lay_out]
  refine anyS_take (i := 4) (x := .tmp 17) (p := .pointer (some ⟨b, 27, none⟩)) (v := .int .i64 (f : Int)) rfl (asks_of rfl rfl (fun cs b e => (by cases e)) (fun ρ w => rfl) (fun ρ h w hw => by have hc := hw.2.at; clear hw; simp only [execOp]; go_simp)) rfl rfl (by kernel_rfl) (by kernel_rfl) (by kernel_rfl) (fun _ _ _ h => h) HS2.out ?_
  try simp only [Act.put, lay_out]
  refine anyS_take (i := 5) (x := .tmp 2) (p := .pointer (some ⟨w.heap.size, 0, none⟩)) (v := .pointer (some ⟨b, 0, none⟩)) rfl (asks_of rfl rfl (fun cs b e => (by cases e)) (fun ρ w => rfl) (fun ρ h w hw => by have hc := one_box hw.1; clear hw; simp only [execOp]; go_simp)) rfl rfl (by kernel_rfl) (by kernel_rfl) (by kernel_rfl) (fun _ _ _ h => h) HS2.out ?_
  try simp only [Act.put, lay_out]
  refine anyS_take (i := 6) (x := .tmp 19) (p := .pointer (some ⟨b, 0, none⟩)) (v := .pointer (some ⟨b, 0, none⟩)) rfl (asks_of rfl rfl (fun cs b e => (by cases e)) (fun ρ w => rfl) (fun ρ h w hw => by have h := h; clear hw; simp only [execOp]; go_simp)) rfl rfl (by kernel_rfl) (by kernel_rfl) (by kernel_rfl) (fun _ _ _ h => h) HS2.out ?_
  try simp only [Act.put, lay_out]
  refine anyS_take (i := 7) (x := .tmp 20) (p := .pointer (some ⟨b, 0, none⟩)) (v := .pointer (some ⟨b, 0, none⟩)) rfl (asks_of rfl rfl (fun cs b e => (by cases e)) (fun ρ w => rfl) (fun ρ h w hw => by have h := h; clear hw; simp only [execOp]; go_simp)) rfl rfl (by kernel_rfl) (by kernel_rfl) (by kernel_rfl) (fun _ _ _ h => h) HS2.out ?_
  try simp only [Act.put, lay_out]
  refine anyS_take (i := 8) (x := .tmp 21) (p := .pointer (some ⟨b, 0, none⟩)) (v := .int .i64 (R : Int)) rfl (asks_of rfl rfl (fun cs b e => (by cases e)) (fun ρ w => rfl) (fun ρ h w hw => by have hc := hw.2.rate; clear hw; simp only [execOp]; go_simp)) rfl rfl (by kernel_rfl) (by kernel_rfl) (by kernel_rfl) (fun _ _ _ h => h) HS2.out ?_
  try simp only [Act.put, lay_out]
  refine anyS_one (i := 9) rfl (by kernel_rfl) (fun K9 hK => ?_)
  rw [if_pos (by rfl)]
  go_simp
  refine ⟨trivial, ?_⟩
  gi_at_call 58
  refine (callsIn_wide.2 (pieces_any p ps.length cap f R w2)).mono ?_
  rintro e w3 ⟨rfl, rfl⟩
  have e1 : ∀ (u : World) (o : Obj) (j : Nat), j = u.heap.size → (u.alloc o).heap[j]? = some o := fun u o j h => by subst h; exact heap_alloc_new u o
  have e2 : ∀ (u : World) (o : Obj) (j : Nat) (x : Obj), u.heap[j]? = some x → (u.alloc o).heap[j]? = some x := fun u o j x h => (heap_alloc_old u o (Array.getElem?_eq_some_iff.1 h).1).trans h
  have HLy : Hid (∀ W3, ((w2.alloc (.cells #[.slice p ps.length cap] 22)).alloc (.cells #[.int .i64 (f : Int)] 3)).alloc (.cells #[.int .i64 (R : Int)] 3) = W3 →
      W3.heap[w.heap.size]? = some (.cells #[.pointer (some ⟨b, 0, none⟩)] 61 (0, 0)) ∧ Wo W3 b R mk F f false ∧ W3.heap[w.heap.size + 1]? = some (.cells #[.slice p ps.length cap] 22 (0, 0)) ∧ W3.heap[w.heap.size + 2]? = some (.cells #[.int .i64 (f : Int)] 3 (0, 0)) ∧
      W3.heap[w.heap.size + 3]? = some (.cells #[.int .i64 (R : Int)] 3 (0, 0)) ∧ W3.heap.size = w.heap.size + 4 ∧ Below w.heap.size w W3) := hid (by
    rintro W3 rfl
    refine ⟨e2 _ _ _ _ (e2 _ _ _ _ (e2 _ _ _ _ HS2.out.1)), ((HS2.out.2.alloc _).alloc _).alloc _, e2 _ _ _ _ (e2 _ _ _ _ (e1 _ _ _ (by omega))), e2 _ _ _ _ (e1 _ _ _ (by rw [World.size_alloc]; omega)), e1 _ _ _ (by rw [World.size_alloc, World.size_alloc]; omega), by simp; omega, ?_⟩
    exact ((HB2.out.alloc (by omega) _).alloc (by rw [World.size_alloc]; omega) _).alloc (by rw [World.size_alloc, World.size_alloc]; omega) _)
  generalize hW3 : ((w2.alloc (.cells #[.slice p ps.length cap] 22)).alloc (.cells #[.int .i64 (f : Int)] 3)).alloc (.cells #[.int .i64 (R : Int)] 3) = W3 at *
  have HW3 := hid (HLy.out W3 rfl)
  clear HLy hW3
  rw [hN2]
  refine hK.out _ _ ⟨HW3.out.1, HW3.out.2.1⟩ ?_
  clear hK K9 e1 e2 HS2 HB2 hN2
  refine anyS_done (by kernel_rfl) ?_ _
  try simp only [Act.put, lay_out]
  simp only [nrm, Exit.then]
  gi_wp2
  refine range_wide (w.heap.size + 5) (by rw [HW3.out.2.2.2.2.2.1]) (gf := 65) (lb := #[.pointer (some ⟨w.heap.size + 1, 0, none⟩), .pointer (some ⟨w.heap.size + 1 + 2, 0, none⟩), .pointer (some ⟨w.heap.size + 1 + 1, 0, none⟩)]) rfl (enters_of Try.func65 (by kernel_rfl) rfl) (fun rec r1 r0 r2 r3 r4 r5 => ?_)
  rw [HW3.out.2.2.2.2.2.1]
  obtain ⟨h1, h2, h3, h4, h5, h6, h7⟩ := HW3.out
  obtain ⟨W5, hW5⟩ : ∃ W5, (W3.alloc (.deferred (some []))).alloc (.loop rec) = W5 := ⟨_, rfl⟩
  rw [hW5]
  have e1 : ∀ (u : World) (o : Obj) (j : Nat), j = u.heap.size → (u.alloc o).heap[j]? = some o := fun u o j h => by subst h; exact heap_alloc_new u o
  have e2 : ∀ (u : World) (o : Obj) (j : Nat) (x : Obj), u.heap[j]? = some x → (u.alloc o).heap[j]? = some x := fun u o j x h => (heap_alloc_old u o (Array.getElem?_eq_some_iff.1 h).1).trans h
  have hrec : ({ rec with state := .ready, pending := none } : Loop) = rec := by cases rec; simp_all
  obtain ⟨⟨hq, hz, hl, hc1, hc2, hpa, hfl, hf, hb⟩, hk⟩ := And.intro HQ.out HK.out
  have hp := rd_bytes hk.rd
  have h25 : Wo W5 b (8 * q) mk (wkF q zs) f false := by rw [← hW5, HR.out, HF.out]; exact (h2.alloc _).alloc _
  have hF0 : Fw w b q mk zs ps rec 0 W5 := ⟨by rw [← hW5]; exact e1 _ _ _ (by rw [World.size_alloc]; omega), by rw [← hW5]; exact e2 _ _ _ _ (e1 _ _ _ (by omega)), by rw [← hW5]; exact e2 _ _ _ _ (e2 _ _ _ _ h1),
    by rw [List.take_zero, List.append_nil, HR.out, hf, ← HR.out]; exact h25, by rw [← hW5]; exact Only.of_below ((h7.alloc (by omega) _).alloc (by rw [World.size_alloc]; omega) _)⟩
  have ho : ∀ j, b < j → j < w.heap.size + 5 → ¬ (j = b ∨ j = w.heap.size + 5) := fun j h1 h2 => by omega
  refine (told_pieces (fun j => j = b ∨ j = w.heap.size + 5) (Fw w b q mk zs ps rec) (w.heap.size + 5) (w.heap.size + 1) (w.heap.size + 1 + 1) (w.heap.size + 1 + 2) R f ps.length cap p W5 ⟨hfl, by have := HR.out; omega, hl, hc1, hc2⟩ hpa (fun t A h => h.drew) (fun t A s qv c hA ht h0 hs hqv => ?_)
    ⟨by rw [← hW5]; exact e2 _ _ _ _ (e2 _ _ _ _ h3), by rw [← hW5]; exact e2 _ _ _ _ (e2 _ _ _ _ h4), by rw [← hW5]; exact e2 _ _ _ _ (e2 _ _ _ _ h5), ⟨ho _ (by omega) (by omega), ho _ (by omega) (by omega), ho _ (by omega) (by omega)⟩, hF0⟩).mono ?_
  · obtain ⟨g, off, hpo⟩ := hpa (by omega)
    have hqv2 := hqv g off hpo
    subst hqv2
    subst hpo
    refine round_wide hA.loop r1 r2 r3 r4 r5 rfl ?_
    have hsl : s ≤ ps.length - t := by rw [hs]; omega
    have hlen : ((ps.drop t).take s).length = s := by rw [List.length_take, List.length_drop]; omega
    have hta : (zs ++ ps.take t).length = zs.length + t := by rw [List.length_append, List.length_take]; omega
    have hfit : (zs ++ ps.take t).length % (8 * q) + s ≤ 8 * q := by
      have h9 := pc_fit (L := ps.length) hfl h0 hs
      have h8 : (zs.length + t) % R = (f + t) % R := by rw [← hf, Nat.mod_add_mod]
      rw [hta, HR.out, h8]
      exact h9
    have HA := hid hA
    have HKp : Hid (∀ C, Only b w C → Kept b C (.slice (some ⟨g, off + t, none⟩) s c) ((ps.drop t).take s)) := hid fun C hC W hW => rd_sub (hk W (hC.trans hW)) (by omega) (fun _ => rfl)
    have HEn := hid (fun C (hC : C = A.putObj (w.heap.size + 5) (.loop { rec with state := .busy })) => enter_any b q ((zs ++ ps.take t).length % (8 * q)) mk (wkF q (zs ++ ps.take t)) false (.slice (some ⟨g, off + t, none⟩) s c) ((ps.drop t).take s) C
      (by rw [hC]; exact hA.obj.put (by omega) _) (wk_w q _) hq (HKp.out C (by rw [hC]; exact only_put hA.low (by omega) _)) (by rw [hlen]; exact hfit))
    have HFe := hid (fun (C D : World) e hC hE => hA.entered hq hz hp hlen hfit (C := C) (D := D) hb hC hrec (e := e) hE)
    have HBx := hid hA.box
    clear hA hF0 h25 ho hk hp hz hrec hpa hqv hsl hlen hta hfit hs h0 r0 r1 r2 r3 r4 r5 h1 h2 h3 h4 h5 h6 h7 hW5 e1 e2
    simp only [Array.zip, List.zipWith_toArray, List.zipWith_cons_cons, List.zipWith_nil_right, List.foldl_toArray, List.foldl_cons, List.foldl_nil, List.setIfInBounds_toArray, lay_out]
    refine region0_R (by kernel_rfl) ?_
    go_wp2
    refine ⟨HA.out.loop, ?_⟩
    obtain ⟨C, hC⟩ : ∃ C, A.putObj (w.heap.size + 5) (.loop { rec with state := .busy }) = C := ⟨_, rfl⟩
    have c5 : C.cell? ⟨w.heap.size, 0, none⟩ = some (.pointer (some ⟨b, 0, none⟩)) := by rw [← hC]; exact one_box ((World.putObj_heap_other (by omega)).trans HBx.out)
    have HC := hid hC
    rw [hC]
    clear hC
    gi_wp2
    refine ⟨trivial, ?_⟩
    gi_at_call 59
    refine (callsR (HEn.out C HC.out.symm)).mono ?_
    rintro e w3 hE
    have HD := hid (HFe.out C w3 e HC.out.symm hE)
    obtain ⟨⟨v3, rfl⟩, _⟩ := hE
    gi_wp2
    exact ⟨HD.out.1, rfl, HD.out.2.1, HD.out.2.2⟩
  · rintro e w' ⟨⟨v, rfl⟩, hfe⟩
    refine ⟨v, rec, rfl, hfe.loop, by rw [r1]; simp, ?_⟩
    rw [r0]
    dsimp only
    have hlb : b ≠ w.heap.size + 5 := by omega
    have HO6 : Hid (Wo (w'.putObj (w.heap.size + 5) (.loop { rec with state := .exhausted })) b (8 * q) mk (wkF q (zs ++ ps)) ((zs ++ ps).length % (8 * q)) false ∧ Only b w (w'.putObj (w.heap.size + 5) (.loop { rec with state := .exhausted }))) := hid
      ⟨by have := hfe.obj; rw [List.take_length] at this; exact this.put hlb _, only_put hfe.low (by omega) _⟩
    have hK := (World.putObj_heap_other (w := w') (o := .loop { rec with state := .exhausted }) (show w.heap.size + 4 ≠ w.heap.size + 5 by omega)).trans hfe.dfr
    have HB := hid hb
    obtain ⟨w6, hw6⟩ : ∃ w6, w'.putObj (w.heap.size + 5) (.loop { rec with state := .exhausted }) = w6 := ⟨_, rfl⟩
    rw [r0] at hw6
    simp only [r0] at HO6 hK
    rw [hw6] at HO6 hK ⊢
    clear hw6 hfe hF0 h25 ho hk hp hz hrec hpa r0 r1 r2 r3 r4 r5 h1 h2 h3 h4 h5 h6 h7 hW5 e1 e2 hb hlb
    gi_wp2
    refine ⟨by simp, .inl ⟨_, _, rfl, run_takeDeferred hK, ?_⟩⟩
    exact ⟨_, results_tmp rfl _ _ _, rfl, HO6.out.1.put (by have := HB.out; omega) _, only_put HO6.out.2 (by omega) _⟩
end Go.Proofs.Ythcjgjhoifnpjaa

/- Sponge: Read, of what was not read from yet. -/
namespace Go.Proofs.Ythcjgjhoifnpjaa
open Go.RowKit Go.Shelf
set_option maxRecDepth 100000
attribute [local go_sem] Oper.semAt_some

theorem plain_in {r : Option Nat} {n : Nat} {P : Program} {ops : Array Oper} {rest : List Oper} {o : Oper} {a : Act} {w : World} {Q : Exit → Act → World → Prop} (hg : o.guard = none) (hd : ∀ c, o.op ≠ .defer c)
    (h : o.wp P a w (fun a w => wpListIn (wideR r) n P ops Q rest a w) Q) : wpListIn (wideR r) n P ops Q (o :: rest) a w := by
  have hw : Region.wanted o (yielded ops a.tmps) = true := always hg _
  unfold wpListIn
  rw [if_pos hw]
  refine ⟨fun _ _ => trivial, ?_⟩
  rw [Oper.semAt_eq _ _ _ hd]
  exact upon_R h
theorem at_append {F : Fence} {n : Nat} {P : Program} {ops : Array Oper} {rest : List Oper} {o : Oper} {a : Act} {w : World} {Q : Exit → Act → World → Prop} (s x : Operand) (t : TypeId)
    (_ : o.op = .call { callee := .builtin .append, args := #[s, x], argTypes := #[t, t] }) (h : wpListIn F n P ops Q (o :: rest) a w) : wpListIn F n P ops Q (o :: rest) a w := h
theorem only_cell {b : Nat} {w A : World} (h : Only b w A) {p : Addr} (hp : w.heap.size ≤ p.block) (v : Value) : Only b w (A.setCell p v) :=
  ⟨h.os, h.tape, h.output, by simpa [World.setCell] using h.size, fun j hj hb => (heap_setCell_other A p j v (by omega)).trans (h.block j hj hb)⟩
/-- In a round, or between two: A the world at its start. -/
structure Rr (w : World) (M b q n : Nat) (mk : Int) (F : Nat → Nat) (lo : Loop) (Q T : Nat) (L : List Int) (a : Nat) (A C : World) : Prop where
  loop : C.heap[M + 4]? = some (.loop lo)
  dfr : C.heap[M + 3]? = some (.deferred (some []))
  bx : C.heap[w.heap.size]? = some (.cells #[.pointer (some ⟨b, 0, none⟩)] 61 (0, 0))
  num : C.heap[w.heap.size + 1]? = some (.cells #[.int .i64 (n : Int)] 3 (0, 0))
  out : C.heap[M + 1]? = some (.cells #[.slice (some ⟨M, 0, none⟩) Q n] 22 (0, 0))
  own : Own .u8 M 5 C (.slice (some ⟨M, 0, none⟩) T n) L
  obj : Wo C b (8 * q) mk F a true
  low : Only b w C
  kp : Kp (fun j => j = b ∨ j = M ∨ j = M + 1 ∨ j = M + 4) A C
  pl : b < w.heap.size ∧ w.heap.size + 2 ≤ M
section
variable {w A B C D : World} {M b q n : Nat} {mk : Int} {F G : Nat → Nat} {lo lo' : Loop} {Q T T' a a' : Nat} {L L' : List Int}
theorem own_blk {B' : Nat} {E : TypeId} {w w' : World} {g n c : Nat} {zs : List Int} (h : Own .u8 B' E w (.slice (some ⟨g, 0, none⟩) n c) zs) (hg : w'.heap[g]? = w.heap[g]?) : Own .u8 B' E w' (.slice (some ⟨g, 0, none⟩) n c) zs := by
  obtain ⟨h1, h2⟩ := h
  rcases h2 with ⟨h0, _⟩ | ⟨g', cap, cur, hv, hb, hc, hn, hcap, hsz, ht⟩
  · cases h0
  · injection hv with e1 e2 e3
    injection e1 with e1
    injection e1 with e1
    subst e1
    exact ⟨h1, .inr ⟨g, cap, cur, by rw [e2, e3], hb, hg.trans hc, hn, hcap, hsz, ht⟩⟩
theorem kp_refl (S : Nat → Prop) (A : World) : Kp S A A := ⟨Nat.le_refl _, fun _ _ _ => rfl⟩
theorem Rr.reset (h : Rr w M b q n mk F lo Q T L a A C) : Rr w M b q n mk F lo Q T L a C C := ⟨h.loop, h.dfr, h.bx, h.num, h.out, h.own, h.obj, h.low, kp_refl _ _, h.pl⟩
theorem Rr.big (h : Rr w M b q n mk F lo Q T L a A C) : M + 5 ≤ C.heap.size := (Array.getElem?_eq_some_iff.1 h.loop).1
theorem Rr.put_lo (h : Rr w M b q n mk F lo Q T L a A C) (lo' : Loop) : Rr w M b q n mk F lo' Q T L a A (C.putObj (M + 4) (.loop lo')) := by
  have hp := h.pl
  exact ⟨World.putObj_heap_same h.big, (World.putObj_heap_other (by omega)).trans h.dfr, (World.putObj_heap_other (by omega)).trans h.bx, (World.putObj_heap_other (by omega)).trans h.num, (World.putObj_heap_other (by omega)).trans h.out,
    own_blk h.own (World.putObj_heap_other (by omega)), h.obj.put (by omega) _, only_put h.low (by omega) _,
    ⟨by rw [World.putObj_size]; exact h.kp.size, fun j hj hS => (World.putObj_heap_other (fun e => hS (.inr (.inr (.inr e))))).trans (h.kp.block j hj hS)⟩, hp⟩
theorem Rr.grown (h : Rr w M b q n mk F lo Q T L a A C) (hg : C.grownBy D (some M)) (ho : Own .u8 M 5 D (.slice (some ⟨M, 0, none⟩) T' n) L') : Rr w M b q n mk F lo Q T' L' a A D := by
  have hp := h.pl
  have hb := h.big
  have hk : ∀ j, j < C.heap.size → j ≠ M → D.heap[j]? = C.heap[j]? := fun j hj hn => hg.block j hj (fun e => hn (by injection e))
  exact ⟨(hk _ (by omega) (by omega)).trans h.loop, (hk _ (by omega) (by omega)).trans h.dfr, (hk _ (by omega) (by omega)).trans h.bx, (hk _ (by omega) (by omega)).trans h.num, (hk _ (by omega) (by omega)).trans h.out, ho, (hk _ h.obj.lt (by omega)).trans h.obj,
    ⟨hg.os.trans h.low.os, hg.tape.trans h.low.tape, hg.output.trans h.low.output, Nat.le_trans h.low.size hg.size, fun j hj hb => (hk j (by omega) (by omega)).trans (h.low.block j hj hb)⟩,
    ⟨Nat.le_trans h.kp.size hg.size, fun j hj hS => (hk j (Nat.lt_of_lt_of_le hj h.kp.size) (fun e => hS (.inr (.inl e)))).trans (h.kp.block j hj hS)⟩, hp⟩
theorem Rr.put (h : Rr w M b q n mk F lo Q T L a A C) : Rr w M b q n mk F lo T T L a A (C.setCell ⟨M + 1, 0, none⟩ (.slice (some ⟨M, 0, none⟩) T n)) := by
  have hp := h.pl
  have hk : ∀ j, j ≠ M + 1 → (C.setCell ⟨M + 1, 0, none⟩ (.slice (some ⟨M, 0, none⟩) T n)).heap[j]? = C.heap[j]? := fun j hn => heap_setCell_other C _ j _ hn
  exact ⟨(hk _ (by omega)).trans h.loop, (hk _ (by omega)).trans h.dfr, (hk _ (by omega)).trans h.bx, (hk _ (by omega)).trans h.num, (heap_setCell_same C (M + 1) 0 _ 22 _ h.out).trans (by simp), own_blk h.own (hk _ (by omega)),
    (hk _ (by omega)).trans h.obj, only_cell h.low (by show w.heap.size ≤ M + 1; omega) _,
    ⟨by simpa [World.setCell] using h.kp.size, fun j hj hS => (hk j (fun e => hS (.inr (.inr (.inl e))))).trans (h.kp.block j hj hS)⟩, hp⟩
theorem Rr.setA (h : Rr w M b q n mk F lo Q T L a A C) (a' : Nat) : Rr w M b q n mk F lo Q T L a' A (C.setCell ⟨b, 27, none⟩ (.int .i64 (a' : Int))) := by
  have hp := h.pl
  have hk : ∀ j, j ≠ b → (C.setCell ⟨b, 27, none⟩ (.int .i64 (a' : Int))).heap[j]? = C.heap[j]? := fun j hn => heap_setCell_other C _ j _ hn
  exact ⟨(hk _ (by omega)).trans h.loop, (hk _ (by omega)).trans h.dfr, (hk _ (by omega)).trans h.bx, (hk _ (by omega)).trans h.num, (hk _ (by omega)).trans h.out, own_blk h.own (hk _ (by omega)),
    h.obj.setA a', h.low.trans (Only.set (p := ⟨b, 27, none⟩) _ rfl _),
    ⟨by simpa [World.setCell] using h.kp.size, fun j hj hS => (hk j (fun e => hS (.inl e))).trans (h.kp.block j hj hS)⟩, hp⟩
theorem Rr.only (h : Rr w M b q n mk F lo Q T L a C C) (o : Only b C D) (ho : Wo D b (8 * q) mk G a' true) : Rr w M b q n mk G lo Q T L a' D D := by
  have hp := h.pl
  have hb := h.big
  have hk : ∀ j, j < C.heap.size → j ≠ b → D.heap[j]? = C.heap[j]? := fun j hj hn => o.block j hj hn
  exact ⟨(hk _ (by omega) (by omega)).trans h.loop, (hk _ (by omega) (by omega)).trans h.dfr, (hk _ (by omega) (by omega)).trans h.bx, (hk _ (by omega) (by omega)).trans h.num, (hk _ (by omega) (by omega)).trans h.out, own_blk h.own (hk _ (by omega) (by omega)),
    ho, h.low.trans o, kp_refl _ _, hp⟩
theorem Rr.ext (h : Rr w M b q n mk F lo Q T L a A C) {Q' T' a' : Nat} {L' : List Int} (e1 : Q = Q') (e2 : T = T') (e3 : L = L') (e4 : a = a') : Rr w M b q n mk F lo Q' T' L' a' A C := by subst e1 e2 e3 e4; exact h
end
set_option maxHeartbeats 3200000 in
theorem read_any (b q n : Nat) (mk : Int) (zs : List Int) (w : World) (hW : Wo w b (8 * q) mk (wkF q zs) (zs.length % (8 * q)) false) (hq : 1 ≤ q ∧ q ≤ 24) (hm : 0 ≤ mk ∧ mk ≤ 255) (hz : ∀ z ∈ zs, 0 ≤ z ∧ z ≤ 255) (hn : n ≤ 65536) :
    Calls Try.prog 48 #[.pointer (some ⟨b, 0, none⟩), .int .i64 (n : Int)] w fun e w' => ∃ g, e = .returned (.tuple #[.slice (some ⟨g, 0, none⟩) n n, .int .i64 0]) ∧
      Own .u8 w.heap.size 5 w' (.slice (some ⟨g, 0, none⟩) n n) (sumL zs (8 * q) mk n) ∧ Only b w w' := by
  have HSm : Hid (sumL zs (8 * q) mk n = toldL q n (wkF q (flL zs (8 * q) mk))) := hid (by
    rw [sumL, Nat.mul_div_cancel_left q (by decide : 0 < 8), wk_done (flL_bytes hz hm) (flL_mod zs mk (by omega))])
  have hFw := wk_w q (flL zs (8 * q) mk)
  have hb := hW.lt
  obtain ⟨W1, hW1⟩ : ∃ W1, (w.alloc (.cells #[.pointer (some ⟨b, 0, none⟩)] 61)).alloc (.cells #[.int .i64 (n : Int)] 3) = W1 := ⟨_, rfl⟩
  have hobj : Wo W1 b (8 * q) mk (wkF q zs) (zs.length % (8 * q)) false := by rw [← hW1]; exact (hW.alloc _).alloc _
  have h1 : W1.heap[w.heap.size]? = some (.cells #[.pointer (some ⟨b, 0, none⟩)] 61 (0, 0)) := by rw [← hW1]; exact (heap_alloc_old _ _ (by simp)).trans (heap_alloc_new w _)
  have h2 : W1.heap[w.heap.size + 1]? = some (.cells #[.int .i64 (n : Int)] 3 (0, 0)) := by
    have := heap_alloc_new (w.alloc (.cells #[.pointer (some ⟨b, 0, none⟩)] 61)) (.cells #[.int .i64 (n : Int)] 3)
    rw [World.size_alloc] at this; rw [← hW1]; exact this
  have h3 : Below w.heap.size w W1 := by rw [← hW1]; exact ((Below.refl _ _).alloc (Nat.le_refl _) _).alloc (by simp) _
  have h4 : W1.heap.size = w.heap.size + 2 := by rw [← hW1]; simp
  have HNo := hid (nobodys_any hobj hq)
  have hct : canT (n : Int) = true := decide_eq_true (by omega)
  have HCa := hid (cantell_any (n : Int) W1)
  rw [hct] at HCa
  have HEn := hid (end_any b q mk zs W1 hobj hq hm hz)
  obtain ⟨F, hF⟩ : ∃ F, wkF q (flL zs (8 * q) mk) = F := ⟨_, rfl⟩
  rw [hF] at HSm HEn hFw
  obtain ⟨S, hS⟩ : ∃ S, sumL zs (8 * q) mk n = S := ⟨_, rfl⟩
  rw [hS] at HSm ⊢
  have c1 := one_box h1
  have c2 := one_box h2
  have HW1 : Hid (W1.heap[w.heap.size]? = some (.cells #[.pointer (some ⟨b, 0, none⟩)] 61 (0, 0)) ∧ W1.heap[w.heap.size + 1]? = some (.cells #[.int .i64 (n : Int)] 3 (0, 0)) ∧ Below w.heap.size w W1 ∧ W1.heap.size = w.heap.size + 2 ∧ b < w.heap.size) := hid ⟨h1, h2, h3, h4, hb⟩
  have HQ : Hid ((1 ≤ q ∧ q ≤ 24) ∧ n ≤ 65536 ∧ W25 F) := hid ⟨hq, hn, hFw⟩
  have hw2 : (w.alloc (.cells #[.pointer (some ⟨b, 0, none⟩)] 61)).alloc (.cells #[.int .i64 (n : Int)] 3) = W1 := hW1
  have HW2 := hid hw2
  have hs1 : (w.alloc (.cells #[.pointer (some ⟨b, 0, none⟩)] 61)).heap.size = w.heap.size + 1 := by simp
  clear hW hobj h1 h2 h3 h4 hct hF hS hFw hb hq hm hz hn hW1 hw2
  refine (callsIn_wide (n := 7)).1 ?_
  refine callsIn_of_wp_marks Try.func48 rfl trivial ?_ rfl
  simp only [Try.ntmps48, List.size_toArray, List.length_cons, List.length_nil, Nat.reduceAdd, Nat.reduceSub, Array.replicate_succ, Array.replicate_zero, List.push_toArray, List.append_toArray, List.nil_append, List.cons_append]
  gi_wp2_with (first
    | (refine ⟨trivial, ?_⟩; gi_at_call 57; rw [HW2.out]; refine (callsIn_wide.2 HNo.out).mono ?_; rintro e w1 ⟨rfl, rfl⟩)
    | (refine ⟨trivial, ?_⟩; gi_at_call 45; refine (callsIn_wide.2 HCa.out).mono ?_; rintro e w2 ⟨rfl, rfl⟩)
    | (refine ⟨trivial, ?_⟩; gi_at_call 60; refine (callsIn_wide.2 HEn.out).mono ?_; rintro e w3 ⟨⟨v3, rfl⟩, ho3, hw3⟩; have HO3 := hid ho3; have HW3 := hid hw3
       have d1 := (ho3.block w.heap.size (by have := HW1.out.2.2.2.1; omega) (by have := HW1.out.2.2.2.2; omega)).trans HW1.out.1
       have d2 := (ho3.block (w.heap.size + 1) (by have := HW1.out.2.2.2.1; omega) (by have := HW1.out.2.2.2.2; omega)).trans HW1.out.2.1
       have c3 := one_box d1
       have c4 := one_box d2
       have HD := hid (And.intro d1 d2)
       have hmk := smake_room w3 n (by have := HQ.out.2.1; omega)
       have c5 : ((w3.alloc (.cells (madeCells #[.int .u8 0] n) 5)).alloc (.cells #[.slice (some ⟨w3.heap.size, 0, none⟩) 0 n] 22)).cell? ⟨w.heap.size, 0, none⟩ = some (.pointer (some ⟨b, 0, none⟩)) :=
         one_box ((heap_alloc_old _ _ (by rw [World.size_alloc]; have := (Array.getElem?_eq_some_iff.1 d1).1; omega)).trans ((heap_alloc_old _ _ (Array.getElem?_eq_some_iff.1 d1).1).trans d1))
       clear ho3 hw3 d1 d2)
    | (refine ⟨trivial, ?_⟩; gi_at_call 61; refine (callsIn_wide.2 (told_any b _)).mono ?_; rintro e w4 ⟨rfl, rfl⟩))
  have hM : w.heap.size + 2 ≤ w3.heap.size := by have := HO3.out.size; have := HW1.out.2.2.2.1; omega
  obtain ⟨M, hMe⟩ : ∃ M, w3.heap.size = M := ⟨_, rfl⟩
  obtain ⟨W6, hW6⟩ : ∃ W6, ((w3.alloc (.cells (madeCells #[.int .u8 0] n) 5)).alloc (.cells #[.slice (some ⟨w3.heap.size, 0, none⟩) 0 n] 22)).alloc (.cells #[.pointer (some ⟨b, 0, none⟩)] 61) = W6 := ⟨_, rfl⟩
  have hs6 : W6.heap.size = M + 3 := by rw [← hW6, ← hMe]; simp
  rw [hW6]
  simp only [hMe]
  refine range_wide (M + 4) (by rw [hs6]) (gf := 69) (lb := #[.pointer (some ⟨M + 1 + 1, 0, none⟩)]) rfl (enters_of Try.func69 (by kernel_rfl) rfl) (fun rec r1 r0 r2 r3 r4 r5 => ?_)
  rw [hs6]
  obtain ⟨W5, hW5⟩ : ∃ W5, (W6.alloc (.deferred (some []))).alloc (.loop rec) = W5 := ⟨_, rfl⟩
  rw [hW5]
  have e1 : ∀ (u : World) (o : Obj) (j : Nat), j = u.heap.size → (u.alloc o).heap[j]? = some o := fun u o j h => by subst h; exact heap_alloc_new u o
  have e2 : ∀ (u : World) (o : Obj) (j : Nat) (x : Obj), u.heap[j]? = some x → (u.alloc o).heap[j]? = some x := fun u o j x h => (heap_alloc_old u o (Array.getElem?_eq_some_iff.1 h).1).trans h
  have hrec : ({ rec with state := .ready, pending := none } : Loop) = rec := by cases rec; simp_all
  obtain ⟨⟨hq, hn, hF⟩, ⟨d1, d2⟩, hw1⟩ := And.intro HQ.out (And.intro HD.out HW1.out)
  have hlw : Only b w w3 := (Only.of_below hw1.2.2.1).trans HO3.out
  have hR0 : Rr w M b q n mk (stN F 0) rec (8 * q * 0) (8 * q * 0) (sqL q F 0) 0 W5 W5 := by
    rw [← hW5, ← hW6]
    refine ⟨e1 _ _ _ (by simp; omega), e2 _ _ _ _ (e1 _ _ _ (by simp; omega)), e2 _ _ _ _ (e2 _ _ _ _ (e2 _ _ _ _ (e2 _ _ _ _ (e2 _ _ _ _ d1)))), e2 _ _ _ _ (e2 _ _ _ _ (e2 _ _ _ _ (e2 _ _ _ _ (e2 _ _ _ _ d2)))), ?_, ?_, ((((HW3.out.alloc _).alloc _).alloc _).alloc _).alloc _, ?_, kp_refl _ _, hw1.2.2.2.2, by omega⟩
    · rw [← hMe]; exact e2 _ _ _ _ (e2 _ _ _ _ (e2 _ _ _ _ (e1 _ _ _ (by simp))))
    · rw [← hMe]; exact ((((sown_room w3 n (by unfold maxLen; omega)).alloc _).alloc _).alloc _).alloc _
    · exact hlw.trans (Only.of_below ((((((Below.refl _ w3).alloc (Nat.le_refl _) _).alloc (by simp) _).alloc (by simp; omega) _).alloc (by simp; omega) _).alloc (by simp; omega) _))
  have hs5 : W5.heap.size = M + 5 := by rw [← hW5]; simp; omega
  have hbx : W5.heap[M + 1 + 1]? = some (.cells #[.pointer (some ⟨b, 0, none⟩)] 61 (0, 0)) := by rw [← hW5, ← hW6]; exact e2 _ _ _ _ (e2 _ _ _ _ (e1 _ _ _ (by simp; omega)))
  have hbM : b < w.heap.size := hw1.2.2.2.2
  refine (told_blocks (fun j => j = b ∨ j = M ∨ j = M + 1 ∨ j = M + 4) (fun k A => Rr w M b q n mk (stN F k) rec (8 * q * k) (8 * q * k) (sqL q F k) 0 A A ∧ (8 * q * k < n ∨ (k = 0 ∧ n = 0)))
    (fun k A => Rr w M b q n mk (stN F k) rec (8 * q * (k + 1)) (8 * q * (k + 1)) (sqL q F (k + 1)) (8 * q) A A ∧ 8 * q * (k + 1) < n)
    (fun B => ∃ G a, Rr w M b q n mk G { rec with state := .done, pending := some (.exit 0) } n n (toldL q n F) a B B) (M + 4) b (M + 1 + 1) q (n + 1) mk F W5 hq hF
    (fun k A h => ⟨by have := Nat.le_mul_of_pos_left k (show 0 < 8 * q by omega); omega, h.1.obj⟩) (fun k A B h hb => ⟨h.1.only (Only.of_below hb) (h.1.obj.self hb), h.2⟩)
    (fun k A h => ⟨⟨_, h.1.obj⟩, fun B ho hw => ⟨h.1.only ho hw, .inl h.2⟩⟩) (fun k A g c N hA hN hc ho => ?_) (fun k A h => by rw [hs5]; exact h.1.big)
    ⟨hbx, ⟨by omega, by omega⟩, hR0, by omega⟩).mono ?_
  · obtain ⟨hA, hlt⟩ := hA
    obtain ⟨R, hR⟩ : ∃ R, 8 * q = R := ⟨_, rfl⟩
    rw [show (Value.slice (some ⟨g, 0, none⟩) (8 * q) c) = Value.slice (some ⟨g, 0, none⟩) R c by rw [hR]]
    refine round_wide hA.loop r1 r2 r3 r4 r5 rfl ?_
    have hgM : M + 5 ≤ g ∧ g < A.heap.size := by
      have h9 : N ≤ g ∧ g < A.heap.size := own_block ho rfl
      have h8 : W5.heap.size ≤ N := hN
      rw [hs5] at h8
      omega
    have HA := hid hA
    have HR0 := hid (hA.put_lo { rec with state := .busy })
    obtain ⟨C, hC⟩ : ∃ C, A.putObj (M + 4) (.loop { rec with state := .busy }) = C := ⟨_, rfl⟩
    have HBk : Hid (∀ j, j < 8 * q → C.cell? ⟨g, 0 + j, none⟩ = some (.int .u8 (nth (wdL (stN F k) q) j))) := hid fun j hj => by
      obtain ⟨g', c', hv, _, _, hcc, _⟩ := ho.part (by rw [wdL_len]; omega)
      injection hv with hv1
      injection hv1 with hv1
      injection hv1 with hv1
      subst hv1
      rw [← hC, Nat.zero_add, World.cell?_of_block (w := A) (w' := A.putObj (M + 4) _) (World.putObj_heap_other (by show g ≠ M + 4; omega))]
      exact hcc j (by rw [wdL_len]; exact hj)
    have HC := hid hC
    rw [hC] at HR0
    obtain ⟨Q, hQ⟩ : ∃ Q, 8 * q * k = Q := ⟨_, rfl⟩
    rw [hQ] at HR0 hlt
    have hQn : Q ≤ n := by
      rcases hlt with h | ⟨h, _⟩
      · omega
      · rw [← hQ, h, Nat.mul_zero]; exact Nat.zero_le _
    have hlt2 : Q < n ∨ n = 0 := hlt.imp id (·.2)
    rw [hR] at hc
    obtain ⟨d, hd⟩ : ∃ d, n - Q = d := ⟨_, rfl⟩
    obtain ⟨m, hm⟩ : ∃ m, min R d = m := ⟨_, rfl⟩
    have HN : Hid (Q + m ≤ n ∧ m ≤ R ∧ m ≤ c ∧ R = 8 * q ∧ Q = 8 * q * k ∧ (Q + m < n → m = R) ∧ n ≤ 65536 ∧ 1 ≤ q ∧ q ≤ 24) := hid ⟨by omega, by omega, by omega, hR.symm, hQ.symm, by omega, hn, hq.1, hq.2⟩
    have m1 : IntKind.i64.wrap ((n : Int) - (Q : Int)) = (d : Int) := by rw [IntKind.wrap_i64]; omega
    have m2 : min (R : Int) (d : Int) = (m : Int) := by omega
    have m3 : (0 : Int) ≤ (m : Int) := by omega
    have m4 : (m : Int) ≤ (R : Int) := by omega
    have m5 : (m : Int) ≤ (c : Int) := by omega
    have m6 : (m : Int) ≤ 65536 := by omega
    have HROW : Hid (C.ownsRow M 5 1 (.slice (some ⟨M, 0, none⟩) Q n) Q ((sqL q F k).map (Value.int .u8))) := hid (by have h : C.ownsRow _ _ _ _ (sqL q F k).length _ := HR0.out.own; rw [sqL_len, hQ] at h; exact h)
    have hnl : ((wdL (stN F k) q).take m).length = m := by rw [List.length_take, wdL_len]; omega
    have HNW : Hid (∀ j u, (((wdL (stN F k) q).take m).map (Value.int .u8))[j]? = some u → C.cell? ((⟨g, 0, none⟩ : Addr).add j) = some u) := hid (by
      intro j u hj
      have hjm : j < m := by have := (List.getElem?_eq_some_iff.1 hj).1; rwa [List.length_map, hnl] at this
      rw [List.getElem?_map, Option.map_eq_some_iff] at hj
      obtain ⟨z, hz, rfl⟩ := hj
      rw [Addr.add_mid, HBk.out j (by omega), nth_of (by rw [wdL_len]; omega)]
      rw [List.getElem?_take_of_lt hjm] at hz
      obtain ⟨hz1, rfl⟩ := List.getElem?_eq_some_iff.1 hz
      rfl)
    have HNL : Hid ((((wdL (stN F k) q).take m).map (Value.int .u8)).length = m * 1) := hid (by rw [List.length_map, hnl, Nat.mul_one])
    have H1C : Hid (∀ u ∈ ((wdL (stN F k) q).take m).map (Value.int .u8), u.oneCell' = true) := hid (by intro u hu; obtain ⟨z, _, rfl⟩ := List.mem_map.1 hu; rfl)
    have hcat : (sqL q F k ++ (wdL (stN F k) q).take m).length = Q + m := by rw [List.length_append, sqL_len, hnl, hQ]
    have HCAT : Hid (∀ W : World, W.ownsRow M 5 1 (.slice (some ⟨M, 0, none⟩) (Q + m) n) (Q + m) ((sqL q F k).map (Value.int .u8) ++ ((wdL (stN F k) q).take m).map (Value.int .u8)) → Own .u8 M 5 W (.slice (some ⟨M, 0, none⟩) (Q + m) n) (sqL q F k ++ (wdL (stN F k) q).take m)) := hid (by
      intro W h
      rw [← List.map_append] at h
      show W.ownsRow _ _ _ _ (sqL q F k ++ (wdL (stN F k) q).take m).length _
      rw [hcat]; exact h)
    have HTo : Hid (Q + m = n → sqL q F k ++ (wdL (stN F k) q).take m = toldL q n F) := hid fun e => by
      have h9 : (sqL q F (k + 1)).take n = toldL q n F := told_of (by omega) (by rw [Nat.mul_succ]; omega)
      have h10 : (sqL q F k ++ wdL (stN F k) q).take n = sqL q F k ++ (wdL (stN F k) q).take m := by
        rw [List.take_append, sqL_len, List.take_of_length_le (l := sqL q F k) (by rw [sqL_len]; omega), show n - 8 * q * k = m by omega]
      rw [← h9, sqL, h10]
    have HTm : Hid (m = R → (wdL (stN F k) q).take m = wdL (stN F k) q) := hid fun e => List.take_of_length_le (by rw [wdL_len]; omega)
    obtain ⟨i5, hi5, hz5⟩ : ∃ i, Try.prog.info? 5 = some i ∧ i.size = 1 := by obtain ⟨i0, hi, _, h1, _⟩ := info_parts info8; exact ⟨i0, hi, h1⟩
    have HRE := hid hrec
    have q1 := one_box HR0.out.num
    have q2 := one_box HR0.out.out
    clear hR0 hs5 hbx hbM hA hlt hgM hC hQ hR hd hm hnl hcat HBk hQn hlt2 ho hN hc hq hn hF d1 d2 hw1 hlw hrec r0 r1 r2 r3 r4 r5 hW5 hW6 hs6 hM hMe e1 e2 hmk c1 c2 c3 c4 c5
    simp only [Array.zip, List.zipWith_toArray, List.zipWith_cons_cons, List.zipWith_nil_right, List.foldl_toArray, List.foldl_cons, List.foldl_nil, List.setIfInBounds_toArray, lay_out]
    refine region0_R (by kernel_rfl) ?_
    go_wp2
    refine ⟨HA.out.loop, ?_⟩
    rw [HC.out]
    by_cases he : Q + m = n
    · have he1 : (Q : Int) + (m : Int) = (n : Int) := by omega
      have HE := hid he
      clear he
      gi_wp2_with (refine at_append (.tmp 32) (.tmp 33) 22 rfl ?_; refine plain_in rfl (fun c e => by cases e) ?_; (refine (wp_append_own_spare _ (.tmp 32) (.tmp 33) 22 rfl M 5 i5 1 Try.underlying22 hi5 hz5 M Q n _ rfl HROW.out ⟨g, 0, none⟩ m c _ rfl HNL.out HNW.out H1C.out HN.out.1 ?_)); intro C1 ho hg; have HG := hid (HR0.out.grown hg (HCAT.out _ ho)); clear ho hg; have g1 := one_box HG.out.out; have g2 := frozen_of_row _ _ 0 _ 22 HG.out.out; have HP := hid HG.out.put; have p1 := one_box HP.out.bx; have p2 := HP.out.obj.at; have p3 := HP.out.obj.free 27; have HA2 := hid (HP.out.setA m); have t1 := one_box HA2.out.out; have t2 := one_box HA2.out.num)
      have HL := hid (HA2.out.put_lo { rec with state := .done, pending := some (.exit 0) })
      exact ⟨HA2.out.loop, .inr ⟨rfl, ⟨_, m, HL.out.reset.ext HE.out HE.out (HTo.out HE.out) rfl⟩, HL.out.kp, m, HL.out.obj⟩⟩
    · have he1 : ¬ ((Q : Int) + (m : Int) = (n : Int)) := by omega
      have HE := hid he
      clear he
      gi_wp2_with (refine at_append (.tmp 32) (.tmp 33) 22 rfl ?_; refine plain_in rfl (fun c e => by cases e) ?_; (refine (wp_append_own_spare _ (.tmp 32) (.tmp 33) 22 rfl M 5 i5 1 Try.underlying22 hi5 hz5 M Q n _ rfl HROW.out ⟨g, 0, none⟩ m c _ rfl HNL.out HNW.out H1C.out HN.out.1 ?_)); intro C1 ho hg; have HG := hid (HR0.out.grown hg (HCAT.out _ ho)); clear ho hg; have g1 := one_box HG.out.out; have g2 := frozen_of_row _ _ 0 _ 22 HG.out.out; have HP := hid HG.out.put; have p1 := one_box HP.out.bx; have p2 := HP.out.obj.at; have p3 := HP.out.obj.free 27; have HA2 := hid (HP.out.setA m); have t1 := one_box HA2.out.out; have t2 := one_box HA2.out.num)
      have HL := hid (HA2.out.put_lo { rec with state := .ready, pending := none })
      have HM : Hid (m = R ∧ Q + m = 8 * q * (k + 1) ∧ Q + m < n ∧ m = 8 * q) := hid (by
        have h1 := HN.out
        have h2 := HE.out
        have h3 : 8 * q * (k + 1) = 8 * q * k + 8 * q := Nat.mul_succ _ _
        omega)
      refine ⟨HA2.out.loop, .inl ⟨rfl, ⟨?_, by rw [← HM.out.2.1]; exact HM.out.2.2.1⟩, HL.out.kp⟩⟩
      have h9 := HL.out.reset.ext HM.out.2.1 HM.out.2.1 (show _ = sqL q F (k + 1) by rw [HTm.out HM.out.1, sqL]) HM.out.2.2.2
      rw [HRE.out] at h9 ⊢
      exact h9
  · rintro e w' ⟨⟨v, rfl⟩, G, a, hr⟩
    refine ⟨v, _, rfl, hr.loop, by simp, ?_⟩
    dsimp only
    have HL := hid (hr.put_lo { rec with state := .exhausted, pending := some (.exit 0) })
    have hK := HL.out.dfr
    have c9 := one_box HL.out.out
    have hMw : w.heap.size ≤ M := by omega
    have HMw := hid hMw
    obtain ⟨w6, hw6⟩ : ∃ w6, w'.putObj (M + 4) (.loop { rec with state := .exhausted, pending := some (.exit 0) }) = w6 := ⟨_, rfl⟩
    rw [hw6] at HL hK c9 ⊢
    clear hw6 hr hs5 hbx hbM hR0 hq hn hF d1 d2 hw1 hlw hrec r0 r1 r2 r3 r4 r5 hW5 hW6 hs6 hM hMe e1 e2 hmk c1 c2 c3 c4 c5 hMw
    gi_wp2
    refine ⟨by simp, .inl ⟨_, _, rfl, run_takeDeferred hK, ?_⟩⟩
    exact ⟨_, results_tmp2 rfl _ _ _, M, rfl, by rw [HSm.out]; exact own_base (own_blk HL.out.own (World.putObj_heap_other (by omega))) HMw.out, only_put HL.out.low (by have := HMw.out; omega) _⟩
end Go.Proofs.Ythcjgjhoifnpjaa
