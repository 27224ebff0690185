import Derived.Test.YtfjgelialaccdaaProg
import Derived.Test.YtfjgelialaccdaaSqe
import Derived.OrdersHeld
import Derived.Deep.RegionHeld3
/- Sponge: what stands behind a message is filled in. -/
namespace Go.Proofs.Ytfjgelialaccdaa
open Go.RowKit
set_option maxRecDepth 100000

theorem kept_ownL {b B : Nat} {w : World} {v : Value} {zs : List Int} (h : Own .u8 B 5 w v zs) (hb : b < B) (hn : zs.length ≤ 1000000) (hz : ∀ z ∈ zs, 0 ≤ z ∧ z ≤ 255) : Kept b w v zs := fun W hW =>
  (own_frame h fun j hj hl => hW.block j hl (by omega)).rd (by show _ * 1 ≤ _; omega) (fun z hm => WalkArith.wf_u8 (hz z hm))
theorem kept_sub {b g off L c k m : Nat} {w : World} {p : Option Addr} {q : Nat} {zs : List Int} (h : Kept b w (.slice (some ⟨g, off, none⟩) L c) zs) (hq : q + m ≤ L) (hp : 0 < m → p = some ⟨g, off + q, none⟩) : Kept b w (.slice p m k) ((zs.drop q).take m) :=
  fun W hW => rd_sub (h W hW) hq hp
/-- What is laid behind, and where it ends. -/
theorem tail_len (a : Nat) {R : Nat} (mk : Int) (h : a < R) : (flL (List.replicate a 0) R mk).length = R := by
  have h1 := fill_len a (R := R) (by omega)
  rw [Nat.div_eq_of_lt h] at h1
  rw [flL_len, List.length_replicate]; omega
set_option maxHeartbeats 1600000 in
theorem end_any (b q : Nat) (mk : Int) (zs : List Int) (w : World) (hW : Wo w b (8 * q) mk (wkF q zs) (zs.length % (8 * q)) false) (hq : 1 ≤ q ∧ q ≤ 24) (hm : 0 ≤ mk ∧ mk ≤ 255) (hz : ∀ z ∈ zs, 0 ≤ z ∧ z ≤ 255) :
    Calls Try.prog 45 #[.pointer (some ⟨b, 0, none⟩)] w fun e w' => (∃ v, e = .returned v) ∧ Only b w w' ∧ Wo w' b (8 * q) mk (wkF q (flL zs (8 * q) mk)) 0 true := by
  have hfd := fill_drop zs (w := 8 * q) mk
  have hlt : zs.length % (8 * q) < 8 * q := Nat.mod_lt _ (by omega)
  have hr : rad ((8 * q : Nat) : Int) = true := decide_eq_true (by omega)
  have hfull := fun (ps : List Int) hp h => (wk_full (q := q) (zs := zs) (ps := ps) (by omega) hz hp h).1
  have HEn := hid (fun (v : Value) (ps : List Int) (w : World) h1 h2 h3 => enter_any b q (zs.length % (8 * q)) mk (wkF q zs) true v ps w h1 (wk_w q zs) hq h2 h3)
  obtain ⟨F, hF⟩ : ∃ F, wkF q zs = F := ⟨_, rfl⟩
  obtain ⟨a, ha⟩ : ∃ a, zs.length % (8 * q) = a := ⟨_, rfl⟩
  rw [hF, ha] at hW HEn hfull
  rw [ha] at hfd hlt
  obtain ⟨G, hG⟩ : ∃ G, wkF q (flL zs (8 * q) mk) = G := ⟨_, rfl⟩
  have HG := hid hG
  rw [hG]
  have HTl := hid (tail_len a (R := 8 * q) mk hlt)
  obtain ⟨xs, hxs⟩ : ∃ xs, flL (List.replicate a 0) (8 * q) mk = xs := ⟨_, rfl⟩
  have hxb : ∀ z ∈ xs, 0 ≤ z ∧ z ≤ 255 := by rw [← hxs]; exact flL_bytes (fun z h => by rw [(List.mem_replicate.1 h).2]; decide) hm
  have HFi : Hid (∀ (v : Value) (w : World), Rd .u8 w v (List.replicate a 0) → Calls Try.prog 7 #[v, .int .i64 ((8 * q : Nat) : Int), .int .u8 mk] w fun e w' => ∃ p c, e = .returned (.tuple #[.slice p (8 * q) c, .int .i64 0]) ∧ Own .u8 w.heap.size 5 w' (.slice p (8 * q) c) xs ∧ Below w.heap.size w w') :=
    hid fun v w h => (fill_ok v _ (8 * q) mk w h (by rw [List.length_replicate]; omega) (by omega) hr hm).mono (by
      rintro e w' ⟨u, rfl, ho, hb⟩
      rw [hxs] at ho
      obtain ⟨p, c, rfl, _⟩ := ho.slice
      have e : xs.length = 8 * q := by rw [← hxs]; exact HTl.out
      rw [e] at ho ⊢
      exact ⟨p, c, rfl, ho, hb⟩)
  rw [hxs] at hfd HTl
  have HX : Hid (zs ++ xs.drop a = flL zs (8 * q) mk ∧ (∀ z ∈ xs, 0 ≤ z ∧ z ≤ 255) ∧ a < 8 * q ∧ 8 * q ≤ 192) := hid ⟨hfd, hxb, hlt, by omega⟩
  have HFu := hid hfull
  clear hfd hlt hr hfull hF ha hG hxs hxb hz hm
  have HQ := hid hq
  obtain ⟨R, hR⟩ : ∃ R, 8 * q = R := ⟨_, rfl⟩
  rw [hR] at hW HEn HTl HFi HX HFu HG ⊢
  have HR8 := hid hR
  have c28 := hW.done
  have f28 := hW.free 28
  have HW1 : Hid (Wo (w.setCell ⟨b, 28, none⟩ (.bool true)) b R mk F a true ∧ Only b w (w.setCell ⟨b, 28, none⟩ (.bool true))) := hid ⟨hW.setR true, Only.set (p := ⟨b, 28, none⟩) _ rfl _⟩
  have hmk := fun w => make_row a (by have := HX.out; omega) w
  clear hq hR hW
  go_enter Try.func45, Try.ntmps45
  go_wp2
  clear c28 f28
  generalize w.setCell ⟨b, 28, none⟩ (.bool true) = w2 at *
  have HD : Hid (Wo w2.drew b R mk F a true ∧ Only b w w2.drew) := hid ⟨HW1.out.1.drew, HW1.out.2.drew⟩
  clear HW1
  refine wp_region_noPanic ?_
  refine wp_region_held_drew (S := fun w' => Wo w' b R mk F a true) (by kernel_rfl) (HD.out.1) (fun h0 => ?_)
  generalize w2.drew = w3 at *
  refine wpAnyH_take (i := 0) (v := .pointer (some ⟨b, 0, none⟩)) rfl (by kernel_rfl) (by kernel_rfl) (by kernel_rfl) (fun _ _ _ h => h) (.inl ⟨by rfl, fun w hw => by clear hw; go_simp⟩) h0 ?_
  try simp only [Act.put, lay_out]
  refine wpAnyH_take (i := 1) (v := .pointer (some ⟨b, 0, none⟩)) rfl (by kernel_rfl) (by kernel_rfl) (by kernel_rfl) (fun _ _ _ h => h) (.inl ⟨by rfl, fun w hw => by clear hw; go_simp⟩) h0 ?_
  try simp only [Act.put, lay_out]
  refine wpAnyH_take (i := 2) (v := .pointer (some ⟨b, 27, none⟩)) rfl (by kernel_rfl) (by kernel_rfl) (by kernel_rfl) (fun _ _ _ h => h) (.inl ⟨by rfl, fun w hw => by clear hw; go_simp⟩) h0 ?_
  try simp only [Act.put, lay_out]
  refine wpAnyH_take (i := 3) (v := .int .i64 (a : Int)) rfl (by kernel_rfl) (by kernel_rfl) (by kernel_rfl) (fun _ _ _ h => h) (.inl ⟨by rfl, fun w hw => by have hc0 := hw.at; clear hw; go_simp⟩) h0 ?_
  try simp only [Act.put, lay_out]
  refine wpAnyH_take (i := 5) (v := .pointer (some ⟨b, 0, none⟩)) rfl (by kernel_rfl) (by kernel_rfl) (by kernel_rfl) (fun _ _ _ h => h) (.inl ⟨by rfl, fun w hw => by clear hw; go_simp⟩) h0 ?_
  try simp only [Act.put, lay_out]
  refine wpAnyH_take (i := 6) (v := .pointer (some ⟨b, 0, none⟩)) rfl (by kernel_rfl) (by kernel_rfl) (by kernel_rfl) (fun _ _ _ h => h) (.inl ⟨by rfl, fun w hw => by clear hw; go_simp⟩) h0 ?_
  try simp only [Act.put, lay_out]
  refine wpAnyH_take (i := 7) (v := .pointer (some ⟨b, 0, none⟩)) rfl (by kernel_rfl) (by kernel_rfl) (by kernel_rfl) (fun _ _ _ h => h) (.inl ⟨by rfl, fun w hw => by clear hw; go_simp⟩) h0 ?_
  try simp only [Act.put, lay_out]
  refine wpAnyH_take (i := 8) (v := .int .i64 (R : Int)) rfl (by kernel_rfl) (by kernel_rfl) (by kernel_rfl) (fun _ _ _ h => h) (.inl ⟨by rfl, fun w hw => by have hc0 := hw.rate; clear hw; go_simp⟩) h0 ?_
  try simp only [Act.put, lay_out]
  refine wpAnyH_take (i := 9) (v := .pointer (some ⟨b, 0, none⟩)) rfl (by kernel_rfl) (by kernel_rfl) (by kernel_rfl) (fun _ _ _ h => h) (.inl ⟨by rfl, fun w hw => by clear hw; go_simp⟩) h0 ?_
  try simp only [Act.put, lay_out]
  refine wpAnyH_take (i := 10) (v := .pointer (some ⟨b, 0, none⟩)) rfl (by kernel_rfl) (by kernel_rfl) (by kernel_rfl) (fun _ _ _ h => h) (.inl ⟨by rfl, fun w hw => by clear hw; go_simp⟩) h0 ?_
  try simp only [Act.put, lay_out]
  refine wpAnyH_take (i := 11) (v := .pointer (some ⟨b, 1, none⟩)) rfl (by kernel_rfl) (by kernel_rfl) (by kernel_rfl) (fun _ _ _ h => h) (.inl ⟨by rfl, fun w hw => by clear hw; go_simp⟩) h0 ?_
  try simp only [Act.put, lay_out]
  refine wpAnyH_take (i := 12) (v := .int .u8 mk) rfl (by kernel_rfl) (by kernel_rfl) (by kernel_rfl) (fun _ _ _ h => h) (.inl ⟨by rfl, fun w hw => by have hc0 := hw.mark; clear hw; go_simp⟩) h0 ?_
  try simp only [Act.put, lay_out]
  refine wpAnyH_ready (rs := [4]) (by kernel_rfl) (by simp) (AllReadyH.cons rfl (fun K hK => ?_) AllReadyH.nil)
  rw [if_pos (by rfl)]
  have hmk3 := hmk w3
  go_simp
  have HA4 : Hid (Wo (w3.alloc (.cells (madeCells #[.int .u8 0] a) 5)) b R mk F a true ∧ Only b w (w3.alloc (.cells (madeCells #[.int .u8 0] a) 5))) := hid ⟨HD.out.1.alloc _, HD.out.2.trans (Only.of_below ((Below.refl _ _).alloc (Nat.le_refl _) _))⟩
  have HR4 : Hid (Rd .u8 (w3.alloc (.cells (madeCells #[.int .u8 0] a) 5)) (.slice (some ⟨w3.heap.size, 0, none⟩) a a) (List.replicate a 0)) := hid ((own_made (E := 5) w3 a (Nat.le_refl _) (by have := HX.out; unfold maxLen; omega)).rd (by rw [List.length_replicate]; have := HX.out; show _ * 1 ≤ _; omega) (fun z h => by rw [(List.mem_replicate.1 h).2]; rfl))
  clear hmk3 hmk
  generalize hw4 : w3.alloc (.cells (madeCells #[.int .u8 0] a) 5) = w4 at *
  refine hK.out _ _ (HA4.out.1) (fun h1x => ?_)
  clear hK K
  try simp only [Act.put, lay_out]
  refine wpAnyH_ready (rs := [13]) (by kernel_rfl) (by simp) (AllReadyH.cons rfl (fun K hK => ?_) AllReadyH.nil)
  rw [if_pos (by rfl)]
  go_simp
  go_at_call 7
  (with_reducible refine (HFi.out _ _ HR4.out).mono ?_); rintro e w5 ⟨p, c, rfl, ho, hl⟩
  have HA5 := hid (And.intro (HA4.out.1.self hl) (HA4.out.2.trans (Only.of_below hl)))
  have HO5 := hid (And.intro ho HA4.out.1.lt)
  clear ho hl hw4
  refine hK.out _ _ (HA5.out.1) (fun h2x => ?_)
  clear hK K
  try simp only [Act.put, lay_out]
  refine wpAnyH_take (i := 14) (v := .tuple #[.slice p R c, .int .i64 0]) rfl (by kernel_rfl) (by kernel_rfl) (by kernel_rfl) (fun _ _ _ h => h) (.inl ⟨by rfl, fun w hw => by clear hw; go_simp⟩) h2x ?_
  try simp only [Act.put, lay_out]
  refine wpAnyH_take (i := 15) (v := .slice p R c) rfl (by kernel_rfl) (by kernel_rfl) (by kernel_rfl) (fun _ _ _ h => h) (.inl ⟨by rfl, fun w hw => by clear hw; go_simp⟩) h2x ?_
  try simp only [Act.put, lay_out]
  refine wpAnyH_take (i := 16) (v := .int .i64 0) rfl (by kernel_rfl) (by kernel_rfl) (by kernel_rfl) (fun _ _ _ h => h) (.inl ⟨by rfl, fun w hw => by clear hw; go_simp⟩) h2x ?_
  try simp only [Act.put, lay_out]
  refine wpAnyH_take (i := 17) (v := .slice p R c) rfl (by kernel_rfl) (by kernel_rfl) (by kernel_rfl) (fun _ _ _ h => h) (.inl ⟨by rfl, fun w hw => by clear hw; go_simp⟩) h2x ?_
  try simp only [Act.put, lay_out]
  refine wpAnyH_take (i := 18) (v := .int .i64 0) rfl (by kernel_rfl) (by kernel_rfl) (by kernel_rfl) (fun _ _ _ h => h) (.inl ⟨by rfl, fun w hw => by clear hw; go_simp⟩) h2x ?_
  try simp only [Act.put, lay_out]
  refine wpAnyH_done (by kernel_rfl) ?_ _
  refine NoPanic.normal ?_
  clear h0 h1x h2x
  try simp only [Act.put, lay_out]
  have hpart : ∃ g, p = some ⟨g, 0, none⟩ ∧ R ≤ c := by
    obtain ⟨g, cg, hv, _⟩ := HO5.out.1.part (by rw [HTl.out]; have := HX.out; omega)
    injection hv with e1 e2 e3
    exact ⟨g, e1, (own_cap HO5.out.1).1⟩
  obtain ⟨g, rfl, hc⟩ := hpart
  have HK := hid (kept_sub (k := c - a) (kept_ownL HO5.out.1 HO5.out.2 (by rw [HTl.out]; have := HX.out; omega) HX.out.2.1) (q := a) (m := R - a) (p := some ⟨g, 0 + a, none⟩) (by have := HX.out; omega) (fun _ => rfl))
  have HE6 : Hid ((xs.drop a).take (R - a) = xs.drop a ∧ (xs.drop a).length = R - a) := hid ⟨List.take_of_length_le (by rw [List.length_drop, HTl.out]; exact Nat.le_refl _), by rw [List.length_drop, HTl.out]⟩
  rw [HE6.out.1, Nat.zero_add] at HK
  have HC6 := hid (HEn.out _ _ w5 HA5.out.1 HK.out (by rw [HE6.out.2]; have := HX.out; omega))
  have c27 := HA5.out.1.at
  have l1 : (0 : Int) ≤ (a : Int) := by omega
  have l2 : (a : Int) < (R : Int) := by have := HX.out; omega
  have l3 : (a : Int) < (c : Int) := by omega
  have l4 : (R : Int) ≤ (c : Int) := by omega
  go_wp2_with (first
    | (go_at_call 44; (with_reducible refine (HC6.out).mono ?_); rintro e w6 ⟨⟨v6, rfl⟩, h6, _, h7⟩; have HL6 := hid (HA5.out.2.trans h6); have HW6 := hid h7; clear h6 h7))
  refine bodyPost_end (results_none rfl _ _ _) rfl ⟨⟨_, rfl⟩, HL6.out, ?_⟩
  have h8 := HW6.out (by rw [HE6.out.2, HR8.out]; have := HX.out; omega)
  have h9 := HFu.out (xs.drop a) (fun z h => HX.out.2.1 z (List.mem_of_mem_drop h)) (by rw [HE6.out.2]; have := HX.out; omega)
  rw [HX.out.1, HG.out] at h9
  rw [h9, HR8.out] at h8
  exact h8
end Go.Proofs.Ytfjgelialaccdaa
