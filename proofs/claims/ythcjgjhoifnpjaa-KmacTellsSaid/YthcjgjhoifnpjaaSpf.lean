import Derived.Test.YthcjgjhoifnpjaaProg
import Derived.Test.YthcjgjhoifnpjaaSpo
import Derived.Lib.SlBytesConst
/- Kmac: tags, by the document. -/
namespace Go.Proofs.Ythcjgjhoifnpjaa
open Go.RowKit

abbrev kmW : List Int := [75, 77, 65, 67]
/-- What the hash is told of. -/
def kmM (zk zm : List Int) (rate long : Nat) : List Int := cpd (sto zk) rate ++ zm ++ rig long
def kmL (zk zm zc : List Int) (rate n long : Nat) : List Int := namL kmW zc (kmM zk zm rate long) rate n
set_option maxRecDepth 100000 in
theorem refkcheck_any (b n : Int) (w : World) : Calls Try.prog 9 #[.int .i64 b, .int .i64 n] w fun e w' => e = .returned (.int .i64 (chE b n)) ∧ w' = w := by
  have H := hid (refcheck_any b n w)
  go_enter Try.func9, Try.ntmps9
  go_wp2_with (first
    | (go_at_call 19; (with_reducible refine (H.out).mono ?_); rintro e w1 ⟨rfl, rfl⟩))
  go_ret
  exact ⟨rfl, rfl⟩
set_option maxRecDepth 100000 in
set_option maxHeartbeats 800000 in
theorem refkhead_any (b : Int) (R : Nat) (xk : Value) (zk : List Int) (w : World) (hb : raN b = (R : Int)) (hR : 1 ≤ R ∧ R ≤ 1000) (hk : Rd .u8 w xk zk) (hl : zk.length ≤ 5000) :
    Calls Try.prog 11 #[.int .i64 b, xk] w fun e w' => CatP w (cpd (sto zk) R) e w' := by
  have HS := hid (refstr_any xk zk w hk)
  have HRa := hid (fun w => refrate_any b w)
  rw [hb] at HRa
  have HP := hid (fun (u : Value) (w : World) (h : Rd .u8 w u (sto zk)) => refpad_own u _ R w h hR)
  have HLe := hid (sto_le5 hl)
  have HWf := hid (sto_wf5 hl (wfs_of hk))
  clear hb hk hl
  go_enter Try.func11, Try.ntmps11
  go_wp2_with (first
    | (go_at_call 21; (with_reducible refine (HS.out).mono ?_); rintro e w1 ⟨v1, rfl, ho, hl⟩; have HO1 : Hid (Rd .u8 w1 v1 (sto zk)) := hid (ho.rd (by have := HLe.out; show _ * 1 ≤ _; omega) HWf.out); have HW1 := hid hl; clear ho hl)
    | (go_at_call 22; (with_reducible refine (HRa.out w1).mono ?_); rintro e w1 ⟨rfl, rfl⟩)
    | (go_at_call 20; (with_reducible refine (HP.out v1 w1 HO1.out).mono ?_); rintro e w2 ⟨v2, rfl, ho, hl⟩; have HO2 := hid (own_base ho HW1.out.size); have HW2 := hid (HW1.out.trans (hl.mono HW1.out.size)); clear ho hl))
  go_ret
  exact ⟨_, rfl, HO2.out, HW2.out⟩
theorem rig_wf5 {n : Nat} (h : n < 9223372036854775808) : ∀ z ∈ rig n, (Lit.int .u8 z).wf = true := rig_wf h
theorem apart_at {g c n cap : Nat} (h : c < g) : Apart (.slice (some ⟨g, 0, none⟩) n cap) c := fun b off s n' cap' e _ => by
  injection e with e1 e2 e3
  injection e1 with e1
  injection e1 with e1 e4 e5
  omega
abbrev kmC : Array Value := #[.int .u8 75, .int .u8 77, .int .u8 65, .int .u8 67]
theorem km_conv (w : World) : (convert 22 22 (.slice (some ⟨w.heap.size, 0, none⟩) 4 4)).run Try.prog (w.alloc (.cells kmC 5)) = .ok (.slice (some ⟨w.heap.size, 0, none⟩) 4 4) (w.alloc (.cells kmC 5 (4, 5))) :=
  Lib.run_convert_bytes_const (P := Try.prog) w 22 5 kmC 4 4 Try.underlying22 Try.underlying5
theorem km_new (w : World) : Rd .u8 (w.alloc (.cells kmC 5 (4, 5))) (.slice (some ⟨w.heap.size, 0, none⟩) 4 4) kmW := by
  refine ⟨_, 4, rfl, by decide, by decide, fun _ => ⟨w.heap.size, 0, rfl, by simp, fun j hj => ?_⟩⟩
  have e := heap_alloc_new w (.cells kmC 5 (4, 5))
  simp only [World.cell?, e, Nat.zero_add]
  have hj4 : j < 4 := hj
  rcases (by omega : j = 0 ∨ j = 1 ∨ j = 2 ∨ j = 3) with rfl | rfl | rfl | rfl <;> rfl

set_option maxRecDepth 100000 in
set_option maxHeartbeats 1600000 in
theorem refksum_free (b : Int) (q n : Nat) (xk xm xc : Value) (zk zm zc : List Int) (w : World) (hb : raN b = ((8 * q : Nat) : Int)) (hq : 1 ≤ q ∧ q ≤ 24) (hxk : Rd .u8 w xk zk) (hxm : Rd .u8 w xm zm) (hxc : Rd .u8 w xc zc) (hlk : zk.length ≤ 1000) (hlm : zm.length ≤ 1000) (hlc : zc.length ≤ 1000) (hn : n ≤ 65536) :
    Calls Try.prog 12 #[.int .i64 b, xk, xm, xc, .int .i64 (n : Int), .bool true] w fun e w' => RdP w (kmL zk zm zc (8 * q) n 0) e w' := by
  have HH := hid (fun w (h : Rd .u8 w xk zk) => refkhead_any b (8 * q) xk zk w hb (by omega) h (by omega))
  have HSl := hid (sto_le5 (z := zk) (by omega))
  have HSw := hid (sto_wf5 (z := zk) (by omega) (wfs_of hxk))
  have HPl := hid (cpd_le (zs := sto zk) (n := 8 * q) (by omega) (by have := HSl.out; omega))
  have HPw := hid (cpd_wf (zs := sto zk) (n := 8 * q) (by omega) HSw.out)
  have HRg : Hid (∀ w, Calls Try.prog 24 #[.int .i64 0] w fun e w' => CatP w (rig 0) e w') := hid (fun w => refright_any 0 w (by omega))
  have HRl := hid (rig_le (n := 0) (by omega))
  have HRw := hid (rig_wf5 (n := 0) (by omega))
  have HXk := hid hxk
  have HXm := hid hxm
  have HXc := hid hxc
  have HWm := hid (wfs_of hxm)
  have HLm := hid hlm
  have HKl : Hid ((cpd (sto zk) (8 * q)).length ≤ 3000) := hid (by have h1 := HPl.out; have h2 := sto_len zk; have h3 := lef_le (n := 8 * zk.length) (by omega); omega)
  have HNa := hid (fun (u xn : Value) (w : World) (h1 : Rd .u8 w xn kmW) (h2 : Rd .u8 w xc zc) (h3 : Rd .u8 w u (kmM zk zm (8 * q) 0)) => refnamed_any b q n xn xc u kmW zc _ w hb hq h1 h2 h3 (by decide) (by omega) (by have h4 := HKl.out; have h5 := HRl.out; have h6 := HLm.out; unfold kmM; simp only [List.length_append]; omega) hn)
  have HKm : Hid (kmM zk zm (8 * q) 0 = cpd (sto zk) (8 * q) ++ zm ++ rig 0) := hid rfl
  have HRes : Hid (kmL zk zm zc (8 * q) n 0 = namL kmW zc (kmM zk zm (8 * q) 0) (8 * q) n) := hid rfl
  rw [HRes.out]
  obtain ⟨n8, hn8⟩ : ∃ n8, 8 * n = n8 := ⟨_, rfl⟩
  have e1 : (8 : Int) * (n : Int) = (n8 : Int) := by omega
  have e2 : IntKind.i64.wrap (n8 : Int) = (n8 : Int) := by rw [IntKind.wrap_i64]; omega
  generalize kmM zk zm (8 * q) 0 = KM at *
  generalize cpd (sto zk) (8 * q) = KH at *
  generalize rig 0 = RG at *
  generalize namL kmW zc KM (8 * q) n = NM at *
  try rw [hn8] at HRg
  clear hn8
  have HE0 : Hid (Own .u8 w.heap.size 5 (w.alloc (.cells #[] 5)) (.slice (some ⟨w.heap.size, 0, none⟩) 0 0) []) := hid (own_empty w (Nat.le_refl _))
  have HW0 : Hid (Below w.heap.size w (w.alloc (.cells #[] 5))) := hid ((Below.refl _ _).alloc (Nat.le_refl _) _)
  have HH0 := hid (HH.out _ (HXk.out.self HW0.out))
  clear hb hq hxk hxm hxc hlk hlm hlc hn HPl HRes
  go_enter Try.func12, Try.ntmps12
  go_wp2_with (first
    | (go_at_call 11; (with_reducible refine (HH0.out).mono ?_); rintro e w1 ⟨v1, rfl, ho, hl⟩; have HO1 : Hid (Rd .u8 w1 v1 KH) := hid (ho.rd (by have := HKl.out; show _ * 1 ≤ _; omega) HPw.out); have HE1 := hid (own_up HE0.out hl); have HW1 := hid (HW0.out.trans (hl.mono HW0.out.size)); clear ho hl)
    | (at_builtin; refine wpList_append_rd rfl (.tmp 18) (.tmp 21) 22 rfl .u8 w.heap.size 5 Try.underlying22 cinfob (by decide) _ _ rfl HE1.out _ _ rfl HO1.out (by have := HKl.out; show (0 + _) * 1 ≤ _; omega) HW1.out.size w.heap.size w HW1.out (Nat.le_refl _) ?_; intro v2 w2 hown hlow _; have HO2 : Hid (Own .u8 w.heap.size 5 w2 v2 KH) := hid (by simpa using hown); have HW2 := hid hlow; clear hown hlow)
    | (at_builtin; refine wpList_append_rd rfl (.tmp 22) (.tmp 23) 22 rfl .u8 w.heap.size 5 Try.underlying22 cinfob (by decide) _ _ rfl HO2.out _ _ rfl (HXm.out.self HW2.out) (by have := HKl.out; have := HLm.out; show (_ + _) * 1 ≤ _; omega) HW2.out.size w.heap.size w HW2.out (Nat.le_refl _) ?_; intro v3 w3 hown hlow _; have HW3 := hid hlow; have kcv := km_conv w3; have HO3 := hid (hown.alloc (.cells kmC 5 (4, 5))); have HLt3 := hid hown.lt; have HK3 := hid (km_new w3); have HRg3 := hid (HRg.out (w3.alloc (.cells kmC 5 (4, 5)))); have HW3b := hid (hlow.alloc hlow.size (.cells kmC 5 (4, 5))); clear hown hlow)
    | (go_at_call 24; (with_reducible refine (HRg3.out).mono ?_); rintro e w4 ⟨v4, rfl, ho, hl⟩; have HO4 : Hid (Rd .u8 w4 v4 RG) := hid (ho.rd (by have := HRl.out; show _ * 1 ≤ _; omega) HRw.out); have HO3b := hid (own_up HO3.out hl); have HK4 := hid (HK3.out.self hl); have HW4 := hid (HW3b.out.trans (hl.mono HW3b.out.size)); have HKlt : Hid (w3.heap.size < w4.heap.size) := hid (by have := hl.size; simp at this; omega); clear ho hl)
    | (at_builtin; refine wpList_append_grow_rd rfl (.tmp 29) (.tmp 31) 22 rfl .u8 w.heap.size 5 Try.underlying22 cinfob (by decide) _ _ rfl HO3b.out _ _ rfl HO4.out (by rw [List.length_append]; have := HKl.out; have := HLm.out; have := HRl.out; show (_ + _) * 1 ≤ _; omega) HW4.out.size ?_; intro v5 w5 hown hg; have HW5 := hid (HW4.out.grown hg HW4.out.size (fun j hj => (HO3b.out.lt j hj).1)); have HO5 : Hid (Rd .u8 w5 v5 KM) := hid (by rw [HKm.out]; exact hown.rd (by simp only [List.length_append]; have := HKl.out; have := HLm.out; have := HRl.out; show (_ + _ + _) * 1 ≤ _; omega) (fun z hz => (List.mem_append.1 hz).elim (fun hz => (List.mem_append.1 hz).elim (HPw.out z) (HWm.out z)) (HRw.out z))); have HK5 : Hid (Rd .u8 w5 (.slice (some ⟨w3.heap.size, 0, none⟩) 4 4) kmW) := hid (rd_same HK4.out hg (fun c hc => apart_at (HLt3.out c hc).2)); clear hown hg)
    | (go_at_call 23; (with_reducible refine (HNa.out v5 _ w5 HK5.out (HXc.out.self HW5.out) HO5.out).mono ?_); rintro e w6 ⟨v6, rfl, hr, hl⟩; have HR6 := hid hr; have HW6 := hid (HW5.out.trans (hl.mono HW5.out.size)); clear hr hl))
  go_ret
  exact ⟨_, rfl, HR6.out, HW6.out⟩

set_option maxRecDepth 100000 in
set_option maxHeartbeats 1600000 in
theorem refksum_len (b : Int) (q n : Nat) (xk xm xc : Value) (zk zm zc : List Int) (w : World) (hb : raN b = ((8 * q : Nat) : Int)) (hq : 1 ≤ q ∧ q ≤ 24) (hxk : Rd .u8 w xk zk) (hxm : Rd .u8 w xm zm) (hxc : Rd .u8 w xc zc) (hlk : zk.length ≤ 1000) (hlm : zm.length ≤ 1000) (hlc : zc.length ≤ 1000) (hn : n ≤ 65536) :
    Calls Try.prog 12 #[.int .i64 b, xk, xm, xc, .int .i64 (n : Int), .bool false] w fun e w' => RdP w (kmL zk zm zc (8 * q) n (8 * n)) e w' := by
  have HH := hid (fun w (h : Rd .u8 w xk zk) => refkhead_any b (8 * q) xk zk w hb (by omega) h (by omega))
  have HSl := hid (sto_le5 (z := zk) (by omega))
  have HSw := hid (sto_wf5 (z := zk) (by omega) (wfs_of hxk))
  have HPl := hid (cpd_le (zs := sto zk) (n := 8 * q) (by omega) (by have := HSl.out; omega))
  have HPw := hid (cpd_wf (zs := sto zk) (n := 8 * q) (by omega) HSw.out)
  have HRg : Hid (∀ w, Calls Try.prog 24 #[.int .i64 ((8 * n : Nat) : Int)] w fun e w' => CatP w (rig (8 * n)) e w') := hid (fun w => refright_any (8 * n) w (by omega))
  have HRl := hid (rig_le (n := (8 * n)) (by omega))
  have HRw := hid (rig_wf5 (n := (8 * n)) (by omega))
  have HXk := hid hxk
  have HXm := hid hxm
  have HXc := hid hxc
  have HWm := hid (wfs_of hxm)
  have HLm := hid hlm
  have HKl : Hid ((cpd (sto zk) (8 * q)).length ≤ 3000) := hid (by have h1 := HPl.out; have h2 := sto_len zk; have h3 := lef_le (n := 8 * zk.length) (by omega); omega)
  have HNa := hid (fun (u xn : Value) (w : World) (h1 : Rd .u8 w xn kmW) (h2 : Rd .u8 w xc zc) (h3 : Rd .u8 w u (kmM zk zm (8 * q) (8 * n))) => refnamed_any b q n xn xc u kmW zc _ w hb hq h1 h2 h3 (by decide) (by omega) (by have h4 := HKl.out; have h5 := HRl.out; have h6 := HLm.out; unfold kmM; simp only [List.length_append]; omega) hn)
  have HKm : Hid (kmM zk zm (8 * q) (8 * n) = cpd (sto zk) (8 * q) ++ zm ++ rig (8 * n)) := hid rfl
  have HRes : Hid (kmL zk zm zc (8 * q) n (8 * n) = namL kmW zc (kmM zk zm (8 * q) (8 * n)) (8 * q) n) := hid rfl
  rw [HRes.out]
  obtain ⟨n8, hn8⟩ : ∃ n8, 8 * n = n8 := ⟨_, rfl⟩
  have e1 : (8 : Int) * (n : Int) = (n8 : Int) := by omega
  have e2 : IntKind.i64.wrap (n8 : Int) = (n8 : Int) := by rw [IntKind.wrap_i64]; omega
  generalize kmM zk zm (8 * q) (8 * n) = KM at *
  generalize cpd (sto zk) (8 * q) = KH at *
  generalize rig (8 * n) = RG at *
  generalize namL kmW zc KM (8 * q) n = NM at *
  try rw [hn8] at HRg
  clear hn8
  have HE0 : Hid (Own .u8 w.heap.size 5 (w.alloc (.cells #[] 5)) (.slice (some ⟨w.heap.size, 0, none⟩) 0 0) []) := hid (own_empty w (Nat.le_refl _))
  have HW0 : Hid (Below w.heap.size w (w.alloc (.cells #[] 5))) := hid ((Below.refl _ _).alloc (Nat.le_refl _) _)
  have HH0 := hid (HH.out _ (HXk.out.self HW0.out))
  clear hb hq hxk hxm hxc hlk hlm hlc hn HPl HRes
  go_enter Try.func12, Try.ntmps12
  go_wp2_with (first
    | (go_at_call 11; (with_reducible refine (HH0.out).mono ?_); rintro e w1 ⟨v1, rfl, ho, hl⟩; have HO1 : Hid (Rd .u8 w1 v1 KH) := hid (ho.rd (by have := HKl.out; show _ * 1 ≤ _; omega) HPw.out); have HE1 := hid (own_up HE0.out hl); have HW1 := hid (HW0.out.trans (hl.mono HW0.out.size)); clear ho hl)
    | (at_builtin; refine wpList_append_rd rfl (.tmp 18) (.tmp 21) 22 rfl .u8 w.heap.size 5 Try.underlying22 cinfob (by decide) _ _ rfl HE1.out _ _ rfl HO1.out (by have := HKl.out; show (0 + _) * 1 ≤ _; omega) HW1.out.size w.heap.size w HW1.out (Nat.le_refl _) ?_; intro v2 w2 hown hlow _; have HO2 : Hid (Own .u8 w.heap.size 5 w2 v2 KH) := hid (by simpa using hown); have HW2 := hid hlow; clear hown hlow)
    | (at_builtin; refine wpList_append_rd rfl (.tmp 22) (.tmp 23) 22 rfl .u8 w.heap.size 5 Try.underlying22 cinfob (by decide) _ _ rfl HO2.out _ _ rfl (HXm.out.self HW2.out) (by have := HKl.out; have := HLm.out; show (_ + _) * 1 ≤ _; omega) HW2.out.size w.heap.size w HW2.out (Nat.le_refl _) ?_; intro v3 w3 hown hlow _; have HW3 := hid hlow; have kcv := km_conv w3; have HO3 := hid (hown.alloc (.cells kmC 5 (4, 5))); have HLt3 := hid hown.lt; have HK3 := hid (km_new w3); have HRg3 := hid (HRg.out (w3.alloc (.cells kmC 5 (4, 5)))); have HW3b := hid (hlow.alloc hlow.size (.cells kmC 5 (4, 5))); clear hown hlow)
    | (go_at_call 24; (with_reducible refine (HRg3.out).mono ?_); rintro e w4 ⟨v4, rfl, ho, hl⟩; have HO4 : Hid (Rd .u8 w4 v4 RG) := hid (ho.rd (by have := HRl.out; show _ * 1 ≤ _; omega) HRw.out); have HO3b := hid (own_up HO3.out hl); have HK4 := hid (HK3.out.self hl); have HW4 := hid (HW3b.out.trans (hl.mono HW3b.out.size)); have HKlt : Hid (w3.heap.size < w4.heap.size) := hid (by have := hl.size; simp at this; omega); clear ho hl)
    | (at_builtin; refine wpList_append_grow_rd rfl (.tmp 29) (.tmp 31) 22 rfl .u8 w.heap.size 5 Try.underlying22 cinfob (by decide) _ _ rfl HO3b.out _ _ rfl HO4.out (by rw [List.length_append]; have := HKl.out; have := HLm.out; have := HRl.out; show (_ + _) * 1 ≤ _; omega) HW4.out.size ?_; intro v5 w5 hown hg; have HW5 := hid (HW4.out.grown hg HW4.out.size (fun j hj => (HO3b.out.lt j hj).1)); have HO5 : Hid (Rd .u8 w5 v5 KM) := hid (by rw [HKm.out]; exact hown.rd (by simp only [List.length_append]; have := HKl.out; have := HLm.out; have := HRl.out; show (_ + _ + _) * 1 ≤ _; omega) (fun z hz => (List.mem_append.1 hz).elim (fun hz => (List.mem_append.1 hz).elim (HPw.out z) (HWm.out z)) (HRw.out z))); have HK5 : Hid (Rd .u8 w5 (.slice (some ⟨w3.heap.size, 0, none⟩) 4 4) kmW) := hid (rd_same HK4.out hg (fun c hc => apart_at (HLt3.out c hc).2)); clear hown hg)
    | (go_at_call 23; (with_reducible refine (HNa.out v5 _ w5 HK5.out (HXc.out.self HW5.out) HO5.out).mono ?_); rintro e w6 ⟨v6, rfl, hr, hl⟩; have HR6 := hid hr; have HW6 := hid (HW5.out.trans (hl.mono HW5.out.size)); clear hr hl))
  go_ret
  exact ⟨_, rfl, HR6.out, HW6.out⟩
end Go.Proofs.Ythcjgjhoifnpjaa
