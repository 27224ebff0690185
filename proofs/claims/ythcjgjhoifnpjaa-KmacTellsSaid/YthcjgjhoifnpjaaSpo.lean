import Derived.Test.YthcjgjhoifnpjaaProg
import Derived.Test.YthcjgjhoifnpjaaOcb
import Derived.Test.YthcjgjhoifnpjaaCod
import Derived.Test.YthcjgjhoifnpjaaKed
set_option maxRecDepth 100000
/- Sponge: what is filled in, and what is told, as lists of numbers. -/
namespace Go.Proofs.Ythcjgjhoifnpjaa
open Go.RowKit

/-- The last byte put together with 128. -/
def top (z : Int) : Int := bits .xor .u8 z 128
theorem top_nat {z : Int} (h : 0 ≤ z ∧ z ≤ 255) : 0 ≤ top z ∧ top z ≤ 255 ∧ top (top z) = z := by
  obtain ⟨n, rfl⟩ := Int.eq_ofNat_of_zero_le h.1
  have : ∀ n : Nat, n < 256 → 0 ≤ top (n : Int) ∧ top (n : Int) ≤ 255 ∧ top (top (n : Int)) = (n : Int) := by decide +kernel
  exact this n (by omega)
/-- A message, with the mark and what is missing. -/
def fl0 (zs : List Int) (rate : Nat) (mark : Int) : List Int := zs ++ [mark] ++ List.replicate (cmis (zs.length + 1) rate) 0
/-- .. filled in. -/
def flL (zs : List Int) (rate : Nat) (mark : Int) : List Int := (fl0 zs rate mark).set ((fl0 zs rate mark).length - 1) (top (nth (fl0 zs rate mark) ((fl0 zs rate mark).length - 1)))
theorem fl0_len (zs : List Int) (rate : Nat) (mark : Int) : (fl0 zs rate mark).length = zs.length + 1 + cmis (zs.length + 1) rate := by simp [fl0]; omega
theorem flL_len (zs : List Int) (rate : Nat) (mark : Int) : (flL zs rate mark).length = zs.length + 1 + cmis (zs.length + 1) rate := by rw [flL, List.length_set, fl0_len]
theorem flL_mod (zs : List Int) {rate : Nat} (mark : Int) (h : 0 < rate) : (flL zs rate mark).length % rate = 0 := by
  rw [flL_len]
  exact (mis_at h (Nat.le_refl _)).2 rfl
theorem fl0_bytes {zs : List Int} {rate : Nat} {mark : Int} (hz : ∀ z ∈ zs, 0 ≤ z ∧ z ≤ 255) (hm : 0 ≤ mark ∧ mark ≤ 255) : ∀ z ∈ fl0 zs rate mark, 0 ≤ z ∧ z ≤ 255 := by
  intro z h
  unfold fl0 at h
  rcases List.mem_append.1 h with h | h
  · rcases List.mem_append.1 h with h | h
    · exact hz z h
    · rw [List.mem_singleton] at h; subst h; exact hm
  · rw [(List.mem_replicate.1 h).2]; decide
theorem flL_bytes {zs : List Int} {rate : Nat} {mark : Int} (hz : ∀ z ∈ zs, 0 ≤ z ∧ z ≤ 255) (hm : 0 ≤ mark ∧ mark ≤ 255) : ∀ z ∈ flL zs rate mark, 0 ≤ z ∧ z ≤ 255 := by
  intro z h
  have hb := fl0_bytes (rate := rate) hz hm
  rcases List.mem_or_eq_of_mem_set h with h | h
  · exact hb z h
  · subst h
    have hl := fl0_len zs rate mark
    have := top_nat (hb (nth (fl0 zs rate mark) ((fl0 zs rate mark).length - 1)) (by rw [nth_of (by omega)]; exact List.getElem_mem _))
    exact ⟨this.1, this.2.1⟩

/-- The word that lies at a place, as a number. -/
def lwN (zs : List Int) (a : Int) : Nat := (rl zs a).toNat
theorem lw_at (zs : List Int) (a : Int) : rl zs a = (lwN zs a : Int) ∧ lwN zs a < 2 ^ 64 := by
  have h : 0 ≤ rl zs a ∧ rl zs a < 18446744073709551616 := by
    unfold rl
    split
    · decide
    · show 0 ≤ IntKind.u64.wrap _ ∧ IntKind.u64.wrap _ < _
      rw [IntKind.wrap_u64]; omega
  unfold lwN
  show _ ∧ _ < 18446744073709551616
  omega
/-- A block goes in: r words from place i on. -/
def inW (L : List Int) (i : Nat) (f : Nat → Nat) : Nat → Nat := fun j => f j ^^^ lwN L ((i : Int) + 8 * (j : Int))
def inB (L : List Int) (r i : Nat) (f : Nat → Nat) : Nat → Nat := pm tun mkf 24 (mix r f (inW L i f))
/-- The state behind B blocks of r words. -/
def abN (L : List Int) (r : Nat) : Nat → Nat → Nat
  | 0 => fun _ => 0
  | B + 1 => inB L r (8 * r * B) (abN L r B)
theorem mix_w {n : Nat} {f g : Nat → Nat} (hf : W25 f) (hg : W25 g) : W25 (mix n f g) := fun i hi => by
  unfold mix
  split
  · exact hg i hi
  · exact hf i hi
theorem inW_w {L : List Int} {i : Nat} {f : Nat → Nat} (hf : W25 f) : W25 (inW L i f) := fun j hj => Nat.xor_lt_two_pow (hf j hj) (lw_at L _).2
theorem abN_w (L : List Int) (r : Nat) : ∀ B, W25 (abN L r B)
  | 0 => fun _ _ => by show 0 < _; decide
  | B + 1 => pm_w mkf_lt (mix_w (abN_w L r B) (inW_w (abN_w L r B))) 24 (Nat.le_refl _)
/-- What r words tell. -/
def wdL (f : Nat → Nat) : Nat → List Int
  | 0 => []
  | k + 1 => wdL f k ++ rsL (f k : Int) 8
theorem wdL_len (f : Nat → Nat) : ∀ k, (wdL f k).length = 8 * k
  | 0 => rfl
  | k + 1 => by rw [wdL, List.length_append, wdL_len f k, rsL_len]; omega
/-- The states one behind the other; what T of them tell. -/
def stN (f : Nat → Nat) : Nat → Nat → Nat
  | 0 => f
  | t + 1 => pm tun mkf 24 (stN f t)
def sqL (r : Nat) (f : Nat → Nat) : Nat → List Int
  | 0 => []
  | t + 1 => sqL r f t ++ wdL (stN f t) r
theorem stN_w {f : Nat → Nat} (hf : W25 f) : ∀ t, W25 (stN f t)
  | 0 => hf
  | t + 1 => pm_w mkf_lt (stN_w hf t) 24 (Nat.le_refl _)
theorem sqL_len (r : Nat) (f : Nat → Nat) : ∀ t, (sqL r f t).length = 8 * r * t
  | 0 => rfl
  | t + 1 => by rw [sqL, List.length_append, sqL_len r f t, wdL_len, Nat.mul_succ]
theorem sqL_take (r : Nat) (f : Nat → Nat) (n : Nat) : ∀ {t t' : Nat}, t ≤ t' → n ≤ 8 * r * t → (sqL r f t').take n = (sqL r f t).take n := by
  intro t t' h hn
  induction t' with
  | zero => obtain rfl : t = 0 := by omega
            rfl
  | succ t' ih =>
    by_cases e : t = t' + 1
    · subst e; rfl
    · have h1 : 8 * r * t ≤ 8 * r * t' := Nat.mul_le_mul_left _ (by omega)
      rw [sqL, List.take_append_of_le_length (by rw [sqL_len]; omega), ih (by omega)]
/-- What is told of a message: n bytes. -/
def toldL (r n : Nat) (f : Nat → Nat) : List Int := (sqL r f n).take n
theorem told_of {r n t : Nat} {f : Nat → Nat} (hr : 0 < r) (h : n ≤ 8 * r * t) : (sqL r f t).take n = toldL r n f := by
  unfold toldL
  have h1 : n ≤ 8 * r * n := Nat.le_mul_of_pos_left n (by omega)
  by_cases e : t ≤ n
  · exact (sqL_take r f n e h).symm
  · exact sqL_take r f n (by omega) h1
theorem told_len {r n : Nat} {f : Nat → Nat} (hr : 0 < r) : (toldL r n f).length = n := by
  have h1 : n ≤ 8 * r * n := Nat.le_mul_of_pos_left n (by omega)
  rw [toldL, List.length_take, sqL_len]; omega
theorem told_more {r n m : Nat} {f : Nat → Nat} (hr : 0 < r) (h : n ≤ m) : (toldL r m f).take n = toldL r n f := by
  have h1 : n ≤ 8 * r * m := Nat.le_trans h (Nat.le_mul_of_pos_left m (by omega))
  rw [← told_of hr h1, toldL, List.take_take, Nat.min_eq_left h]
def sumL (zs : List Int) (rate : Nat) (mark : Int) (n : Nat) : List Int :=
  toldL (rate / 8) n (abN (flL zs rate mark) (rate / 8) ((flL zs rate mark).length / rate))
theorem rsL_bytes {x : Int} (h : 0 ≤ x) : ∀ k, ∀ z ∈ rsL x k, 0 ≤ z ∧ z ≤ 255
  | 0, z, hz => by cases hz
  | k + 1, z, hz => by
    rcases List.mem_append.1 hz with hz | hz
    · exact rsL_bytes h k z hz
    · rw [List.mem_singleton] at hz; omega
theorem wdL_bytes (f : Nat → Nat) : ∀ k, ∀ z ∈ wdL f k, 0 ≤ z ∧ z ≤ 255
  | 0, z, hz => by cases hz
  | k + 1, z, hz => by
    rcases List.mem_append.1 hz with hz | hz
    · exact wdL_bytes f k z hz
    · exact rsL_bytes (by omega) 8 z hz
theorem sqL_bytes (r : Nat) (f : Nat → Nat) : ∀ t, ∀ z ∈ sqL r f t, 0 ≤ z ∧ z ≤ 255
  | 0, z, hz => by cases hz
  | k + 1, z, hz => by
    rcases List.mem_append.1 hz with hz | hz
    · exact sqL_bytes r f k z hz
    · exact wdL_bytes _ r z hz
theorem told_bytes (r n : Nat) (f : Nat → Nat) : ∀ z ∈ toldL r n f, 0 ≤ z ∧ z ≤ 255 := fun z hz => sqL_bytes r f n z (List.mem_of_mem_take hz)
end Go.Proofs.Ythcjgjhoifnpjaa

/- Sponge: rates, what is filled in, by the document. -/
namespace Go.Proofs.Ythcjgjhoifnpjaa
open Go.RowKit

/-- A hash's rate. -/
def raN (bits : Int) : Int := if bits = 128 then 168 else if bits = 224 then 144 else if bits = 256 then 136 else if bits = 384 then 104 else if bits = 512 then 72 else 0
set_option maxRecDepth 100000 in
theorem refrate_any (n : Int) (w : World) : Calls Try.prog 22 #[.int .i64 n] w fun e w' => e = .returned (.int .i64 (raN n)) ∧ w' = w := by
  by_cases h1 : n = 128
  · subst h1
    go_enter Try.func22, Try.ntmps22
    go_wp2
    go_ret
    exact ⟨rfl, rfl⟩
  by_cases h2 : n = 224
  · subst h2
    go_enter Try.func22, Try.ntmps22
    go_wp2
    go_ret
    exact ⟨rfl, rfl⟩
  by_cases h3 : n = 256
  · subst h3
    go_enter Try.func22, Try.ntmps22
    go_wp2
    go_ret
    exact ⟨rfl, rfl⟩
  by_cases h4 : n = 384
  · subst h4
    go_enter Try.func22, Try.ntmps22
    go_wp2
    go_ret
    exact ⟨rfl, rfl⟩
  by_cases h5 : n = 512
  · subst h5
    go_enter Try.func22, Try.ntmps22
    go_wp2
    go_ret
    exact ⟨rfl, rfl⟩
  · have e : raN n = 0 := by unfold raN; rw [if_neg h1, if_neg h2, if_neg h3, if_neg h4, if_neg h5]
    rw [e]
    go_enter Try.func22, Try.ntmps22
    go_wp2
    go_ret
    exact ⟨rfl, rfl⟩
/-- Is it a rate? -/
def rad (n : Int) : Bool := decide (8 ≤ n ∧ n ≤ 192 ∧ n % 8 = 0)
theorem rad_of {n : Int} (h : rad n = true) : ∃ q : Nat, n = ((8 * q : Nat) : Int) ∧ 1 ≤ q ∧ q ≤ 24 := by
  have := of_decide_eq_true h
  exact ⟨(n / 8).toNat, by omega, by omega, by omega⟩
/-- Why is there no hash of any length? -/
def chE (b n : Int) : Int := if (b ≠ 128 ∧ b ≠ 256) ∨ n < 0 ∨ 65536 < n then 1 else 0
set_option maxRecDepth 100000 in
theorem refcheck_any (b n : Int) (w : World) : Calls Try.prog 19 #[.int .i64 b, .int .i64 n] w fun e w' => e = .returned (.int .i64 (chE b n)) ∧ w' = w := by
  by_cases h1 : b = 128 ∨ b = 256
  · by_cases h2 : n < 0
    · have e : chE b n = 1 := if_pos (by omega)
      rw [e]
      rcases h1 with rfl | rfl
      all_goals
        go_enter Try.func19, Try.ntmps19
        go_wp2
        go_ret
        exact ⟨rfl, rfl⟩
    · by_cases h3 : 65536 < n
      · have e : chE b n = 1 := if_pos (by omega)
        rw [e]
        rcases h1 with rfl | rfl
        all_goals
          go_enter Try.func19, Try.ntmps19
          go_wp2
          go_ret
          exact ⟨rfl, rfl⟩
      · have e : chE b n = 0 := if_neg (by omega)
        rw [e]
        rcases h1 with rfl | rfl
        all_goals
          go_enter Try.func19, Try.ntmps19
          go_wp2
          go_ret
          exact ⟨rfl, rfl⟩
  · have e : chE b n = 1 := if_pos (by omega)
    have h2 : ¬ b = 128 := fun h => h1 (.inl h)
    have h3 : ¬ b = 256 := fun h => h1 (.inr h)
    rw [e]
    go_enter Try.func19, Try.ntmps19
    go_wp2
    go_ret
    exact ⟨rfl, rfl⟩

set_option maxRecDepth 100000 in
set_option maxHeartbeats 800000 in
theorem reffill_any (v : Value) (zs : List Int) (rate : Nat) (mark : Int) (w : World) (h : Rd .u8 w v zs) (hl : zs.length ≤ 1000000) (hr : 1 ≤ rate ∧ rate ≤ 192) (hm : 0 ≤ mark ∧ mark ≤ 255) :
    Calls Try.prog 40 #[v, .int .i64 (rate : Int), .int .u8 mark] w fun e w' => CatP w (flL zs rate mark) e w' := by
  obtain ⟨M, hM⟩ : ∃ M, cmis (zs.length + 1) rate = M := ⟨_, rfl⟩
  have hMl : M < rate := by rw [← hM]; exact mis_lt hr.1
  have HMis : Hid (∀ k, k ≤ M → ((zs.length + 1 + k) % rate = 0 ↔ k = M)) := hid fun k hk => by
    have := mis_at (n := zs.length + 1) (w := rate) (k := k) hr.1 (by rw [hM]; exact hk)
    rw [hM] at this
    exact this
  have HF0 : Hid (fl0 zs rate mark = zs ++ [mark] ++ List.replicate M 0) := hid (by unfold fl0; rw [hM])
  have HB := hid (fl0_bytes (rate := rate) (rd_bytes h) hm)
  have HR := hid h
  have HXL : Hid ((zs ++ [mark]).length = zs.length + 1) := hid (by simp)
  have HE0 : Hid (Own .u8 w.heap.size 5 (w.alloc (.cells #[] 5)) (.slice (some ⟨w.heap.size, 0, none⟩) 0 0) []) := hid (own_empty w (Nat.le_refl _))
  have HW0 : Hid (Below w.heap.size w (w.alloc (.cells #[] 5))) := hid ((Below.refl _ _).alloc (Nat.le_refl _) _)
  have HRl := hid hr
  obtain ⟨a, cap, rfl, _⟩ := h
  obtain ⟨L, hL⟩ : ∃ L, zs.length = L := ⟨_, rfl⟩
  have HLz := hid hL
  rw [hL] at HR hl hM HXL HMis ⊢
  have HLl := hid hl
  have g0 : ¬ ((rate : Int) = 0) := by omega
  have HMl := hid hMl
  clear hM hL hl hMl hr
  go_enter Try.func40, Try.ntmps40
  go_wp2_with (first
    | (at_builtin; refine wpList_append_rd rfl (.tmp 8) (.tmp 9) 22 rfl .u8 w.heap.size 5 Try.underlying22 cinfob (by decide) _ _ rfl HE0.out _ _ rfl (HR.out.self ((Below.refl _ _).alloc (Nat.le_refl _) _)) (by have := HLz.out; have := HLl.out; show (0 + _) * 1 ≤ _; omega) HW0.out.size w.heap.size w HW0.out (Nat.le_refl _) ?_; intro v1 w1 hown hlow _; have HO1 : Hid (Own .u8 w.heap.size 5 w1 v1 zs) := hid (by simpa using hown); have HW1 := hid hlow; clear hown hlow)
    | (at_builtin; refine wpList_append_ints rfl (.tmp 10) (.tmp 12) 22 rfl .u8 w.heap.size 5 Try.underlying22 cinfob (by decide) _ _ rfl (HO1.out.alloc _) ⟨w1.heap.size, 0, none⟩ 1 1 [mark] rfl rfl (cell_new_int w1 .u8 mark 5) (by have := HLz.out; have := HLl.out; show (_ + 1) * 1 ≤ _; omega) (by have := HW1.out.size; simp; omega) w.heap.size w (HW1.out.alloc (HW1.out.size) _) (Nat.le_refl _) ?_; intro v2 w2 hown hlow _; have HI : Hid (RpI w w2 (zs ++ [mark]) v2 0) := hid ⟨by simpa using hown, hlow⟩; clear hown hlow))
  obtain ⟨X, hX⟩ : ∃ X, X = zs ++ [mark] := ⟨_, rfl⟩
  rw [← hX] at HI HF0 HXL
  clear hX HE0 HW0 HR HO1 HW1
  go_loopw [7] (fun v wr => ∃ k : Nat, k ≤ M ∧ RpI w wr X v k) (fun v _ => L + 1 + M - lenV v)
  case atStart => exact ⟨0, by omega, HI.out⟩
  case round =>
    obtain ⟨k, hk, hI⟩ := hrel
    have HI := hid hI
    obtain ⟨p, cp, rfl, _⟩ := hI.own.slice
    have HKM := hid (HMis.out k hk)
    have HLen : Hid ((X ++ List.replicate k 0).length = L + 1 + k) := hid (by rw [List.length_append, HXL.out, List.length_replicate])
    obtain ⟨T, hT⟩ : ∃ T, (X ++ List.replicate k (0 : Int)).length = T := ⟨_, rfl⟩
    have hTS : T = L + 1 + k := by rw [← hT]; exact HLen.out
    rw [hT] at HI ⊢
    have HTL := hid hT
    clear hI hT
    by_cases hlt : k < M
    · have hne : ¬ (T % rate = 0) := by rw [hTS, HKM.out]; omega
      obtain ⟨r, hr⟩ : ∃ r, T % rate = r := ⟨_, rfl⟩
      rw [hr] at hne
      have e1 : (T : Int).tmod (rate : Int) = (r : Int) := by rw [← hr]; rfl
      have e2 : (T : Int) % (rate : Int) = (r : Int) := by rw [← hr]; rfl
      have e3 : ¬ ((r : Int) = 0) := by omega
      have e4 : ((r : Int) != 0) = true := by simpa using e3
      have HT := hid hTS
      have HLim : Hid (((X ++ List.replicate k (0 : Int)).length + 1) * (IntKind.u8.bits / 8) ≤ 140737488355328) := hid (by have := HTL.out; have := HT.out; have := HLl.out; have := HRl.out; have := HMl.out; show (_ + 1) * 1 ≤ _; omega)
      have HSz : Hid (w.heap.size ≤ (wr.alloc (.cells #[.int .u8 0] 5)).heap.size) := hid (by have := HI.out.low.size; simp; omega)
      clear hTS hr
      go_wp2_with (first
        | (at_builtin; refine wpList_append_ints rfl (.tmp 19) (.tmp 20) 22 rfl .u8 w.heap.size 5 Try.underlying22 cinfob (by decide) _ _ rfl (HI.out.own.alloc _) ⟨wr.heap.size, 0, none⟩ 1 1 [(0 : Int)] rfl rfl (cell_new_int wr .u8 0 5) HLim.out HSz.out w.heap.size w (HI.out.low.alloc (HI.out.low.size) _) (Nat.le_refl _) ?_; intro v' w' hown' hlow' _; have HI2 := hid (RpI.step hown' hlow'); clear hown' hlow'))
      go_roundw
      case rel => exact ⟨k + 1, hlt, HI2.out⟩
      case measure =>
        obtain ⟨p2, cp2, e, _⟩ := HI2.out.own.slice
        have h3 : (X ++ List.replicate (k + 1) (0 : Int)).length = L + 1 + (k + 1) := by rw [List.length_append, HXL.out, List.length_replicate]
        rw [h3] at e
        subst e
        have := HT.out
        simp [lenV]
        omega
    · obtain rfl : k = M := by omega
      have h0 : T % rate = 0 := by rw [hTS, HKM.out]
      have e1 : (T : Int).tmod (rate : Int) = 0 := by have : (T : Int).tmod (rate : Int) = ((T % rate : Nat) : Int) := rfl
                                                      rw [this, h0]; rfl
      have e2 : (T : Int) % (rate : Int) = 0 := by omega
      have e3 : ((0 : Int) != 0) = false := rfl
      obtain ⟨g, cg, hv, _, h2, hc, hf, hs⟩ := HI.out.own.part (by rw [HTL.out]; omega)
      rw [HTL.out] at hv hc hs
      injection hv with hv1 _ hv3
      subst hv1
      subst hv3
      obtain ⟨t, ht⟩ : ∃ t, T = t + 1 := ⟨L + 1 + k - 1, by omega⟩
      have hz := HB.out (nth (X ++ List.replicate k 0) t) (by rw [HF0.out, nth_of (by rw [HTL.out]; omega)]; exact List.getElem_mem _)
      have hct := hc t (by omega)
      have hft := hf t
      have HS : Hid (Own .u8 w.heap.size 5 (wr.setCell ⟨g, t, none⟩ (.int .u8 (top (nth (X ++ List.replicate k 0) t)))) (.slice (some ⟨g, 0, none⟩) T cp) (flL zs rate mark)) := hid (by
        have := hs t (top (nth (X ++ List.replicate k 0) t)) (by omega)
        rw [flL, HF0.out, HTL.out, ht, Nat.add_sub_cancel]
        rwa [ht] at this)
      have HLw : Hid (Below w.heap.size w (wr.setCell ⟨g, t, none⟩ (.int .u8 (top (nth (X ++ List.replicate k 0) t))))) := hid (HI.out.low.setCell (by assumption) _)
      have e5 : (T : Int) - 1 = (t : Int) := by omega
      have e6 : (0 : Int) ≤ (t : Int) := by omega
      have e7 : (t : Int) < (T : Int) := by omega
      have e8 : IntKind.i64.wrap (t : Int) = t := by rw [IntKind.wrap_i64]; have := HLl.out; have := HRl.out; have := HMl.out; omega
      have HTop : Hid (bits .xor .u8 (nth (X ++ List.replicate k 0) t) 128 = top (nth (X ++ List.replicate k 0) t)) := hid rfl
      generalize nth (X ++ List.replicate k 0) t = z at *
      clear h0 hTS hc hs ht
      go_wp2
      go_ret
      exact ⟨_, rfl, HS.out, HLw.out⟩
end Go.Proofs.Ythcjgjhoifnpjaa

/- Sponge: what is told, by the document. -/
namespace Go.Proofs.Ythcjgjhoifnpjaa
open Go.RowKit

abbrev z25 : Array Value := #[.int .u64 0, .int .u64 0, .int .u64 0, .int .u64 0, .int .u64 0, .int .u64 0, .int .u64 0, .int .u64 0, .int .u64 0, .int .u64 0, .int .u64 0, .int .u64 0, .int .u64 0, .int .u64 0, .int .u64 0, .int .u64 0, .int .u64 0, .int .u64 0, .int .u64 0, .int .u64 0, .int .u64 0, .int .u64 0, .int .u64 0, .int .u64 0, .int .u64 0]
theorem z25_wa : wa 25 (fun _ => 0) = z25 := rfl
/-- A call tells a row that is read. -/
def RdP (w : World) (zs : List Int) (e : Ending) (w' : World) : Prop := ∃ v, e = .returned v ∧ Rd .u8 w' v zs ∧ Below w.heap.size w w'
/-- .. whose capacity is told. -/
def RdQ (w : World) (zs : List Int) (e : Ending) (w' : World) : Prop := ∃ v, e = .returned v ∧ RdC w' v zs ∧ Below w.heap.size w w'
theorem RdQ.weak {w w' : World} {zs : List Int} {e : Ending} (h : RdQ w zs e w') : RdP w zs e w' := by
  obtain ⟨v, h1, h2, h3⟩ := h
  exact ⟨v, h1, h2.rd, h3⟩
theorem own_cap {B : Nat} {w : World} {p : Option Addr} {T cap : Nat} {xs : List Int} (h : Own .u8 B 5 w (.slice p T cap) xs) : T ≤ cap ∧ cap ≤ maxLen := by
  obtain ⟨_, h2⟩ := h
  rcases h2 with ⟨e, h0⟩ | ⟨g, c, cur, e, _, _, h3, h4, _⟩
  · injection e with e1 e2 e3
    subst e2; subst e3
    exact ⟨Nat.le_refl _, Nat.zero_le _⟩
  · injection e with e1 e2 e3
    subst e2; subst e3
    exact ⟨h3, h4⟩
/-- The state in its block, a row behind it. -/
structure SmI (w wr : World) (lv : Value) (L : List Int) (f : Nat → Nat) : Prop where
  var : Aw wr w.heap.size 25 54 f
  row : Own .u8 (w.heap.size + 1) 5 wr lv L
  low : Below w.heap.size w wr
theorem own_up {B : Nat} {w w' : World} {v : Value} {zs : List Int} (h : Own .u8 B 5 w v zs) (hb : Below w.heap.size w w') : Own .u8 B 5 w' v zs :=
  own_frame h fun j _ hj => hb.block j hj
section
variable {w wr w' : World} {lv : Value} {L : List Int} {f g : Nat → Nat}
theorem SmI.drew (h : SmI w wr lv L f) : SmI w wr.drew lv L f := ⟨h.var.drew, h.row.drew, h.low.drew⟩
theorem SmI.self (h : SmI w wr lv L f) (hb : Below wr.heap.size wr w') : SmI w w' lv L f := ⟨h.var.self hb, own_up h.row hb, h.low.trans (hb.mono h.low.size)⟩
theorem SmI.set (h : SmI w wr lv L f) (j z : Nat) : SmI w (wr.setCell ⟨w.heap.size, j, none⟩ (.int .u64 (z : Int))) lv L (upd f j z) :=
  ⟨h.var.set j z, own_frame h.row fun i hi _ => heap_setCell_other wr ⟨w.heap.size, j, none⟩ i _ (by show i ≠ w.heap.size; omega), h.low.setCell (Nat.le_refl _) _⟩
theorem SmI.setE {K : Nat} {v : Int} {z : Nat} (h : SmI w wr lv L (mix K f g)) (hv : v = (z : Int)) (hz : z = g K) : SmI w (wr.setCell ⟨w.heap.size, K, none⟩ (.int .u64 v)) lv L (mix (K + 1) f g) := by
  subst hv
  rw [← mix_step K f g hz]
  exact h.set K z
theorem SmI.store (h : SmI w wr lv L f) (g : Nat → Nat) : SmI w (wr.setRow w.heap.size (wa 25 g)) lv L g :=
  ⟨h.var.row g, own_frame h.row fun i hi _ => setRow_other wr _ i _ (by omega), below_setRow h.low (Nat.le_refl _) _⟩
theorem SmI.ext (h : SmI w wr lv L f) (e : f = g) : SmI w wr lv L g := e ▸ h
end
theorem rd_pre {B : Nat} {w : World} {p : Option Addr} {T cap n : Nat} {xs : List Int} (h : Own .u8 B 5 w (.slice p T cap) xs) (hn : n ≤ T) (hT : T ≤ 1000000) (hx : ∀ z ∈ xs, 0 ≤ z ∧ z ≤ 255) : Rd .u8 w (.slice p n cap) (xs.take n) := by
  have hl : xs.length = T := by obtain ⟨_, _, e, _⟩ := h.slice; injection e with _ e _; exact e.symm
  have hwf : ∀ z ∈ xs, (Lit.int .u8 z).wf = true := fun z hz => WalkArith.wf_u8 (hx z hz)
  have hr := h.rd (by show _ * 1 ≤ _; omega) hwf
  obtain ⟨a, c, e, _, _, hc⟩ := hr
  injection e with e1 e2 e3
  subst e1; subst e3
  have hl2 : (xs.take n).length = n := by rw [List.length_take]; omega
  refine ⟨p, cap, by rw [hl2], by rw [hl2]; show _ * 1 ≤ _; omega, fun z hz => hwf z (List.mem_of_mem_take hz), fun h0 => ?_⟩
  rw [hl2] at h0 ⊢
  obtain ⟨b, off, e, hb, hc⟩ := hc (by omega)
  refine ⟨b, off, e, hb, fun j hj => ?_⟩
  rw [hc j (by omega), nth_of (show j < xs.length by omega), nth_of (show j < (xs.take n).length by omega)]
  simp

theorem refstore8 (x : Nat) (hx : x < 2 ^ 64) (w : World) : Calls Try.prog 43 #[.int .u64 (x : Int), .int .i64 8] w fun e w' => CatP w (rsL (x : Int) 8) e w' :=
  refstore_any (x : Int) 8 w (by have : x < 18446744073709551616 := hx; omega)
section
variable {w wr w3 w' : World} {u v' : Value} {L : List Int} {f g : Nat → Nat}
theorem SmI.begin {lv : Value} (h : SmI w wr lv L f) (q : Nat) : SmI w (wr.alloc (.cells #[] 5)) (.slice (some ⟨wr.heap.size, 0, none⟩) 0 0) (sqL q f 0) (stN f 0) :=
  ⟨h.var.alloc _, own_base (own_empty wr (Nat.le_refl _)) h.var.lt, h.low.alloc h.low.size _⟩
theorem SmI.more {K : Nat} (h : SmI w wr u (L ++ wdL g K) g) (ho : Own .u8 (w.heap.size + 1) 5 w' v' (L ++ wdL g K ++ rsL (g K : Int) 8)) (hl : Below wr.heap.size wr w3) (hl2 : Below (w.heap.size + 1) w3 w') : SmI w w' v' (L ++ wdL g (K + 1)) g :=
  ⟨(h.var.self hl).below hl2 (Nat.lt_succ_self _), by rw [wdL, ← List.append_assoc]; exact ho, (h.low.trans (hl.mono h.low.size)).trans (hl2.mono (Nat.le_succ _))⟩
end
set_option maxRecDepth 100000 in
set_option maxHeartbeats 6400000 in
theorem refsum_c (v : Value) (zs : List Int) (q n : Nat) (mark : Int) (w : World) (h : Rd .u8 w v zs) (hl : zs.length ≤ 100000) (hq : 1 ≤ q ∧ q ≤ 24) (hm : 0 ≤ mark ∧ mark ≤ 255) (hn : n ≤ 65536) :
    Calls Try.prog 33 #[v, .int .i64 ((8 * q : Nat) : Int), .int .u8 mark, .int .i64 (n : Int)] w fun e w' => RdQ w (sumL zs (8 * q) mark n) e w' := by
  obtain ⟨RT, hRT⟩ : ∃ RT, RT = 8 * q := ⟨_, rfl⟩
  rw [← hRT]
  have HSum : Hid (sumL zs RT mark n = toldL q n (abN (flL zs RT mark) q ((flL zs RT mark).length / RT))) := hid (by rw [sumL, hRT, Nat.mul_div_cancel_left q (by decide : 0 < 8)])
  have hmod := flL_mod zs mark (rate := RT) (by omega)
  have hlen := flL_len zs RT mark
  have hmis := mis_lt (n := zs.length + 1) (w := RT) (by omega)
  have HBy := hid (flL_bytes (rate := RT) (rd_bytes h) hm)
  have HFill := hid (fun w (h : Rd .u8 w v zs) => reffill_any v zs RT mark w h (by omega) (by omega) hm)
  have HR := hid h
  have HLo : Hid (∀ (lv : Value) (L : List Int) (w : World) (a : Nat), Rd .u8 w lv L → Calls Try.prog 41 #[lv, .int .i64 (a : Int)] w fun e w' => e = .returned (.int .u64 (lwN L (a : Int) : Nat)) ∧ w' = w) := hid fun lv L w a h => by
    have := refload_any lv L a w h
    rwa [(lw_at L a).1] at this
  have HPm := hid (fun (f : Nat → Nat) (w : World) (h : W25 f) => krefpermute_any f w h)
  obtain ⟨FL, hFL⟩ : ∃ FL, FL = flL zs RT mark := ⟨_, rfl⟩
  rw [← hFL] at HSum hmod hlen HBy HFill
  obtain ⟨LN, hLN⟩ : ∃ LN, FL.length = LN := ⟨_, rfl⟩
  rw [hLN] at hmod hlen HSum
  have hLN2 : LN ≤ 100200 := by omega
  obtain ⟨NB, hNB⟩ : ∃ NB, LN / RT = NB := ⟨_, rfl⟩
  rw [hNB] at HSum
  have hNB2 : RT * NB = LN := by rw [← hNB]; exact Nat.mul_div_cancel' (Nat.dvd_of_mod_eq_zero hmod)
  have HNB := hid hNB2
  have HLN := hid (And.intro hLN hLN2)
  have HQ := hid hq
  have HRT := hid hRT
  have HN := hid hn
  have hq8 : (RT : Int).tdiv 8 = (q : Int) := by rw [Int.tdiv_eq_ediv_of_nonneg (by omega)]; omega
  have hq9 : (RT : Int) / 8 = (q : Int) := by omega
  have HS0 : Hid (Aw (w.alloc (.cells z25 54)) w.heap.size 25 54 (fun _ => 0)) := hid (by rw [← z25_wa]; exact Aw.new w 25 54 _)
  have HB0 : Hid (Below w.heap.size w ((w.alloc (.cells z25 54)).setRow w.heap.size (wa 25 (fun _ => 0)))) := hid (below_setRow ((Below.refl _ _).alloc (Nat.le_refl _) _) (Nat.le_refl _) _)
  have HF0 := hid ((HFill.out _ (h.self HB0.out)).mono fun _ _ h => h.at hLN)
  have HSz : Hid (((w.alloc (.cells z25 54)).setRow w.heap.size (wa 25 (fun _ => 0))).heap.size = w.heap.size + 1) := hid (by simp)
  have HA0 : Hid (Aw ((w.alloc (.cells z25 54)).setRow w.heap.size (wa 25 (fun _ => 0))) w.heap.size 25 54 (fun _ => 0)) := hid (HS0.out.row _)
  clear hmod hlen hmis hFL hLN hNB hNB2 hLN2 h hl hm hRT
  go_enter Try.func33, Try.ntmps33
  go_wp2_with (first
    | (refine step_store_wa rfl 54 _ _ rfl w.heap.size 25 54 _ (fun _ => 0) rfl rfl HS0.out kinf25 ?_)
    | (go_at_call 40; (with_reducible refine (HF0.out).mono ?_); rintro e w1 ⟨lp, lc, rfl, ho, hl⟩; have HI1 : Hid (SmI w w1 (.slice lp LN lc) FL (abN FL q 0)) := hid ⟨HA0.out.self hl, by rw [HSz.out] at ho; exact ho, HB0.out.trans (hl.mono HB0.out.size)⟩; clear ho hl))
  clear HF0 HA0 HS0 HB0 HSz
  go_loopw [11] (fun i wr => ∃ B : Nat, B ≤ NB ∧ i = .int .i64 ((RT * B : Nat) : Int) ∧ SmI w wr (.slice lp LN lc) FL (abN FL q B)) (fun i _ => LN - (intOf i).toNat)
  case atStart => exact ⟨0, Nat.zero_le _, rfl, HI1.out⟩
  case round =>
    obtain ⟨B, hB, rfl, hI⟩ := hrel
    have HI := hid hI
    clear hI HI1
    obtain ⟨i, hi⟩ : ∃ i, RT * B = i := ⟨_, rfl⟩
    rw [hi]
    by_cases hlt : B < NB
    · have h1 : RT * (B + 1) ≤ LN := by rw [← HNB.out]; exact Nat.mul_le_mul_left _ hlt
      rw [Nat.mul_succ, hi] at h1
      obtain ⟨i2, hi2⟩ : ∃ i2, i + RT = i2 := ⟨_, rfl⟩
      have a0 : (0 : Int) ≤ (i : Int) := by omega
      have a1 : (i : Int) < (LN : Int) := by have := HRT.out; have := HQ.out; omega
      have a2 : IntKind.i64.wrap ((i : Int) + (RT : Int)) = i2 := by rw [IntKind.wrap_i64]; have := HLN.out; omega
      have HI2 : Hid (RT * (B + 1) = i2 ∧ i2 ≤ LN ∧ i < i2) := hid ⟨by rw [Nat.mul_succ, hi, hi2], by omega, by have := HRT.out; have := HQ.out; omega⟩
      have HAb : Hid (abN FL q (B + 1) = pm tun mkf 24 (mix q (abN FL q B) (inW FL i (abN FL q B)))) := hid (by rw [← hi, HRT.out]; rfl)
      have HFw := hid (abN_w FL q B)
      generalize abN FL q B = F at *
      obtain ⟨wz, rfl⟩ : ∃ wz, wz = wr := ⟨_, rfl⟩
      have HG := hid (fun (K : Nat) (h : K < 25) => mix_w (n := K) HFw.out (inW_w (L := FL) (i := i) HFw.out))
      have HI0 : Hid (SmI w wz (.slice lp LN lc) FL (mix 0 F (inW FL i F))) := hid (by rw [mix_zero]; exact HI.out)
      have hlt1 : B + 1 ≤ NB := hlt
      clear h1 hi hi2 hB hlt
      go_wp2
      go_loopw [12] (fun k wr => ∃ K : Nat, K ≤ q ∧ k = .int .i64 K ∧ SmI w wr (.slice lp LN lc) FL (mix K F (inW FL i F))) (fun k _ => q - (intOf k).toNat)
      case atStart => exact ⟨0, Nat.zero_le _, rfl, HI0.out⟩
      case round =>
        obtain ⟨K, hK, rfl, hI⟩ := hrel
        have HJ := hid hI
        clear hI
        by_cases hlt : K < q
        · obtain ⟨k8, hk8⟩ : ∃ k8, 8 * K = k8 := ⟨_, rfl⟩
          obtain ⟨a, ha⟩ : ∃ a, i + k8 = a := ⟨_, rfl⟩
          have hq24 := HQ.out
          have e1 : IntKind.i64.wrap (8 * (K : Int)) = (k8 : Int) := by rw [IntKind.wrap_i64]; omega
          have e2 : IntKind.i64.wrap ((i : Int) + (k8 : Int)) = (a : Int) := by rw [IntKind.wrap_i64]; have := HLN.out; omega
          have c1 := HJ.out.drew.var.cell (j := K) (by omega)
          rw [mix_here] at c1
          have hfr := HJ.out.drew.var.free K
          have b1 := HFw.out K (by omega)
          have b2 := (lw_at FL (a : Int)).2
          have HRd : Hid (Rd .u8 wr.drew (.slice lp LN lc) FL) := hid (HJ.out.drew.row.rd (by rw [HLN.out.1]; have := HLN.out; show _ * 1 ≤ _; omega) (fun z hz => WalkArith.wf_u8 (HBy.out z hz)))
          have HLD := hid (HLo.out _ _ _ a HRd.out)
          have HX := hid (x64 b1 b2)
          have HGK : Hid (F K ^^^ lwN FL (a : Int) = inW FL i F K) := hid (by unfold inW; rw [← ha, ← hk8]; simp)
          have HT := hid (fun v z hv hz => HJ.out.drew.setE (v := v) (z := z) hv hz)
          generalize lwN FL (a : Int) = s2 at *
          generalize F K = s1 at *
          have n1 : (K : Int) < 25 := by omega
          have n2 : (0 : Int) ≤ (K : Int) := by omega
          have n3 : (K : Int) < (q : Int) := by omega
          have HKq : Hid (K < q) := hid hlt
          clear hk8 ha hq24 hlt hK
          go_wp2
          refine region_tail 12 (by kernel_rfl) (by kernel_rfl) ?_
          simp only [List.take_succ_cons, List.take_zero, List.drop_succ_cons, List.drop_zero]
          generalize wr.drew = w2 at *
          repeat still_step
          still_call (HLD.out)
          repeat still_step
          refine wpStill_nil ?_
          go_wp2
          go_roundw
          case rel => exact ⟨K + 1, HKq.out, by go_num, HT.out _ _ HX.out HGK.out⟩
          case measure => have := HKq.out; simp [intOf]; omega
        · obtain rfl : K = q := by omega
          have n3 : ¬ (K : Int) < (K : Int) := by omega
          have HPp := hid (HPm.out _ wr (HG.out K (by have := HQ.out; omega)))
          generalize pm tun mkf 24 (mix K F (inW FL i F)) = f3 at *
          generalize mix K F (inW FL i F) = f2 at *
          go_wp2_with (first
            | (refine step_load_wa rfl 54 _ rfl w.heap.size 25 54 53 _ rfl HJ.out.var Try.underlying54 kinf25 ?_)
            | (go_at_call 42; (with_reducible refine (HPp.out).mono ?_); rintro e w3 ⟨rfl, hl⟩; have HJ3 := hid (HJ.out.self hl); clear hl)
            | (refine step_store_wa rfl 54 _ _ rfl w.heap.size 25 54 _ f3 rfl rfl HJ3.out.var kinf25 ?_; have HJ4 := hid (HJ3.out.store f3); generalize w3.setRow w.heap.size (wa 25 f3) = w4 at *))
          go_roundw
          case rel => exact ⟨B + 1, hlt1, by rw [HI2.out.1], by rw [HAb.out]; exact HJ4.out⟩
          case measure => have := HI2.out; simp [intOf]; omega
    · have hBN : B = NB := by omega
      have hiLN : i = LN := by rw [← hi, hBN, HNB.out]
      have n1 : ¬ (i : Int) < (LN : Int) := by omega
      have HSum2 : Hid (sumL zs RT mark n = toldL q n (abN FL q B)) := hid (by rw [HSum.out, hBN])
      have HFw := hid (abN_w FL q B)
      have HSt := hid (fun (x : Nat) (w : World) (h : x < 2 ^ 64) => refstore8 x h w)
      generalize abN FL q B = F at *
      have HQ0 := hid (HI.out.begin q)
      have n0 : (0 : Int) ≤ (n : Int) := by omega
      clear hi hB hlt hBN hiLN
      go_wp2
      clear n1 HI HFill HLo
      go_loopw [13] (fun o wr => ∃ t : Nat, RT * t < n + 192 ∧ SmI w wr o (sqL q F t) (stN F t)) (fun o _ => n - lenV o)
      case atStart => exact ⟨0, by simp, HQ0.out⟩
      case round =>
        obtain ⟨t, ht, hI⟩ := hrel
        have HI := hid hI
        have HT : Hid ((sqL q F t).length = RT * t) := hid (by rw [sqL_len, ← HRT.out])
        obtain ⟨p, cp, rfl, hcp, _⟩ := hI.row.slice
        obtain ⟨T, hT⟩ : ∃ T, (sqL q F t).length = T := ⟨_, rfl⟩
        rw [hT] at HI hcp ⊢
        have hTt : T = RT * t := by rw [← hT]; exact HT.out
        have HTT := hid (And.intro hT hTt)
        clear hI hT
        by_cases hlt : T < n
        · have n1 : (T : Int) < (n : Int) := by omega
          have HTn : Hid (T < n ∧ RT * (t + 1) < n + 192 ∧ RT * (t + 1) = T + RT ∧ T ≤ 65536) := hid (by
            rw [Nat.mul_succ, ← hTt]
            have h1 := HRT.out
            have h2 := HQ.out
            have h3 := HN.out
            exact ⟨hlt, by omega, rfl, by omega⟩)
          obtain ⟨wz, rfl⟩ : ∃ wz, wz = wr := ⟨_, rfl⟩
          have HGw := hid (stN_w HFw.out t)
          have HNx : Hid (sqL q F (t + 1) = sqL q F t ++ wdL (stN F t) q ∧ stN F (t + 1) = pm tun mkf 24 (stN F t)) := hid ⟨rfl, rfl⟩
          have HI0 : Hid (SmI w wz (.slice p T cp) (sqL q F t ++ wdL (stN F t) 0) (stN F t)) := hid (by rw [show wdL (stN F t) 0 = [] from rfl, List.append_nil]; exact HI.out)
          have HS0 := hid HTT.out.1
          generalize sqL q F t = X0 at *
          generalize stN F t = g at *
          clear hlt ht hTt hcp
          go_wp2
          go_loopw [13, 14] (fun o k wr => ∃ K : Nat, K ≤ q ∧ k = .int .i64 K ∧ SmI w wr o (X0 ++ wdL g K) g) (fun _ k _ => q - (intOf k).toNat)
          case atStart => exact ⟨0, Nat.zero_le _, rfl, HI0.out⟩
          case round =>
            obtain ⟨K, hK, rfl, hI⟩ := hrel
            have HJ := hid hI
            clear hI
            by_cases hlt : K < q
            · have hq24 := HQ.out
              have c1 := HJ.out.var.cell (j := K) (by omega)
              have b1 := HGw.out K (by omega)
              have HS8 := hid (HSt.out (g K) wr b1)
              have HMo := hid (fun w3 w' v' ho hl hl2 => HJ.out.more (K := K) (w3 := w3) (w' := w') (v' := v') ho hl hl2)
              have HLim : Hid (((X0 ++ wdL g K).length + (rsL (g K : Int) 8).length) * (IntKind.u8.bits / 8) ≤ 140737488355328) := hid (by
                rw [List.length_append, wdL_len, rsL_len, HS0.out]
                have := HTn.out
                show (_ + _) * 1 ≤ _
                omega)
              have HR8 : Hid ((rsL (g K : Int) 8).length = 8 ∧ ∀ z ∈ rsL (g K : Int) 8, (Lit.int .u8 z).wf = true) := hid ⟨rsL_len _ 8, fun z hz => WalkArith.wf_u8 (rsL_bytes (by omega) 8 z hz)⟩
              generalize rsL (g K : Int) 8 = r8 at *
              generalize g K = s1 at *
              have n2 : (K : Int) < 25 := by omega
              have n3 : (0 : Int) ≤ (K : Int) := by omega
              have n4 : (K : Int) < (q : Int) := by omega
              have HKq : Hid (K < q) := hid hlt
              have HB1 : Hid (w.heap.size + 1 ≤ wr.heap.size) := hid HJ.out.var.lt
              clear hq24 hlt hK b1
              go_wp2_with (first
                | (go_at_call 43; (with_reducible refine (HS8.out).mono ?_); rintro e w3 ⟨v3, rfl, ho, hl⟩; have HO3 : Hid (Rd .u8 w3 v3 r8) := hid (ho.rd (by rw [HR8.out.1]; decide) HR8.out.2); have HJ3 := hid (own_up HJ.out.row hl); have HL3 := hid hl; clear ho hl)
                | (at_builtin; refine wpList_append_rd rfl (.tmp 58) (.tmp 62) 22 rfl .u8 (w.heap.size + 1) 5 Try.underlying22 cinfob (by decide) _ _ rfl HJ3.out _ _ rfl HO3.out HLim.out (Nat.le_trans HB1.out HL3.out.size) (w.heap.size + 1) w3 (Below.refl _ _) (Nat.le_refl _) ?_; intro v4 w4 hown hlow _; have HJ4 := hid (HMo.out w3 w4 v4 hown HL3.out hlow); clear hown hlow))
              go_roundw
              case rel => exact ⟨K + 1, HKq.out, by go_num, HJ4.out⟩
              case measure => have := HKq.out; simp [intOf]; omega
            · obtain rfl : K = q := by omega
              have n3 : ¬ (K : Int) < (K : Int) := by omega
              have HPp := hid (HPm.out g wr HGw.out)
              have HNy := HNx
              generalize pm tun mkf 24 g = f3 at *
              go_wp2_with (first
                | (refine step_load_wa rfl 54 _ rfl w.heap.size 25 54 53 _ rfl HJ.out.var Try.underlying54 kinf25 ?_)
                | (go_at_call 42; (with_reducible refine (HPp.out).mono ?_); rintro e w3 ⟨rfl, hl⟩; have HJ3 := hid (HJ.out.self hl); clear hl)
                | (refine step_store_wa rfl 54 _ _ rfl w.heap.size 25 54 _ f3 rfl rfl HJ3.out.var kinf25 ?_; have HJ4 := hid (HJ3.out.store f3); generalize w3.setRow w.heap.size (wa 25 f3) = w4 at *))
              simp only [Act.put]
              go_roundw
              case rel => exact ⟨t + 1, HTn.out.2.1, by rw [HNy.out.1, HNy.out.2]; exact HJ4.out⟩
              case measure =>
                obtain ⟨p2, cp2, e, _⟩ := HJ4.out.row.slice
                rw [List.length_append, wdL_len, HS0.out] at e
                rw [e]
                have h1 := HTn.out
                have h2 := HQ.out
                simp [lenV]
                omega
        · have n1 : ¬ (T : Int) < (n : Int) := by omega
          have n2 : (n : Int) ≤ (cp : Int) := by have := HTT.out.1; omega
          have HRes := hid (rd_pre HI.out.row (n := n) (by omega) (by have := HN.out; omega) (sqL_bytes q F t))
          have HCap := hid (own_cap HI.out.row)
          have HTn : Hid (n ≤ T) := hid (by omega)
          have HTo : Hid ((sqL q F t).take n = sumL zs RT mark n) := hid (by rw [HSum2.out]; exact told_of HQ.out.1 (by rw [← HRT.out, ← hTt]; omega))
          clear hlt ht hTt hcp
          go_wp2
          go_ret
          exact ⟨_, rfl, ⟨by rw [← HTo.out]; exact HRes.out, fun a n' c e => by injection e with e1 e2 e3; subst e2; subst e3; exact ⟨Nat.le_trans HTn.out HCap.out.1, HCap.out.2⟩⟩, HI.out.low⟩
theorem refsum_any (v : Value) (zs : List Int) (q n : Nat) (mark : Int) (w : World) (h : Rd .u8 w v zs) (hl : zs.length ≤ 100000) (hq : 1 ≤ q ∧ q ≤ 24) (hm : 0 ≤ mark ∧ mark ≤ 255) (hn : n ≤ 65536) :
    Calls Try.prog 33 #[v, .int .i64 ((8 * q : Nat) : Int), .int .u8 mark, .int .i64 (n : Int)] w fun e w' => RdP w (sumL zs (8 * q) mark n) e w' :=
  (refsum_c v zs q n mark w h hl hq hm hn).mono fun _ _ => RdQ.weak
end Go.Proofs.Ythcjgjhoifnpjaa

/- Sponge: hashes with a name, by the document. -/
namespace Go.Proofs.Ythcjgjhoifnpjaa
open Go.RowKit

/-- A hash with a name. -/
def nmL (zn zc zm : List Int) (rate : Nat) : List Int := cpd (sto zn ++ sto zc) rate ++ zm
def namL (zn zc zm : List Int) (rate n : Nat) : List Int := if zn.length = 0 ∧ zc.length = 0 then sumL zm rate 31 n else sumL (nmL zn zc zm rate) rate 4 n
theorem refpad_own (v : Value) (zs : List Int) (n : Nat) (w : World) (h : Rd .u8 w v zs) (h1 : 1 ≤ n ∧ n ≤ 1000) :
    Calls Try.prog 20 #[v, .int .i64 (n : Int)] w fun e w' => ∃ u, e = .returned (.tuple #[u, .int .i64 0]) ∧ Own .u8 w.heap.size 5 w' u (cpd zs n) ∧ Below w.heap.size w w' := by
  refine (refpad_good v zs n w h h1.1 h1.2).mono ?_
  rintro e w' ⟨hl, ⟨m, u, e1, _, _, rfl, ho⟩ | ⟨h2, _⟩⟩
  · obtain rfl : m = n := by omega
    exact ⟨u, rfl, ho, hl⟩
  · omega
theorem cpd_le {zs : List Int} {n : Nat} (h : 1 ≤ n ∧ n ≤ 1000) (_ : zs.length ≤ 100000) : (cpd zs n).length ≤ zs.length + 1009 := by
  have h1 := lef_le (n := n) (by omega)
  have h2 := mis_lt (n := (lef n).length + zs.length) (w := n) (by omega)
  unfold cpd
  simp only [List.length_append, List.length_replicate]
  omega
theorem cpd_wf {zs : List Int} {n : Nat} (h : n ≤ 1000) (hz : ∀ z ∈ zs, (Lit.int .u8 z).wf = true) : ∀ z ∈ cpd zs n, (Lit.int .u8 z).wf = true := by
  intro z hm
  unfold cpd at hm
  rcases List.mem_append.1 hm with hm | hm
  · rcases List.mem_append.1 hm with hm | hm
    · exact lef_wf (by omega) z hm
    · exact hz z hm
  · rw [(List.mem_replicate.1 hm).2]; decide
theorem sto_le5 {z : List Int} (hl : z.length ≤ 5000) : (sto z).length ≤ 5009 := by
  have := lef_le (n := 8 * z.length) (by omega)
  rw [sto_len]; omega
theorem sto_wf5 {z : List Int} (hl : z.length ≤ 5000) (h : ∀ y ∈ z, (Lit.int .u8 y).wf = true) : ∀ y ∈ sto z, (Lit.int .u8 y).wf = true := by
  intro y hy
  rcases List.mem_append.1 hy with hy | hy
  · exact lef_wf (by omega) y hy
  · exact h y hy

set_option maxRecDepth 100000 in
set_option maxHeartbeats 1600000 in
theorem refnamed_none (b : Int) (q n : Nat) (pn pc : Option Addr) (cn cc : Nat) (xm : Value) (zm : List Int) (w : World) (hb : raN b = ((8 * q : Nat) : Int)) (hq : 1 ≤ q ∧ q ≤ 24) (hm : Rd .u8 w xm zm) (hl : zm.length ≤ 5000) (hn : n ≤ 65536) :
    Calls Try.prog 23 #[.int .i64 b, .slice pn 0 cn, .slice pc 0 cc, xm, .int .i64 (n : Int)] w fun e w' => RdP w (sumL zm (8 * q) 31 n) e w' := by
  have HS := hid (refsum_any xm zm q n 31 w hm (by omega) hq (by decide) hn)
  have HRa := hid (refrate_any b w)
  rw [hb] at HRa
  generalize 8 * q = R at *
  clear hb hm
  go_enter Try.func23, Try.ntmps23
  go_wp2_with (first
    | (go_at_call 22; (with_reducible refine (HRa.out).mono ?_); rintro e w1 ⟨rfl, rfl⟩)
    | (go_at_call 33; (with_reducible refine (HS.out).mono ?_); rintro e w2 ⟨u, rfl, hr, hl⟩; have HR := hid hr; have HW := hid hl; clear hr hl))
  go_ret
  exact ⟨_, rfl, HR.out, HW.out⟩

set_option maxRecDepth 100000 in
set_option maxHeartbeats 1600000 in
theorem refnamed_n (b : Int) (q n : Nat) (xn xc xm : Value) (zn zc zm : List Int) (w : World) (hb : raN b = ((8 * q : Nat) : Int)) (hq : 1 ≤ q ∧ q ≤ 24) (hxn : Rd .u8 w xn zn) (hxc : Rd .u8 w xc zc) (hxm : Rd .u8 w xm zm) (hln : zn.length ≤ 5000) (hlc : zc.length ≤ 5000) (hlm : zm.length ≤ 5000) (hn : n ≤ 65536) (h0 : ¬ zn.length = 0) :
    Calls Try.prog 23 #[.int .i64 b, xn, xc, xm, .int .i64 (n : Int)] w fun e w' => RdP w (sumL (nmL zn zc zm (8 * q)) (8 * q) 4 n) e w' := by
  have HS1 := hid (refstr_any xn zn w hxn)
  have HS2 := hid (fun w (h : Rd .u8 w xc zc) => refstr_any xc zc w h)
  have HRa := hid (fun w => refrate_any b w)
  rw [hb] at HRa
  have HXc := hid hxc
  have HXm := hid hxm
  have HWn := hid (sto_wf5 hln (wfs_of hxn))
  have HWc := hid (sto_wf5 hlc (wfs_of hxc))
  have HLn := hid (sto_le5 hln)
  have HLc := hid (sto_le5 hlc)
  have HLm := hid hlm
  have HQ : Hid (1 ≤ 8 * q ∧ 8 * q ≤ 1000) := hid (by omega)
  have HP := hid (fun (u : Value) (w : World) (h : Rd .u8 w u (sto zn ++ sto zc)) => refpad_own u _ (8 * q) w h HQ.out)
  have HPl := hid (cpd_le (zs := sto zn ++ sto zc) HQ.out (by rw [List.length_append]; have := HLn.out; have := HLc.out; omega))
  have HPw := hid (cpd_wf (zs := sto zn ++ sto zc) HQ.out.2 (fun z hz => (List.mem_append.1 hz).elim (HWn.out z) (HWc.out z)))
  have HSum := hid (fun (u : Value) (w : World) (h : Rd .u8 w u (nmL zn zc zm (8 * q))) => refsum_any u _ q n 4 w h (by have := HPl.out; rw [nmL, List.length_append]; rw [List.length_append] at this; have := HLn.out; have := HLc.out; omega) hq (by decide) hn)
  have HNm : Hid (nmL zn zc zm (8 * q) = cpd (sto zn ++ sto zc) (8 * q) ++ zm) := hid rfl
  have HWm := hid (wfs_of hxm)
  have f1 : ¬ (zn.length : Int) = 0 := by omega
  clear h0
  obtain ⟨pn, cn, rfl, _⟩ := hxn
  obtain ⟨pc, cc, rfl, _⟩ := hxc
  obtain ⟨pm, cm, rfl, _⟩ := hxm
  generalize 8 * q = R at *
  have HLz := hid (And.intro HLn.out HLc.out)
  rw [List.length_append] at HPl
  generalize nmL zn zc zm R = NL at *
  generalize hS2 : cpd (sto zn ++ sto zc) R = PL at *
  generalize sto zn = sn at *
  generalize sto zc = sc at *
  obtain ⟨ln, en⟩ : ∃ l, zn.length = l := ⟨_, rfl⟩
  obtain ⟨lc, ec⟩ : ∃ l, zc.length = l := ⟨_, rfl⟩
  rw [en] at HS1 ⊢
  rw [ec] at HS2 HXc ⊢
  obtain ⟨lm, em⟩ : ∃ l, zm.length = l := ⟨_, rfl⟩
  rw [em] at HXm ⊢
  have HEm := hid em
  try rw [en] at f1
  try rw [ec] at f2
  clear hb hq hln hlc hlm hn hS2 en ec em
  go_enter Try.func23, Try.ntmps23
  go_wp2_with (first
    | (go_at_call 22; (with_reducible refine (HRa.out w3).mono ?_); rintro e w3 ⟨rfl, rfl⟩)
    | (go_at_call 22; (with_reducible refine (HRa.out w5).mono ?_); rintro e w5 ⟨rfl, rfl⟩)
    | (go_at_call 21; (with_reducible refine (HS1.out).mono ?_); rintro e w1 ⟨v1, rfl, ho, hl⟩; have HO1 := hid ho; have HW1 := hid hl; clear ho hl)
    | (go_at_call 21; (with_reducible refine (HS2.out w1 (HXc.out.self HW1.out)).mono ?_); rintro e w2 ⟨v2, rfl, ho, hl⟩; have HO2 : Hid (Rd .u8 w2 v2 sc) := hid (ho.rd (by have := HLz.out; show _ * 1 ≤ _; omega) HWc.out); have HO1b := hid (own_up HO1.out hl); have HW2 := hid (HW1.out.trans (hl.mono HW1.out.size)); clear ho hl)
    | (at_builtin; refine wpList_append_rd rfl (.tmp 28) (.tmp 30) 22 rfl .u8 w.heap.size 5 Try.underlying22 cinfob (by decide) _ _ rfl HO1b.out _ _ rfl HO2.out (by have := HLz.out; show (_ + _) * 1 ≤ _; omega) HW2.out.size w.heap.size w HW2.out (Nat.le_refl _) ?_; intro v3 w3 hown hlow _; have HO3 : Hid (Rd .u8 w3 v3 (sn ++ sc)) := hid (hown.rd (by rw [List.length_append]; have := HLz.out; show (_ + _) * 1 ≤ _; omega) (fun z hz => (List.mem_append.1 hz).elim (HWn.out z) (HWc.out z))); have HW3 := hid hlow; clear hown hlow)
    | (go_at_call 20; (with_reducible refine (HP.out v3 w3 HO3.out).mono ?_); rintro e w4 ⟨v4, rfl, ho, hl⟩; have HO4 := hid (own_base ho HW3.out.size); have HW4 := hid (HW3.out.trans (hl.mono HW3.out.size)); clear ho hl)
    | (at_builtin; refine wpList_append_rd rfl (.tmp 37) (.tmp 38) 22 rfl .u8 w.heap.size 5 Try.underlying22 cinfob (by decide) _ _ rfl HO4.out _ _ rfl (HXm.out.self HW4.out) (by have := HLz.out; have := HPl.out; have := HLm.out; show (_ + _) * 1 ≤ _; omega) HW4.out.size w.heap.size w HW4.out (Nat.le_refl _) ?_; intro v5 w5 hown hlow _; have HO5 : Hid (Rd .u8 w5 v5 NL) := hid (by rw [HNm.out]; exact hown.rd (by rw [List.length_append]; have := HLz.out; have := HPl.out; have := HLm.out; show (_ + _) * 1 ≤ _; omega) (fun z hz => (List.mem_append.1 hz).elim (HPw.out z) (HWm.out z))); have HW5 := hid hlow; clear hown hlow)
    | (go_at_call 33; (with_reducible refine (HSum.out v5 w5 HO5.out).mono ?_); rintro e w6 ⟨v6, rfl, hr, hl⟩; have HR6 := hid hr; have HW6 := hid (HW5.out.trans (hl.mono HW5.out.size)); clear hr hl))
  go_ret
  exact ⟨_, rfl, HR6.out, HW6.out⟩

set_option maxRecDepth 100000 in
set_option maxHeartbeats 1600000 in
theorem refnamed_c (b : Int) (q n : Nat) (xn xc xm : Value) (zn zc zm : List Int) (w : World) (hb : raN b = ((8 * q : Nat) : Int)) (hq : 1 ≤ q ∧ q ≤ 24) (hxn : Rd .u8 w xn zn) (hxc : Rd .u8 w xc zc) (hxm : Rd .u8 w xm zm) (hln : zn.length ≤ 5000) (hlc : zc.length ≤ 5000) (hlm : zm.length ≤ 5000) (hn : n ≤ 65536) (h0 : zn.length = 0) (h1 : ¬ zc.length = 0) :
    Calls Try.prog 23 #[.int .i64 b, xn, xc, xm, .int .i64 (n : Int)] w fun e w' => RdP w (sumL (nmL zn zc zm (8 * q)) (8 * q) 4 n) e w' := by
  have HS1 := hid (refstr_any xn zn w hxn)
  have HS2 := hid (fun w (h : Rd .u8 w xc zc) => refstr_any xc zc w h)
  have HRa := hid (fun w => refrate_any b w)
  rw [hb] at HRa
  have HXc := hid hxc
  have HXm := hid hxm
  have HWn := hid (sto_wf5 hln (wfs_of hxn))
  have HWc := hid (sto_wf5 hlc (wfs_of hxc))
  have HLn := hid (sto_le5 hln)
  have HLc := hid (sto_le5 hlc)
  have HLm := hid hlm
  have HQ : Hid (1 ≤ 8 * q ∧ 8 * q ≤ 1000) := hid (by omega)
  have HP := hid (fun (u : Value) (w : World) (h : Rd .u8 w u (sto zn ++ sto zc)) => refpad_own u _ (8 * q) w h HQ.out)
  have HPl := hid (cpd_le (zs := sto zn ++ sto zc) HQ.out (by rw [List.length_append]; have := HLn.out; have := HLc.out; omega))
  have HPw := hid (cpd_wf (zs := sto zn ++ sto zc) HQ.out.2 (fun z hz => (List.mem_append.1 hz).elim (HWn.out z) (HWc.out z)))
  have HSum := hid (fun (u : Value) (w : World) (h : Rd .u8 w u (nmL zn zc zm (8 * q))) => refsum_any u _ q n 4 w h (by have := HPl.out; rw [nmL, List.length_append]; rw [List.length_append] at this; have := HLn.out; have := HLc.out; omega) hq (by decide) hn)
  have HNm : Hid (nmL zn zc zm (8 * q) = cpd (sto zn ++ sto zc) (8 * q) ++ zm) := hid rfl
  have HWm := hid (wfs_of hxm)
  have f1 : (zn.length : Int) = 0 := by omega
  have f2 : ¬ (zc.length : Int) = 0 := by omega
  clear h0 h1
  obtain ⟨pn, cn, rfl, _⟩ := hxn
  obtain ⟨pc, cc, rfl, _⟩ := hxc
  obtain ⟨pm, cm, rfl, _⟩ := hxm
  generalize 8 * q = R at *
  have HLz := hid (And.intro HLn.out HLc.out)
  rw [List.length_append] at HPl
  generalize nmL zn zc zm R = NL at *
  generalize hS2 : cpd (sto zn ++ sto zc) R = PL at *
  generalize sto zn = sn at *
  generalize sto zc = sc at *
  obtain ⟨ln, en⟩ : ∃ l, zn.length = l := ⟨_, rfl⟩
  obtain ⟨lc, ec⟩ : ∃ l, zc.length = l := ⟨_, rfl⟩
  rw [en] at HS1 ⊢
  rw [ec] at HS2 HXc ⊢
  obtain ⟨lm, em⟩ : ∃ l, zm.length = l := ⟨_, rfl⟩
  rw [em] at HXm ⊢
  have HEm := hid em
  try rw [en] at f1
  try rw [ec] at f2
  clear hb hq hln hlc hlm hn hS2 en ec em
  go_enter Try.func23, Try.ntmps23
  go_wp2_with (first
    | (go_at_call 22; (with_reducible refine (HRa.out w3).mono ?_); rintro e w3 ⟨rfl, rfl⟩)
    | (go_at_call 22; (with_reducible refine (HRa.out w5).mono ?_); rintro e w5 ⟨rfl, rfl⟩)
    | (go_at_call 21; (with_reducible refine (HS1.out).mono ?_); rintro e w1 ⟨v1, rfl, ho, hl⟩; have HO1 := hid ho; have HW1 := hid hl; clear ho hl)
    | (go_at_call 21; (with_reducible refine (HS2.out w1 (HXc.out.self HW1.out)).mono ?_); rintro e w2 ⟨v2, rfl, ho, hl⟩; have HO2 : Hid (Rd .u8 w2 v2 sc) := hid (ho.rd (by have := HLz.out; show _ * 1 ≤ _; omega) HWc.out); have HO1b := hid (own_up HO1.out hl); have HW2 := hid (HW1.out.trans (hl.mono HW1.out.size)); clear ho hl)
    | (at_builtin; refine wpList_append_rd rfl (.tmp 28) (.tmp 30) 22 rfl .u8 w.heap.size 5 Try.underlying22 cinfob (by decide) _ _ rfl HO1b.out _ _ rfl HO2.out (by have := HLz.out; show (_ + _) * 1 ≤ _; omega) HW2.out.size w.heap.size w HW2.out (Nat.le_refl _) ?_; intro v3 w3 hown hlow _; have HO3 : Hid (Rd .u8 w3 v3 (sn ++ sc)) := hid (hown.rd (by rw [List.length_append]; have := HLz.out; show (_ + _) * 1 ≤ _; omega) (fun z hz => (List.mem_append.1 hz).elim (HWn.out z) (HWc.out z))); have HW3 := hid hlow; clear hown hlow)
    | (go_at_call 20; (with_reducible refine (HP.out v3 w3 HO3.out).mono ?_); rintro e w4 ⟨v4, rfl, ho, hl⟩; have HO4 := hid (own_base ho HW3.out.size); have HW4 := hid (HW3.out.trans (hl.mono HW3.out.size)); clear ho hl)
    | (at_builtin; refine wpList_append_rd rfl (.tmp 37) (.tmp 38) 22 rfl .u8 w.heap.size 5 Try.underlying22 cinfob (by decide) _ _ rfl HO4.out _ _ rfl (HXm.out.self HW4.out) (by have := HLz.out; have := HPl.out; have := HLm.out; show (_ + _) * 1 ≤ _; omega) HW4.out.size w.heap.size w HW4.out (Nat.le_refl _) ?_; intro v5 w5 hown hlow _; have HO5 : Hid (Rd .u8 w5 v5 NL) := hid (by rw [HNm.out]; exact hown.rd (by rw [List.length_append]; have := HLz.out; have := HPl.out; have := HLm.out; show (_ + _) * 1 ≤ _; omega) (fun z hz => (List.mem_append.1 hz).elim (HPw.out z) (HWm.out z))); have HW5 := hid hlow; clear hown hlow)
    | (go_at_call 33; (with_reducible refine (HSum.out v5 w5 HO5.out).mono ?_); rintro e w6 ⟨v6, rfl, hr, hl⟩; have HR6 := hid hr; have HW6 := hid (HW5.out.trans (hl.mono HW5.out.size)); clear hr hl))
  go_ret
  exact ⟨_, rfl, HR6.out, HW6.out⟩
theorem refnamed_any (b : Int) (q n : Nat) (xn xc xm : Value) (zn zc zm : List Int) (w : World) (hb : raN b = ((8 * q : Nat) : Int)) (hq : 1 ≤ q ∧ q ≤ 24) (hxn : Rd .u8 w xn zn) (hxc : Rd .u8 w xc zc) (hxm : Rd .u8 w xm zm) (hln : zn.length ≤ 5000) (hlc : zc.length ≤ 5000) (hlm : zm.length ≤ 5000) (hn : n ≤ 65536) :
    Calls Try.prog 23 #[.int .i64 b, xn, xc, xm, .int .i64 (n : Int)] w fun e w' => RdP w (namL zn zc zm (8 * q) n) e w' := by
  by_cases h0 : zn.length = 0
  · by_cases h1 : zc.length = 0
    · rw [namL, if_pos ⟨h0, h1⟩]
      obtain ⟨pn, cn, rfl, _⟩ := hxn
      obtain ⟨pc, cc, rfl, _⟩ := hxc
      rw [h0, h1]
      exact refnamed_none b q n pn pc cn cc xm zm w hb hq hxm hlm hn
    · rw [namL, if_neg (fun h => h1 h.2)]
      exact refnamed_c b q n xn xc xm zn zc zm w hb hq hxn hxc hxm hln hlc hlm hn h0 h1
  · rw [namL, if_neg (fun h => h0 h.1)]
    exact refnamed_n b q n xn xc xm zn zc zm w hb hq hxn hxc hxm hln hlc hlm hn h0
end Go.Proofs.Ythcjgjhoifnpjaa
