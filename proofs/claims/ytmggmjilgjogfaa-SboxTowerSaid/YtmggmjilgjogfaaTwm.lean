/- The field of 256 elements made of that of 16: products, norms, inverses, the root, and the matrix that turns in. No program is named. -/
import Derived.Test.YtmggmjilgjogfaaGfm
import Derived.Test.YtmggmjilgjogfaaNbm
import Derived.Test.YtmggmjilgjogfaaBms
namespace Go.Proofs.Ytmggmjilgjogfaa

def jn (x y : Nat) : Nat := x * 16 + y
theorem jn_lt {x y : Nat} (hx : x < 16) (hy : y < 16) : jn x y < 256 := by unfold jn; omega
theorem jn_hi {x y : Nat} (hy : y < 16) : jn x y / 16 = x := by unfold jn; omega
theorem jn_lo {x y : Nat} (hy : y < 16) : jn x y % 16 = y := by unfold jn; omega
theorem hi_xor (a b : Nat) : (a ^^^ b) / 16 = (a / 16) ^^^ (b / 16) := Nat.xor_div_two_pow (n := 4)
theorem parts_ext {a b : Nat} (h : a / 16 = b / 16) (l : a % 16 = b % 16) : a = b := by omega
theorem jn_xor {x y u v : Nat} (hy : y < 16) (hv : v < 16) : jn (x ^^^ u) (y ^^^ v) = jn x y ^^^ jn u v :=
  parts_ext (by rw [jn_hi (nxor_lt hy hv), hi_xor, jn_hi hy, jn_hi hv]) (by rw [jn_lo (nxor_lt hy hv), xor_low, jn_lo hy, jn_lo hv])

/-- The product. -/
def tm (a b : Nat) : Nat := jn ((nm (a / 16) (b / 16) ^^^ nm (a / 16) (b % 16)) ^^^ nm (a % 16) (b / 16)) (nm (nm (a / 16) (b / 16)) 8 ^^^ nm (a % 16) (b % 16))
theorem tm_lt (a b : Nat) : tm a b < 256 := jn_lt (nxor_lt (nxor_lt (nm_lt _ _) (nm_lt _ _)) (nm_lt _ _)) (nxor_lt (nm_lt _ _) (nm_lt _ _))
theorem tm_comm (a b : Nat) : tm a b = tm b a := by
  unfold tm
  rw [nm_comm (b / 16) (a / 16), nm_comm (b / 16) (a % 16), nm_comm (b % 16) (a / 16), nm_comm (b % 16) (a % 16), Nat.xor_assoc, Nat.xor_assoc, Nat.xor_comm (nm (a / 16) (b % 16))]
theorem xor6 (a b c d e f : Nat) : ((a ^^^ d) ^^^ (b ^^^ e)) ^^^ (c ^^^ f) = ((a ^^^ b) ^^^ c) ^^^ ((d ^^^ e) ^^^ f) := by
  rw [xor4 a d b e, xor4 (a ^^^ b) (d ^^^ e) c f]
theorem tm_add (a b c : Nat) : tm a (b ^^^ c) = tm a b ^^^ tm a c := by
  unfold tm
  rw [hi_xor, xor_low, nm_add, nm_add, nm_add, nm_add, add_nm, ← jn_xor (nxor_lt (nm_lt _ _) (nm_lt _ _)) (nxor_lt (nm_lt _ _) (nm_lt _ _)), xor6, xor4 (nm (nm (a / 16) (b / 16)) 8)]
theorem add_tm (a b c : Nat) : tm (a ^^^ b) c = tm a c ^^^ tm b c := by rw [tm_comm, tm_add, tm_comm c, tm_comm c]
theorem tlin_right (a : Nat) : Lin (fun b => tm a b) := fun _ _ _ _ => tm_add a _ _
theorem tlin_left (c : Nat) : Lin (fun a => tm a c) := fun _ _ _ _ => add_tm _ _ c
theorem tm_assoc_base : ∀ i < 8, ∀ j < 8, ∀ k < 8, tm (2 ^ i) (tm (2 ^ j) (2 ^ k)) = tm (tm (2 ^ i) (2 ^ j)) (2 ^ k) := by decide +kernel
theorem tm_assoc {a b c : Nat} (ha : a < 256) (hb : b < 256) (hc : c < 256) : tm a (tm b c) = tm (tm a b) c := by
  refine lin_ext (f := fun a => tm a (tm b c)) (g := fun a => tm (tm a b) c) (tlin_left _) (fun x y _ _ => by simp only [add_tm]) (fun i hi => ?_) ha
  refine lin_ext (f := fun b => tm (2 ^ i) (tm b c)) (g := fun b => tm (tm (2 ^ i) b) c) (fun x y _ _ => by simp only [add_tm, tm_add]) (fun x y _ _ => by simp only [add_tm, tm_add]) (fun j hj => ?_) hb
  exact lin_ext (f := fun c => tm (2 ^ i) (tm (2 ^ j) c)) (g := fun c => tm (tm (2 ^ i) (2 ^ j)) c) (fun x y _ _ => by simp only [tm_add]) (tlin_right _) (fun k hk => tm_assoc_base i hi j hj k hk) hc
theorem one_tm_all : ∀ a < 256, tm 1 a = a := by decide +kernel
theorem one_tm {a : Nat} (ha : a < 256) : tm 1 a = a := one_tm_all a ha
theorem tm_one {a : Nat} (ha : a < 256) : tm a 1 = a := by rw [tm_comm, one_tm ha]
theorem zero_tm (b : Nat) : tm 0 b = 0 := by
  unfold tm
  simp only [show 0 / 16 = 0 from rfl, show 0 % 16 = 0 from rfl, zero_nm]
  rfl
theorem tm_zero (a : Nat) : tm a 0 = 0 := by rw [tm_comm, zero_tm]

/-- The norm. -/
def tno (a : Nat) : Nat := (nm 8 (nm (a / 16) (a / 16)) ^^^ nm (a / 16) (a % 16)) ^^^ nm (a % 16) (a % 16)
theorem tno_lt (a : Nat) : tno a < 16 := nxor_lt (nxor_lt (nm_lt _ _) (nm_lt _ _)) (nm_lt _ _)
/-- The inverse. -/
def ti (a : Nat) : Nat := jn (nm (a / 16) (npw (tno a) 14)) (nm (a / 16 ^^^ a % 16) (npw (tno a) 14))
theorem ti_lt (a : Nat) : ti a < 256 := jn_lt (nm_lt _ _) (nm_lt _ _)
theorem tm_ti_all : ∀ a < 256, a ≠ 0 → tm a (ti a) = 1 := by decide +kernel
theorem tm_ti {a : Nat} (ha : a < 256) (h0 : a ≠ 0) : tm a (ti a) = 1 := tm_ti_all a ha h0
theorem ti_zero : ti 0 = 0 := by decide +kernel
theorem ti_only {a b : Nat} (ha : a < 256) (hb : b < 256) (h : tm a b = 1) : b = ti a := by
  have h0 : a ≠ 0 := fun e => by subst e; rw [zero_tm] at h; exact absurd h (by decide)
  rw [← one_tm hb, ← tm_ti ha h0, tm_comm a, ← tm_assoc (ti_lt a) ha hb, h, tm_one (ti_lt a)]
theorem ti_pos {a : Nat} (ha : a < 256) (h0 : a ≠ 0) : 1 ≤ ti a := by
  have := tm_ti ha h0
  by_cases e : ti a = 0
  · rw [e, tm_zero] at this; exact absurd this (by decide)
  · omega

/-- Powers: few factors. -/
def tp (a : Nat) : Nat → Nat
  | 0 => 1
  | n + 1 => tm (tp a n) a
theorem tp_lt (a : Nat) : ∀ n, tp a n < 256
  | 0 => show 1 < 256 by decide
  | _ + 1 => tm_lt _ _

/-- What is 0 at a root, as the code has it, and as the document. -/
def rsum (g : Nat) : Nat := (((tm (tp g 4) (tp g 4) ^^^ tp g 4) ^^^ tp g 3) ^^^ tp g 1) ^^^ tp g 0
def rsumD (g : Nat) : Nat := ((tp g 8 ^^^ tp g 4) ^^^ tp g 3) ^^^ g
theorem rsum_lt (g : Nat) : rsum g < 256 := xor_lt (xor_lt (xor_lt (xor_lt (tm_lt _ _) (tp_lt _ _)) (tp_lt _ _)) (tp_lt _ _)) (tp_lt _ _)
theorem rsum_all : ∀ g < 33, 2 ≤ g → (rsum g = 0 ↔ g = 32) := by decide +kernel
theorem rsumD_all : ∀ g < 33, 2 ≤ g → (rsumD g = 1 ↔ g = 32) := by decide +kernel

/-- An element turned in: the sum of the root's powers. -/
def tiF (x : Nat) : Nat → Nat
  | 0 => 0
  | k + 1 => if x / 2 ^ k % 2 = 1 then tiF x k ^^^ tp 32 k else tiF x k
theorem tiF_lt (x : Nat) : ∀ k, tiF x k < 256
  | 0 => show 0 < 256 by decide
  | k + 1 => by unfold tiF; split; exact xor_lt (tiF_lt x k) (tp_lt _ _); exact tiF_lt x k
theorem tiF_two : ∀ i < 8, tiF (2 ^ i) 8 = tp 32 i := by decide +kernel
/-- The matrix that turns in. -/
def inM : Nat → Nat := flip (tp 32)
theorem tp_by (a : Nat) : By (tp a) := fun i _ => tp_lt a i
theorem inM_by : By inM := flip_by _
theorem inM_two {j : Nat} (hj : j < 8) : ap inM (2 ^ j) = tp 32 j := ap_flip_two (tp_by 32) hj
theorem inM_gm_base : ∀ i < 8, ∀ j < 8, ap inM (gm (2 ^ i) (2 ^ j)) = tm (tp 32 i) (tp 32 j) := by decide +kernel
theorem inM_gm {a b : Nat} (ha : a < 256) (hb : b < 256) : ap inM (gm a b) = tm (ap inM a) (ap inM b) := by
  refine lin_ext (f := fun a => ap inM (gm a b)) (g := fun a => tm (ap inM a) (ap inM b)) (fun x y hx hy => by simp only [add_gm b hx hy, ap_xor]) (fun x y _ _ => by simp only [ap_xor, add_tm]) (fun i hi => ?_) ha
  refine lin_ext (f := fun b => ap inM (gm (2 ^ i) b)) (g := fun b => tm (ap inM (2 ^ i)) (ap inM b)) (fun x y _ _ => by simp only [gm_add, ap_xor]) (fun x y _ _ => by simp only [ap_xor, tm_add]) (fun j hj => ?_) hb
  show ap inM (gm (2 ^ i) (2 ^ j)) = tm (ap inM (2 ^ i)) (ap inM (2 ^ j))
  rw [inM_two hi, inM_two hj, inM_gm_base i hi j hj]
theorem inM_one : ap inM 1 = 1 := inM_two (j := 0) (by decide)
theorem inM_pow {a : Nat} (ha : a < 256) : ap inM (pw a 254) = ti (ap inM a) := by
  by_cases h : a = 0
  · subst h; rw [pw_zero (by decide), ap_zero, ti_zero]
  · refine ti_only (ap_lt _ _) (ap_lt _ _) ?_
    rw [← inM_gm ha (pw_lt ha 254), gm_inv ha h, inM_one]
theorem inM_inj {x : Nat} (hx : x < 256) (h : ap inM x = 0) : x = 0 := by
  by_cases e : x = 0
  · exact e
  · have h1 := inM_gm hx (pw_lt hx 254)
    rw [gm_inv hx e, inM_one, h, zero_tm] at h1
    exact absurd h1 (by decide)
theorem inM_rk : rk inM = 8 := by
  refine (hits_all inM_by).1 fun j hj => (hits_iff inM (2 ^ j) 256).2 ?_
  revert j
  decide +kernel
theorem inM_back {x : Nat} (hx : x < 256) : ap (inv inM) (ap inM x) = x := inv_left inM_by inM_rk x hx
end Go.Proofs.Ytmggmjilgjogfaa
