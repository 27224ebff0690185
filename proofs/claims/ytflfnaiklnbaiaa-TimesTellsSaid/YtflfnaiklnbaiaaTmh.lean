import Derived.Test.YtflfnaiklnbaiaaOda
import Derived.KernelRfl
import Derived.Maps.OwnSet
import Derived.DeepKeys5
import Derived.Test.YtflfnaiklnbaiaaShr
import Derived.Test.YtflfnaiklnbaiaaGen
/- General: two words, multiplied bit by bit: ops one behind the other; what each is, and what they stand for. No program is named. -/
namespace Go.Proofs.Ytflfnaiklnbaiaa

theorem Blk.and {S : Ms} {kd : Int} {op : Nat → (Nat → Int) → Op6} {m j : Nat} (B : Blk S kd op m) (hj : j < m) {d a b : Int} (h : op j (exR S.L j) = ⟨7, d, a, b, -1, 0⟩) :
    (blkS S kd op m).v (S.L + j) = wordAt (blkS S kd op m).v (blkS S kd op m).L a &&& wordAt (blkS S kd op m).v (blkS S kd op m).L b := by
  have := B.word j hj
  rw [h] at this
  exact this.trans (ev7 _ _ _ _ _)
theorem aw7 {d a b : Int} (hd : 0 ≤ d ∧ d ≤ 1000) (ha : I64 a) (hb : I64 b) : opwf ⟨7, d, a, b, -1, 0⟩ := ⟨i64c 7 (by decide) (by decide), i64c d hd.1 hd.2, ha, hb, I64.m1, by show 0 < _; omega⟩
def opT2d (A B : Nat → Int) (j : Nat) (r : Nat → Int) : Op6 :=
  match j with
  | 0 => ⟨1, -1, -1, -1, -1, 0⟩
  | 1 => ⟨7, 0, A 0, B 0, -1, 0⟩
  | 2 => ⟨7, 0, A 0, B 1, -1, 0⟩
  | 3 => ⟨7, 1, A 1, B 0, -1, 0⟩
  | 4 => ⟨7, 1, A 1, B 1, -1, 0⟩
  | 5 => ⟨5, 0, r 2, r 0, -1, 0⟩
  | 6 => ⟨5, 0, r 1, r 5, -1, 0⟩
  | 7 => ⟨5, 1, r 3, r 0, -1, 0⟩
  | _ => ⟨5, 1, r 4, r 7, -1, 0⟩
theorem opT2d_wf {A B r : Nat → Int} (hA : Wb A) (hB : Wb B) (hr : Wb r) (j : Nat) : opwf (opT2d A B j r) := by
  unfold opT2d
  split
  all_goals first | exact rw1 | exact aw7 (by decide) (hA _) (hB _) | exact xw5 (by decide) (hr _) (hr _)
def opT2i (A B : Nat → Int) (j : Nat) (r : Nat → Int) : Op6 :=
  match j with
  | 0 => ⟨1, -1, -1, -1, -1, 0⟩
  | 1 => ⟨7, 0, A 0, B 0, -1, 0⟩
  | 2 => ⟨7, 0, A 0, B 1, -1, 0⟩
  | 3 => ⟨7, 1, A 1, B 0, -1, 0⟩
  | 4 => ⟨7, 1, A 1, B 1, -1, 0⟩
  | 5 => ⟨5, 0, r 1, r 0, -1, 0⟩
  | 6 => ⟨5, 1, r 0, r 2, -1, 0⟩
  | 7 => ⟨5, 1, r 6, r 3, -1, 0⟩
  | _ => ⟨5, 1, r 4, r 7, -1, 0⟩
theorem opT2i_wf {A B r : Nat → Int} (hA : Wb A) (hB : Wb B) (hr : Wb r) (j : Nat) : opwf (opT2i A B j r) := by
  unfold opT2i
  split
  all_goals first | exact rw1 | exact aw7 (by decide) (hA _) (hB _) | exact xw5 (by decide) (hr _) (hr _)
def opT3d (A B : Nat → Int) (j : Nat) (r : Nat → Int) : Op6 :=
  match j with
  | 0 => ⟨1, -1, -1, -1, -1, 0⟩
  | 1 => ⟨1, -1, -1, -1, -1, 0⟩
  | 2 => ⟨1, -1, -1, -1, -1, 0⟩
  | 3 => ⟨7, 0, A 0, B 0, -1, 0⟩
  | 4 => ⟨7, 0, A 0, B 1, -1, 0⟩
  | 5 => ⟨7, 0, A 0, B 2, -1, 0⟩
  | 6 => ⟨7, 1, A 1, B 0, -1, 0⟩
  | 7 => ⟨7, 1, A 1, B 1, -1, 0⟩
  | 8 => ⟨7, 1, A 1, B 2, -1, 0⟩
  | 9 => ⟨7, 2, A 2, B 0, -1, 0⟩
  | 10 => ⟨7, 2, A 2, B 1, -1, 0⟩
  | 11 => ⟨7, 2, A 2, B 2, -1, 0⟩
  | 12 => ⟨5, 0, r 4, r 0, -1, 0⟩
  | 13 => ⟨5, 0, r 3, r 12, -1, 0⟩
  | 14 => ⟨5, 0, r 5, r 1, -1, 0⟩
  | 15 => ⟨5, 0, r 13, r 14, -1, 0⟩
  | 16 => ⟨5, 1, r 6, r 0, -1, 0⟩
  | 17 => ⟨5, 1, r 7, r 16, -1, 0⟩
  | 18 => ⟨5, 1, r 8, r 2, -1, 0⟩
  | 19 => ⟨5, 1, r 17, r 18, -1, 0⟩
  | 20 => ⟨5, 2, r 9, r 1, -1, 0⟩
  | 21 => ⟨5, 2, r 11, r 20, -1, 0⟩
  | 22 => ⟨5, 2, r 10, r 2, -1, 0⟩
  | _ => ⟨5, 2, r 21, r 22, -1, 0⟩
theorem opT3d_wf {A B r : Nat → Int} (hA : Wb A) (hB : Wb B) (hr : Wb r) (j : Nat) : opwf (opT3d A B j r) := by
  unfold opT3d
  split
  all_goals first | exact rw1 | exact aw7 (by decide) (hA _) (hB _) | exact xw5 (by decide) (hr _) (hr _)
def opT3i (A B : Nat → Int) (j : Nat) (r : Nat → Int) : Op6 :=
  match j with
  | 0 => ⟨1, -1, -1, -1, -1, 0⟩
  | 1 => ⟨1, -1, -1, -1, -1, 0⟩
  | 2 => ⟨1, -1, -1, -1, -1, 0⟩
  | 3 => ⟨7, 0, A 0, B 0, -1, 0⟩
  | 4 => ⟨7, 0, A 0, B 1, -1, 0⟩
  | 5 => ⟨7, 0, A 0, B 2, -1, 0⟩
  | 6 => ⟨7, 1, A 1, B 0, -1, 0⟩
  | 7 => ⟨7, 1, A 1, B 1, -1, 0⟩
  | 8 => ⟨7, 1, A 1, B 2, -1, 0⟩
  | 9 => ⟨7, 2, A 2, B 0, -1, 0⟩
  | 10 => ⟨7, 2, A 2, B 1, -1, 0⟩
  | 11 => ⟨7, 2, A 2, B 2, -1, 0⟩
  | 12 => ⟨5, 0, r 3, r 0, -1, 0⟩
  | 13 => ⟨5, 0, r 12, r 1, -1, 0⟩
  | 14 => ⟨5, 1, r 0, r 4, -1, 0⟩
  | 15 => ⟨5, 1, r 14, r 6, -1, 0⟩
  | 16 => ⟨5, 1, r 7, r 15, -1, 0⟩
  | 17 => ⟨5, 1, r 16, r 2, -1, 0⟩
  | 18 => ⟨5, 2, r 1, r 5, -1, 0⟩
  | 19 => ⟨5, 2, r 18, r 9, -1, 0⟩
  | 20 => ⟨5, 2, r 11, r 19, -1, 0⟩
  | 21 => ⟨5, 2, r 2, r 8, -1, 0⟩
  | 22 => ⟨5, 2, r 21, r 10, -1, 0⟩
  | _ => ⟨5, 2, r 20, r 22, -1, 0⟩
theorem opT3i_wf {A B r : Nat → Int} (hA : Wb A) (hB : Wb B) (hr : Wb r) (j : Nat) : opwf (opT3i A B j r) := by
  unfold opT3i
  split
  all_goals first | exact rw1 | exact aw7 (by decide) (hA _) (hB _) | exact xw5 (by decide) (hr _) (hr _)
/-! ### as loops make them -/
/-- Nine ints, three rows of three. -/
def zero9 : Nat → Int := fun _ => 0
abbrev an6 (i : Nat) (a b : Int) : Op6 := ⟨7, (i : Int), a, b, -1, 0⟩
section
variable (dS : Ms → Op6 → Ms) (dR : Ms → Op6 → Int)
/-- Masks of share i with those above it. -/
def rnI (S : Ms) (r : Nat → Int) (i : Nat) : Nat → Ms × (Nat → Int)
  | 0 => (S, r)
  | j + 1 => (dS (rnI S r i j).1 rnd6, updI (updI (rnI S r i j).2 (i * 3 + (i + 1 + j)) (dR (rnI S r i j).1 rnd6)) ((i + 1 + j) * 3 + i) (dR (rnI S r i j).1 rnd6))
def rnG (S : Ms) (n : Nat) : Nat → Ms × (Nat → Int)
  | 0 => (S, zero9)
  | i + 1 => rnI dS dR (rnG S n i).1 (rnG S n i).2 i (n - (i + 1))
/-- Products of share i. -/
def pdI (A B : Nat → Int) (S : Ms) (p : Nat → Int) (i : Nat) : Nat → Ms × (Nat → Int)
  | 0 => (S, p)
  | k + 1 => (dS (pdI A B S p i k).1 (an6 i (A i) (B k)), updI (pdI A B S p i k).2 (i * 3 + k) (dR (pdI A B S p i k).1 (an6 i (A i) (B k))))
def pdG (A B : Nat → Int) (S : Ms) (n : Nat) : Nat → Ms × (Nat → Int)
  | 0 => (S, zero9)
  | i + 1 => pdI dS dR A B (pdG A B S n i).1 (pdG A B S n i).2 i n
/-- What is put to share i for share k. -/
def moG (dom : Bool) (r p : Nat → Int) (S : Ms) (i k : Nat) : Ms × Int :=
  if dom = true then (dS S (xr6 i (p (i * 3 + k)) (r (i * 3 + k))), dR S (xr6 i (p (i * 3 + k)) (r (i * 3 + k))))
  else if k < i then (dS (dS S (xr6 i (r (k * 3 + i)) (p (k * 3 + i)))) (xr6 i (dR S (xr6 i (r (k * 3 + i)) (p (k * 3 + i)))) (p (i * 3 + k))), dR (dS S (xr6 i (r (k * 3 + i)) (p (k * 3 + i)))) (xr6 i (dR S (xr6 i (r (k * 3 + i)) (p (k * 3 + i)))) (p (i * 3 + k))))
  else (S, r (i * 3 + k))
/-- Share i, with the first k others gone through. -/
def fnI (dom : Bool) (r p : Nat → Int) (S : Ms) (i : Nat) : Nat → Ms × Int
  | 0 => (S, p (i * 3 + i))
  | k + 1 => if k = i then fnI dom r p S i k else
      (dS (moG dS dR dom r p (fnI dom r p S i k).1 i k).1 (xr6 i (fnI dom r p S i k).2 (moG dS dR dom r p (fnI dom r p S i k).1 i k).2), dR (moG dS dR dom r p (fnI dom r p S i k).1 i k).1 (xr6 i (fnI dom r p S i k).2 (moG dS dR dom r p (fnI dom r p S i k).1 i k).2))
def fnG (dom : Bool) (r p : Nat → Int) (S : Ms) (n : Nat) : Nat → Ms × (Nat → Int)
  | 0 => (S, none3)
  | i + 1 => ((fnI dS dR dom r p (fnG dom r p S n i).1 i n).1, updI (fnG dom r p S n i).2 i (fnI dS dR dom r p (fnG dom r p S n i).1 i n).2)
def tmG (n : Nat) (dom : Bool) (A B : Nat → Int) (S : Ms) : Ms × (Nat → Int) :=
  fnG dS dR dom (rnG dS dR S n n).2 (pdG dS dR A B (rnG dS dR S n n).1 n n).2 (pdG dS dR A B (rnG dS dR S n n).1 n n).1 n n
theorem tm_opT2d (A B : Nat → Int) (S : Ms) : (tmG dS dR 2 true A B S).1 = (sqG dS dR S (opT2d A B) 9).1 ∧ (tmG dS dR 2 true A B S).2 0 = sqgR dS dR S (opT2d A B) 6 ∧ (tmG dS dR 2 true A B S).2 1 = sqgR dS dR S (opT2d A B) 8 ∧ (tmG dS dR 2 true A B S).2 2 = -1 := ⟨rfl, rfl, rfl, rfl⟩
theorem tm_opT2i (A B : Nat → Int) (S : Ms) : (tmG dS dR 2 false A B S).1 = (sqG dS dR S (opT2i A B) 9).1 ∧ (tmG dS dR 2 false A B S).2 0 = sqgR dS dR S (opT2i A B) 5 ∧ (tmG dS dR 2 false A B S).2 1 = sqgR dS dR S (opT2i A B) 8 ∧ (tmG dS dR 2 false A B S).2 2 = -1 := ⟨rfl, rfl, rfl, rfl⟩
theorem tm_opT3d (A B : Nat → Int) (S : Ms) : (tmG dS dR 3 true A B S).1 = (sqG dS dR S (opT3d A B) 24).1 ∧ (tmG dS dR 3 true A B S).2 0 = sqgR dS dR S (opT3d A B) 15 ∧ (tmG dS dR 3 true A B S).2 1 = sqgR dS dR S (opT3d A B) 19 ∧ (tmG dS dR 3 true A B S).2 2 = sqgR dS dR S (opT3d A B) 23 := ⟨by kernel_rfl, by kernel_rfl, by kernel_rfl, by kernel_rfl⟩
theorem tm_opT3i (A B : Nat → Int) (S : Ms) : (tmG dS dR 3 false A B S).1 = (sqG dS dR S (opT3i A B) 24).1 ∧ (tmG dS dR 3 false A B S).2 0 = sqgR dS dR S (opT3i A B) 13 ∧ (tmG dS dR 3 false A B S).2 1 = sqgR dS dR S (opT3i A B) 17 ∧ (tmG dS dR 3 false A B S).2 2 = sqgR dS dR S (opT3i A B) 23 := ⟨by kernel_rfl, by kernel_rfl, by kernel_rfl, by kernel_rfl⟩
end
/-- Bounds, and the number of shares. -/
def Bn (k : Nat) (n : Int) (S : Ms) : Prop := Bq k S ∧ S.n = n
theorem Bn.does {k : Nat} {n : Int} {S : Ms} (h : Bn k n S) {o : Op6} (ho : opwf o) : Bn (k + 1) n (dS0 S o) := ⟨h.1.does ho (by decide), (doS_n _ _ _).trans h.2⟩
theorem Bn.mono {k k' : Nat} {n : Int} {S : Ms} (h : Bn k n S) (hk : k ≤ k') : Bn k' n S := ⟨h.1.mono hk, h.2⟩
theorem Bn.reg {k : Nat} {n : Int} {S : Ms} (h : Bn k n S) (hk : k ≤ 1000000) (o : Op6) : I64 (dR0 S o) := doR_bd h.1 hk o
theorem zero9_wb : Wb zero9 := zero_wb
theorem an6_wf {i : Nat} {a b : Int} (hi : i ≤ 1000) (ha : I64 a) (hb : I64 b) : opwf (an6 i a b) := aw7 (by omega) ha hb
theorem rnI_bq {k i : Nat} {n : Int} {S : Ms} {r : Nat → Int} (h : Bn k n S) (hr : Wb r) : ∀ {j}, k + j ≤ 1000000 → Bn (k + j) n (rnI dS0 dR0 S r i j).1 ∧ Wb (rnI dS0 dR0 S r i j).2
  | 0, _ => ⟨h, hr⟩
  | j + 1, hk => by
    obtain ⟨h1, h2⟩ := rnI_bq (i := i) h hr (j := j) (by omega)
    exact ⟨h1.does rw1, (h2.upd (h1.reg (by omega) _)).upd (h1.reg (by omega) _)⟩
theorem rnG_bq {k n : Nat} {n' : Int} {S : Ms} (hn : n ≤ 3) (h : Bn k n' S) : ∀ {i}, k + 3 * i ≤ 1000000 → Bn (k + 3 * i) n' (rnG dS0 dR0 S n i).1 ∧ Wb (rnG dS0 dR0 S n i).2
  | 0, _ => ⟨h, zero9_wb⟩
  | i + 1, hk => by
    obtain ⟨h1, h2⟩ := rnG_bq hn h (i := i) (by omega)
    obtain ⟨g1, g2⟩ := rnI_bq (i := i) h1 h2 (j := n - (i + 1)) (by omega)
    exact ⟨g1.mono (by omega), g2⟩
theorem pdI_bq {k i : Nat} {n : Int} {S : Ms} {A B p : Nat → Int} (h : Bn k n S) (hi : i ≤ 1000) (hA : Wb A) (hB : Wb B) (hp : Wb p) : ∀ {j}, k + j ≤ 1000000 → Bn (k + j) n (pdI dS0 dR0 A B S p i j).1 ∧ Wb (pdI dS0 dR0 A B S p i j).2
  | 0, _ => ⟨h, hp⟩
  | j + 1, hk => by
    obtain ⟨h1, h2⟩ := pdI_bq h hi hA hB hp (j := j) (by omega)
    exact ⟨h1.does (an6_wf hi (hA i) (hB j)), h2.upd (h1.reg (by omega) _)⟩
theorem pdG_bq {k n : Nat} {n' : Int} {S : Ms} {A B : Nat → Int} (hn : n ≤ 3) (h : Bn k n' S) (hA : Wb A) (hB : Wb B) : ∀ {i}, i ≤ 1000 → k + 3 * i ≤ 1000000 → Bn (k + 3 * i) n' (pdG dS0 dR0 A B S n i).1 ∧ Wb (pdG dS0 dR0 A B S n i).2
  | 0, _, _ => ⟨h, zero9_wb⟩
  | i + 1, hi, hk => by
    obtain ⟨h1, h2⟩ := pdG_bq hn h hA hB (i := i) (by omega) (by omega)
    obtain ⟨g1, g2⟩ := pdI_bq (i := i) h1 (by omega) hA hB h2 (j := n) (by omega)
    exact ⟨g1.mono (by omega), g2⟩
theorem moG_bq {k i j : Nat} {n : Int} {dom : Bool} {S : Ms} {r p : Nat → Int} (h : Bn k n S) (hi : i ≤ 1000) (hr : Wb r) (hp : Wb p) (hk : k + 2 ≤ 1000000) : Bn (k + 2) n (moG dS0 dR0 dom r p S i j).1 ∧ I64 (moG dS0 dR0 dom r p S i j).2 := by
  unfold moG
  repeat' split
  · have g := h.does (xr6_wf hi (hp (i * 3 + j)) (hr (i * 3 + j)))
    exact ⟨g.mono (by omega), h.reg (by omega) _⟩
  · have g := h.does (xr6_wf hi (hr (j * 3 + i)) (hp (j * 3 + i)))
    have e := h.reg (by omega) (xr6 i (r (j * 3 + i)) (p (j * 3 + i)))
    exact ⟨g.does (xr6_wf hi e (hp _)), g.reg (by omega) _⟩
  · exact ⟨h.mono (by omega), hr _⟩
theorem fnI_bq {k i : Nat} {n : Int} {dom : Bool} {S : Ms} {r p : Nat → Int} (h : Bn k n S) (hi : i ≤ 1000) (hr : Wb r) (hp : Wb p) : ∀ {j}, k + 3 * j ≤ 1000000 → Bn (k + 3 * j) n (fnI dS0 dR0 dom r p S i j).1 ∧ I64 (fnI dS0 dR0 dom r p S i j).2
  | 0, _ => ⟨h, hp _⟩
  | j + 1, hk => by
    obtain ⟨h1, h2⟩ := fnI_bq (dom := dom) h hi hr hp (j := j) (by omega)
    unfold fnI
    split
    · exact ⟨h1.mono (by omega), h2⟩
    · obtain ⟨g1, g2⟩ := moG_bq (dom := dom) (i := i) (j := j) h1 hi hr hp (by omega)
      exact ⟨g1.does (xr6_wf hi h2 g2), g1.reg (by omega) _⟩
theorem fnG_bq {k n : Nat} {n' : Int} {dom : Bool} {S : Ms} {r p : Nat → Int} (hn : n ≤ 3) (h : Bn k n' S) (hr : Wb r) (hp : Wb p) : ∀ {i}, i ≤ 1000 → k + 9 * i ≤ 1000000 → Bn (k + 9 * i) n' (fnG dS0 dR0 dom r p S n i).1 ∧ Wb (fnG dS0 dR0 dom r p S n i).2
  | 0, _, _ => ⟨h, none3_wb⟩
  | i + 1, hi, hk => by
    obtain ⟨h1, h2⟩ := fnG_bq (dom := dom) hn h hr hp (i := i) (by omega) (by omega)
    obtain ⟨g1, g2⟩ := fnI_bq (dom := dom) (i := i) h1 (by omega) hr hp (j := n) (by omega)
    exact ⟨g1.mono (by omega), h2.upd g2⟩
theorem fnI_same {dom : Bool} {S : Ms} {r p : Nat → Int} {i : Nat} : fnI dS0 dR0 dom r p S i (i + 1) = fnI dS0 dR0 dom r p S i i := if_pos rfl
theorem fnI_step {dom : Bool} {S : Ms} {r p : Nat → Int} {i k : Nat} (h : k ≠ i) (Sa T : Ms) (w x : Int) (hS : (fnI dS0 dR0 dom r p S i k).1 = Sa) (hw : (fnI dS0 dR0 dom r p S i k).2 = w) (hT : moG dS0 dR0 dom r p Sa i k = (T, x)) :
    fnI dS0 dR0 dom r p S i (k + 1) = (dS0 T (xr6 i w x), dR0 T (xr6 i w x)) := by
  have e : fnI dS0 dR0 dom r p S i (k + 1) = (dS0 (moG dS0 dR0 dom r p (fnI dS0 dR0 dom r p S i k).1 i k).1 (xr6 i (fnI dS0 dR0 dom r p S i k).2 (moG dS0 dR0 dom r p (fnI dS0 dR0 dom r p S i k).1 i k).2), dR0 (moG dS0 dR0 dom r p (fnI dS0 dR0 dom r p S i k).1 i k).1 (xr6 i (fnI dS0 dR0 dom r p S i k).2 (moG dS0 dR0 dom r p (fnI dS0 dR0 dom r p S i k).1 i k).2)) := if_neg h
  rw [e, hS, hw, hT]
theorem moG_dom (S : Ms) (r p : Nat → Int) (i k : Nat) : moG dS0 dR0 true r p S i k = (dS0 S (xr6 i (p (i * 3 + k)) (r (i * 3 + k))), dR0 S (xr6 i (p (i * 3 + k)) (r (i * 3 + k)))) := if_pos rfl
theorem moG_up (S : Ms) (r p : Nat → Int) {i k : Nat} (h : i < k) : moG dS0 dR0 false r p S i k = (S, r (i * 3 + k)) := by
  unfold moG
  rw [if_neg (by decide), if_neg (by omega)]
theorem moG_down (S : Ms) (r p : Nat → Int) {i k : Nat} (h : k < i) : moG dS0 dR0 false r p S i k = (dS0 (dS0 S (xr6 i (r (k * 3 + i)) (p (k * 3 + i)))) (xr6 i (dR0 S (xr6 i (r (k * 3 + i)) (p (k * 3 + i)))) (p (i * 3 + k))), dR0 (dS0 S (xr6 i (r (k * 3 + i)) (p (k * 3 + i)))) (xr6 i (dR0 S (xr6 i (r (k * 3 + i)) (p (k * 3 + i)))) (p (i * 3 + k)))) := by
  unfold moG
  rw [if_neg (by decide), if_pos h]
/-- Which ops: of three shares or two, by which kind. -/
def tmO (n : Int) (dom : Bool) (A B : Nat → Int) : Nat → (Nat → Int) → Op6 := if n = 3 then (if dom = true then opT3d A B else opT3i A B) else (if dom = true then opT2d A B else opT2i A B)
def tmM (n : Int) : Nat := if n = 3 then 24 else 9
def tmS (S : Ms) (dom : Bool) (A B : Nat → Int) : Ms := blkS S 3 (tmO S.n dom A B) (tmM S.n)
def tmR (S : Ms) (dom : Bool) (A B : Nat → Int) : Nat → Int :=
  if S.n = 3 then (if dom = true then reg3 (sqr (S.beginS 3) (opT3d A B) 15) (sqr (S.beginS 3) (opT3d A B) 19) (sqr (S.beginS 3) (opT3d A B) 23) else reg3 (sqr (S.beginS 3) (opT3i A B) 13) (sqr (S.beginS 3) (opT3i A B) 17) (sqr (S.beginS 3) (opT3i A B) 23))
  else (if dom = true then reg3 (sqr (S.beginS 3) (opT2d A B) 6) (sqr (S.beginS 3) (opT2d A B) 8) (-1) else reg3 (sqr (S.beginS 3) (opT2i A B) 5) (sqr (S.beginS 3) (opT2i A B) 8) (-1))
theorem tm_all {S : Ms} (dom : Bool) (A B : Nat → Int) (hn : S.n = 2 ∨ S.n = 3) : (tmG dS0 dR0 S.sh dom A B (S.beginS 3)).1.endS = tmS S dom A B ∧ ∀ i, i < 3 → (tmG dS0 dR0 S.sh dom A B (S.beginS 3)).2 i = tmR S dom A B i := by
  unfold tmS tmR tmO tmM blkS sqS
  rcases hn with e | e
  · have hsh : S.sh = 2 := by unfold Ms.sh; omega
    have h3 : ¬ S.n = 3 := by omega
    rw [hsh, if_neg h3, if_neg h3, if_neg h3]
    cases dom with
    | true =>
      rw [if_pos rfl, if_pos rfl]
      obtain ⟨a, b, c, d⟩ := tm_opT2d dS0 dR0 A B (S.beginS 3)
      rw [a, sq_G]
      refine ⟨rfl, fun i hi => ?_⟩
      rcases (by omega : i = 0 ∨ i = 1 ∨ i = 2) with rfl | rfl | rfl
      · rw [b, sqr_G, reg3_0]
      · rw [c, sqr_G, reg3_1]
      · rw [d, reg3_2]
    | false =>
      rw [if_neg (by decide), if_neg (by decide)]
      obtain ⟨a, b, c, d⟩ := tm_opT2i dS0 dR0 A B (S.beginS 3)
      rw [a, sq_G]
      refine ⟨rfl, fun i hi => ?_⟩
      rcases (by omega : i = 0 ∨ i = 1 ∨ i = 2) with rfl | rfl | rfl
      · rw [b, sqr_G, reg3_0]
      · rw [c, sqr_G, reg3_1]
      · rw [d, reg3_2]
  · have hsh : S.sh = 3 := by unfold Ms.sh; omega
    rw [hsh, if_pos e, if_pos e, if_pos e]
    cases dom with
    | true =>
      rw [if_pos rfl, if_pos rfl]
      obtain ⟨a, b, c, d⟩ := tm_opT3d dS0 dR0 A B (S.beginS 3)
      rw [a, sq_G]
      refine ⟨rfl, fun i hi => ?_⟩
      rcases (by omega : i = 0 ∨ i = 1 ∨ i = 2) with rfl | rfl | rfl
      · rw [b, sqr_G, reg3_0]
      · rw [c, sqr_G, reg3_1]
      · rw [d, sqr_G, reg3_2]
    | false =>
      rw [if_neg (by decide), if_neg (by decide)]
      obtain ⟨a, b, c, d⟩ := tm_opT3i dS0 dR0 A B (S.beginS 3)
      rw [a, sq_G]
      refine ⟨rfl, fun i hi => ?_⟩
      rcases (by omega : i = 0 ∨ i = 1 ∨ i = 2) with rfl | rfl | rfl
      · rw [b, sqr_G, reg3_0]
      · rw [c, sqr_G, reg3_1]
      · rw [d, sqr_G, reg3_2]
theorem tmO_wf {n : Int} {dom : Bool} {A B r : Nat → Int} (hA : Wb A) (hB : Wb B) (hr : Wb r) (j : Nat) : opwf (tmO n dom A B j r) := by
  unfold tmO
  repeat' split
  · exact opT3d_wf hA hB hr j
  · exact opT3i_wf hA hB hr j
  · exact opT2d_wf hA hB hr j
  · exact opT2i_wf hA hB hr j
theorem tmM_le (n : Int) : tmM n ≤ 24 := by unfold tmM; split <;> omega
theorem tmS_bq {k : Nat} {S : Ms} (h : Bq k S) (hk : k + 24 ≤ 1000000) {dom : Bool} {A B : Nat → Int} (hA : Wb A) (hB : Wb B) : Bq (k + 25) (tmS S dom A B) := by
  have := tmM_le S.n
  exact (blk_bq h (kd := 3) (op := tmO S.n dom A B) (m := tmM S.n) (fun j _ r hr => tmO_wf hA hB hr j) (by omega)).mono (by omega)
theorem tmS_ext (S : Ms) (dom : Bool) (A B : Nat → Int) : Ext S (tmS S dom A B) := blk_ext _ _ _ _
set_option maxHeartbeats 3200000 in
theorem opT2d_words {S : Ms} {A B : Nat → Int} (K : Blk S 3 (opT2d A B) 9) (x y μ : Nat → Nat) (ha : ∀ i, i < 2 → wordAt (blkS S 3 (opT2d A B) 9).v (blkS S 3 (opT2d A B) 9).L (A i) = x i) (hb : ∀ i, i < 2 → wordAt (blkS S 3 (opT2d A B) 9).v (blkS S 3 (opT2d A B) 9).L (B i) = y i) (hm : ∀ j, S.tw (S.used + j) = μ j) :
    (blkS S 3 (opT2d A B) 9).v (S.L + 6) = ((x 0 &&& y 0) ^^^ ((x 0 &&& y 1) ^^^ μ 0)) ∧ (blkS S 3 (opT2d A B) 9).v (S.L + 8) = ((x 1 &&& y 1) ^^^ ((x 1 &&& y 0) ^^^ μ 0)) := by
  have w0 : (blkS S 3 (opT2d A B) 9).v (S.L + 0) = μ 0 := (K.rand (j := 0) (d := -1) (r := 0) (by omega) rfl (by simp [rands])).trans (hm _)
  have w1 := K.and (j := 1) (d := 0) (a := A 0) (b := B 0) (by omega) (by simp [opT2d])
  rw [ha 0 (by omega), hb 0 (by omega)] at w1
  have w2 := K.and (j := 2) (d := 0) (a := A 0) (b := B 1) (by omega) (by simp [opT2d])
  rw [ha 0 (by omega), hb 1 (by omega)] at w2
  have w3 := K.and (j := 3) (d := 1) (a := A 1) (b := B 0) (by omega) (by simp [opT2d])
  rw [ha 1 (by omega), hb 0 (by omega)] at w3
  have w4 := K.and (j := 4) (d := 1) (a := A 1) (b := B 1) (by omega) (by simp [opT2d])
  rw [ha 1 (by omega), hb 1 (by omega)] at w4
  have w5 := K.xor (j := 5) (d := 0) (a := ((S.L + 2 : Nat) : Int)) (b := ((S.L + 0 : Nat) : Int)) (by omega) (by simp [opT2d, exR])
  rw [K.at_ (j := 2) (by omega), w2, K.at_ (j := 0) (by omega), w0] at w5
  have w6 := K.xor (j := 6) (d := 0) (a := ((S.L + 1 : Nat) : Int)) (b := ((S.L + 5 : Nat) : Int)) (by omega) (by simp [opT2d, exR])
  rw [K.at_ (j := 1) (by omega), w1, K.at_ (j := 5) (by omega), w5] at w6
  have w7 := K.xor (j := 7) (d := 1) (a := ((S.L + 3 : Nat) : Int)) (b := ((S.L + 0 : Nat) : Int)) (by omega) (by simp [opT2d, exR])
  rw [K.at_ (j := 3) (by omega), w3, K.at_ (j := 0) (by omega), w0] at w7
  have w8 := K.xor (j := 8) (d := 1) (a := ((S.L + 4 : Nat) : Int)) (b := ((S.L + 7 : Nat) : Int)) (by omega) (by simp [opT2d, exR])
  rw [K.at_ (j := 4) (by omega), w4, K.at_ (j := 7) (by omega), w7] at w8
  exact ⟨w6, w8⟩
set_option maxHeartbeats 3200000 in
theorem opT2i_words {S : Ms} {A B : Nat → Int} (K : Blk S 3 (opT2i A B) 9) (x y μ : Nat → Nat) (ha : ∀ i, i < 2 → wordAt (blkS S 3 (opT2i A B) 9).v (blkS S 3 (opT2i A B) 9).L (A i) = x i) (hb : ∀ i, i < 2 → wordAt (blkS S 3 (opT2i A B) 9).v (blkS S 3 (opT2i A B) 9).L (B i) = y i) (hm : ∀ j, S.tw (S.used + j) = μ j) :
    (blkS S 3 (opT2i A B) 9).v (S.L + 5) = ((x 0 &&& y 0) ^^^ μ 0) ∧ (blkS S 3 (opT2i A B) 9).v (S.L + 8) = ((x 1 &&& y 1) ^^^ ((μ 0 ^^^ (x 0 &&& y 1)) ^^^ (x 1 &&& y 0))) := by
  have w0 : (blkS S 3 (opT2i A B) 9).v (S.L + 0) = μ 0 := (K.rand (j := 0) (d := -1) (r := 0) (by omega) rfl (by simp [rands])).trans (hm _)
  have w1 := K.and (j := 1) (d := 0) (a := A 0) (b := B 0) (by omega) (by simp [opT2i])
  rw [ha 0 (by omega), hb 0 (by omega)] at w1
  have w2 := K.and (j := 2) (d := 0) (a := A 0) (b := B 1) (by omega) (by simp [opT2i])
  rw [ha 0 (by omega), hb 1 (by omega)] at w2
  have w3 := K.and (j := 3) (d := 1) (a := A 1) (b := B 0) (by omega) (by simp [opT2i])
  rw [ha 1 (by omega), hb 0 (by omega)] at w3
  have w4 := K.and (j := 4) (d := 1) (a := A 1) (b := B 1) (by omega) (by simp [opT2i])
  rw [ha 1 (by omega), hb 1 (by omega)] at w4
  have w5 := K.xor (j := 5) (d := 0) (a := ((S.L + 1 : Nat) : Int)) (b := ((S.L + 0 : Nat) : Int)) (by omega) (by simp [opT2i, exR])
  rw [K.at_ (j := 1) (by omega), w1, K.at_ (j := 0) (by omega), w0] at w5
  have w6 := K.xor (j := 6) (d := 1) (a := ((S.L + 0 : Nat) : Int)) (b := ((S.L + 2 : Nat) : Int)) (by omega) (by simp [opT2i, exR])
  rw [K.at_ (j := 0) (by omega), w0, K.at_ (j := 2) (by omega), w2] at w6
  have w7 := K.xor (j := 7) (d := 1) (a := ((S.L + 6 : Nat) : Int)) (b := ((S.L + 3 : Nat) : Int)) (by omega) (by simp [opT2i, exR])
  rw [K.at_ (j := 6) (by omega), w6, K.at_ (j := 3) (by omega), w3] at w7
  have w8 := K.xor (j := 8) (d := 1) (a := ((S.L + 4 : Nat) : Int)) (b := ((S.L + 7 : Nat) : Int)) (by omega) (by simp [opT2i, exR])
  rw [K.at_ (j := 4) (by omega), w4, K.at_ (j := 7) (by omega), w7] at w8
  exact ⟨w5, w8⟩
set_option maxHeartbeats 3200000 in
theorem opT3d_words {S : Ms} {A B : Nat → Int} (K : Blk S 3 (opT3d A B) 24) (x y μ : Nat → Nat) (ha : ∀ i, i < 3 → wordAt (blkS S 3 (opT3d A B) 24).v (blkS S 3 (opT3d A B) 24).L (A i) = x i) (hb : ∀ i, i < 3 → wordAt (blkS S 3 (opT3d A B) 24).v (blkS S 3 (opT3d A B) 24).L (B i) = y i) (hm : ∀ j, S.tw (S.used + j) = μ j) :
    (blkS S 3 (opT3d A B) 24).v (S.L + 15) = (((x 0 &&& y 0) ^^^ ((x 0 &&& y 1) ^^^ μ 0)) ^^^ ((x 0 &&& y 2) ^^^ μ 1)) ∧ (blkS S 3 (opT3d A B) 24).v (S.L + 19) = (((x 1 &&& y 1) ^^^ ((x 1 &&& y 0) ^^^ μ 0)) ^^^ ((x 1 &&& y 2) ^^^ μ 2)) ∧ (blkS S 3 (opT3d A B) 24).v (S.L + 23) = (((x 2 &&& y 2) ^^^ ((x 2 &&& y 0) ^^^ μ 1)) ^^^ ((x 2 &&& y 1) ^^^ μ 2)) := by
  have w0 : (blkS S 3 (opT3d A B) 24).v (S.L + 0) = μ 0 := (K.rand (j := 0) (d := -1) (r := 0) (by omega) rfl (by simp [rands])).trans (hm _)
  have w1 : (blkS S 3 (opT3d A B) 24).v (S.L + 1) = μ 1 := (K.rand (j := 1) (d := -1) (r := 1) (by omega) rfl (by simp [rands, opT3d])).trans (hm _)
  have w2 : (blkS S 3 (opT3d A B) 24).v (S.L + 2) = μ 2 := (K.rand (j := 2) (d := -1) (r := 2) (by omega) rfl (by simp [rands, opT3d])).trans (hm _)
  have w3 := K.and (j := 3) (d := 0) (a := A 0) (b := B 0) (by omega) (by simp [opT3d])
  rw [ha 0 (by omega), hb 0 (by omega)] at w3
  have w4 := K.and (j := 4) (d := 0) (a := A 0) (b := B 1) (by omega) (by simp [opT3d])
  rw [ha 0 (by omega), hb 1 (by omega)] at w4
  have w5 := K.and (j := 5) (d := 0) (a := A 0) (b := B 2) (by omega) (by simp [opT3d])
  rw [ha 0 (by omega), hb 2 (by omega)] at w5
  have w6 := K.and (j := 6) (d := 1) (a := A 1) (b := B 0) (by omega) (by simp [opT3d])
  rw [ha 1 (by omega), hb 0 (by omega)] at w6
  have w7 := K.and (j := 7) (d := 1) (a := A 1) (b := B 1) (by omega) (by simp [opT3d])
  rw [ha 1 (by omega), hb 1 (by omega)] at w7
  have w8 := K.and (j := 8) (d := 1) (a := A 1) (b := B 2) (by omega) (by simp [opT3d])
  rw [ha 1 (by omega), hb 2 (by omega)] at w8
  have w9 := K.and (j := 9) (d := 2) (a := A 2) (b := B 0) (by omega) (by simp [opT3d])
  rw [ha 2 (by omega), hb 0 (by omega)] at w9
  have w10 := K.and (j := 10) (d := 2) (a := A 2) (b := B 1) (by omega) (by simp [opT3d])
  rw [ha 2 (by omega), hb 1 (by omega)] at w10
  have w11 := K.and (j := 11) (d := 2) (a := A 2) (b := B 2) (by omega) (by simp [opT3d])
  rw [ha 2 (by omega), hb 2 (by omega)] at w11
  have w12 := K.xor (j := 12) (d := 0) (a := ((S.L + 4 : Nat) : Int)) (b := ((S.L + 0 : Nat) : Int)) (by omega) (by simp [opT3d, exR])
  rw [K.at_ (j := 4) (by omega), w4, K.at_ (j := 0) (by omega), w0] at w12
  have w13 := K.xor (j := 13) (d := 0) (a := ((S.L + 3 : Nat) : Int)) (b := ((S.L + 12 : Nat) : Int)) (by omega) (by simp [opT3d, exR])
  rw [K.at_ (j := 3) (by omega), w3, K.at_ (j := 12) (by omega), w12] at w13
  have w14 := K.xor (j := 14) (d := 0) (a := ((S.L + 5 : Nat) : Int)) (b := ((S.L + 1 : Nat) : Int)) (by omega) (by simp [opT3d, exR])
  rw [K.at_ (j := 5) (by omega), w5, K.at_ (j := 1) (by omega), w1] at w14
  have w15 := K.xor (j := 15) (d := 0) (a := ((S.L + 13 : Nat) : Int)) (b := ((S.L + 14 : Nat) : Int)) (by omega) (by simp [opT3d, exR])
  rw [K.at_ (j := 13) (by omega), w13, K.at_ (j := 14) (by omega), w14] at w15
  have w16 := K.xor (j := 16) (d := 1) (a := ((S.L + 6 : Nat) : Int)) (b := ((S.L + 0 : Nat) : Int)) (by omega) (by simp [opT3d, exR])
  rw [K.at_ (j := 6) (by omega), w6, K.at_ (j := 0) (by omega), w0] at w16
  have w17 := K.xor (j := 17) (d := 1) (a := ((S.L + 7 : Nat) : Int)) (b := ((S.L + 16 : Nat) : Int)) (by omega) (by simp [opT3d, exR])
  rw [K.at_ (j := 7) (by omega), w7, K.at_ (j := 16) (by omega), w16] at w17
  have w18 := K.xor (j := 18) (d := 1) (a := ((S.L + 8 : Nat) : Int)) (b := ((S.L + 2 : Nat) : Int)) (by omega) (by simp [opT3d, exR])
  rw [K.at_ (j := 8) (by omega), w8, K.at_ (j := 2) (by omega), w2] at w18
  have w19 := K.xor (j := 19) (d := 1) (a := ((S.L + 17 : Nat) : Int)) (b := ((S.L + 18 : Nat) : Int)) (by omega) (by simp [opT3d, exR])
  rw [K.at_ (j := 17) (by omega), w17, K.at_ (j := 18) (by omega), w18] at w19
  have w20 := K.xor (j := 20) (d := 2) (a := ((S.L + 9 : Nat) : Int)) (b := ((S.L + 1 : Nat) : Int)) (by omega) (by simp [opT3d, exR])
  rw [K.at_ (j := 9) (by omega), w9, K.at_ (j := 1) (by omega), w1] at w20
  have w21 := K.xor (j := 21) (d := 2) (a := ((S.L + 11 : Nat) : Int)) (b := ((S.L + 20 : Nat) : Int)) (by omega) (by simp [opT3d, exR])
  rw [K.at_ (j := 11) (by omega), w11, K.at_ (j := 20) (by omega), w20] at w21
  have w22 := K.xor (j := 22) (d := 2) (a := ((S.L + 10 : Nat) : Int)) (b := ((S.L + 2 : Nat) : Int)) (by omega) (by simp [opT3d, exR])
  rw [K.at_ (j := 10) (by omega), w10, K.at_ (j := 2) (by omega), w2] at w22
  have w23 := K.xor (j := 23) (d := 2) (a := ((S.L + 21 : Nat) : Int)) (b := ((S.L + 22 : Nat) : Int)) (by omega) (by simp [opT3d, exR])
  rw [K.at_ (j := 21) (by omega), w21, K.at_ (j := 22) (by omega), w22] at w23
  exact ⟨w15, w19, w23⟩
set_option maxHeartbeats 3200000 in
theorem opT3i_words {S : Ms} {A B : Nat → Int} (K : Blk S 3 (opT3i A B) 24) (x y μ : Nat → Nat) (ha : ∀ i, i < 3 → wordAt (blkS S 3 (opT3i A B) 24).v (blkS S 3 (opT3i A B) 24).L (A i) = x i) (hb : ∀ i, i < 3 → wordAt (blkS S 3 (opT3i A B) 24).v (blkS S 3 (opT3i A B) 24).L (B i) = y i) (hm : ∀ j, S.tw (S.used + j) = μ j) :
    (blkS S 3 (opT3i A B) 24).v (S.L + 13) = (((x 0 &&& y 0) ^^^ μ 0) ^^^ μ 1) ∧ (blkS S 3 (opT3i A B) 24).v (S.L + 17) = (((x 1 &&& y 1) ^^^ ((μ 0 ^^^ (x 0 &&& y 1)) ^^^ (x 1 &&& y 0))) ^^^ μ 2) ∧ (blkS S 3 (opT3i A B) 24).v (S.L + 23) = (((x 2 &&& y 2) ^^^ ((μ 1 ^^^ (x 0 &&& y 2)) ^^^ (x 2 &&& y 0))) ^^^ ((μ 2 ^^^ (x 1 &&& y 2)) ^^^ (x 2 &&& y 1))) := by
  have w0 : (blkS S 3 (opT3i A B) 24).v (S.L + 0) = μ 0 := (K.rand (j := 0) (d := -1) (r := 0) (by omega) rfl (by simp [rands])).trans (hm _)
  have w1 : (blkS S 3 (opT3i A B) 24).v (S.L + 1) = μ 1 := (K.rand (j := 1) (d := -1) (r := 1) (by omega) rfl (by simp [rands, opT3i])).trans (hm _)
  have w2 : (blkS S 3 (opT3i A B) 24).v (S.L + 2) = μ 2 := (K.rand (j := 2) (d := -1) (r := 2) (by omega) rfl (by simp [rands, opT3i])).trans (hm _)
  have w3 := K.and (j := 3) (d := 0) (a := A 0) (b := B 0) (by omega) (by simp [opT3i])
  rw [ha 0 (by omega), hb 0 (by omega)] at w3
  have w4 := K.and (j := 4) (d := 0) (a := A 0) (b := B 1) (by omega) (by simp [opT3i])
  rw [ha 0 (by omega), hb 1 (by omega)] at w4
  have w5 := K.and (j := 5) (d := 0) (a := A 0) (b := B 2) (by omega) (by simp [opT3i])
  rw [ha 0 (by omega), hb 2 (by omega)] at w5
  have w6 := K.and (j := 6) (d := 1) (a := A 1) (b := B 0) (by omega) (by simp [opT3i])
  rw [ha 1 (by omega), hb 0 (by omega)] at w6
  have w7 := K.and (j := 7) (d := 1) (a := A 1) (b := B 1) (by omega) (by simp [opT3i])
  rw [ha 1 (by omega), hb 1 (by omega)] at w7
  have w8 := K.and (j := 8) (d := 1) (a := A 1) (b := B 2) (by omega) (by simp [opT3i])
  rw [ha 1 (by omega), hb 2 (by omega)] at w8
  have w9 := K.and (j := 9) (d := 2) (a := A 2) (b := B 0) (by omega) (by simp [opT3i])
  rw [ha 2 (by omega), hb 0 (by omega)] at w9
  have w10 := K.and (j := 10) (d := 2) (a := A 2) (b := B 1) (by omega) (by simp [opT3i])
  rw [ha 2 (by omega), hb 1 (by omega)] at w10
  have w11 := K.and (j := 11) (d := 2) (a := A 2) (b := B 2) (by omega) (by simp [opT3i])
  rw [ha 2 (by omega), hb 2 (by omega)] at w11
  have w12 := K.xor (j := 12) (d := 0) (a := ((S.L + 3 : Nat) : Int)) (b := ((S.L + 0 : Nat) : Int)) (by omega) (by simp [opT3i, exR])
  rw [K.at_ (j := 3) (by omega), w3, K.at_ (j := 0) (by omega), w0] at w12
  have w13 := K.xor (j := 13) (d := 0) (a := ((S.L + 12 : Nat) : Int)) (b := ((S.L + 1 : Nat) : Int)) (by omega) (by simp [opT3i, exR])
  rw [K.at_ (j := 12) (by omega), w12, K.at_ (j := 1) (by omega), w1] at w13
  have w14 := K.xor (j := 14) (d := 1) (a := ((S.L + 0 : Nat) : Int)) (b := ((S.L + 4 : Nat) : Int)) (by omega) (by simp [opT3i, exR])
  rw [K.at_ (j := 0) (by omega), w0, K.at_ (j := 4) (by omega), w4] at w14
  have w15 := K.xor (j := 15) (d := 1) (a := ((S.L + 14 : Nat) : Int)) (b := ((S.L + 6 : Nat) : Int)) (by omega) (by simp [opT3i, exR])
  rw [K.at_ (j := 14) (by omega), w14, K.at_ (j := 6) (by omega), w6] at w15
  have w16 := K.xor (j := 16) (d := 1) (a := ((S.L + 7 : Nat) : Int)) (b := ((S.L + 15 : Nat) : Int)) (by omega) (by simp [opT3i, exR])
  rw [K.at_ (j := 7) (by omega), w7, K.at_ (j := 15) (by omega), w15] at w16
  have w17 := K.xor (j := 17) (d := 1) (a := ((S.L + 16 : Nat) : Int)) (b := ((S.L + 2 : Nat) : Int)) (by omega) (by simp [opT3i, exR])
  rw [K.at_ (j := 16) (by omega), w16, K.at_ (j := 2) (by omega), w2] at w17
  have w18 := K.xor (j := 18) (d := 2) (a := ((S.L + 1 : Nat) : Int)) (b := ((S.L + 5 : Nat) : Int)) (by omega) (by simp [opT3i, exR])
  rw [K.at_ (j := 1) (by omega), w1, K.at_ (j := 5) (by omega), w5] at w18
  have w19 := K.xor (j := 19) (d := 2) (a := ((S.L + 18 : Nat) : Int)) (b := ((S.L + 9 : Nat) : Int)) (by omega) (by simp [opT3i, exR])
  rw [K.at_ (j := 18) (by omega), w18, K.at_ (j := 9) (by omega), w9] at w19
  have w20 := K.xor (j := 20) (d := 2) (a := ((S.L + 11 : Nat) : Int)) (b := ((S.L + 19 : Nat) : Int)) (by omega) (by simp [opT3i, exR])
  rw [K.at_ (j := 11) (by omega), w11, K.at_ (j := 19) (by omega), w19] at w20
  have w21 := K.xor (j := 21) (d := 2) (a := ((S.L + 2 : Nat) : Int)) (b := ((S.L + 8 : Nat) : Int)) (by omega) (by simp [opT3i, exR])
  rw [K.at_ (j := 2) (by omega), w2, K.at_ (j := 8) (by omega), w8] at w21
  have w22 := K.xor (j := 22) (d := 2) (a := ((S.L + 21 : Nat) : Int)) (b := ((S.L + 10 : Nat) : Int)) (by omega) (by simp [opT3i, exR])
  rw [K.at_ (j := 21) (by omega), w21, K.at_ (j := 10) (by omega), w10] at w22
  have w23 := K.xor (j := 23) (d := 2) (a := ((S.L + 20 : Nat) : Int)) (b := ((S.L + 22 : Nat) : Int)) (by omega) (by simp [opT3i, exR])
  rw [K.at_ (j := 20) (by omega), w20, K.at_ (j := 22) (by omega), w22] at w23
  exact ⟨w13, w17, w23⟩
/-- What each share is. -/
def tmW (n : Int) (dom : Bool) (x y μ : Nat → Nat) (i : Nat) : Nat :=
  if n = 3 then (if dom = true then ( if i = 0 then (((x 0 &&& y 0) ^^^ ((x 0 &&& y 1) ^^^ μ 0)) ^^^ ((x 0 &&& y 2) ^^^ μ 1)) else if i = 1 then (((x 1 &&& y 1) ^^^ ((x 1 &&& y 0) ^^^ μ 0)) ^^^ ((x 1 &&& y 2) ^^^ μ 2)) else (((x 2 &&& y 2) ^^^ ((x 2 &&& y 0) ^^^ μ 1)) ^^^ ((x 2 &&& y 1) ^^^ μ 2))) else ( if i = 0 then (((x 0 &&& y 0) ^^^ μ 0) ^^^ μ 1) else if i = 1 then (((x 1 &&& y 1) ^^^ ((μ 0 ^^^ (x 0 &&& y 1)) ^^^ (x 1 &&& y 0))) ^^^ μ 2) else (((x 2 &&& y 2) ^^^ ((μ 1 ^^^ (x 0 &&& y 2)) ^^^ (x 2 &&& y 0))) ^^^ ((μ 2 ^^^ (x 1 &&& y 2)) ^^^ (x 2 &&& y 1))))) else (if dom = true then ( if i = 0 then ((x 0 &&& y 0) ^^^ ((x 0 &&& y 1) ^^^ μ 0)) else ((x 1 &&& y 1) ^^^ ((x 1 &&& y 0) ^^^ μ 0))) else ( if i = 0 then ((x 0 &&& y 0) ^^^ μ 0) else ((x 1 &&& y 1) ^^^ ((μ 0 ^^^ (x 0 &&& y 1)) ^^^ (x 1 &&& y 0)))))
/-- What two words are multiplied into: where its shares lie, and what each is. -/
theorem tm_words {S : Ms} {dom : Bool} {A B : Nat → Int} (hs : S.skip = 0) (hd : S.dry = false) (hn : S.n = 2 ∨ S.n = 3) (hA : Gw S A) (hB : Gw S B) (h : (tmS S dom A B).e = 0) :
    ∃ q : Nat → Nat, (∀ i, i < 3 → (i < S.sh → tmR S dom A B i = ((q i : Nat) : Int) ∧ q i < (tmS S dom A B).L) ∧ (S.sh ≤ i → tmR S dom A B i = -1)) ∧
      ∀ i, i < S.sh → (tmS S dom A B).v (q i) = tmW S.n dom (fun j => wordAt S.v S.L (A j)) (fun j => wordAt S.v S.L (B j)) (fun j => S.tw (S.used + j)) i := by
  have hX := tmS_ext S dom A B
  have oA : ∀ i, i < 3 → wordAt (tmS S dom A B).v (tmS S dom A B).L (A i) = wordAt S.v S.L (A i) := fun i hi => wordAt_ext hX (hA.lt i hi)
  have oB : ∀ i, i < 3 → wordAt (tmS S dom A B).v (tmS S dom A B).L (B i) = wordAt S.v S.L (B i) := fun i hi => wordAt_ext hX (hB.lt i hi)
  clear hX
  unfold tmS tmR tmW at *
  rcases hn with e | e
  · have hsh : S.sh = 2 := by unfold Ms.sh; omega
    have h3 : ¬ S.n = 3 := by omega
    have hM : tmM S.n = 9 := if_neg h3
    cases dom with
    | true =>
      have hO : tmO S.n true A B = opT2d A B := (if_neg h3).trans (if_pos rfl)
      rw [hO, hM] at h oA oB ⊢
      have K := blk_of hs hd h
      have hL := K.L
      obtain ⟨w0, w1⟩ := opT2d_words K (fun j => wordAt S.v S.L (A j)) (fun j => wordAt S.v S.L (B j)) (fun j => S.tw (S.used + j)) (fun i hi => oA i (by omega)) (fun i hi => oB i (by omega)) (fun _ => rfl)
      refine ⟨nat3 (S.L + 6) (S.L + 8) 0, fun i hi => ⟨fun hi2 => ?_, fun hi2 => ?_⟩, fun i hi => ?_⟩
      · rw [if_neg h3, if_pos rfl, hL]
        rcases (by omega : i = 0 ∨ i = 1) with rfl | rfl
        · rw [reg3_0, K.reg 6 (by omega), nat3_0]; exact ⟨rfl, by omega⟩
        · rw [reg3_1, K.reg 8 (by omega), nat3_1]; exact ⟨rfl, by omega⟩
      · obtain rfl : i = 2 := by omega
        rw [if_neg h3, if_pos rfl, reg3_2]
      · rw [if_neg h3, if_pos rfl]
        rcases (by omega : i = 0 ∨ i = 1) with rfl | rfl
        · rw [if_pos rfl, nat3_0]; exact w0
        · rw [if_neg (by decide), nat3_1]; exact w1
    | false =>
      have hO : tmO S.n false A B = opT2i A B := (if_neg h3).trans (if_neg (by decide))
      rw [hO, hM] at h oA oB ⊢
      have K := blk_of hs hd h
      have hL := K.L
      obtain ⟨w0, w1⟩ := opT2i_words K (fun j => wordAt S.v S.L (A j)) (fun j => wordAt S.v S.L (B j)) (fun j => S.tw (S.used + j)) (fun i hi => oA i (by omega)) (fun i hi => oB i (by omega)) (fun _ => rfl)
      refine ⟨nat3 (S.L + 5) (S.L + 8) 0, fun i hi => ⟨fun hi2 => ?_, fun hi2 => ?_⟩, fun i hi => ?_⟩
      · rw [if_neg h3, if_neg (by decide), hL]
        rcases (by omega : i = 0 ∨ i = 1) with rfl | rfl
        · rw [reg3_0, K.reg 5 (by omega), nat3_0]; exact ⟨rfl, by omega⟩
        · rw [reg3_1, K.reg 8 (by omega), nat3_1]; exact ⟨rfl, by omega⟩
      · obtain rfl : i = 2 := by omega
        rw [if_neg h3, if_neg (by decide), reg3_2]
      · rw [if_neg h3, if_neg (by decide)]
        rcases (by omega : i = 0 ∨ i = 1) with rfl | rfl
        · rw [if_pos rfl, nat3_0]; exact w0
        · rw [if_neg (by decide), nat3_1]; exact w1
  · have hsh : S.sh = 3 := by unfold Ms.sh; omega
    have hM : tmM S.n = 24 := if_pos e
    cases dom with
    | true =>
      have hO : tmO S.n true A B = opT3d A B := (if_pos e).trans (if_pos rfl)
      rw [hO, hM] at h oA oB ⊢
      have K := blk_of hs hd h
      have hL := K.L
      obtain ⟨w0, w1, w2⟩ := opT3d_words K (fun j => wordAt S.v S.L (A j)) (fun j => wordAt S.v S.L (B j)) (fun j => S.tw (S.used + j)) (fun i hi => oA i (by omega)) (fun i hi => oB i (by omega)) (fun _ => rfl)
      refine ⟨nat3 (S.L + 15) (S.L + 19) (S.L + 23), fun i hi => ⟨fun hi2 => ?_, fun hi2 => ?_⟩, fun i hi => ?_⟩
      · rw [if_pos e, if_pos rfl, hL]
        rcases (by omega : i = 0 ∨ i = 1 ∨ i = 2) with rfl | rfl | rfl
        · rw [reg3_0, K.reg 15 (by omega), nat3_0]; exact ⟨rfl, by omega⟩
        · rw [reg3_1, K.reg 19 (by omega), nat3_1]; exact ⟨rfl, by omega⟩
        · rw [reg3_2, K.reg 23 (by omega), nat3_2]; exact ⟨rfl, by omega⟩
      · omega
      · rw [if_pos e, if_pos rfl]
        rcases (by omega : i = 0 ∨ i = 1 ∨ i = 2) with rfl | rfl | rfl
        · rw [if_pos rfl, nat3_0]; exact w0
        · rw [if_neg (by decide), if_pos rfl, nat3_1]; exact w1
        · rw [if_neg (by decide), if_neg (by decide), nat3_2]; exact w2
    | false =>
      have hO : tmO S.n false A B = opT3i A B := (if_pos e).trans (if_neg (by decide))
      rw [hO, hM] at h oA oB ⊢
      have K := blk_of hs hd h
      have hL := K.L
      obtain ⟨w0, w1, w2⟩ := opT3i_words K (fun j => wordAt S.v S.L (A j)) (fun j => wordAt S.v S.L (B j)) (fun j => S.tw (S.used + j)) (fun i hi => oA i (by omega)) (fun i hi => oB i (by omega)) (fun _ => rfl)
      refine ⟨nat3 (S.L + 13) (S.L + 17) (S.L + 23), fun i hi => ⟨fun hi2 => ?_, fun hi2 => ?_⟩, fun i hi => ?_⟩
      · rw [if_pos e, if_neg (by decide), hL]
        rcases (by omega : i = 0 ∨ i = 1 ∨ i = 2) with rfl | rfl | rfl
        · rw [reg3_0, K.reg 13 (by omega), nat3_0]; exact ⟨rfl, by omega⟩
        · rw [reg3_1, K.reg 17 (by omega), nat3_1]; exact ⟨rfl, by omega⟩
        · rw [reg3_2, K.reg 23 (by omega), nat3_2]; exact ⟨rfl, by omega⟩
      · omega
      · rw [if_pos e, if_neg (by decide)]
        rcases (by omega : i = 0 ∨ i = 1 ∨ i = 2) with rfl | rfl | rfl
        · rw [if_pos rfl, nat3_0]; exact w0
        · rw [if_neg (by decide), if_pos rfl, nat3_1]; exact w1
        · rw [if_neg (by decide), if_neg (by decide), nat3_2]; exact w2
/-- All shares together. -/
theorem tmW_all {n : Int} (hn : n = 2 ∨ n = 3) (dom : Bool) (x y μ : Nat → Nat) : (n = 2 → tmW n dom x y μ 0 ^^^ tmW n dom x y μ 1 = (x 0 ^^^ x 1) &&& (y 0 ^^^ y 1)) ∧ (n = 3 → tmW n dom x y μ 0 ^^^ tmW n dom x y μ 1 ^^^ tmW n dom x y μ 2 = (x 0 ^^^ x 1 ^^^ x 2) &&& (y 0 ^^^ y 1 ^^^ y 2)) := by
  refine ⟨fun e => ?_, fun e => ?_⟩
  · subst e
    unfold tmW
    rw [if_neg (by decide)]
    cases dom
    · refine Nat.eq_of_testBit_eq fun j => ?_
      simp only [reduceIte, Nat.testBit_xor, Nat.testBit_and, Bool.false_eq_true, Nat.one_ne_zero, show ¬ (2 : Int) = 3 by decide]
      generalize (x 0).testBit j = a
      generalize (x 1).testBit j = b
      generalize (y 0).testBit j = c
      generalize (y 1).testBit j = d
      generalize (μ 0).testBit j = r
      revert a b c d r
      decide
    · refine Nat.eq_of_testBit_eq fun j => ?_
      simp only [reduceIte, Nat.testBit_xor, Nat.testBit_and, Nat.one_ne_zero, show ¬ (2 : Int) = 3 by decide]
      generalize (x 0).testBit j = a
      generalize (x 1).testBit j = b
      generalize (y 0).testBit j = c
      generalize (y 1).testBit j = d
      generalize (μ 0).testBit j = r
      revert a b c d r
      decide
  · subst e
    unfold tmW
    cases dom
    · refine Nat.eq_of_testBit_eq fun j => ?_
      simp only [reduceIte, Nat.testBit_xor, Nat.testBit_and, Bool.false_eq_true, Nat.one_ne_zero, show ¬ 2 = 0 by decide, show ¬ 2 = 1 by decide]
      generalize (x 0).testBit j = a
      generalize (x 1).testBit j = b
      generalize (x 2).testBit j = c
      generalize (y 0).testBit j = d
      generalize (y 1).testBit j = e
      generalize (y 2).testBit j = f
      generalize (μ 0).testBit j = r
      generalize (μ 1).testBit j = s
      generalize (μ 2).testBit j = u
      revert a b c d e f r s u
      decide
    · refine Nat.eq_of_testBit_eq fun j => ?_
      simp only [reduceIte, Nat.testBit_xor, Nat.testBit_and, Nat.one_ne_zero, show ¬ 2 = 0 by decide, show ¬ 2 = 1 by decide]
      generalize (x 0).testBit j = a
      generalize (x 1).testBit j = b
      generalize (x 2).testBit j = c
      generalize (y 0).testBit j = d
      generalize (y 1).testBit j = e
      generalize (y 2).testBit j = f
      generalize (μ 0).testBit j = r
      generalize (μ 1).testBit j = s
      generalize (μ 2).testBit j = u
      revert a b c d e f r s u
      decide
/-- What two words are multiplied into stands for the bits that both have. -/
theorem tm_vl {S : Ms} {dom : Bool} {A B : Nat → Int} (hs : S.skip = 0) (hd : S.dry = false) (hn : S.n = 2 ∨ S.n = 3) (hA : Gw S A) (hB : Gw S B) (h : (tmS S dom A B).e = 0) :
    vlN (tmS S dom A B).v (tmS S dom A B).L (tmR S dom A B) = vlN S.v S.L A &&& vlN S.v S.L B ∧ Gw (tmS S dom A B) (tmR S dom A B) := by
  obtain ⟨q, hq, hw⟩ := tm_words hs hd hn hA hB h
  have at_ : ∀ i, i < 3 → i < S.sh → wordAt (tmS S dom A B).v (tmS S dom A B).L (tmR S dom A B i) = (tmS S dom A B).v (q i) := fun i hi hj => by
    obtain ⟨e, l⟩ := (hq i hi).1 hj
    rw [e]; exact wordAt_nat l
  have gw : Gw (tmS S dom A B) (tmR S dom A B) := ⟨fun i hi => by
      by_cases e : i < S.sh
      · obtain ⟨e1, l⟩ := (hq i hi).1 e
        rw [e1]; omega
      · rw [(hq i hi).2 (by omega)]; omega, fun i hi hj => by
      have e2 : (tmS S dom A B).sh = S.sh := by unfold Ms.sh; rw [(tmS_ext S dom A B).n]
      rw [e2] at hi
      rw [(hq i hj).2 hi]; omega⟩
  refine ⟨?_, gw⟩
  rw [vl_three, vl_three, vl_three]
  obtain ⟨t2, t3⟩ := tmW_all hn dom (fun j => wordAt S.v S.L (A j)) (fun j => wordAt S.v S.L (B j)) (fun j => S.tw (S.used + j))
  rcases hn with e | e
  · have hsh : S.sh = 2 := by unfold Ms.sh; omega
    rw [at_ 0 (by omega) (by omega), at_ 1 (by omega) (by omega), (hq 2 (by omega)).2 (by omega), hw 0 (by omega), hw 1 (by omega), wordAt_neg (by omega : (-1 : Int) < 0), wordAt_neg (hA.no 2 (by omega) (by omega)), wordAt_neg (hB.no 2 (by omega) (by omega)), Nat.xor_zero, Nat.xor_zero, Nat.xor_zero]
    exact t2 e
  · have hsh : S.sh = 3 := by unfold Ms.sh; omega
    rw [at_ 0 (by omega) (by omega), at_ 1 (by omega) (by omega), at_ 2 (by omega) (by omega), hw 0 (by omega), hw 1 (by omega), hw 2 (by omega)]
    exact t3 e
/-- Bits. -/
def tmB (n : Int) (dom : Bool) (x y μ : Nat → Bool) (i : Nat) : Bool :=
  if n = 3 then (if dom = true then ( if i = 0 then (((x 0 && y 0) ^^ ((x 0 && y 1) ^^ μ 0)) ^^ ((x 0 && y 2) ^^ μ 1)) else if i = 1 then (((x 1 && y 1) ^^ ((x 1 && y 0) ^^ μ 0)) ^^ ((x 1 && y 2) ^^ μ 2)) else (((x 2 && y 2) ^^ ((x 2 && y 0) ^^ μ 1)) ^^ ((x 2 && y 1) ^^ μ 2))) else ( if i = 0 then (((x 0 && y 0) ^^ μ 0) ^^ μ 1) else if i = 1 then (((x 1 && y 1) ^^ ((μ 0 ^^ (x 0 && y 1)) ^^ (x 1 && y 0))) ^^ μ 2) else (((x 2 && y 2) ^^ ((μ 1 ^^ (x 0 && y 2)) ^^ (x 2 && y 0))) ^^ ((μ 2 ^^ (x 1 && y 2)) ^^ (x 2 && y 1))))) else (if dom = true then ( if i = 0 then ((x 0 && y 0) ^^ ((x 0 && y 1) ^^ μ 0)) else ((x 1 && y 1) ^^ ((x 1 && y 0) ^^ μ 0))) else ( if i = 0 then ((x 0 && y 0) ^^ μ 0) else ((x 1 && y 1) ^^ ((μ 0 ^^ (x 0 && y 1)) ^^ (x 1 && y 0)))))
theorem tmW_bit (n : Int) (dom : Bool) (x y μ : Nat → Nat) (i : Nat) : (tmW n dom x y μ i) % 2 = (tmB n dom (fun j => (x j).testBit 0) (fun j => (y j).testBit 0) (fun j => (μ j).testBit 0) i).toNat := by
  have h : ∀ z : Nat, z % 2 = (z.testBit 0).toNat := fun z => by
    rw [Nat.testBit_zero]
    rcases Nat.mod_two_eq_zero_or_one z with e | e <;> rw [e] <;> rfl
  rw [h]
  congr 1
  unfold tmW tmB
  repeat' split
  all_goals simp only [Nat.testBit_xor, Nat.testBit_and]
/-- A bit of a share, the words' bits told by numbers below 8. -/
def tbN (n : Nat) (dom : Bool) (a b k i : Nat) : Nat := (tmB (n : Int) dom (fun j => a.testBit j) (fun j => b.testBit j) (fun j => k.testBit j) i).toNat
def rowT (n : Nat) (dom : Bool) (a b o k : Nat) : Nat → Nat
  | 0 => 0
  | i + 1 => if i = o then rowT n dom a b o k i else rowT n dom a b o k i * 2 + tbN n dom a b k i
def cntT (n : Nat) (dom : Bool) (a b o : Nat) : Nat → Nat → Nat
  | 0 => fun _ => 0
  | k + 1 => upd (cntT n dom a b o k) (rowT n dom a b o k n) (cntT n dom a b o k (rowT n dom a b o k n) + 1)
theorem evenT2 : ∀ dom, ∀ a, a < 8 → ∀ b, b < 8 → ∀ o, o < 2 → ∀ r, r < 2 → cntT 2 dom a b o 2 r * 2 = 2 := by decide +kernel
theorem evenT3 : ∀ dom, ∀ a, a < 8 → ∀ b, b < 8 → ∀ o, o < 3 → ∀ r, r < 4 → cntT 3 dom a b o 8 r * 4 = 8 := by decide +kernel
theorem tbN_lt (n : Nat) (dom : Bool) (a b k i : Nat) : tbN n dom a b k i < 2 := by
  unfold tbN
  generalize tmB _ _ _ _ _ _ = q
  cases q <;> decide
theorem rowT_lt {n : Nat} {dom : Bool} {a b o k : Nat} : ∀ {i}, i ≤ 3 → rowT n dom a b o k i < 2 ^ i
  | 0, _ => Nat.one_pos
  | i + 1, hi => by
    have h := rowT_lt (n := n) (dom := dom) (a := a) (b := b) (o := o) (k := k) (i := i) (by omega)
    have hf := tbN_lt n dom a b k i
    unfold rowT
    rw [Nat.pow_succ]
    split <;> omega
theorem cntT_le {n : Nat} {dom : Bool} {a b o : Nat} : ∀ {k} j, cntT n dom a b o k j ≤ k
  | 0, _ => Nat.le_refl _
  | k + 1, j => by
    unfold cntT upd
    have := cntT_le (n := n) (dom := dom) (a := a) (b := b) (o := o) (k := k) j
    split
    · have := cntT_le (n := n) (dom := dom) (a := a) (b := b) (o := o) (k := k) (rowT n dom a b o k n); omega
    · omega
end Go.Proofs.Ytflfnaiklnbaiaa

/- General: a block that is a map from two ints to an int, said as a row of nine. No program is named. -/
namespace Go.Proofs.Ytflfnaiklnbaiaa
open Go.Maps Go.ChangeMaps
abbrev prV (i k : Nat) : Value := .agg #[.int .i64 (i : Int), .int .i64 (k : Int)]
/-- The block's object o is a map of at most c entries; at i, k below 3 it reads r (i * 3 + k), 0 where nothing is. -/
def MapO (P : Program) (k e : TypeId) (c : Nat) (r : Nat → Int) (o : Obj) : Prop :=
  ∃ D : DataW Unit, (∀ (w : World) (g : Nat), w.heap[g]? = some o → w.ownsMap P k (plainElem P e) g c D) ∧ IsMap D ∧
    ∀ i, i < 3 → ∀ j, j < 3 → ∃ kl, keyOf P k (prV i j) = some kl ∧ D.atKey kl (.lit (.int .i64 0)) = .lit (.int .i64 (r (i * 3 + j)))
section
variable {P : Program} {k e t : TypeId}
/-- How pairs are read as keys. -/
def PrK (P : Program) (k : TypeId) : Prop := ∀ i, i < 3 → ∀ j, j < 3 → ∃ kl, keyOf P k (prV i j) = some kl
theorem MapO.made (hk : PrK P k) : MapO P k e 0 zero9 (.map #[] 0) := by
  refine ⟨.map [], fun w g hg => ?_, isMap_empty, fun i hi j hj => ?_⟩
  · exact ⟨#[], 0, hg, ⟨by simp, MapKept.stamped_empty 0, by simp⟩, Nat.le_refl _, rfl⟩
  · obtain ⟨kl, h⟩ := hk i hi j hj
    exact ⟨kl, h, rfl⟩
theorem MapO.mono {c c' : Nat} {r : Nat → Int} {o : Obj} (h : MapO P k e c r o) (hc : c ≤ c') : MapO P k e c' r o := by
  obtain ⟨D, h1, h2, h3⟩ := h
  exact ⟨D, fun w g hg => (h1 w g hg).mono hc, h2, h3⟩
/-- A look-up in a region that draws. -/
theorem yields_lookP {ops : Array Oper} {S : World → Prop} {q : Oper} {a : Act} (hw : Region.wanted q (yielded ops a.tmps) = true) (m x : Operand) (hop : q.op = Op.lookup t m x false) {g i j : Nat} (z : Int) (hm : a.eval m = .map (some g)) (hx : a.eval x = prV i j)
    (hS : ∀ w, S w → (Instr.lookup t (.map (some g)) (prV i j) false).run P w = .ok (.int .i64 z) w) : YieldsIf P ops S q (.int .i64 z) a :=
  .inl ⟨hw, fun w h => by
    unfold execOp
    simp only [hop, hm, hx, hS w h, Sem.run_bind, Result.andThen_ok, Sem.run_pure]⟩
variable (K : Keyed P k) (ht : P.underlying t = some (.map k e)) (he : P.underlying e = some (.int .i64))
include K ht he
theorem MapO.look {c : Nat} {r : Nat → Int} {o : Obj} {w : World} {g i j : Nat} (hz : (zeroValue e).run P w = .ok (.int .i64 0) w) (h : MapO P k e c r o) (hg : w.heap[g]? = some o) (hi : i < 3) (hj : j < 3) :
    (Instr.lookup t (.map (some g)) (prV i j) false).run P w = .ok (.int .i64 (r (i * 3 + j))) w := by
  obtain ⟨D, h1, h2, h3⟩ := h
  obtain ⟨kl, hk, ha⟩ := h3 i hi j hj
  obtain ⟨x, hx, hat, _⟩ := (h1 w g hg).lookup_int K ht he hz hk
  rw [ha] at hat
  simp only [DataW.lit.injEq, Lit.int.injEq, true_and] at hat
  rw [hat]; exact hx
theorem MapO.store {c : Nat} {r : Nat → Int} {o : Obj} {w : World} {g i j : Nat} {x : Int} (h : MapO P k e c r o) (hg : w.heap[g]? = some o) (hc : c < maxLen) (hi : i < 3) (hj : j < 3) (hx : (Lit.int .i64 x).wf = true) :
    ∃ w' o', (Instr.mapUpdate t (.map (some g)) (prV i j) (.int .i64 x)).run P w = .ok () w' ∧ w'.heap[g]? = some o' ∧ MapO P k e (c + 1) (updI r (i * 3 + j) x) o' ∧ (∀ q, q ≠ g → w'.heap[q]? = w.heap[q]?) ∧ w'.heap.size = w.heap.size ∧ w'.os = w.os ∧ w'.tape = w.tape ∧ w'.output = w.output := by
  obtain ⟨D, h1, h2, h3⟩ := h
  obtain ⟨kl, hk, ha⟩ := h3 i hi j hj
  obtain ⟨w', hrun, hown, es, clock, es', clock', hb, rfl⟩ := (h1 w g hg).store K ht hc hk (plainElem_int he hx)
  refine ⟨_, .map es' clock', hrun, heap_setBlock_same hb _, ⟨D.put kl (.lit (.int .i64 x)), fun w2 g2 hg2 => ?_, h2.put _ _, fun i' hi' j' hj' => ?_⟩, fun q hq => heap_setBlock_other hb _ hq, by simp [setBlock], rfl, rfl, rfl⟩
  · obtain ⟨es2, clock2, hb2, F, hs, hD⟩ := hown
    have e1 := (heap_setBlock_same hb (.map es' clock')).symm.trans hb2
    exact ⟨es2, clock2, hg2.trans e1, F, hs, hD⟩
  · obtain ⟨kl', hk', ha'⟩ := h3 i' hi' j' hj'
    refine ⟨kl', hk', ?_⟩
    by_cases e1 : kl' = kl
    · subst e1
      have e2 := K.inj hk hk'
      simp only [Value.agg.injEq, Array.mk.injEq, List.cons.injEq, Value.int.injEq, true_and, and_true] at e2
      obtain ⟨a1, a2⟩ := e2
      obtain rfl : i' = i := by omega
      obtain rfl : j' = j := by omega
      rw [atKey_put_same h2 (K.key hk), updI_at]
    · rw [atKey_put_other e1, ha']
      have e3 : i' * 3 + j' ≠ i * 3 + j := fun e4 => by
        obtain rfl : i' = i := by omega
        obtain rfl : j' = j := by omega
        exact e1 (Option.some.inj (hk'.symm.trans hk))
      rw [updI_no _ _ e3]
/-- A store at the operation. -/
theorem step_storeP {w : World} {ops : Array Oper} {rest : List Oper} {q : Oper} {a : Act} {Q : Exit → Act → World → Prop} (hg : q.guard = none) (m x v : Operand) (hop : q.op = Op.mapUpdate t m x v)
    {c : Nat} {r : Nat → Int} {o : Obj} {g i j : Nat} {z : Int} (hm : a.eval m = .map (some g)) (hx : a.eval x = prV i j) (hv : a.eval v = .int .i64 z) (hb : w.heap[g]? = some o) (h : MapO P k e c r o) (hc : c < maxLen) (hi : i < 3) (hj : j < 3) (hw : (Lit.int .i64 z).wf = true)
    (hK : ∀ w' o', w'.heap[g]? = some o' → MapO P k e (c + 1) (updI r (i * 3 + j) z) o' → (∀ q, q ≠ g → w'.heap[q]? = w.heap[q]?) → w'.heap.size = w.heap.size → (w'.os = w.os ∧ w'.tape = w.tape ∧ w'.output = w.output) → wpList P ops Q rest (a.put q.dst undef) w') : wpList P ops Q (q :: rest) a w := by
  refine wpList_plain hg fun K' hK' => ?_
  obtain ⟨w', o', hrun, r1, r2, r3, r4, r5⟩ := h.store K ht he hb hc hi hj hw
  unfold Oper.wp
  simp [execOp, hop, hm, hx, hv, hrun, Result.andThen]
  exact hK' _ _ (hK w' o' r1 r2 r3 r4 r5)
end
section
variable (dS : Ms → Op6 → Ms) (dR : Ms → Op6 → Int)
/-- Masks of share k with those below it. -/
def mkI (S : Ms) (r : Nat → Int) (k : Nat) : Nat → Ms × (Nat → Int)
  | 0 => (S, r)
  | i + 1 => (dS (mkI S r k i).1 rnd6, updI (updI (mkI S r k i).2 (i * 3 + k) (dR (mkI S r k i).1 rnd6)) (k * 3 + i) (dR (mkI S r k i).1 rnd6))
def mkG (S : Ms) : Nat → Ms × (Nat → Int)
  | 0 => (S, zero9)
  | k + 1 => mkI dS dR (mkG S k).1 (mkG S k).2 k k
theorem mk_2 (S : Ms) : mkG dS dR S 2 = rnG dS dR S 2 2 := rfl
theorem mk_3 (S : Ms) : mkG dS dR S 3 = rnG dS dR S 3 3 := rfl
end
theorem mkI_bq {k j : Nat} {n : Int} {S : Ms} {r : Nat → Int} (h : Bn k n S) (hr : Wb r) : ∀ {i}, k + i ≤ 1000000 → Bn (k + i) n (mkI dS0 dR0 S r j i).1 ∧ Wb (mkI dS0 dR0 S r j i).2
  | 0, _ => ⟨h, hr⟩
  | i + 1, hk => by
    obtain ⟨h1, h2⟩ := mkI_bq (j := j) h hr (i := i) (by omega)
    exact ⟨h1.does rw1, (h2.upd (h1.reg (by omega) _)).upd (h1.reg (by omega) _)⟩
theorem mkG_bq {k : Nat} {n : Int} {S : Ms} (h : Bn k n S) : ∀ {j}, j ≤ 3 → k + 3 * j ≤ 1000000 → Bn (k + 3 * j) n (mkG dS0 dR0 S j).1 ∧ Wb (mkG dS0 dR0 S j).2
  | 0, _, _ => ⟨h, zero9_wb⟩
  | j + 1, hj, hk => by
    obtain ⟨h1, h2⟩ := mkG_bq h (j := j) (by omega) (by omega)
    obtain ⟨g1, g2⟩ := mkI_bq (j := j) h1 h2 (i := j) (by omega)
    exact ⟨g1.mono (by omega), g2⟩
end Go.Proofs.Ytflfnaiklnbaiaa

/- General: arrays of ints by value, told by a function. No program is named. -/
namespace Go.Proofs.Ytflfnaiklnbaiaa

/-- The n cells of an array of ints. -/
def iz (n : Nat) (f : Nat → Int) : Array Value := ((List.range n).map fun i => Value.int .i64 (f i)).toArray
theorem iz_size (n : Nat) (f : Nat → Int) : (iz n f).size = n := by simp [iz]
theorem iz_get {n : Nat} (f : Nat → Int) {j : Nat} (h : j < n) : (iz n f)[j]? = some (.int .i64 (f j)) := by simp [iz, h]
theorem iz_set (n : Nat) (f : Nat → Int) (j : Nat) (z : Int) : (iz n f).setIfInBounds j (.int .i64 z) = iz n (updI f j z) := by
  apply Array.ext_getElem?
  intro i
  rw [Array.getElem?_setIfInBounds, iz_size]
  by_cases hi : i < n
  · rw [iz_get _ hi, iz_get _ hi]
    by_cases e : j = i
    · subst e; rw [if_pos rfl, if_pos hi, updI_at]
    · rw [if_neg e, updI_no _ _ (fun h => e h.symm)]
  · have h1 : (iz n f)[i]? = none := by simp [iz_size]; omega
    have h2 : (iz n (updI f j z))[i]? = none := by simp [iz_size]; omega
    rw [h1, h2]
    by_cases e : j = i
    · rw [if_pos e, if_neg (by omega)]
    · rw [if_neg e]
end Go.Proofs.Ytflfnaiklnbaiaa
