import Derived.Test.YthhkhcacljgelaaProg
import Derived.Test.YthhkhcacljgelaaGen
import Derived.Test.YthhkhcacljgelaaMth
import Derived.Deep.RegionHeld3
namespace Go.Proofs.Ythhkhcacljgelaa
open Go.RowKit

theorem info23 : (Try.prog.info? 79).map (·.size) = some 8 := by kernel_rfl
theorem info22 : (Try.prog.info? 78).map (·.size) = some 8 := by kernel_rfl
theorem info5 : (Try.prog.info? 5).map (·.size) = some 1 := by kernel_rfl
abbrev M (w : World) (b : Nat) (f : Nat → Nat) : Prop := At w b 8 79 f
theorem M.load {w : World} {b : Nat} {f : Nat → Nat} (h : M w b f) : (loadVar 79 ⟨b, 0, none⟩).run Try.prog w = .ok (.agg (ba 8 f)) w := At.load h 79 Try.underlying79 info23
theorem M.store {w : World} {b : Nat} {f : Nat → Nat} (h : M w b f) (g : Nat → Nat) : (storeVar 79 ⟨b, 0, none⟩ (.agg (ba 8 g))).run Try.prog w = .ok () (w.setRow b (ba 8 g)) := At.store h 79 g info23
theorem idx (f : Nat → Nat) {j : Nat} (hj : j < 8) (w : World) : (Instr.index 79 (.agg (ba 8 f)) (.int .i64 (j : Int))).run Try.prog w = .ok (.int .u8 (f j : Int)) w := run_index_ba w 79 5 8 f j Try.underlying79 Try.underlying5 info5 hj
theorem sh8 {j : Nat} (hj : j < 8) : (2 : Int) ^ j % 256 = ((2 ^ j : Nat) : Int) := by
  have : ∀ j < 8, (2 : Int) ^ j % 256 = ((2 ^ j : Nat) : Int) := by decide +kernel
  exact this j hj


def oneTo (j : Nat) : Nat → Nat := fun i => if i < j then 2 ^ i else 0
structure OneInv (w wr : World) (j : Nat) : Prop where
  le : j ≤ 8
  out : M wr w.heap.size (fun _ => 0)
  at_ : M wr (w.heap.size + 1) (oneTo j)
  low : Below w.heap.size w wr
theorem OneInv.start (w : World) : OneInv w ((w.alloc (.cells (ba 8 (fun _ => 0)) 79)).alloc (.cells (ba 8 (fun _ => 0)) 79)) 0 := by
  refine ⟨by omega, ?_, ?_, ?_⟩
  · exact At.alloc (At.new w 8 79 (fun _ => 0)) _
  · have := At.new (w.alloc (.cells (ba 8 (fun _ => 0)) 79)) 8 79 (fun _ => 0)
    rw [World.size_alloc] at this
    exact this
  · exact ((Below.refl _ _).alloc (Nat.le_refl _) _).alloc (by simp) _
theorem OneInv.step {w wr : World} {j : Nat} (h : OneInv w wr j) (hj : j < 8) : OneInv w (wr.setCell ⟨w.heap.size + 1, j, none⟩ (.int .u8 (2 ^ j % 256))) (j + 1) := by
  rw [sh8 hj]
  refine ⟨hj, h.out.apart (by simp) _, (h.at_.set j (2 ^ j)).ext (fun i _ => ?_), h.low.setCell (by simp) _⟩
  unfold upd oneTo
  by_cases e : i = j
  · subst e; simp
  · rw [if_neg e]
    by_cases h1 : i < j
    · rw [if_pos h1, if_pos (by omega)]
    · rw [if_neg h1, if_neg (by omega)]

end Go.Proofs.Ythhkhcacljgelaa

namespace Go.Proofs.Ythhkhcacljgelaa
open Go.RowKit

/-- How many of the first n bits are 1. -/
def popTo (x : Nat) : Nat → Nat
  | 0 => 0
  | k + 1 => popTo x k + (if x.testBit k then 1 else 0)
def pop (x : Nat) : Nat := popTo x 8
theorem popTo_le (x : Nat) : ∀ n, popTo x n ≤ n
  | 0 => Nat.le_refl _
  | n + 1 => by have := popTo_le x n; rw [popTo]; split <;> omega
theorem pop_le (x : Nat) : pop x ≤ 8 := popTo_le x 8
theorem popTo_odd (a x : Nat) : ∀ n, bsum (fun k => a.testBit k && x.testBit k) n = decide (popTo (a &&& x) n % 2 = 1)
  | 0 => by simp [bsum, popTo]
  | n + 1 => by
    rw [bsum, popTo_odd a x n, popTo, Nat.testBit_and]
    cases h : (a.testBit n && x.testBit n)
    · simp
    · simp only [if_true]
      by_cases e : popTo (a &&& x) n % 2 = 1
      · simp [e]; omega
      · simp [e]; omega
theorem dot_pop (a x : Nat) : dot a x = decide (pop (a &&& x) % 2 = 1) := popTo_odd a x 8
theorem tab (s : ByteArray) (hs : ∀ x < 256, (s.data[x]?.map (·.toNat)) = some (pop x)) (x : Nat) (hx : x < 256) (h : x < s.size) : wrap64 ((s[x]'h).toNat : Int) = (pop x : Int) := by
  have h1 := hs x hx
  have h2 : s.data[x]? = some (s[x]'h) := by
    rw [Array.getElem?_eq_getElem (show x < s.data.size from h)]; rfl
  rw [h2] at h1
  simp only [Option.map_some, Option.some.injEq] at h1
  have := pop_le x
  rw [h1]; unfold wrap64; omega

set_option maxRecDepth 100000 in
set_option maxHeartbeats 400000 in
theorem ones_any (x : Nat) (w : World) (hx : x < 256) :
    Calls Try.prog 69 #[.int .u8 (x : Int)] w fun e w' => e = .returned (.int .i64 (pop x : Int)) ∧ w' = w := by
  go_enter Try.func69, Try.ntmps69
  go_wp2
  go_ret
  refine ⟨ret_int (tab _ ?_ x hx _), rfl⟩
  decide +kernel

theorem bit_dec (b j : Nat) : b.testBit j = decide (b / 2 ^ j % 2 = 1) := Nat.testBit_eq_decide_div_mod_eq
theorem bitB (b j : Nat) : (((b : Int) / 2 ^ j).tmod 2 == 1) = b.testBit j := by
  rw [bit_dec]
  by_cases h : b / 2 ^ j % 2 = 1
  · rw [bitT h]; simp [h]
  · rw [bitF h]; simp [h]

end Go.Proofs.Ythhkhcacljgelaa

namespace Go.Proofs.Ythhkhcacljgelaa
open Go.RowKit

theorem and8 {a b : Nat} (ha : a < 256) (hb : b < 256) : bits .and .u8 (a : Int) (b : Int) = ((a &&& b : Nat) : Int) := u8_and_nat a b ha hb
theorem and_lt {a b : Nat} (ha : a < 256) : a &&& b < 256 := Nat.lt_of_le_of_lt Nat.and_le_left ha
theorem or8_two {T j q : Nat} (hT : T < 2 ^ j) (hj : j < 8) (hq : q < 2) : bits .or .u8 (T : Int) ((q : Int) * 2 ^ j % 256) = ((T + (if q = 1 then 2 ^ j else 0) : Nat) : Int) := by
  have hp := pow_le_128 hj
  have hq2 : q = 0 ∨ q = 1 := by omega
  rcases hq2 with rfl | rfl
  · have := u8_or_nat T 0 (by omega) (by decide)
    simpa using this
  · have h1 := u8_or_nat T (2 ^ j) (by omega) (by omega)
    have h2 : T ||| 2 ^ j = T + 2 ^ j := by
      have := Nat.two_pow_add_eq_or_of_lt hT 1
      rw [Nat.mul_one] at this
      rw [Nat.or_comm, ← this, Nat.add_comm]
    have h3 : (((1 : Nat) : Int) * 2 ^ j % 256) = ((2 ^ j : Nat) : Int) := by
      rw [Int.natCast_one, Int.one_mul]; exact sh8 hj
    rw [h3, h1, h2]; simp
theorem apply_step {T j P : Nat} (hT : T < 2 ^ j) (hj : j < 8) (hP : P ≤ 8) : bits .or .u8 (T : Int) (bits .and .i64 (P : Int) 1 % 256 * 2 ^ j % 256) = ((T + (if P % 2 = 1 then 2 ^ j else 0) : Nat) : Int) := by
  rw [and64_one (by omega), show ((P % 2 : Nat) : Int) % 256 = ((P % 2 : Nat) : Int) by omega]
  exact or8_two hT hj (by omega)

set_option maxRecDepth 100000 in
set_option maxHeartbeats 400000 in
theorem apply_any (f : Nat → Nat) (x : Nat) (w : World) (hf : By f) (hx : x < 256) :
    Calls Try.prog 64 #[.agg (ba 8 f), .int .u8 (x : Int)] w fun e w' => e = .returned (.int .u8 (ap f x : Nat)) ∧ Below w.heap.size w w' := by
  have HL := hid ((Below.refl w.heap.size w).alloc (Nat.le_refl _) (.cells (ba 8 f) 79))
  have HA := hid (At.new w 8 79 f)
  go_enter Try.func64, Try.ntmps64
  go_wp2_with (refine step_load_ba rfl 79 _ rfl w.heap.size 8 79 5 f rfl HA.out Try.underlying79 info23 ?_)
  go_loop [5, 9] (fun t i => ∃ j : Nat, j ≤ 8 ∧ i = .int .i64 j ∧ t = .int .u8 (pk (fun i => dot (f i) x) j : Nat)) (fun _ i => 8 - (intOf i).toNat)
  case atStart => exact ⟨0, by omega, rfl, rfl⟩
  case round =>
    obtain ⟨j, hj, rfl, rfl⟩ := hrel
    by_cases hlt : j < 8
    · have hi := idx f hlt
      have hb := hf j hlt
      have hand := and8 hb hx
      have hl := and_lt (b := x) hb
      have HP := hid (show pk (fun i => dot (f i) x) (j + 1) = pk (fun i => dot (f i) x) j + (if dot (f j) x then 2 ^ j else 0) from rfl)
      have HD := hid (dot_pop (f j) x)
      have HS := hid (apply_step (pk_lt (fun i => dot (f i) x) j) hlt (pop_le (f j &&& x)))
      generalize f j = a at *
      generalize pk (fun i => dot (f i) x) j = T at *
      go_wp2_with (first
          | (go_at_call 69; (with_reducible refine (ones_any (a &&& x) _ hl).mono ?_); rintro e w1 ⟨rfl, rfl⟩))
      go_round
      case rel => exact ⟨j + 1, by omega, by go_num, by rw [HS.out, HP.out, HD.out]; simp⟩
      case measure => simp [intOf]; omega
    · go_wp2
      go_ret
      have : j = 8 := by omega
      subst this
      exact ⟨rfl, HL.out⟩

end Go.Proofs.Ythhkhcacljgelaa

namespace Go.Proofs.Ythhkhcacljgelaa
open Go.RowKit

/-- Rows as columns, so far: i rows are done, and k columns of the next. -/
def flTo (f : Nat → Nat) (i k : Nat) : Nat → Nat := fun j => pk (fun i => (f i).testBit j) (if j < k then i + 1 else i)
/-- Three blocks: what came in, what goes out, what is being made. -/
structure M3 (t : TypeId) (f g : Nat → Nat) (w wr : World) : Prop where
  low : Below w.heap.size w wr
  src : At wr w.heap.size 8 t f
  out : M wr (w.heap.size + 1) (fun _ => 0)
  var : M wr (w.heap.size + 2) g
theorem M3.start (t : TypeId) (f : Nat → Nat) (w : World) : M3 t f (fun _ => 0) w (((w.alloc (.cells (ba 8 f) t)).alloc (.cells (ba 8 (fun _ => 0)) 79)).alloc (.cells (ba 8 (fun _ => 0)) 79)) := by
  refine ⟨(((Below.refl _ _).alloc (Nat.le_refl _) _).alloc (by simp) _).alloc (by simp; omega) _, ((At.new w 8 t f).alloc _).alloc _, ?_, ?_⟩
  · have := At.new (w.alloc (.cells (ba 8 f) t)) 8 79 (fun _ => 0)
    rw [World.size_alloc] at this
    exact this.alloc _
  · have := At.new ((w.alloc (.cells (ba 8 f) t)).alloc (.cells (ba 8 (fun _ => 0)) 79)) 8 79 (fun _ => 0)
    rw [World.size_alloc, World.size_alloc] at this
    exact this
theorem M3.ext {t : TypeId} {f g h : Nat → Nat} {w wr : World} (m : M3 t f g w wr) (e : ∀ i, i < 8 → g i = h i) : M3 t f h w wr := ⟨m.low, m.src, m.out, m.var.ext e⟩
theorem M3.set {t : TypeId} {f g : Nat → Nat} {w wr : World} (m : M3 t f g w wr) (j z : Nat) : M3 t f (upd g j z) w (wr.setCell ⟨w.heap.size + 2, j, none⟩ (.int .u8 (z : Int))) :=
  ⟨m.low.setCell (by simp) _, m.src.apart (by simp) _, m.out.apart (by simp) _, m.var.set j z⟩
theorem M3.drew {t : TypeId} {f g : Nat → Nat} {w wr : World} (m : M3 t f g w wr) : M3 t f g w wr.drew := ⟨m.low.drew, m.src, m.out, m.var⟩

theorem flip_step {T a k i : Nat} (hT : T < 2 ^ i) (hi : i < 8) (ha : a < 256) :
    bits .or .u8 (T : Int) (bits .and .u8 ((a : Int) / 2 ^ k) 1 * 2 ^ i % 256) = ((T + (if a.testBit k then 2 ^ i else 0) : Nat) : Int) := by
  have h1 : (a : Int) / 2 ^ k = ((a / 2 ^ k : Nat) : Int) := by simp
  have h2 : a / 2 ^ k < 256 := Nat.lt_of_le_of_lt (Nat.div_le_self _ _) ha
  rw [h1, and8_one h2, or8_two hT hi (by omega), bit_dec]
  simp
theorem flTo_step {f : Nat → Nat} {i k : Nat} {w wr : World} (m : M3 79 f (flTo f i k) w wr) (hi : i < 8) (hf : By f) :
    M3 79 f (flTo f i (k + 1)) w (wr.setCell ⟨w.heap.size + 2, k, none⟩ (.int .u8 (bits .or .u8 (flTo f i k k : Int) (bits .and .u8 ((f i : Int) / 2 ^ k) 1 * 2 ^ i % 256)))) := by
  have e : flTo f i k k = pk (fun i => (f i).testBit k) i := by simp [flTo]
  rw [e, flip_step (pk_lt _ _) hi (hf i hi)]
  refine (m.set k _).ext (fun j _ => ?_)
  unfold upd flTo
  by_cases h : j = k
  · subst h; simp [pk]
  · rw [if_neg h]
    by_cases h1 : j < k
    · rw [if_pos h1, if_pos (by omega)]
    · rw [if_neg h1, if_neg (by omega)]
theorem flTo_next {f : Nat → Nat} {i : Nat} {t : TypeId} {w wr : World} (m : M3 t f (flTo f i 8) w wr) : M3 t f (flTo f (i + 1) 0) w wr := m.ext (fun j hj => by simp [flTo, hj])

/-- Two blocks: what came in, what goes out. -/
structure M2 (t : TypeId) (f : Nat → Nat) (w wr : World) : Prop where
  low : Below w.heap.size w wr
  src : At wr w.heap.size 8 t f
  out : M wr (w.heap.size + 1) (fun _ => 0)
theorem M2.start (t : TypeId) (f : Nat → Nat) (w : World) : M2 t f w ((w.alloc (.cells (ba 8 f) t)).alloc (.cells (ba 8 (fun _ => 0)) 79)) := by
  refine ⟨((Below.refl _ _).alloc (Nat.le_refl _) _).alloc (by simp) _, (At.new w 8 t f).alloc _, ?_⟩
  have := At.new (w.alloc (.cells (ba 8 f) t)) 8 79 (fun _ => 0)
  rw [World.size_alloc] at this
  exact this
theorem M2.on {t : TypeId} {f : Nat → Nat} {w wr w1 : World} (m : M2 t f w wr) (h : Below wr.heap.size wr w1) : M2 t f w w1 :=
  ⟨m.low.trans (h.mono m.low.size), m.src.self h, m.out.self h⟩
theorem M3.on {t : TypeId} {f g : Nat → Nat} {w wr w1 : World} (m : M3 t f g w wr) (h : Below wr.heap.size wr w1) : M3 t f g w w1 :=
  ⟨m.low.trans (h.mono m.low.size), m.src.self h, m.out.self h, m.var.self h⟩

theorem rcol_step {f : Nat → Nat} {j k : Nat} {w wr : World} (m : M3 78 f (flTo f j k) w wr) (hj : j < 8) (hb : (f j).testBit k = true) :
    M3 78 f (flTo f j (k + 1)) w (wr.setCell ⟨w.heap.size + 2, k, none⟩ (.int .u8 (((flTo f j k k : Int) + 2 ^ j) % 256))) := by
  have e : flTo f j k k = pk (fun i => (f i).testBit k) j := by simp [flTo]
  have hT := pk_lt (fun i => (f i).testBit k) j
  have h1 := pow_le_128 hj
  rw [e, show (2 : Int) ^ j = ((2 ^ j : Nat) : Int) by simp, show ((pk (fun i => (f i).testBit k) j : Int) + ((2 ^ j : Nat) : Int)) % 256 = ((pk (fun i => (f i).testBit k) j + 2 ^ j : Nat) : Int) by omega]
  refine (m.set k _).ext (fun i _ => ?_)
  unfold upd flTo
  by_cases h : i = k
  · subst h; simp [pk, hb]
  · rw [if_neg h]
    by_cases h1 : i < k
    · rw [if_pos h1, if_pos (by omega)]
    · rw [if_neg h1, if_neg (by omega)]
theorem rcol_skip {f : Nat → Nat} {j k : Nat} {w wr : World} (m : M3 78 f (flTo f j k) w wr) (hb : (f j).testBit k = false) : M3 78 f (flTo f j (k + 1)) w wr := by
  refine m.ext (fun i _ => ?_)
  unfold flTo
  by_cases h : i = k
  · subst h; simp [pk, hb]
  · by_cases h1 : i < k
    · rw [if_pos h1, if_pos (by omega)]
    · rw [if_neg h1, if_neg (by omega)]

end Go.Proofs.Ythhkhcacljgelaa

namespace Go.Proofs.Ythhkhcacljgelaa
open Go.RowKit

theorem bitU {a : Nat} (ha : a < 256) (k : Nat) : (bits .and .u8 ((a : Int) / 2 ^ k) 1 == 1) = a.testBit k := by
  have h1 : (a : Int) / 2 ^ k = ((a / 2 ^ k : Nat) : Int) := by simp
  have h2 : a / 2 ^ k < 256 := Nat.lt_of_le_of_lt (Nat.div_le_self _ _) ha
  rw [h1, and8_one h2, bit_dec]
  by_cases h : a / 2 ^ k % 2 = 1
  · simp [h]
  · rw [show a / 2 ^ k % 2 = 0 by omega]; rfl

/-- Three blocks: what came in twice, what goes out. -/
structure N3 (f g : Nat → Nat) (w wr : World) : Prop where
  low : Below w.heap.size w wr
  fst : M wr w.heap.size f
  snd : M wr (w.heap.size + 1) g
  out : M wr (w.heap.size + 2) (fun _ => 0)
theorem N3.start (f g : Nat → Nat) (w : World) : N3 f g w (((w.alloc (.cells (ba 8 f) 79)).alloc (.cells (ba 8 g) 79)).alloc (.cells (ba 8 (fun _ => 0)) 79)) := by
  refine ⟨(((Below.refl _ _).alloc (Nat.le_refl _) _).alloc (by simp) _).alloc (by simp <;> omega) _, ((At.new w 8 79 f).alloc _).alloc _, ?_, ?_⟩
  · have := At.new (w.alloc (.cells (ba 8 f) 79)) 8 79 g
    rw [World.size_alloc] at this
    exact this.alloc _
  · have := At.new ((w.alloc (.cells (ba 8 f) 79)).alloc (.cells (ba 8 g) 79)) 8 79 (fun _ => 0)
    rw [World.size_alloc, World.size_alloc] at this
    exact this
theorem N3.on {f g : Nat → Nat} {w wr w1 : World} (m : N3 f g w wr) (h : Below wr.heap.size wr w1) : N3 f g w w1 :=
  ⟨m.low.trans (h.mono m.low.size), m.fst.self h, m.snd.self h, m.out.self h⟩
theorem N3.drew {f g : Nat → Nat} {w wr : World} (m : N3 f g w wr) : N3 f g w wr.drew := ⟨m.low.drew, m.fst, m.snd, m.out⟩
/-- And one more, that is being made. -/
structure N4 (t : TypeId) (f g h : Nat → Nat) (w wr : World) : Prop extends N3 f g w wr where
  var : At wr (w.heap.size + 3) 8 t h
theorem N4.start (t : TypeId) (f g : Nat → Nat) (w : World) : N4 t f g (fun _ => 0) w ((((w.alloc (.cells (ba 8 f) 79)).alloc (.cells (ba 8 g) 79)).alloc (.cells (ba 8 (fun _ => 0)) 79)).alloc (.cells (ba 8 (fun _ => 0)) t)) := by
  have h := N3.start f g w
  refine ⟨⟨h.low.alloc (by simp <;> omega) _, h.fst.alloc _, h.snd.alloc _, h.out.alloc _⟩, ?_⟩
  have := At.new (((w.alloc (.cells (ba 8 f) 79)).alloc (.cells (ba 8 g) 79)).alloc (.cells (ba 8 (fun _ => 0)) 79)) 8 t (fun _ => 0)
  rw [World.size_alloc, World.size_alloc, World.size_alloc] at this
  exact this
theorem N4.on {t : TypeId} {f g h : Nat → Nat} {w wr w1 : World} (m : N4 t f g h w wr) (hb : Below wr.heap.size wr w1) : N4 t f g h w w1 := ⟨m.toN3.on hb, m.var.self hb⟩
theorem N4.drew {t : TypeId} {f g h : Nat → Nat} {w wr : World} (m : N4 t f g h w wr) : N4 t f g h w wr.drew := ⟨m.toN3.drew, m.var⟩
theorem N4.set {t : TypeId} {f g h : Nat → Nat} {w wr : World} (m : N4 t f g h w wr) (j z : Nat) : N4 t f g (upd h j z) w (wr.setCell ⟨w.heap.size + 3, j, none⟩ (.int .u8 (z : Int))) :=
  ⟨⟨m.low.setCell (by simp) _, m.fst.apart (by simp) _, m.snd.apart (by simp) _, m.out.apart (by simp) _⟩, m.var.set j z⟩
theorem N4.ext {t : TypeId} {f g h h' : Nat → Nat} {w wr : World} (m : N4 t f g h w wr) (e : ∀ i, i < 8 → h i = h' i) : N4 t f g h' w wr := ⟨m.toN3, m.var.ext e⟩

/-- A product so far: i rows are done, and k bits of the next. -/
def muTo (f g : Nat → Nat) (i k : Nat) : Nat → Nat := fun r => if r < i then mu f g r else if r = i then xsum (fun k => if (f i).testBit k then g k else 0) k else 0
theorem muTo_at (f g : Nat → Nat) (i k : Nat) : muTo f g i k i = xsum (fun k => if (f i).testBit k then g k else 0) k := by simp [muTo]
theorem muTo_other (f g : Nat → Nat) {i k r : Nat} (h : r ≠ i) : muTo f g i k r = muTo f g i 0 r := by simp [muTo, h]
theorem muTo_lt {f g : Nat → Nat} (hg : By g) (i : Nat) {k : Nat} (hk : k ≤ 8) : muTo f g i k i < 256 := by
  rw [muTo_at]
  exact xsum_lt (fun j hj => by split; exact hg j (by omega); decide)
theorem muTo_step {f g : Nat → Nat} {i k : Nat} {w wr : World} (m : N4 79 f g (muTo f g i k) w wr) (hk : k < 8) (hg : By g) (hb : (f i).testBit k = true) :
    N4 79 f g (muTo f g i (k + 1)) w (wr.setCell ⟨w.heap.size + 3, i, none⟩ (.int .u8 (bits .xor .u8 (muTo f g i k i : Int) (g k : Int)))) := by
  rw [xor8 (muTo_lt hg i (by omega)) (hg k hk)]
  refine (m.set i _).ext (fun r _ => ?_)
  unfold upd
  by_cases h : r = i
  · subst h; rw [if_pos rfl, muTo_at, muTo_at, xsum, hb, if_pos rfl]
  · rw [if_neg h]; exact (muTo_other f g h).trans (muTo_other f g h).symm
theorem muTo_skip {f g : Nat → Nat} {i k : Nat} {w wr : World} (m : N4 79 f g (muTo f g i k) w wr) (hb : (f i).testBit k = false) : N4 79 f g (muTo f g i (k + 1)) w wr := by
  refine m.ext (fun r _ => ?_)
  by_cases h : r = i
  · subst h; rw [muTo_at, muTo_at, xsum, hb]; simp
  · exact (muTo_other f g h).trans (muTo_other f g h).symm
theorem muTo_next {f g : Nat → Nat} {i : Nat} {w wr : World} (m : N4 79 f g (muTo f g i 8) w wr) : N4 79 f g (muTo f g (i + 1) 0) w wr := m.ext (fun r _ => by
  unfold muTo
  by_cases h : r < i
  · rw [if_pos h, if_pos (by omega)]
  · rw [if_neg h]
    by_cases h2 : r = i
    · subst h2; rw [if_pos rfl, if_pos (by omega)]; rfl
    · rw [if_neg h2, if_neg (by omega)]; simp [xsum])

/-- The eight cells of an array, one by one. -/
abbrev Cells (w : World) (b : Nat) (f : Nat → Nat) : Prop :=
  w.cell? ⟨b, 0, none⟩ = some (.int .u8 (f 0 : Int)) ∧ w.cell? ⟨b, 1, none⟩ = some (.int .u8 (f 1 : Int)) ∧ w.cell? ⟨b, 2, none⟩ = some (.int .u8 (f 2 : Int)) ∧ w.cell? ⟨b, 3, none⟩ = some (.int .u8 (f 3 : Int)) ∧
  w.cell? ⟨b, 4, none⟩ = some (.int .u8 (f 4 : Int)) ∧ w.cell? ⟨b, 5, none⟩ = some (.int .u8 (f 5 : Int)) ∧ w.cell? ⟨b, 6, none⟩ = some (.int .u8 (f 6 : Int)) ∧ w.cell? ⟨b, 7, none⟩ = some (.int .u8 (f 7 : Int))
theorem At.cells {w : World} {b : Nat} {t : TypeId} {f : Nat → Nat} (h : At w b 8 t f) : Cells w b f :=
  ⟨h.cell (by decide), h.cell (by decide), h.cell (by decide), h.cell (by decide), h.cell (by decide), h.cell (by decide), h.cell (by decide), h.cell (by decide)⟩

/-- The eight values, as a load cell by cell leaves them. -/
abbrev ex8 (f : Nat → Nat) : Array Value := #[.int .u8 (f 0 : Int), .int .u8 (f 1 : Int), .int .u8 (f 2 : Int), .int .u8 (f 3 : Int), .int .u8 (f 4 : Int), .int .u8 (f 5 : Int), .int .u8 (f 6 : Int), .int .u8 (f 7 : Int)]
theorem ba_ex (f : Nat → Nat) : ba 8 f = ex8 f := rfl

/-- The columns so far. -/
def colTo (f g : Nat → Nat) (j : Nat) : Nat → Nat := fun r => if r < j then ap f (ap g (2 ^ r)) else 0
theorem colTo_step {f g : Nat → Nat} {j : Nat} {w wr : World} (m : N4 78 f g (colTo f g j) w wr) : N4 78 f g (colTo f g (j + 1)) w (wr.setCell ⟨w.heap.size + 3, j, none⟩ (.int .u8 (ap f (ap g (2 ^ j)) : Nat))) := by
  refine (m.set j _).ext (fun r _ => ?_)
  unfold upd colTo
  by_cases h : r = j
  · subst h; rw [if_pos rfl, if_pos (by omega)]
  · rw [if_neg h]
    by_cases h1 : r < j
    · rw [if_pos h1, if_pos (by omega)]
    · rw [if_neg h1, if_neg (by omega)]
theorem colTo_by (f g : Nat → Nat) (j : Nat) : By (colTo f g j) := fun i _ => by unfold colTo; split; exact ap_lt _ _; decide

end Go.Proofs.Ythhkhcacljgelaa

namespace Go.Proofs.Ythhkhcacljgelaa
open Go.RowKit

theorem info23' {f : Nat → Nat} : (Try.prog.info? 79).map (·.size) = some (ba 8 f).size := by rw [ba_size]; exact info23
theorem rowF_next {m : Nat → Nat} {j k : Nat} (hk : k < 8) (hb : (m k).testBit j = false) : rowF m j (8 - k) k = rowF m j (8 - (k + 1)) (k + 1) := by
  have : 8 - k = (8 - (k + 1)) + 1 := by omega
  rw [this, rowF, if_neg (by simp [hb])]
theorem rowF_hit {m : Nat → Nat} {j k : Nat} (hk : k < 8) (hb : (m k).testBit j = true) : rowF m j (8 - k) k = k := by
  have : 8 - k = (8 - (k + 1)) + 1 := by omega
  rw [this, rowF, if_pos hb]

/-- The rows so far: up to k they are turned. -/
def selTo (c : Nat → Bool) (a : Nat → Nat) (d k : Nat) : Nat → Nat := fun i => if i < k then sel c a d i else a i
theorem selTo_zero (c : Nat → Bool) (a : Nat → Nat) (d i : Nat) : a i = selTo c a d 0 i := by simp [selTo]
theorem selTo_end (c : Nat → Bool) (a : Nat → Nat) (d : Nat) {i : Nat} (h : i < 8) : selTo c a d 8 i = sel c a d i := by simp [selTo, h]
theorem selTo_at (c : Nat → Bool) (a : Nat → Nat) (d k : Nat) : selTo c a d k k = a k := by simp [selTo]
theorem selTo_own {c : Nat → Bool} {a : Nat → Nat} {d : Nat} (k : Nat) (h : c d = false) : selTo c a d k d = a d := by unfold selTo sel; rw [h]; simp
theorem selTo_skip {c : Nat → Bool} {a : Nat → Nat} {d k : Nat} (h : c k = false) (i : Nat) : selTo c a d k i = selTo c a d (k + 1) i := by
  unfold selTo sel
  by_cases e : i = k
  · subst e; rw [h]; simp
  · by_cases h1 : i < k
    · have h2 : i < k + 1 := by omega
      simp [h1, h2]
    · rw [if_neg h1, if_neg (by omega)]
theorem selTo_step {c : Nat → Bool} {a : Nat → Nat} {d k : Nat} (h : c k = true) (i : Nat) : upd (selTo c a d k) k (a k ^^^ a d) i = selTo c a d (k + 1) i := by
  unfold upd selTo sel
  by_cases e : i = k
  · subst e; rw [h]; simp
  · rw [if_neg e]
    by_cases h1 : i < k
    · have h2 : i < k + 1 := by omega
      simp [h1, h2]
    · rw [if_neg h1, if_neg (by omega)]
theorem swp_upd (a : Nat → Nat) (d i k : Nat) : upd (upd a d (a i)) i (a d) k = swp a d i k := rfl

/-- Four blocks: the matrix, what goes out twice, the steps. -/
structure R4 (b : Nat) (m s : Nat → Nat) (w wr : World) : Prop where
  low : Below w.heap.size w wr
  far : w.heap.size + 3 ≤ b
  mat : M wr w.heap.size m
  o1 : M wr (w.heap.size + 1) (fun _ => 0)
  o2 : M wr (w.heap.size + 2) (fun _ => 0)
  st : M wr b s
theorem R4.ext {b : Nat} {m s m' s' : Nat → Nat} {w wr : World} (h : R4 b m s w wr) (hm : ∀ i, i < 8 → m i = m' i) (hs : ∀ i, i < 8 → s i = s' i) : R4 b m' s' w wr :=
  ⟨h.low, h.far, h.mat.ext hm, h.o1, h.o2, h.st.ext hs⟩
theorem R4.drew {b : Nat} {m s : Nat → Nat} {w wr : World} (h : R4 b m s w wr) : R4 b m s w wr.drew := ⟨h.low.drew, h.far, h.mat, h.o1, h.o2, h.st⟩
theorem R4.on {b : Nat} {m s : Nat → Nat} {w wr w1 : World} (h : R4 b m s w wr) (hb : Below wr.heap.size wr w1) : R4 b m s w w1 :=
  ⟨h.low.trans (hb.mono h.low.size), h.far, h.mat.self hb, h.o1.self hb, h.o2.self hb, h.st.self hb⟩
theorem R4.setM {b : Nat} {m s : Nat → Nat} {w wr : World} (h : R4 b m s w wr) (j z : Nat) : R4 b (upd m j z) s w (wr.setCell ⟨w.heap.size, j, none⟩ (.int .u8 (z : Int))) :=
  have hb := h.far
  ⟨h.low.setCell (by simp) _, h.far, h.mat.set j z, h.o1.apart (by simp) _, h.o2.apart (by simp) _, h.st.apart (by simp; omega) _⟩
theorem R4.setS {b : Nat} {m s : Nat → Nat} {w wr : World} (h : R4 b m s w wr) (j z : Nat) : R4 b m (upd s j z) w (wr.setCell ⟨b, j, none⟩ (.int .u8 (z : Int))) :=
  have hb := h.far
  ⟨h.low.setCell (by simp; omega) _, h.far, h.mat.apart (by simp; omega) _, h.o1.apart (by simp; omega) _, h.o2.apart (by simp; omega) _, h.st.set j z⟩

theorem R4.start {f : Nat → Nat} {w wr w1 : World} (h : M3 79 f (fun _ => 0) w wr) (hb : Below wr.heap.size wr w1) :
    R4 w1.heap.size f one w ((w1.alloc (.cells (ba 8 (fun _ => 0)) 79)).setRow w1.heap.size (ba 8 one)) := by
  have h1 := h.on hb
  have s1 := h1.src.lt; have s2 := h1.out.lt; have s3 := h1.var.lt
  refine ⟨below_setRow (h1.low.alloc (by omega) _) (by omega) _, by omega, (h1.src.alloc _).rowApart (by omega) _, (h1.out.alloc _).rowApart (by omega) _, (h1.var.alloc _).rowApart (by omega) _, (At.new w1 8 79 _).row _⟩

/-- A whole load in a region that draws its order: it may be taken first. -/
theorem yields_load_ba {P : Program} {ops : Array Oper} {S : World → Prop} {op : Oper} {a : Act} (hw : Region.wanted op (yielded ops a.tmps) = true) (ty : TypeId) (x : Operand) (ho : op.op = .load ty x)
    (b n : Nat) (t e : TypeId) (f : Nat → Nat) (hx : a.eval x = .pointer (some ⟨b, 0, none⟩)) (hS : ∀ w, S w → At w b n t f)
    (hu : P.underlying ty = some (.array n e)) (hi : (P.info? ty).map (·.size) = some n) : YieldsIf P ops S op (.agg (ba n f)) a :=
  .inl ⟨hw, fun w hw' => by
    unfold execOp
    simp only [ho, hx, Instr.loadAt, Instr.sureAddr, Sem.run_bind, Sem.run_pure, Result.andThen_ok, (hS w hw').load ty hu hi]⟩

end Go.Proofs.Ythhkhcacljgelaa

namespace Go.Proofs.Ythhkhcacljgelaa
open Go.RowKit

/-- Two results laid down. -/
structure L2 (f m s : Nat → Nat) (b : Nat) (w wr : World) : Prop where
  low : Below w.heap.size w wr
  far : w.heap.size + 1 ≤ b
  mat : M wr b m
  st : M wr (b + 1) s
theorem L2.start {f m s : Nat → Nat} {w wr w1 : World} (hl : Below w.heap.size w wr) (hs : w.heap.size + 1 ≤ wr.heap.size) (hb : Below wr.heap.size wr w1) :
    L2 f m s w1.heap.size w ((((w1.alloc (.cells (ba 8 (fun _ => 0)) 79)).alloc (.cells (ba 8 (fun _ => 0)) 79)).setRow w1.heap.size (ba 8 m)).setRow (w1.heap.size + 1) (ba 8 s)) := by
  have h1 := hl.trans (hb.mono hl.size)
  have hs1 := hb.size
  have n1 : At ((w1.alloc (.cells (ba 8 (fun _ => 0)) 79)).alloc (.cells (ba 8 (fun _ => 0)) 79)) w1.heap.size 8 79 (fun _ => 0) := (At.new w1 8 79 (fun _ => 0)).alloc _
  have n2 : At ((w1.alloc (.cells (ba 8 (fun _ => 0)) 79)).alloc (.cells (ba 8 (fun _ => 0)) 79)) (w1.heap.size + 1) 8 79 (fun _ => 0) := by
    have := At.new (w1.alloc (.cells (ba 8 (fun _ => 0)) 79)) 8 79 (fun _ => 0)
    rwa [World.size_alloc] at this
  refine ⟨below_setRow (below_setRow ((h1.alloc (by omega) _).alloc (by simp; omega) _) (by omega) _) (by omega) _, by omega, (n1.row m).rowApart (by omega) _, (n2.rowApart (by omega) _).row s⟩

theorem second_at (w1 : World) (m : Nat → Nat) : At (((w1.alloc (.cells (ba 8 (fun _ => 0)) 79)).alloc (.cells (ba 8 (fun _ => 0)) 79)).setRow w1.heap.size (ba 8 m)) (w1.heap.size + 1) 8 79 (fun _ => 0) := by
  have := At.new (w1.alloc (.cells (ba 8 (fun _ => 0)) 79)) 8 79 (fun _ => 0)
  rw [World.size_alloc] at this
  exact this.rowApart (by omega) _
theorem rows_ne {f m s : Nat → Nat} {d k : Nat} (h : RInv f m s d 8) (hk : k < 8) : ((m k : Int) != 0) = decide (k < d) := by
  by_cases hd : k < d
  · have := h.nonzero k hd
    simp [hd]; omega
  · have := h.zero k (by omega) hk
    simp [hd, this]

end Go.Proofs.Ythhkhcacljgelaa

namespace Go.Proofs.Ythhkhcacljgelaa
open Go.RowKit

set_option maxRecDepth 100000 in
theorem eqB {f g : Nat → Nat} {b : Bool} (h : (∀ i, i < 8 → f i = g i) ↔ b = true) (w : World) : (Op.equalIn 10000 79 (.agg (ba 8 f)) (.agg (ba 8 g))).run Try.prog w = .ok b w := by
  have h' := run_eq_ba (P := Try.prog) w 9998 79 5 8 f g Try.underlying79 Try.underlying5 info5
  rw [h']
  congr 1
  cases b
  · simp only [Bool.false_eq_true, iff_false] at h; exact decide_eq_false h
  · exact decide_eq_true (h.2 rfl)
theorem guard23 : Try.prog.eqGuardType Try.prog.depth 79 = false := by kernel_rfl

/-- .. and what goes out. -/
structure L3 (f m s : Nat → Nat) (b : Nat) (w wr : World) : Prop extends L2 f m s b w wr where
  o1 : M wr (w.heap.size + 1) (fun _ => 0)
  apart : w.heap.size + 2 ≤ b
theorem L3.start {f m s : Nat → Nat} {w wr w1 : World} (h : M2 79 f w wr) (hb : Below wr.heap.size wr w1) :
    L3 f m s w1.heap.size w ((((w1.alloc (.cells (ba 8 (fun _ => 0)) 79)).alloc (.cells (ba 8 (fun _ => 0)) 79)).setRow w1.heap.size (ba 8 m)).setRow (w1.heap.size + 1) (ba 8 s)) := by
  have hl := h.out.lt
  have h1 := h.on hb
  have hs := hb.size
  exact ⟨L2.start h.low (by omega) hb, (((h1.out.alloc _).alloc _).rowApart (by omega) _).rowApart (by omega) _, by omega⟩
theorem L3.on {f m s : Nat → Nat} {b : Nat} {w wr w1 : World} (h : L3 f m s b w wr) (hb : Below wr.heap.size wr w1) : L3 f m s b w w1 :=
  ⟨⟨h.low.trans (hb.mono h.low.size), h.far, h.mat.self hb, h.st.self hb⟩, h.o1.self hb, h.apart⟩
theorem L3.drew {f m s : Nat → Nat} {b : Nat} {w wr : World} (h : L3 f m s b w wr) : L3 f m s b w wr.drew := ⟨⟨h.low.drew, h.far, h.mat, h.st⟩, h.o1, h.apart⟩

/-- One block of eight, not written yet, and all that was there is as it was. -/
structure One8 (w wr : World) : Prop where
  out : At wr w.heap.size 8 79 (fun _ => 0)
  low : Below w.heap.size w wr
theorem One8.start (w : World) : One8 w (w.alloc (.cells (ba 8 (fun _ => 0)) 79)) := ⟨At.new w 8 79 (fun _ => 0), (Below.refl _ _).alloc (Nat.le_refl _) _⟩
theorem One8.on {w wr w1 : World} (m : One8 w wr) (h : Below wr.heap.size wr w1) : One8 w w1 := ⟨m.out.self h, m.low.trans (h.mono m.low.size)⟩
theorem One8.far {w wr : World} (m : One8 w wr) : w.heap.size < wr.heap.size := m.out.lt
theorem One8.var {w wr : World} (m : One8 w wr) (f : Nat → Nat) : One8 w ((wr.alloc (.cells (ba 8 (fun _ => 0)) 79)).setRow wr.heap.size (ba 8 f)) :=
  ⟨(m.out.alloc _).rowApart (Nat.ne_of_lt m.far) _, below_setRow (m.low.alloc m.low.size _) (Nat.le_of_lt m.far) _⟩
end Go.Proofs.Ythhkhcacljgelaa

namespace Go.Proofs.Ythhkhcacljgelaa
open Go.RowKit

/-- What is found so far: columns below j, and n bytes tried for the next. -/
def inTo (f : Nat → Nat) (j n : Nat) : Nat → Nat := fun r => if r < j then lastx f (2 ^ r) 256 else if r = j then lastx f (2 ^ r) n else 0
theorem inTo_by (f : Nat → Nat) (j : Nat) : By (inTo f j 0) := fun r _ => by
  unfold inTo
  split
  · exact lastx_lt f _ 256 (Nat.le_refl _)
  · split
    · show 0 < 256; decide
    · decide
/-- The columns below j are found. -/
def AllHit (f : Nat → Nat) (j : Nat) : Prop := ∀ r, r < j → hits f (2 ^ r) 256 = true
structure C3 (f c : Nat → Nat) (w wr : World) : Prop where
  low : Below w.heap.size w wr
  src : M wr w.heap.size f
  out : M wr (w.heap.size + 1) (fun _ => 0)
  var : At wr (w.heap.size + 2) 8 78 c
theorem C3.start (f : Nat → Nat) (w : World) : C3 f (fun _ => 0) w (((w.alloc (.cells (ba 8 f) 79)).alloc (.cells (ba 8 (fun _ => 0)) 79)).alloc (.cells (ba 8 (fun _ => 0)) 78)) := by
  refine ⟨(((Below.refl _ _).alloc (Nat.le_refl _) _).alloc (by simp) _).alloc (by simp; omega) _, ((At.new w 8 79 f).alloc _).alloc _, ?_, ?_⟩
  · have := At.new (w.alloc (.cells (ba 8 f) 79)) 8 79 (fun _ => 0)
    rw [World.size_alloc] at this
    exact this.alloc _
  · have := At.new ((w.alloc (.cells (ba 8 f) 79)).alloc (.cells (ba 8 (fun _ => 0)) 79)) 8 78 (fun _ => 0)
    rw [World.size_alloc, World.size_alloc] at this
    exact this
theorem C3.on {f c : Nat → Nat} {w wr w1 : World} (m : C3 f c w wr) (h : Below wr.heap.size wr w1) : C3 f c w w1 :=
  ⟨m.low.trans (h.mono m.low.size), m.src.self h, m.out.self h, m.var.self h⟩
theorem C3.ext {f c h : Nat → Nat} {w wr : World} (m : C3 f c w wr) (e : ∀ i, i < 8 → c i = h i) : C3 f h w wr := ⟨m.low, m.src, m.out, m.var.ext e⟩
theorem C3.set {f c : Nat → Nat} {w wr : World} (m : C3 f c w wr) (j z : Nat) : C3 f (upd c j z) w (wr.setCell ⟨w.heap.size + 2, j, none⟩ (.int .u8 (z : Int))) :=
  ⟨m.low.setCell (by simp) _, m.src.apart (by simp) _, m.out.apart (by simp) _, m.var.set j z⟩
theorem inTo_hit {f : Nat → Nat} {j n : Nat} (h : ap f n = 2 ^ j) (r : Nat) : upd (inTo f j n) j n r = inTo f j (n + 1) r := by
  unfold upd inTo
  by_cases e : r = j
  · subst e; simp [lastx, h]
  · simp [e]
theorem inTo_miss {f : Nat → Nat} {j n : Nat} (h : ap f n ≠ 2 ^ j) (r : Nat) : inTo f j n r = inTo f j (n + 1) r := by
  unfold inTo
  by_cases e : r = j
  · subst e; simp [lastx, h]
  · simp [e]
theorem inTo_next (f : Nat → Nat) (j r : Nat) : inTo f j 256 r = inTo f (j + 1) 0 r := by
  unfold inTo
  by_cases e : r = j
  · subst e; simp
  · by_cases h : r < j
    · rw [if_pos h, if_pos (by omega)]
    · rw [if_neg h, if_neg e, if_neg (by omega)]
      by_cases h2 : r = j + 1
      · rw [if_pos h2]; rfl
      · rw [if_neg h2]

end Go.Proofs.Ythhkhcacljgelaa
