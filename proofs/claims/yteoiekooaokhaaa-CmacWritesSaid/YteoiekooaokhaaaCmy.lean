import Derived.Test.YteoiekooaokhaaaProg
import Derived.Test.YteoiekooaokhaaaCmq
import Derived.Test.YteoiekooaokhaaaCmj
import Derived.Test.YteoiekooaokhaaaRwo
/- CmacWrites: what it holds. -/
namespace Go.Proofs.Yteoiekooaokhaaa
open Go.ChangeAt Go.RowKit
set_option maxRecDepth 100000

/-- But for blocks from B up to N (and new ones) w' is as w was. -/
structure Tn (B N : Nat) (w w' : World) : Prop where
  os : w'.os = w.os
  tape : w'.tape = w.tape
  output : w'.output = w.output
  size : w.heap.size ≤ w'.heap.size
  block : ∀ j, j < w.heap.size → (j < B ∨ N ≤ j) → w'.heap[j]? = w.heap[j]?
theorem Tn.trans {B N : Nat} {w w' w2 : World} (h : Tn B N w w') (k : Tn B N w' w2) : Tn B N w w2 :=
  ⟨k.os.trans h.os, k.tape.trans h.tape, k.output.trans h.output, Nat.le_trans h.size k.size, fun j hj hn => (k.block j (Nat.lt_of_lt_of_le hj h.size) hn).trans (h.block j hj hn)⟩
theorem Tn.mono {B B' N : Nat} {w w' : World} (h : Tn B N w w') (hB : B' ≤ B) : Tn B' N w w' := ⟨h.os, h.tape, h.output, h.size, fun j hj hn => h.block j hj (by omega)⟩
theorem Tn.refl (B N : Nat) (w : World) : Tn B N w w := ⟨rfl, rfl, rfl, Nat.le_refl _, fun _ _ _ => rfl⟩
theorem Tn.set {B N : Nat} (w : World) {p : Addr} (h1 : B ≤ p.block) (h2 : p.block < N) (u : Value) : Tn B N w (w.setCell p u) :=
  ⟨rfl, rfl, rfl, by simp [World.setCell], fun j _ hj => Below.heap_setCell _ _ _ _ (by omega)⟩
theorem own_frame {k : IntKind} {B : Nat} {E : TypeId} {w w' : World} {v : Value} {zs : List Int} (h : Own k B E w v zs) (hb : ∀ j, B ≤ j → j < w.heap.size → w'.heap[j]? = w.heap[j]?) : Own k B E w' v zs := by
  obtain ⟨h1, h2⟩ := h
  refine ⟨h1, h2.imp id fun ⟨g, cap, cur, e, hg, hc, hr⟩ => ⟨g, cap, cur, e, hg, (hb g hg (Array.getElem?_eq_some_iff.1 hc).1).trans hc, hr⟩⟩
theorem own_block {k : IntKind} {B : Nat} {E : TypeId} {w : World} {v : Value} {zs : List Int} (h : Own k B E w v zs) {g : Nat} (e : v.ownBlock = some g) : B ≤ g ∧ g < w.heap.size := by
  obtain ⟨_, h2⟩ := h
  rcases h2 with ⟨rfl, _⟩ | ⟨g', cap, cur, rfl, hg, hc, _⟩
  · simp [Value.ownBlock] at e
  · simp only [Value.ownBlock, Option.some.injEq] at e
    subst e
    exact ⟨hg, (Array.getElem?_eq_some_iff.1 hc).1⟩
theorem tn_grown {B N : Nat} {w w' : World} {v : Value} (hg : w.grownBy w' v.ownBlock) (h : ∀ g, v.ownBlock = some g → B ≤ g ∧ g < N) : Tn B N w w' :=
  ⟨hg.os, hg.tape, hg.output, hg.size, fun j hj hn => hg.block j hj (fun e => by have := h j e.symm; omega)⟩
theorem wpList_append_grow_rd {P : Program} {w : World} {ops : Array Oper} {rest : List Oper} {o : Oper} {a : Act} {Q : Exit → Act → World → Prop} (hgd : o.guard = none) (s x : Operand) (t : TypeId)
    (ho : o.op = .call { callee := .builtin .append, args := #[s, x], argTypes := #[t, t] }) (k : IntKind) (B : Nat) (E : TypeId) (ht : P.underlying t = some (.slice E))
    (hinfo : (P.info? E).map (fun i => (i.zero, i.size, i.bytes)) = some (some (.int k 0), 1, k.bits / 8)) (hk : 0 < k.bits / 8)
    (sv : Value) (zs : List Int) (hs : a.eval s = sv) (hown : Own k B E w sv zs) (xv : Value) (ns : List Int) (hx : a.eval x = xv) (hrd : Rd k w xv ns)
    (hlim : (zs.length + ns.length) * (k.bits / 8) ≤ 140737488355328) (hB : B ≤ w.heap.size)
    (h : ∀ v' w', Own k B E w' v' (zs ++ ns) → w.grownBy w' sv.ownBlock → wpList P ops Q rest (a.put o.dst v') w') : wpList P ops Q (o :: rest) a w := by
  obtain ⟨sa, scap, rfl, hl, hwf, hc⟩ := hrd
  obtain ⟨i0, hi, hz0, hz1, hz2⟩ := info_parts hinfo
  by_cases hp : 0 < ns.length
  · obtain ⟨b, off, rfl, hbw, hc⟩ := hc hp
    have hle : zs.length + ns.length ≤ (zs.length + ns.length) * (k.bits / 8) := Nat.le_mul_of_pos_right _ hk
    refine wpList_plain hgd fun _ hK => wp_append_own w s x t ho B E i0 _ 1 (k.bits / 8) ht hi hz0 hz1 hz2 rfl (by decide) sv zs.length _ hs hown ⟨b, off, none⟩ ns.length scap (ns.map (Value.int k)) hx (by simp)
      (fun j u hj => ?_) (fun u hu => by obtain ⟨z, _, rfl⟩ := List.mem_map.1 hu; rfl) (by unfold maxLen; omega) hlim hB (fun v' w' h2 h3 _ => hK _ _ (h v' w' ?_ h3))
    · simp only [List.getElem?_map, Option.map_eq_some_iff] at hj
      obtain ⟨z, hz, rfl⟩ := hj
      obtain ⟨hj, rfl⟩ := List.getElem?_eq_some_iff.1 hz
      rw [Addr.add_mid, hc j hj, nth_of hj]
    · unfold Own
      rw [List.length_append, List.map_append]
      exact h2
  · obtain rfl : ns = [] := List.eq_nil_of_length_eq_zero (by omega)
    have hrun := run_append_zero (P := P) w t o.type k B E ht (by rw [hi]; simp [hz1]) sv zs hown sa scap
    refine wpList_plain hgd fun _ hK => ?_
    unfold Oper.wp
    simp only [List.length_nil] at hx
    simp [execOp, ho, resolve, invoke, builtin, hs, hx, hrun, Result.andThen]
    exact hK _ _ (h sv w (by simpa using hown) ⟨rfl, rfl, rfl, Nat.le_refl _, fun _ _ _ => rfl⟩)

theorem Mw.turned {w w' : World} {m d b c cap R R1 n e N B K : Nat} {Y : Nat → Nat → Nat} {x l δ : Nat → Nat} {a : Option Addr} (h : Mw w m d b c cap R R1 Y x a n e l N δ) (hl : Late K w (.slice a n e) (ns n l)) (t : Tn B K w w') (hB : b < B ∧ m < B ∧ d < B ∧ c < B ∧ B ≤ K) : Mw w' m d b c cap R R1 Y x a n e l N δ := by
  refine ⟨(t.block m h.blk.lt (by omega)).trans h.blk, ⟨h.gc.num, (t.block d h.gc.ci.blk.lt (by omega)).trans h.gc.ci.blk, h.gc.ci.box.same (t.block b h.gc.lt (by omega)), h.gc.ci.rows.same t.size (t.block c h.gc.ci.rows.lt (by omega)), h.gc.ci.ne⟩, ?_, h.le, h.st, h.xb, h.lb, h.ne, h.all⟩
  intro W hW
  exact hl W (Nat.le_trans t.size hW.size) fun j h1 h2 => (hW.block j (Nat.lt_of_lt_of_le h2 t.size) (by omega) (by omega)).trans (t.block j h2 (.inr h1))

/-- CmacWrites at the head of its loop: w0 the world behind its box; B where what it makes itself begins. -/
structure Wi (w0 wr : World) (b m d c cap B : Nat) (Y : Nat → Nat → Nat) (x : Nat → Nat) (a : Option Addr) (n e : Nat) (l : Nat → Nat) (N : Nat) (δ : Nat → Nat) (av : Value) : Prop where
  mac : Mw wr m d b c cap 10 11 Y x a n e l N δ
  low : Below w0.heap.size w0 wr
  own : Own .u8 B 5 wr av (ns N δ)
  num : b < B ∧ m < B ∧ d < B ∧ c < B ∧ w0.heap.size ≤ b ∧ w0.heap.size ≤ m ∧ B ≤ wr.heap.size
section
variable {w0 wr w4 w5 w6 w7 : World} {b m d c cap B n e N L n' e' : Nat} {Y : Nat → Nat → Nat} {x l δ β x' l' : Nat → Nat} {a a' : Option Addr} {av v7 : Value}
theorem Wi.asked (h : Wi w0 wr b m d c cap B Y x a n e l N δ av) (hg : Gc w4 d b c cap 10 11 Y) (o : Only b wr w4) : Wi w0 w4 b m d c cap B Y x a n e l N δ av :=
  ⟨h.mac.asked hg o, h.low.trans (o.below h.num.2.2.2.2.1 h.low.size), own_frame h.own fun j h1 h2 => o.block j h2 (by have := h.num; omega), by have := h.num; have := o.size; omega⟩
theorem Wi.self (h : Wi w0 wr b m d c cap B Y x a n e l N δ av) (hb : Below wr.heap.size wr w4) : Wi w0 w4 b m d c cap B Y x a n e l N δ av := h.asked (h.mac.gc.self hb) (Only.of_below hb)
theorem Wi.own6 (h : Wi w0 wr b m d c cap B Y x a n e l N δ av) (o : But b m wr w6) : Own .u8 B 5 w6 av (ns N δ) :=
  own_frame h.own fun j h1 h2 => o.block j h2 (by have := h.num; omega) (by have := h.num; omega)
theorem Wi.low6 (h : Wi w0 wr b m d c cap B Y x a n e l N δ av) (o : But b m wr w6) : Below w0.heap.size w0 w6 :=
  h.low.trans (o.below h.num.2.2.2.2.1 h.num.2.2.2.2.2.1 h.low.size)
theorem Wi.next (h : Wi w0 wr b m d c cap B Y x a n e l N δ av) (hb : wr.heap.size ≤ w4.heap.size) (hm : Mw w5 m d b c cap 10 11 Y x' a' n' e' l' (N + L) (thenF N δ β)) (hl : Late w4.heap.size w5 (.slice a' n' e') (ns n' l'))
    (t : Tn wr.heap.size w4.heap.size w5 w6) (o : But b m wr w6) (ho : Own .u8 B 5 w7 v7 (ns (N + L) (thenF N δ β))) (hg : w6.grownBy w7 av.ownBlock) : Wi w0 w7 b m d c cap B Y x' a' n' e' l' (N + L) (thenF N δ β) v7 := by
  have hn := h.num
  have t7 : Tn B w4.heap.size w6 w7 := tn_grown hg fun g e => by
    have h1 := own_block h.own e
    omega
  have h6 := h.low6 o
  refine ⟨hm.turned hl ((t.mono (by omega)).trans t7) ⟨hn.1, hn.2.1, hn.2.2.1, hn.2.2.2.1, Nat.le_trans hn.2.2.2.2.2.2 hb⟩, ?_, ho, ⟨hn.1, hn.2.1, hn.2.2.1, hn.2.2.2.1, hn.2.2.2.2.1, hn.2.2.2.2.2.1, ?_⟩⟩
  · exact h6.trans ⟨t7.os, t7.tape, t7.output, t7.size, fun j hj => t7.block j (Nat.lt_of_lt_of_le hj h6.size) (by omega)⟩
  · have := o.size; have := t7.size; omega
end
end Go.Proofs.Yteoiekooaokhaaa
