import Derived.Test.YtpjgpiieminaoaaDoorOrw
/- General: a whole row of records is appended to a row that is owned (slices.Clone of records). No program is named. -/
namespace Go.Proofs.YtpjgpiieminaoaaDoor
open Go.RowKit
theorem recs_one {c : Nat → List Value} : ∀ {n : Nat}, (∀ i, i < n → ∀ u ∈ c i, u.oneCell' = true) → ∀ u ∈ recs c n, u.oneCell' = true
  | 0, _, u, hu => (List.not_mem_nil hu).elim
  | n + 1, h, u, hu => by
    rw [recs] at hu
    rcases List.mem_append.1 hu with hu | hu
    · exact recs_one (fun i hi => h i (by omega)) u hu
    · exact h n (by omega) u hu
theorem run_append_none {P : Program} (w : World) (t r : TypeId) (B k : Nat) (E : TypeId) (ht : P.underlying t = some (.slice E)) (hsz : (P.info? E).map (·.size) = some k)
    (sv : Value) (m : Nat) (d : Nat → List Value) (hown : Orw w B E k sv m d) (p : Option Addr) (c : Nat) :
    (Builtin.append_ #[t, t] r #[sv, .slice p 0 c]).run P w = .ok sv w := by
  cases hi : P.info? E with
  | none => simp [hi] at hsz
  | some i0 =>
    obtain ⟨a, cap, rfl, hn, _⟩ := hown.slice
    cases a <;> cases p <;> simp [Builtin.append_, run_underlying ht, sizeOf, typeInfo, hi, Builtin.lenOf, hn, Builtin.firstCells, loadCells, loadCellsFrom, storeCells]
theorem wp_append_row {P : Program} {w : World} {o : Oper} {a : Act} {K : Act → World → Prop} {Q : Exit → Act → World → Prop} (s x : Operand) (t : TypeId)
    (ho : o.op = .call { callee := .builtin .append, args := #[s, x], argTypes := #[t, t] }) (B : Nat) (E : TypeId) (k by_ : Nat) (z : Value) (ht : P.underlying t = some (.slice E))
    (hinfo : (P.info? E).map (fun i => (i.zero, i.size, i.bytes)) = some (some z, k, by_)) (hz : z.cells.size = k) (hk : 0 < k)
    (sv : Value) (hs : a.eval s = sv) (d : Nat → List Value) (hown : Orw w B E k sv 0 d) (xv : Value) (B' n : Nat) (c : Nat → List Value) (hx : a.eval x = xv) (hrow : Orw w B' E k xv n c) (hck : ∀ i, (c i).length = k) (hone : ∀ i, i < n → ∀ u ∈ c i, u.oneCell' = true)
    (hm : n ≤ maxLen) (hlim : n * by_ ≤ 140737488355328) (hB : B ≤ w.heap.size) (B0 : Nat) (w0 : World) (hb : Below B0 w0 w) (hBB : B0 ≤ B)
    (h : ∀ v' w', Orw w' B E k v' n c → Below B0 w0 w' → K (a.put o.dst v') w') : o.wp P a w K Q := by
  obtain ⟨ax, cap, rfl, _, _, _, hp⟩ := hrow.slice
  cases hq : P.info? E with
  | none => simp [hq] at hinfo
  | some i =>
    rw [hq] at hinfo
    simp only [Option.map_some, Option.some.injEq, Prod.mk.injEq] at hinfo
    obtain ⟨h1, h2, h3⟩ := hinfo
    rcases Nat.eq_zero_or_pos n with rfl | h0
    · have hrun := run_append_none (P := P) w t o.type B k E ht (by rw [hq]; simp [h2]) sv 0 d hown ax cap
      unfold Oper.wp
      simp [execOp, ho, resolve, invoke, builtin, hs, hx, hrun, Result.andThen]
      exact h sv w (hown.ext (fun i hi => absurd hi (Nat.not_lt_zero i))) hb
    · obtain ⟨g, rfl⟩ := hp h0
      refine wp_append_lies w s x t ho B E i z k by_ ht hq h1 h2 h3 hz hk sv 0 (recs d 0) hs hown ⟨g, 0, none⟩ n cap (recs c n) hx (recs_len hck n) (fun j u hu => ?_) (recs_one hone) h0 (by omega) (by rw [Nat.zero_add]; exact hlim) hB w.heap.size rfl (fun g cap' w' g1 g2 g3 _ => ?_)
      · exact World.ownsRow.cells (g := g) hrow rfl j u hu
      · rw [Nat.zero_add] at g1 ⊢
        refine h _ w' g1 ?_
        refine ⟨g2.os.trans hb.os, g2.tape.trans hb.tape, g2.output.trans hb.output, Nat.le_trans hb.size g2.size, fun j hj => ?_⟩
        refine (g2.block j ?_ (fun e => ?_)).trans (hb.block j hj)
        · omega
        · have := (hown.lt j e.symm).1; omega
theorem wpList_append_row {P : Program} {w : World} {ops : Array Oper} {rest : List Oper} {o : Oper} {a : Act} {Q : Exit → Act → World → Prop} (hgd : o.guard = none) (s x : Operand) (t : TypeId)
    (ho : o.op = .call { callee := .builtin .append, args := #[s, x], argTypes := #[t, t] }) (B : Nat) (E : TypeId) (k by_ : Nat) (z : Value) (ht : P.underlying t = some (.slice E))
    (hinfo : (P.info? E).map (fun i => (i.zero, i.size, i.bytes)) = some (some z, k, by_)) (hz : z.cells.size = k) (hk : 0 < k)
    (sv : Value) (hs : a.eval s = sv) (d : Nat → List Value) (hown : Orw w B E k sv 0 d) (xv : Value) (B' n : Nat) (c : Nat → List Value) (hx : a.eval x = xv) (hrow : Orw w B' E k xv n c) (hck : ∀ i, (c i).length = k) (hone : ∀ i, i < n → ∀ u ∈ c i, u.oneCell' = true)
    (hm : n ≤ maxLen) (hlim : n * by_ ≤ 140737488355328) (hB : B ≤ w.heap.size) (B0 : Nat) (w0 : World) (hb : Below B0 w0 w) (hBB : B0 ≤ B)
    (h : ∀ v' w', Orw w' B E k v' n c → Below B0 w0 w' → wpList P ops Q rest (a.put o.dst v') w') : wpList P ops Q (o :: rest) a w :=
  wpList_plain hgd fun _ hK => wp_append_row s x t ho B E k by_ z ht hinfo hz hk sv hs d hown xv B' n c hx hrow hck hone hm hlim hB B0 w0 hb hBB fun v' w' h2 h3 => hK _ _ (h v' w' h2 h3)
end Go.Proofs.YtpjgpiieminaoaaDoor
