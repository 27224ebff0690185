import Derived.Test.YteoiekooaokhaaaProg
import Derived.Test.YteoiekooaokhaaaCme
import Derived.Test.YteoiekooaokhaaaCmf
/- Clone; Size, Tag; Write where nothing is left over. -/
namespace Go.Proofs.Yteoiekooaokhaaa
open Go.RowKit
set_option maxRecDepth 100000

theorem eq_nil (a : Addr) (n c : Nat) (w : World) : (binOp .eql 22 (.slice (some a) n c) (.slice none 0 0)).run Try.prog w = .ok (.bool false) w := by
  have h : ∀ d : Nat, (Op.equalIn (d + 1) 22 (.slice (some a) n c) (.slice none 0 0)).run Try.prog w = .ok false w := fun d => by
    simp [Op.equalIn, run_underlying Try.underlying22]
  simp only [binOp]
  simp [Op.equal, Op.maxDepth, h 9999]
theorem clone_any (g off n e : Nat) (f : Nat → Nat) (w : World) (hn : 0 < n) (hn2 : n ≤ 65536) (h : Rd .u8 w (.slice (some ⟨g, off, none⟩) n e) (ns n f)) :
    Calls Try.prog 41 #[.slice (some ⟨g, off, none⟩) n e] w fun x w' => ∃ g' c', x = .returned (.slice (some ⟨g', 0, none⟩) n c') ∧ Own .u8 w.heap.size 5 w' (.slice (some ⟨g', 0, none⟩) n c') (ns n f) ∧ Below w.heap.size w w' := by
  have HZ := hid (h.self (w' := w.alloc (.cells #[] 5)) ((Below.refl _ _).alloc (Nat.le_refl _) _))
  have HLI := hid (show (0 + (ns n f).length) * (IntKind.u8.bits / 8) ≤ 140737488355328 by rw [ns_len]; show (0 + n) * 1 ≤ _; omega)
  have HN := hid hn
  have hnil := eq_nil ⟨g, off, none⟩ n e w
  clear h hn hn2
  go_enter Try.func41, Try.ntmps41
  go_wp2_with (refine wpList_append_rd rfl (.tmp 5) (.tmp 6) 22 rfl .u8 w.heap.size 5 Try.underlying22 info8 (by decide) _ [] rfl (own_empty w (Nat.le_refl _)) _ (ns n f) rfl HZ.out HLI.out (by simp) w.heap.size w ((Below.refl _ _).alloc (Nat.le_refl _) _) (Nat.le_refl _) ?_; intro u w1 hown hlow _; rw [List.nil_append] at hown; obtain ⟨g', cap, rfl, hgB, _, _⟩ := hown.part (by rw [ns_len]; exact HN.out); rw [ns_len] at hown ⊢; have HO := hid hown; have HL := hid hlow; clear hown hlow)
  go_ret
  exact ⟨g', cap, rfl, HO.out, HL.out⟩

/-- A tag at work, of N bytes δ: its block m, its cipher d. -/
structure Mw (w : World) (m d b c cap R R1 : Nat) (Y : Nat → Nat → Nat) (x : Nat → Nat) (a : Option Addr) (n e : Nat) (l : Nat → Nat) (N : Nat) (δ : Nat → Nat) : Prop where
  blk : MAt w m d x (.slice a n e) N
  gc : Gc w d b c cap R R1 Y
  last : Kb b m w (.slice a n e) (ns n l)
  le : n ≤ e
  st : Mst Y R x n l N δ
  xb : B16 x
  lb : ∀ j, j < n → l j < 256
  ne : m ≠ b ∧ m ≠ d ∧ m ≠ c
  all : ∀ j, j < N → δ j < 256
section
variable {w w' : World} {m d b c cap R R1 n e N : Nat} {Y : Nat → Nat → Nat} {x l δ : Nat → Nat} {a : Option Addr}
theorem Gc.set {v : Value} {p : Addr} (h : Gc w d b c cap R R1 Y) (hp : p.block ≠ b ∧ p.block ≠ d ∧ p.block ≠ c) : Gc (w.setCell p v) d b c cap R R1 Y :=
  ⟨h.num, (heap_setCell_other w p d v (fun e => hp.2.1 e.symm)).trans h.ci.blk, h.ci.box.set (fun e => hp.1 e.symm) v, h.ci.rows.same (by simp [World.setCell]) (heap_setCell_other w p c v (fun e => hp.2.2 e.symm)), h.ci.ne⟩
theorem Gc.onlyM (h : Gc w d b c cap R R1 Y) (o : Only m w w') (hm : m ≠ b ∧ m ≠ d ∧ m ≠ c) : Gc w' d b c cap R R1 Y :=
  ⟨h.num, (o.block d h.ci.blk.lt (fun e => hm.2.1 e.symm)).trans h.ci.blk, h.ci.box.only o (fun e => hm.1 e.symm), h.ci.rows.same o.size (o.block c h.ci.rows.lt (fun e => hm.2.2 e.symm)), h.ci.ne⟩
theorem Mw.self (h : Mw w m d b c cap R R1 Y x a n e l N δ) (hb : Below w.heap.size w w') : Mw w' m d b c cap R R1 Y x a n e l N δ :=
  ⟨h.blk.self hb, h.gc.self hb, h.last.later (But.self hb), h.le, h.st, h.xb, h.lb, h.ne, h.all⟩
theorem Mw.drew (h : Mw w m d b c cap R R1 Y x a n e l N δ) : Mw w.drew m d b c cap R R1 Y x a n e l N δ := h.self (Below.refl _ _).drew
theorem Mw.asked (h : Mw w m d b c cap R R1 Y x a n e l N δ) (hg : Gc w' d b c cap R R1 Y) (o : Only b w w') : Mw w' m d b c cap R R1 Y x a n e l N δ :=
  ⟨h.blk.only o h.ne.1, hg, h.last.later (But.of o), h.le, h.st, h.xb, h.lb, h.ne, h.all⟩
end
theorem size_any (w : World) (m d b c cap R R1 n e N : Nat) (Y : Nat → Nat → Nat) (x l δ : Nat → Nat) (a : Option Addr) (h : Mw w m d b c cap R R1 Y x a n e l N δ) :
    Calls Try.prog 22 #[.pointer (some ⟨m, 0, none⟩)] w fun x w' => x = .returned (.int .i64 N) ∧ w' = w := by
  have hc := h.blk.cn
  clear h
  go_enter Try.func22, Try.ntmps22
  go_wp2
  go_ret
  exact ⟨rfl, rfl⟩
theorem size_nil (w : World) : Calls Try.prog 22 #[.pointer none] w fun x w' => x = .returned (.int .i64 0) ∧ w' = w := by
  go_enter Try.func22, Try.ntmps22
  go_wp2
  go_ret
  exact ⟨rfl, rfl⟩
theorem tag_nil (w : World) : Calls Try.prog 23 #[.pointer none] w fun x w' => x = .returned (.slice none 0 0) ∧ w' = w := by
  go_enter Try.func23, Try.ntmps23
  go_wp2
  go_ret
  exact ⟨rfl, rfl⟩
theorem write_nil (v : Value) (w : World) : Calls Try.prog 20 #[.pointer none, v] w fun x w' => x = .returned (.tuple #[]) ∧ w' = w := by
  go_enter Try.func20, Try.ntmps20
  go_wp2
  exact bodyPost_ret (results_none rfl _ _ _) rfl ⟨rfl, rfl⟩
end Go.Proofs.Yteoiekooaokhaaa
