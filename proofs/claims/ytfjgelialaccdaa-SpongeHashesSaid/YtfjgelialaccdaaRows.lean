/-
  No cell of these rows narrows 'for every input' (looked for: loops, veiled, ifaces, maps, wideKeys, modest, calm, conditions, laid).
  DERIVED. THE GIVEN ROWS OF THIS SEAT. 3 by the template 'for every input the law returns true; each argument reads behind the call as it read before'; 0 by the template 'total and deterministic' (their statements: YtfjgelialaccdaaTotals.lean).
  GIVEN WITH THE SEED: the statements are not yours to turn. If you find one false, say at which input.
  Laid BY PROGRAM, IN A SANDBOX (cutbox-rows.mjs): the forced cells as the released guide's own fill.sh prints them over the translation 9dd331869c904f8c… (all of the seat's roots in one cut). By AI agents, Wed Nov 11 2026. No macro, syntax, notation, axiom, sorry.
-/
import Derived.Test.YtfjgelialaccdaaChecked
import GoSem.Claim
import GoSem.ClaimJoined
import GoSem.ClaimMapViews
import Derived.JoinedTies
import Derived.KernelRfl
namespace Go.Proofs.Ytfjgelialaccdaa
/- THE CELL 'sum', in the pinned program and in every row, IS THE sha256 OF THE DUMP (.gsa) THAT YtfjgelialaccdaaProg.lean LOADS. Nothing in Lean hashes anything: it is a label: what it is worth is what the hold of that sum in a sandbox is worth. -/
noncomputable def Try.pinned : Pinned := { name := "ytfjgelialaccdaa", sum := "9dd331869c904f8c6de95e28b258274f4e1a5ec89a2b1f7b367ca478a2578d61", checked := Try.checked }
namespace Rows
def none {H : Type} : Left H := { results := [], args := [] }

/-- 'visorlaw15.SpongeTells': WHATEVER THE INPUT: true; the input reads as it did. -/
def spongeTellsSpec : ChangeSpec := { name := "spongeTells", fn := fun _ => fun
  | [d1, d2, d3, d4] => { results := [.lit (.bool true)], args := [d1, d2, d3, d4] }
  | _ => none }
def spongeTellsRow : OpenClaim := { program := "ytfjgelialaccdaa", sum := "9dd331869c904f8c6de95e28b258274f4e1a5ec89a2b1f7b367ca478a2578d61", func := "visor/visorlaw15.SpongeTells", spec := "spongeTells", unfollowed := true, recurses := true, apart := false }
def SpongeTellsSaid : Prop := spongeTellsRow.holds Try.pinned (OpenSpec.ofChange spongeTellsSpec)

/-- ITS FALSE NEIGHBOUR: 'it returns false'. Refute it at one input. -/
def spongeTellsWrong : ChangeSpec := { name := "spongeTells", fn := fun _ => fun
  | [d1, d2, d3, d4] => { results := [.lit (.bool false)], args := [d1, d2, d3, d4] }
  | _ => none }
def SpongeTellsWrongFalsely : Prop := spongeTellsRow.holds Try.pinned (OpenSpec.ofChange spongeTellsWrong)

/-- 'visorlaw15.SpongeHashes': WHATEVER THE INPUT: true; the input reads as it did. -/
def spongeHashesSpec : ChangeSpec := { name := "spongeHashes", fn := fun _ => fun
  | [d1, d2, d3] => { results := [.lit (.bool true)], args := [d1, d2, d3] }
  | _ => none }
def spongeHashesRow : OpenClaim := { program := "ytfjgelialaccdaa", sum := "9dd331869c904f8c6de95e28b258274f4e1a5ec89a2b1f7b367ca478a2578d61", func := "visor/visorlaw15.SpongeHashes", spec := "spongeHashes", unfollowed := true, recurses := true, apart := false }
def SpongeHashesSaid : Prop := spongeHashesRow.holds Try.pinned (OpenSpec.ofChange spongeHashesSpec)

/-- ITS FALSE NEIGHBOUR: 'it returns false'. Refute it at one input. -/
def spongeHashesWrong : ChangeSpec := { name := "spongeHashes", fn := fun _ => fun
  | [d1, d2, d3] => { results := [.lit (.bool false)], args := [d1, d2, d3] }
  | _ => none }
def SpongeHashesWrongFalsely : Prop := spongeHashesRow.holds Try.pinned (OpenSpec.ofChange spongeHashesWrong)

/-- 'visorlaw15.SpongeGrows': WHATEVER THE INPUT: true; the input reads as it did. -/
def spongeGrowsSpec : ChangeSpec := { name := "spongeGrows", fn := fun _ => fun
  | [d1, d2, d3, d4] => { results := [.lit (.bool true)], args := [d1, d2, d3, d4] }
  | _ => none }
def spongeGrowsRow : OpenClaim := { program := "ytfjgelialaccdaa", sum := "9dd331869c904f8c6de95e28b258274f4e1a5ec89a2b1f7b367ca478a2578d61", func := "visor/visorlaw15.SpongeGrows", spec := "spongeGrows", unfollowed := true, recurses := true, apart := false }
def SpongeGrowsSaid : Prop := spongeGrowsRow.holds Try.pinned (OpenSpec.ofChange spongeGrowsSpec)

/-- ITS FALSE NEIGHBOUR: 'it returns false'. Refute it at one input. -/
def spongeGrowsWrong : ChangeSpec := { name := "spongeGrows", fn := fun _ => fun
  | [d1, d2, d3, d4] => { results := [.lit (.bool false)], args := [d1, d2, d3, d4] }
  | _ => none }
def SpongeGrowsWrongFalsely : Prop := spongeGrowsRow.holds Try.pinned (OpenSpec.ofChange spongeGrowsWrong)

/- THE SECOND FORM. 'bulk': how many values and letters a reading holds, each counted each time it is reached (what is shared counts as often as it is met; a slice's spare places count too). A statement '..UptoSaid' is the law's where the arguments, and the package variables that the reading takes, are together of bulk at most 1048576: NARROWER than '..Said'. Prove '..Said' where nothing that the law and all that it calls make is longer than what came in: it says more and counts as full. Else prove '..UptoSaid'. A law counts once. -/
mutual
def uptoBulk {H : Type} : DataW H → Nat
  | .lit (.string bytes) => bytes.length + 1
  | .lit _ => 1
  | .nil => 1
  | .ptr d => uptoBulk d + 1
  | .slice elems spare => uptoBulkAll elems + uptoBulkAll spare + 1
  | .agg parts => uptoBulkAll parts + 1
  | .iface _ d => uptoBulk d + 1
  | .map entries => uptoBulkEntries entries + 1
  | .held _ => 1
def uptoBulkAll {H : Type} : List (DataW H) → Nat
  | [] => 0
  | d :: r => uptoBulk d + uptoBulkAll r
def uptoBulkEntries {H : Type} : List (Lit × DataW H) → Nat
  | [] => 0
  | x :: r => uptoBulkEntry x + uptoBulkEntries r
def uptoBulkEntry {H : Type} : Lit × DataW H → Nat
  | (.string bytes, d) => bytes.length + uptoBulk d + 1
  | (_, d) => uptoBulk d + 1
 end
def uptoSmall : (H : Type) → List (DataW H) → Bool := fun _ ds => decide (uptoBulkAll ds ≤ 1048576)
def OpenSpec.upto (s : _root_.Go.ChangeSpec) : _root_.Go.OpenSpec := { _root_.Go.OpenSpec.ofChange s with cond := some uptoSmall }

/-- 'visorlaw15.SpongeTells', WHERE WHAT IT READS IS OF BULK AT MOST 1048576: true; the input reads as it did. -/
def spongeTellsUptoRow : OpenClaim := { program := "ytfjgelialaccdaa", sum := "9dd331869c904f8c6de95e28b258274f4e1a5ec89a2b1f7b367ca478a2578d61", func := "visor/visorlaw15.SpongeTells", spec := "spongeTells", unfollowed := true, recurses := true, apart := false, narrowed := true }
def SpongeTellsUptoSaid : Prop := spongeTellsUptoRow.holds Try.pinned (OpenSpec.upto spongeTellsSpec)

/-- 'visorlaw15.SpongeHashes', WHERE WHAT IT READS IS OF BULK AT MOST 1048576: true; the input reads as it did. -/
def spongeHashesUptoRow : OpenClaim := { program := "ytfjgelialaccdaa", sum := "9dd331869c904f8c6de95e28b258274f4e1a5ec89a2b1f7b367ca478a2578d61", func := "visor/visorlaw15.SpongeHashes", spec := "spongeHashes", unfollowed := true, recurses := true, apart := false, narrowed := true }
def SpongeHashesUptoSaid : Prop := spongeHashesUptoRow.holds Try.pinned (OpenSpec.upto spongeHashesSpec)

/-- 'visorlaw15.SpongeGrows', WHERE WHAT IT READS IS OF BULK AT MOST 1048576: true; the input reads as it did. -/
def spongeGrowsUptoRow : OpenClaim := { program := "ytfjgelialaccdaa", sum := "9dd331869c904f8c6de95e28b258274f4e1a5ec89a2b1f7b367ca478a2578d61", func := "visor/visorlaw15.SpongeGrows", spec := "spongeGrows", unfollowed := true, recurses := true, apart := false, narrowed := true }
def SpongeGrowsUptoSaid : Prop := spongeGrowsUptoRow.holds Try.pinned (OpenSpec.upto spongeGrowsSpec)

end Rows
end Go.Proofs.Ytfjgelialaccdaa
