/-
  No cell of these rows narrows 'for every input' (looked for: loops, veiled, ifaces, maps, wideKeys, modest, calm, conditions, laid).
  DERIVED. THE GIVEN ROWS OF THIS SEAT. 4 by the template 'for every input the law returns true; each argument reads behind the call as it read before'; 0 by the template 'total and deterministic' (their statements: YtjoibdmppmpjgacTotals.lean).
  GIVEN WITH THE SEED: the statements are not yours to turn. If you find one false, say at which input.
  Laid BY PROGRAM, IN A SANDBOX (cutbox-rows.mjs): the forced cells as the released guide's own fill.sh prints them over the translation fb8c92abff40f603… (all of the seat's roots in one cut). By AI agents, Wed Nov 11 2026. No macro, syntax, notation, axiom, sorry.
-/
import Derived.Test.YtjoibdmppmpjgacChecked
import GoSem.Claim
import GoSem.ClaimJoined
import GoSem.ClaimMapViews
import Derived.JoinedTies
import Derived.KernelRfl
namespace Go.Proofs.Ytjoibdmppmpjgac
/- THE CELL 'sum', in the pinned program and in every row, IS THE sha256 OF THE DUMP (.gsa) THAT YtjoibdmppmpjgacProg.lean LOADS. Nothing in Lean hashes anything: it is a label: what it is worth is what the hold of that sum in a sandbox is worth. -/
noncomputable def Try.pinned : Pinned := { name := "ytjoibdmppmpjgac", sum := "fb8c92abff40f60347f93c41907e6cd4d51ee2aae4349eae64142169b0922729", checked := Try.checked }
namespace Rows
def none {H : Type} : Left H := { results := [], args := [] }

/-- 'vergerslaw.StoryDoes': WHATEVER THE INPUT: true; the input reads as it did. -/
def storyDoesSpec : ChangeSpec := { name := "storyDoes", fn := fun _ => fun
  | [d1, d2, d3, d4] => { results := [.lit (.bool true)], args := [d1, d2, d3, d4] }
  | _ => none }
def storyDoesRow : OpenClaim := { program := "ytjoibdmppmpjgac", sum := "fb8c92abff40f60347f93c41907e6cd4d51ee2aae4349eae64142169b0922729", func := "vergers/vergerslaw.StoryDoes", spec := "storyDoes", apart := false }
def StoryDoesSaid : Prop := storyDoesRow.holds Try.pinned (OpenSpec.ofChange storyDoesSpec)

/-- ITS FALSE NEIGHBOUR: 'it returns false'. Refute it at one input. -/
def storyDoesWrong : ChangeSpec := { name := "storyDoes", fn := fun _ => fun
  | [d1, d2, d3, d4] => { results := [.lit (.bool false)], args := [d1, d2, d3, d4] }
  | _ => none }
def StoryDoesWrongFalsely : Prop := storyDoesRow.holds Try.pinned (OpenSpec.ofChange storyDoesWrong)

/-- 'vergerslaw.StoryTells': WHATEVER THE INPUT: true; the input reads as it did. -/
def storyTellsSpec : ChangeSpec := { name := "storyTells", fn := fun _ => fun
  | [d] => { results := [.lit (.bool true)], args := [d] }
  | _ => none }
def storyTellsRow : OpenClaim := { program := "ytjoibdmppmpjgac", sum := "fb8c92abff40f60347f93c41907e6cd4d51ee2aae4349eae64142169b0922729", func := "vergers/vergerslaw.StoryTells", spec := "storyTells", apart := false }
def StoryTellsSaid : Prop := storyTellsRow.holds Try.pinned (OpenSpec.ofChange storyTellsSpec)

/-- ITS FALSE NEIGHBOUR: 'it returns false'. Refute it at one input. -/
def storyTellsWrong : ChangeSpec := { name := "storyTells", fn := fun _ => fun
  | [d] => { results := [.lit (.bool false)], args := [d] }
  | _ => none }
def StoryTellsWrongFalsely : Prop := storyTellsRow.holds Try.pinned (OpenSpec.ofChange storyTellsWrong)

/-- 'vergerslaw.StoryParts': WHATEVER THE INPUT: true; the input reads as it did. -/
def storyPartsSpec : ChangeSpec := { name := "storyParts", fn := fun _ => fun
  | [d1, d2] => { results := [.lit (.bool true)], args := [d1, d2] }
  | _ => none }
def storyPartsRow : OpenClaim := { program := "ytjoibdmppmpjgac", sum := "fb8c92abff40f60347f93c41907e6cd4d51ee2aae4349eae64142169b0922729", func := "vergers/vergerslaw.StoryParts", spec := "storyParts", apart := false }
def StoryPartsSaid : Prop := storyPartsRow.holds Try.pinned (OpenSpec.ofChange storyPartsSpec)

/-- ITS FALSE NEIGHBOUR: 'it returns false'. Refute it at one input. -/
def storyPartsWrong : ChangeSpec := { name := "storyParts", fn := fun _ => fun
  | [d1, d2] => { results := [.lit (.bool false)], args := [d1, d2] }
  | _ => none }
def StoryPartsWrongFalsely : Prop := storyPartsRow.holds Try.pinned (OpenSpec.ofChange storyPartsWrong)

/-- 'vergerslaw.StoryOnce': WHATEVER THE INPUT: true; the input reads as it did. -/
def storyOnceSpec : ChangeSpec := { name := "storyOnce", fn := fun _ => fun
  | [d] => { results := [.lit (.bool true)], args := [d] }
  | _ => none }
def storyOnceRow : OpenClaim := { program := "ytjoibdmppmpjgac", sum := "fb8c92abff40f60347f93c41907e6cd4d51ee2aae4349eae64142169b0922729", func := "vergers/vergerslaw.StoryOnce", spec := "storyOnce", apart := false }
def StoryOnceSaid : Prop := storyOnceRow.holds Try.pinned (OpenSpec.ofChange storyOnceSpec)

/-- ITS FALSE NEIGHBOUR: 'it returns false'. Refute it at one input. -/
def storyOnceWrong : ChangeSpec := { name := "storyOnce", fn := fun _ => fun
  | [d] => { results := [.lit (.bool false)], args := [d] }
  | _ => none }
def StoryOnceWrongFalsely : Prop := storyOnceRow.holds Try.pinned (OpenSpec.ofChange storyOnceWrong)

/- THE SECOND FORM. 'bulk': how many values and letters a reading holds, each counted each time it is reached (what is shared counts as often as it is met; a slice's spare places count too). A statement '..UptoSaid' is the law's where the arguments, and the package variables that the reading takes, are together of bulk at most 1048576: NARROWER than '..Said'. Prove '..Said' where nothing that the law and all that it calls make is longer than what came in: it says more and counts as full. Else prove '..UptoSaid'. A law counts once. -/
mutual
def uptoBulk {H : Type} : DataW H → Nat
  | .lit (.string bytes) => bytes.length + 1
  | .lit _ => 1
  | .nil => 1
  | .ptr d => uptoBulk d + 1
  | .slice elems spare => uptoBulkAll elems + uptoBulkAll spare + 1
  | .agg parts => uptoBulkAll parts + 1
  | .iface _ d => uptoBulk d + 1
  | .map entries => uptoBulkEntries entries + 1
  | .held _ => 1
def uptoBulkAll {H : Type} : List (DataW H) → Nat
  | [] => 0
  | d :: r => uptoBulk d + uptoBulkAll r
def uptoBulkEntries {H : Type} : List (Lit × DataW H) → Nat
  | [] => 0
  | x :: r => uptoBulkEntry x + uptoBulkEntries r
def uptoBulkEntry {H : Type} : Lit × DataW H → Nat
  | (.string bytes, d) => bytes.length + uptoBulk d + 1
  | (_, d) => uptoBulk d + 1
 end
def uptoSmall : (H : Type) → List (DataW H) → Bool := fun _ ds => decide (uptoBulkAll ds ≤ 1048576)
def OpenSpec.upto (s : _root_.Go.ChangeSpec) : _root_.Go.OpenSpec := { _root_.Go.OpenSpec.ofChange s with cond := some uptoSmall }

/-- 'vergerslaw.StoryDoes', WHERE WHAT IT READS IS OF BULK AT MOST 1048576: true; the input reads as it did. -/
def storyDoesUptoRow : OpenClaim := { program := "ytjoibdmppmpjgac", sum := "fb8c92abff40f60347f93c41907e6cd4d51ee2aae4349eae64142169b0922729", func := "vergers/vergerslaw.StoryDoes", spec := "storyDoes", apart := false, narrowed := true }
def StoryDoesUptoSaid : Prop := storyDoesUptoRow.holds Try.pinned (OpenSpec.upto storyDoesSpec)

/-- 'vergerslaw.StoryTells', WHERE WHAT IT READS IS OF BULK AT MOST 1048576: true; the input reads as it did. -/
def storyTellsUptoRow : OpenClaim := { program := "ytjoibdmppmpjgac", sum := "fb8c92abff40f60347f93c41907e6cd4d51ee2aae4349eae64142169b0922729", func := "vergers/vergerslaw.StoryTells", spec := "storyTells", apart := false, narrowed := true }
def StoryTellsUptoSaid : Prop := storyTellsUptoRow.holds Try.pinned (OpenSpec.upto storyTellsSpec)

/-- 'vergerslaw.StoryParts', WHERE WHAT IT READS IS OF BULK AT MOST 1048576: true; the input reads as it did. -/
def storyPartsUptoRow : OpenClaim := { program := "ytjoibdmppmpjgac", sum := "fb8c92abff40f60347f93c41907e6cd4d51ee2aae4349eae64142169b0922729", func := "vergers/vergerslaw.StoryParts", spec := "storyParts", apart := false, narrowed := true }
def StoryPartsUptoSaid : Prop := storyPartsUptoRow.holds Try.pinned (OpenSpec.upto storyPartsSpec)

/-- 'vergerslaw.StoryOnce', WHERE WHAT IT READS IS OF BULK AT MOST 1048576: true; the input reads as it did. -/
def storyOnceUptoRow : OpenClaim := { program := "ytjoibdmppmpjgac", sum := "fb8c92abff40f60347f93c41907e6cd4d51ee2aae4349eae64142169b0922729", func := "vergers/vergerslaw.StoryOnce", spec := "storyOnce", apart := false, narrowed := true }
def StoryOnceUptoSaid : Prop := storyOnceUptoRow.holds Try.pinned (OpenSpec.upto storyOnceSpec)

end Rows
end Go.Proofs.Ytjoibdmppmpjgac
