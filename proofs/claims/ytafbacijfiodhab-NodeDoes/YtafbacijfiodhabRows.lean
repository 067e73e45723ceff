/-
  No cell of these rows narrows 'for every input' (looked for: loops, veiled, ifaces, maps, wideKeys, modest, calm, conditions, laid).
  DERIVED. THE GIVEN ROWS OF THIS SEAT. 7 by the template 'for every input the law returns true; each argument reads behind the call as it read before'; 0 by the template 'total and deterministic' (their statements: YtafbacijfiodhabTotals.lean).
  GIVEN WITH THE SEED: the statements are not yours to turn. If you find one false, say at which input.
  Laid BY PROGRAM, IN A SANDBOX (cutbox-rows.mjs): the forced cells as the released guide's own fill.sh prints them over the translation 8711c23ae8f6d6c4… (all of the seat's roots in one cut). By AI agents, Wed Nov 11 2026. No macro, syntax, notation, axiom, sorry.
-/
import Derived.Test.YtafbacijfiodhabChecked
import GoSem.Claim
import GoSem.ClaimJoined
import GoSem.ClaimMapViews
import Derived.JoinedTies
import Derived.KernelRfl
namespace Go.Proofs.Ytafbacijfiodhab
/- THE CELL 'sum', in the pinned program and in every row, IS THE sha256 OF THE DUMP (.gsa) THAT YtafbacijfiodhabProg.lean LOADS. Nothing in Lean hashes anything: it is a label: what it is worth is what the hold of that sum in a sandbox is worth. -/
noncomputable def Try.pinned : Pinned := { name := "ytafbacijfiodhab", sum := "8711c23ae8f6d6c45fedd5308f14063d74c9ddec6e461919bde05f8f0c861b65", checked := Try.checked }
namespace Rows
def none {H : Type} : Left H := { results := [], args := [] }

/-- 'vergerslaw.DiskFence': WHATEVER THE INPUT: true; the input reads as it did. -/
def diskFenceSpec : ChangeSpec := { name := "diskFence", fn := fun _ => fun
  | [d1, d2] => { results := [.lit (.bool true)], args := [d1, d2] }
  | _ => none }
def diskFenceRow : OpenClaim := { program := "ytafbacijfiodhab", sum := "8711c23ae8f6d6c45fedd5308f14063d74c9ddec6e461919bde05f8f0c861b65", func := "vergers/vergerslaw.DiskFence", spec := "diskFence", apart := false }
def DiskFenceSaid : Prop := diskFenceRow.holds Try.pinned (OpenSpec.ofChange diskFenceSpec)

/-- ITS FALSE NEIGHBOUR: 'it returns false'. Refute it at one input. -/
def diskFenceWrong : ChangeSpec := { name := "diskFence", fn := fun _ => fun
  | [d1, d2] => { results := [.lit (.bool false)], args := [d1, d2] }
  | _ => none }
def DiskFenceWrongFalsely : Prop := diskFenceRow.holds Try.pinned (OpenSpec.ofChange diskFenceWrong)

/-- 'vergerslaw.DiskKeeps': WHATEVER THE INPUT: true; the input reads as it did. -/
def diskKeepsSpec : ChangeSpec := { name := "diskKeeps", fn := fun _ => fun
  | [d] => { results := [.lit (.bool true)], args := [d] }
  | _ => none }
def diskKeepsRow : OpenClaim := { program := "ytafbacijfiodhab", sum := "8711c23ae8f6d6c45fedd5308f14063d74c9ddec6e461919bde05f8f0c861b65", func := "vergers/vergerslaw.DiskKeeps", spec := "diskKeeps", apart := false }
def DiskKeepsSaid : Prop := diskKeepsRow.holds Try.pinned (OpenSpec.ofChange diskKeepsSpec)

/-- ITS FALSE NEIGHBOUR: 'it returns false'. Refute it at one input. -/
def diskKeepsWrong : ChangeSpec := { name := "diskKeeps", fn := fun _ => fun
  | [d] => { results := [.lit (.bool false)], args := [d] }
  | _ => none }
def DiskKeepsWrongFalsely : Prop := diskKeepsRow.holds Try.pinned (OpenSpec.ofChange diskKeepsWrong)

/-- 'vergerslaw.NodeDoes': WHATEVER THE INPUT: true; the input reads as it did. -/
def nodeDoesSpec : ChangeSpec := { name := "nodeDoes", fn := fun _ => fun
  | [d1, d2] => { results := [.lit (.bool true)], args := [d1, d2] }
  | _ => none }
def nodeDoesRow : OpenClaim := { program := "ytafbacijfiodhab", sum := "8711c23ae8f6d6c45fedd5308f14063d74c9ddec6e461919bde05f8f0c861b65", func := "vergers/vergerslaw.NodeDoes", spec := "nodeDoes", apart := false }
def NodeDoesSaid : Prop := nodeDoesRow.holds Try.pinned (OpenSpec.ofChange nodeDoesSpec)

/-- ITS FALSE NEIGHBOUR: 'it returns false'. Refute it at one input. -/
def nodeDoesWrong : ChangeSpec := { name := "nodeDoes", fn := fun _ => fun
  | [d1, d2] => { results := [.lit (.bool false)], args := [d1, d2] }
  | _ => none }
def NodeDoesWrongFalsely : Prop := nodeDoesRow.holds Try.pinned (OpenSpec.ofChange nodeDoesWrong)

/-- 'vergerslaw.NodeFenced': WHATEVER THE INPUT: true; the input reads as it did. -/
def nodeFencedSpec : ChangeSpec := { name := "nodeFenced", fn := fun _ => fun
  | [d1, d2, d3] => { results := [.lit (.bool true)], args := [d1, d2, d3] }
  | _ => none }
def nodeFencedRow : OpenClaim := { program := "ytafbacijfiodhab", sum := "8711c23ae8f6d6c45fedd5308f14063d74c9ddec6e461919bde05f8f0c861b65", func := "vergers/vergerslaw.NodeFenced", spec := "nodeFenced", apart := false }
def NodeFencedSaid : Prop := nodeFencedRow.holds Try.pinned (OpenSpec.ofChange nodeFencedSpec)

/-- ITS FALSE NEIGHBOUR: 'it returns false'. Refute it at one input. -/
def nodeFencedWrong : ChangeSpec := { name := "nodeFenced", fn := fun _ => fun
  | [d1, d2, d3] => { results := [.lit (.bool false)], args := [d1, d2, d3] }
  | _ => none }
def NodeFencedWrongFalsely : Prop := nodeFencedRow.holds Try.pinned (OpenSpec.ofChange nodeFencedWrong)

/-- 'vergerslaw.NodeAgain': WHATEVER THE INPUT: true; the input reads as it did. -/
def nodeAgainSpec : ChangeSpec := { name := "nodeAgain", fn := fun _ => fun
  | [d1, d2] => { results := [.lit (.bool true)], args := [d1, d2] }
  | _ => none }
def nodeAgainRow : OpenClaim := { program := "ytafbacijfiodhab", sum := "8711c23ae8f6d6c45fedd5308f14063d74c9ddec6e461919bde05f8f0c861b65", func := "vergers/vergerslaw.NodeAgain", spec := "nodeAgain", apart := false }
def NodeAgainSaid : Prop := nodeAgainRow.holds Try.pinned (OpenSpec.ofChange nodeAgainSpec)

/-- ITS FALSE NEIGHBOUR: 'it returns false'. Refute it at one input. -/
def nodeAgainWrong : ChangeSpec := { name := "nodeAgain", fn := fun _ => fun
  | [d1, d2] => { results := [.lit (.bool false)], args := [d1, d2] }
  | _ => none }
def NodeAgainWrongFalsely : Prop := nodeAgainRow.holds Try.pinned (OpenSpec.ofChange nodeAgainWrong)

/-- 'vergerslaw.NodeTears': WHATEVER THE INPUT: true; the input reads as it did. -/
def nodeTearsSpec : ChangeSpec := { name := "nodeTears", fn := fun _ => fun
  | [d1, d2, d3, d4] => { results := [.lit (.bool true)], args := [d1, d2, d3, d4] }
  | _ => none }
def nodeTearsRow : OpenClaim := { program := "ytafbacijfiodhab", sum := "8711c23ae8f6d6c45fedd5308f14063d74c9ddec6e461919bde05f8f0c861b65", func := "vergers/vergerslaw.NodeTears", spec := "nodeTears", apart := false }
def NodeTearsSaid : Prop := nodeTearsRow.holds Try.pinned (OpenSpec.ofChange nodeTearsSpec)

/-- ITS FALSE NEIGHBOUR: 'it returns false'. Refute it at one input. -/
def nodeTearsWrong : ChangeSpec := { name := "nodeTears", fn := fun _ => fun
  | [d1, d2, d3, d4] => { results := [.lit (.bool false)], args := [d1, d2, d3, d4] }
  | _ => none }
def NodeTearsWrongFalsely : Prop := nodeTearsRow.holds Try.pinned (OpenSpec.ofChange nodeTearsWrong)

/-- 'vergerslaw.NodeAnswers': WHATEVER THE INPUT: true; the input reads as it did. -/
def nodeAnswersSpec : ChangeSpec := { name := "nodeAnswers", fn := fun _ => fun
  | [d1, d2] => { results := [.lit (.bool true)], args := [d1, d2] }
  | _ => none }
def nodeAnswersRow : OpenClaim := { program := "ytafbacijfiodhab", sum := "8711c23ae8f6d6c45fedd5308f14063d74c9ddec6e461919bde05f8f0c861b65", func := "vergers/vergerslaw.NodeAnswers", spec := "nodeAnswers", apart := false }
def NodeAnswersSaid : Prop := nodeAnswersRow.holds Try.pinned (OpenSpec.ofChange nodeAnswersSpec)

/-- ITS FALSE NEIGHBOUR: 'it returns false'. Refute it at one input. -/
def nodeAnswersWrong : ChangeSpec := { name := "nodeAnswers", fn := fun _ => fun
  | [d1, d2] => { results := [.lit (.bool false)], args := [d1, d2] }
  | _ => none }
def NodeAnswersWrongFalsely : Prop := nodeAnswersRow.holds Try.pinned (OpenSpec.ofChange nodeAnswersWrong)

/- THE SECOND FORM. 'bulk': how many values and letters a reading holds, each counted each time it is reached (what is shared counts as often as it is met; a slice's spare places count too). A statement '..UptoSaid' is the law's where the arguments, and the package variables that the reading takes, are together of bulk at most 1048576: NARROWER than '..Said'. Prove '..Said' where nothing that the law and all that it calls make is longer than what came in: it says more and counts as full. Else prove '..UptoSaid'. A law counts once. -/
mutual
def uptoBulk {H : Type} : DataW H → Nat
  | .lit (.string bytes) => bytes.length + 1
  | .lit _ => 1
  | .nil => 1
  | .ptr d => uptoBulk d + 1
  | .slice elems spare => uptoBulkAll elems + uptoBulkAll spare + 1
  | .agg parts => uptoBulkAll parts + 1
  | .iface _ d => uptoBulk d + 1
  | .map entries => uptoBulkEntries entries + 1
  | .held _ => 1
def uptoBulkAll {H : Type} : List (DataW H) → Nat
  | [] => 0
  | d :: r => uptoBulk d + uptoBulkAll r
def uptoBulkEntries {H : Type} : List (Lit × DataW H) → Nat
  | [] => 0
  | x :: r => uptoBulkEntry x + uptoBulkEntries r
def uptoBulkEntry {H : Type} : Lit × DataW H → Nat
  | (.string bytes, d) => bytes.length + uptoBulk d + 1
  | (_, d) => uptoBulk d + 1
 end
def uptoSmall : (H : Type) → List (DataW H) → Bool := fun _ ds => decide (uptoBulkAll ds ≤ 1048576)
def OpenSpec.upto (s : _root_.Go.ChangeSpec) : _root_.Go.OpenSpec := { _root_.Go.OpenSpec.ofChange s with cond := some uptoSmall }

/-- 'vergerslaw.DiskFence', WHERE WHAT IT READS IS OF BULK AT MOST 1048576: true; the input reads as it did. -/
def diskFenceUptoRow : OpenClaim := { program := "ytafbacijfiodhab", sum := "8711c23ae8f6d6c45fedd5308f14063d74c9ddec6e461919bde05f8f0c861b65", func := "vergers/vergerslaw.DiskFence", spec := "diskFence", apart := false, narrowed := true }
def DiskFenceUptoSaid : Prop := diskFenceUptoRow.holds Try.pinned (OpenSpec.upto diskFenceSpec)

/-- 'vergerslaw.DiskKeeps', WHERE WHAT IT READS IS OF BULK AT MOST 1048576: true; the input reads as it did. -/
def diskKeepsUptoRow : OpenClaim := { program := "ytafbacijfiodhab", sum := "8711c23ae8f6d6c45fedd5308f14063d74c9ddec6e461919bde05f8f0c861b65", func := "vergers/vergerslaw.DiskKeeps", spec := "diskKeeps", apart := false, narrowed := true }
def DiskKeepsUptoSaid : Prop := diskKeepsUptoRow.holds Try.pinned (OpenSpec.upto diskKeepsSpec)

/-- 'vergerslaw.NodeDoes', WHERE WHAT IT READS IS OF BULK AT MOST 1048576: true; the input reads as it did. -/
def nodeDoesUptoRow : OpenClaim := { program := "ytafbacijfiodhab", sum := "8711c23ae8f6d6c45fedd5308f14063d74c9ddec6e461919bde05f8f0c861b65", func := "vergers/vergerslaw.NodeDoes", spec := "nodeDoes", apart := false, narrowed := true }
def NodeDoesUptoSaid : Prop := nodeDoesUptoRow.holds Try.pinned (OpenSpec.upto nodeDoesSpec)

/-- 'vergerslaw.NodeFenced', WHERE WHAT IT READS IS OF BULK AT MOST 1048576: true; the input reads as it did. -/
def nodeFencedUptoRow : OpenClaim := { program := "ytafbacijfiodhab", sum := "8711c23ae8f6d6c45fedd5308f14063d74c9ddec6e461919bde05f8f0c861b65", func := "vergers/vergerslaw.NodeFenced", spec := "nodeFenced", apart := false, narrowed := true }
def NodeFencedUptoSaid : Prop := nodeFencedUptoRow.holds Try.pinned (OpenSpec.upto nodeFencedSpec)

/-- 'vergerslaw.NodeAgain', WHERE WHAT IT READS IS OF BULK AT MOST 1048576: true; the input reads as it did. -/
def nodeAgainUptoRow : OpenClaim := { program := "ytafbacijfiodhab", sum := "8711c23ae8f6d6c45fedd5308f14063d74c9ddec6e461919bde05f8f0c861b65", func := "vergers/vergerslaw.NodeAgain", spec := "nodeAgain", apart := false, narrowed := true }
def NodeAgainUptoSaid : Prop := nodeAgainUptoRow.holds Try.pinned (OpenSpec.upto nodeAgainSpec)

/-- 'vergerslaw.NodeTears', WHERE WHAT IT READS IS OF BULK AT MOST 1048576: true; the input reads as it did. -/
def nodeTearsUptoRow : OpenClaim := { program := "ytafbacijfiodhab", sum := "8711c23ae8f6d6c45fedd5308f14063d74c9ddec6e461919bde05f8f0c861b65", func := "vergers/vergerslaw.NodeTears", spec := "nodeTears", apart := false, narrowed := true }
def NodeTearsUptoSaid : Prop := nodeTearsUptoRow.holds Try.pinned (OpenSpec.upto nodeTearsSpec)

/-- 'vergerslaw.NodeAnswers', WHERE WHAT IT READS IS OF BULK AT MOST 1048576: true; the input reads as it did. -/
def nodeAnswersUptoRow : OpenClaim := { program := "ytafbacijfiodhab", sum := "8711c23ae8f6d6c45fedd5308f14063d74c9ddec6e461919bde05f8f0c861b65", func := "vergers/vergerslaw.NodeAnswers", spec := "nodeAnswers", apart := false, narrowed := true }
def NodeAnswersUptoSaid : Prop := nodeAnswersUptoRow.holds Try.pinned (OpenSpec.upto nodeAnswersSpec)

end Rows
end Go.Proofs.Ytafbacijfiodhab
