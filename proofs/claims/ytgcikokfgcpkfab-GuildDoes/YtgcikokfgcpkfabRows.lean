/-
  No cell of these rows narrows 'for every input' (looked for: loops, veiled, ifaces, maps, wideKeys, modest, calm, conditions, laid).
  DERIVED. THE GIVEN ROWS OF THIS SEAT. 12 by the template 'for every input the law returns true; each argument reads behind the call as it read before'; 0 by the template 'total and deterministic' (their statements: YtgcikokfgcpkfabTotals.lean).
  GIVEN WITH THE SEED: the statements are not yours to turn. If you find one false, say at which input.
  Laid BY PROGRAM, IN A SANDBOX (cutbox-rows.mjs): the forced cells as the released guide's own fill.sh prints them over the translation 3aea7f0ccccacfe3… (all of the seat's roots in one cut). By AI agents, Wed Nov 11 2026. No macro, syntax, notation, axiom, sorry.
-/
import Derived.Test.YtgcikokfgcpkfabChecked
import GoSem.Claim
import GoSem.ClaimJoined
import GoSem.ClaimMapViews
import Derived.JoinedTies
import Derived.KernelRfl
namespace Go.Proofs.Ytgcikokfgcpkfab
/- THE CELL 'sum', in the pinned program and in every row, IS THE sha256 OF THE DUMP (.gsa) THAT YtgcikokfgcpkfabProg.lean LOADS. Nothing in Lean hashes anything: it is a label: what it is worth is what the hold of that sum in a sandbox is worth. -/
noncomputable def Try.pinned : Pinned := { name := "ytgcikokfgcpkfab", sum := "3aea7f0ccccacfe3c922d220674997de48f4fd5da4db96a621f8a58bb8a0f50a", checked := Try.checked }
namespace Rows
def none {H : Type} : Left H := { results := [], args := [] }

/-- 'vergerslaw.DiskFence': WHATEVER THE INPUT: true; the input reads as it did. -/
def diskFenceSpec : ChangeSpec := { name := "diskFence", fn := fun _ => fun
  | [d1, d2] => { results := [.lit (.bool true)], args := [d1, d2] }
  | _ => none }
def diskFenceRow : OpenClaim := { program := "ytgcikokfgcpkfab", sum := "3aea7f0ccccacfe3c922d220674997de48f4fd5da4db96a621f8a58bb8a0f50a", func := "vergers/vergerslaw.DiskFence", spec := "diskFence", apart := false }
def DiskFenceSaid : Prop := diskFenceRow.holds Try.pinned (OpenSpec.ofChange diskFenceSpec)

/-- ITS FALSE NEIGHBOUR: 'it returns false'. Refute it at one input. -/
def diskFenceWrong : ChangeSpec := { name := "diskFence", fn := fun _ => fun
  | [d1, d2] => { results := [.lit (.bool false)], args := [d1, d2] }
  | _ => none }
def DiskFenceWrongFalsely : Prop := diskFenceRow.holds Try.pinned (OpenSpec.ofChange diskFenceWrong)

/-- 'vergerslaw.DiskKeeps': WHATEVER THE INPUT: true; the input reads as it did. -/
def diskKeepsSpec : ChangeSpec := { name := "diskKeeps", fn := fun _ => fun
  | [d] => { results := [.lit (.bool true)], args := [d] }
  | _ => none }
def diskKeepsRow : OpenClaim := { program := "ytgcikokfgcpkfab", sum := "3aea7f0ccccacfe3c922d220674997de48f4fd5da4db96a621f8a58bb8a0f50a", func := "vergers/vergerslaw.DiskKeeps", spec := "diskKeeps", apart := false }
def DiskKeepsSaid : Prop := diskKeepsRow.holds Try.pinned (OpenSpec.ofChange diskKeepsSpec)

/-- ITS FALSE NEIGHBOUR: 'it returns false'. Refute it at one input. -/
def diskKeepsWrong : ChangeSpec := { name := "diskKeeps", fn := fun _ => fun
  | [d] => { results := [.lit (.bool false)], args := [d] }
  | _ => none }
def DiskKeepsWrongFalsely : Prop := diskKeepsRow.holds Try.pinned (OpenSpec.ofChange diskKeepsWrong)

/-- 'vergerslaw.NodeDoes': WHATEVER THE INPUT: true; the input reads as it did. -/
def nodeDoesSpec : ChangeSpec := { name := "nodeDoes", fn := fun _ => fun
  | [d1, d2] => { results := [.lit (.bool true)], args := [d1, d2] }
  | _ => none }
def nodeDoesRow : OpenClaim := { program := "ytgcikokfgcpkfab", sum := "3aea7f0ccccacfe3c922d220674997de48f4fd5da4db96a621f8a58bb8a0f50a", func := "vergers/vergerslaw.NodeDoes", spec := "nodeDoes", apart := false }
def NodeDoesSaid : Prop := nodeDoesRow.holds Try.pinned (OpenSpec.ofChange nodeDoesSpec)

/-- ITS FALSE NEIGHBOUR: 'it returns false'. Refute it at one input. -/
def nodeDoesWrong : ChangeSpec := { name := "nodeDoes", fn := fun _ => fun
  | [d1, d2] => { results := [.lit (.bool false)], args := [d1, d2] }
  | _ => none }
def NodeDoesWrongFalsely : Prop := nodeDoesRow.holds Try.pinned (OpenSpec.ofChange nodeDoesWrong)

/-- 'vergerslaw.NodeFenced': WHATEVER THE INPUT: true; the input reads as it did. -/
def nodeFencedSpec : ChangeSpec := { name := "nodeFenced", fn := fun _ => fun
  | [d1, d2, d3] => { results := [.lit (.bool true)], args := [d1, d2, d3] }
  | _ => none }
def nodeFencedRow : OpenClaim := { program := "ytgcikokfgcpkfab", sum := "3aea7f0ccccacfe3c922d220674997de48f4fd5da4db96a621f8a58bb8a0f50a", func := "vergers/vergerslaw.NodeFenced", spec := "nodeFenced", apart := false }
def NodeFencedSaid : Prop := nodeFencedRow.holds Try.pinned (OpenSpec.ofChange nodeFencedSpec)

/-- ITS FALSE NEIGHBOUR: 'it returns false'. Refute it at one input. -/
def nodeFencedWrong : ChangeSpec := { name := "nodeFenced", fn := fun _ => fun
  | [d1, d2, d3] => { results := [.lit (.bool false)], args := [d1, d2, d3] }
  | _ => none }
def NodeFencedWrongFalsely : Prop := nodeFencedRow.holds Try.pinned (OpenSpec.ofChange nodeFencedWrong)

/-- 'vergerslaw.NodeAgain': WHATEVER THE INPUT: true; the input reads as it did. -/
def nodeAgainSpec : ChangeSpec := { name := "nodeAgain", fn := fun _ => fun
  | [d1, d2] => { results := [.lit (.bool true)], args := [d1, d2] }
  | _ => none }
def nodeAgainRow : OpenClaim := { program := "ytgcikokfgcpkfab", sum := "3aea7f0ccccacfe3c922d220674997de48f4fd5da4db96a621f8a58bb8a0f50a", func := "vergers/vergerslaw.NodeAgain", spec := "nodeAgain", apart := false }
def NodeAgainSaid : Prop := nodeAgainRow.holds Try.pinned (OpenSpec.ofChange nodeAgainSpec)

/-- ITS FALSE NEIGHBOUR: 'it returns false'. Refute it at one input. -/
def nodeAgainWrong : ChangeSpec := { name := "nodeAgain", fn := fun _ => fun
  | [d1, d2] => { results := [.lit (.bool false)], args := [d1, d2] }
  | _ => none }
def NodeAgainWrongFalsely : Prop := nodeAgainRow.holds Try.pinned (OpenSpec.ofChange nodeAgainWrong)

/-- 'vergerslaw.NodeTears': WHATEVER THE INPUT: true; the input reads as it did. -/
def nodeTearsSpec : ChangeSpec := { name := "nodeTears", fn := fun _ => fun
  | [d1, d2, d3, d4] => { results := [.lit (.bool true)], args := [d1, d2, d3, d4] }
  | _ => none }
def nodeTearsRow : OpenClaim := { program := "ytgcikokfgcpkfab", sum := "3aea7f0ccccacfe3c922d220674997de48f4fd5da4db96a621f8a58bb8a0f50a", func := "vergers/vergerslaw.NodeTears", spec := "nodeTears", apart := false }
def NodeTearsSaid : Prop := nodeTearsRow.holds Try.pinned (OpenSpec.ofChange nodeTearsSpec)

/-- ITS FALSE NEIGHBOUR: 'it returns false'. Refute it at one input. -/
def nodeTearsWrong : ChangeSpec := { name := "nodeTears", fn := fun _ => fun
  | [d1, d2, d3, d4] => { results := [.lit (.bool false)], args := [d1, d2, d3, d4] }
  | _ => none }
def NodeTearsWrongFalsely : Prop := nodeTearsRow.holds Try.pinned (OpenSpec.ofChange nodeTearsWrong)

/-- 'vergerslaw.NodeAnswers': WHATEVER THE INPUT: true; the input reads as it did. -/
def nodeAnswersSpec : ChangeSpec := { name := "nodeAnswers", fn := fun _ => fun
  | [d1, d2] => { results := [.lit (.bool true)], args := [d1, d2] }
  | _ => none }
def nodeAnswersRow : OpenClaim := { program := "ytgcikokfgcpkfab", sum := "3aea7f0ccccacfe3c922d220674997de48f4fd5da4db96a621f8a58bb8a0f50a", func := "vergers/vergerslaw.NodeAnswers", spec := "nodeAnswers", apart := false }
def NodeAnswersSaid : Prop := nodeAnswersRow.holds Try.pinned (OpenSpec.ofChange nodeAnswersSpec)

/-- ITS FALSE NEIGHBOUR: 'it returns false'. Refute it at one input. -/
def nodeAnswersWrong : ChangeSpec := { name := "nodeAnswers", fn := fun _ => fun
  | [d1, d2] => { results := [.lit (.bool false)], args := [d1, d2] }
  | _ => none }
def NodeAnswersWrongFalsely : Prop := nodeAnswersRow.holds Try.pinned (OpenSpec.ofChange nodeAnswersWrong)

/-- 'vergerslaw.GuildDoes': WHATEVER THE INPUT: true; the input reads as it did. -/
def guildDoesSpec : ChangeSpec := { name := "guildDoes", fn := fun _ => fun
  | [d] => { results := [.lit (.bool true)], args := [d] }
  | _ => none }
def guildDoesRow : OpenClaim := { program := "ytgcikokfgcpkfab", sum := "3aea7f0ccccacfe3c922d220674997de48f4fd5da4db96a621f8a58bb8a0f50a", func := "vergers/vergerslaw.GuildDoes", spec := "guildDoes", apart := false }
def GuildDoesSaid : Prop := guildDoesRow.holds Try.pinned (OpenSpec.ofChange guildDoesSpec)

/-- ITS FALSE NEIGHBOUR: 'it returns false'. Refute it at one input. -/
def guildDoesWrong : ChangeSpec := { name := "guildDoes", fn := fun _ => fun
  | [d] => { results := [.lit (.bool false)], args := [d] }
  | _ => none }
def GuildDoesWrongFalsely : Prop := guildDoesRow.holds Try.pinned (OpenSpec.ofChange guildDoesWrong)

/-- 'vergerslaw.GuildSerial': WHATEVER THE INPUT: true; the input reads as it did. -/
def guildSerialSpec : ChangeSpec := { name := "guildSerial", fn := fun _ => fun
  | [d] => { results := [.lit (.bool true)], args := [d] }
  | _ => none }
def guildSerialRow : OpenClaim := { program := "ytgcikokfgcpkfab", sum := "3aea7f0ccccacfe3c922d220674997de48f4fd5da4db96a621f8a58bb8a0f50a", func := "vergers/vergerslaw.GuildSerial", spec := "guildSerial", apart := false }
def GuildSerialSaid : Prop := guildSerialRow.holds Try.pinned (OpenSpec.ofChange guildSerialSpec)

/-- ITS FALSE NEIGHBOUR: 'it returns false'. Refute it at one input. -/
def guildSerialWrong : ChangeSpec := { name := "guildSerial", fn := fun _ => fun
  | [d] => { results := [.lit (.bool false)], args := [d] }
  | _ => none }
def GuildSerialWrongFalsely : Prop := guildSerialRow.holds Try.pinned (OpenSpec.ofChange guildSerialWrong)

/-- 'vergerslaw.GuildStays': WHATEVER THE INPUT: true; the input reads as it did. -/
def guildStaysSpec : ChangeSpec := { name := "guildStays", fn := fun _ => fun
  | [d] => { results := [.lit (.bool true)], args := [d] }
  | _ => none }
def guildStaysRow : OpenClaim := { program := "ytgcikokfgcpkfab", sum := "3aea7f0ccccacfe3c922d220674997de48f4fd5da4db96a621f8a58bb8a0f50a", func := "vergers/vergerslaw.GuildStays", spec := "guildStays", apart := false }
def GuildStaysSaid : Prop := guildStaysRow.holds Try.pinned (OpenSpec.ofChange guildStaysSpec)

/-- ITS FALSE NEIGHBOUR: 'it returns false'. Refute it at one input. -/
def guildStaysWrong : ChangeSpec := { name := "guildStays", fn := fun _ => fun
  | [d] => { results := [.lit (.bool false)], args := [d] }
  | _ => none }
def GuildStaysWrongFalsely : Prop := guildStaysRow.holds Try.pinned (OpenSpec.ofChange guildStaysWrong)

/-- 'vergerslaw.GuildTries': WHATEVER THE INPUT: true; the input reads as it did. -/
def guildTriesSpec : ChangeSpec := { name := "guildTries", fn := fun _ => fun
  | [d] => { results := [.lit (.bool true)], args := [d] }
  | _ => none }
def guildTriesRow : OpenClaim := { program := "ytgcikokfgcpkfab", sum := "3aea7f0ccccacfe3c922d220674997de48f4fd5da4db96a621f8a58bb8a0f50a", func := "vergers/vergerslaw.GuildTries", spec := "guildTries", apart := false }
def GuildTriesSaid : Prop := guildTriesRow.holds Try.pinned (OpenSpec.ofChange guildTriesSpec)

/-- ITS FALSE NEIGHBOUR: 'it returns false'. Refute it at one input. -/
def guildTriesWrong : ChangeSpec := { name := "guildTries", fn := fun _ => fun
  | [d] => { results := [.lit (.bool false)], args := [d] }
  | _ => none }
def GuildTriesWrongFalsely : Prop := guildTriesRow.holds Try.pinned (OpenSpec.ofChange guildTriesWrong)

/-- 'vergerslaw.GuildStops': WHATEVER THE INPUT: true; the input reads as it did. -/
def guildStopsSpec : ChangeSpec := { name := "guildStops", fn := fun _ => fun
  | [d1, d2, d3, d4] => { results := [.lit (.bool true)], args := [d1, d2, d3, d4] }
  | _ => none }
def guildStopsRow : OpenClaim := { program := "ytgcikokfgcpkfab", sum := "3aea7f0ccccacfe3c922d220674997de48f4fd5da4db96a621f8a58bb8a0f50a", func := "vergers/vergerslaw.GuildStops", spec := "guildStops", apart := false }
def GuildStopsSaid : Prop := guildStopsRow.holds Try.pinned (OpenSpec.ofChange guildStopsSpec)

/-- ITS FALSE NEIGHBOUR: 'it returns false'. Refute it at one input. -/
def guildStopsWrong : ChangeSpec := { name := "guildStops", fn := fun _ => fun
  | [d1, d2, d3, d4] => { results := [.lit (.bool false)], args := [d1, d2, d3, d4] }
  | _ => none }
def GuildStopsWrongFalsely : Prop := guildStopsRow.holds Try.pinned (OpenSpec.ofChange guildStopsWrong)

/- THE SECOND FORM. 'bulk': how many values and letters a reading holds, each counted each time it is reached (what is shared counts as often as it is met; a slice's spare places count too). A statement '..UptoSaid' is the law's where the arguments, and the package variables that the reading takes, are together of bulk at most 1048576: NARROWER than '..Said'. Prove '..Said' where nothing that the law and all that it calls make is longer than what came in: it says more and counts as full. Else prove '..UptoSaid'. A law counts once. -/
mutual
def uptoBulk {H : Type} : DataW H → Nat
  | .lit (.string bytes) => bytes.length + 1
  | .lit _ => 1
  | .nil => 1
  | .ptr d => uptoBulk d + 1
  | .slice elems spare => uptoBulkAll elems + uptoBulkAll spare + 1
  | .agg parts => uptoBulkAll parts + 1
  | .iface _ d => uptoBulk d + 1
  | .map entries => uptoBulkEntries entries + 1
  | .held _ => 1
def uptoBulkAll {H : Type} : List (DataW H) → Nat
  | [] => 0
  | d :: r => uptoBulk d + uptoBulkAll r
def uptoBulkEntries {H : Type} : List (Lit × DataW H) → Nat
  | [] => 0
  | x :: r => uptoBulkEntry x + uptoBulkEntries r
def uptoBulkEntry {H : Type} : Lit × DataW H → Nat
  | (.string bytes, d) => bytes.length + uptoBulk d + 1
  | (_, d) => uptoBulk d + 1
 end
def uptoSmall : (H : Type) → List (DataW H) → Bool := fun _ ds => decide (uptoBulkAll ds ≤ 1048576)
def OpenSpec.upto (s : _root_.Go.ChangeSpec) : _root_.Go.OpenSpec := { _root_.Go.OpenSpec.ofChange s with cond := some uptoSmall }

/-- 'vergerslaw.DiskFence', WHERE WHAT IT READS IS OF BULK AT MOST 1048576: true; the input reads as it did. -/
def diskFenceUptoRow : OpenClaim := { program := "ytgcikokfgcpkfab", sum := "3aea7f0ccccacfe3c922d220674997de48f4fd5da4db96a621f8a58bb8a0f50a", func := "vergers/vergerslaw.DiskFence", spec := "diskFence", apart := false, narrowed := true }
def DiskFenceUptoSaid : Prop := diskFenceUptoRow.holds Try.pinned (OpenSpec.upto diskFenceSpec)

/-- 'vergerslaw.DiskKeeps', WHERE WHAT IT READS IS OF BULK AT MOST 1048576: true; the input reads as it did. -/
def diskKeepsUptoRow : OpenClaim := { program := "ytgcikokfgcpkfab", sum := "3aea7f0ccccacfe3c922d220674997de48f4fd5da4db96a621f8a58bb8a0f50a", func := "vergers/vergerslaw.DiskKeeps", spec := "diskKeeps", apart := false, narrowed := true }
def DiskKeepsUptoSaid : Prop := diskKeepsUptoRow.holds Try.pinned (OpenSpec.upto diskKeepsSpec)

/-- 'vergerslaw.NodeDoes', WHERE WHAT IT READS IS OF BULK AT MOST 1048576: true; the input reads as it did. -/
def nodeDoesUptoRow : OpenClaim := { program := "ytgcikokfgcpkfab", sum := "3aea7f0ccccacfe3c922d220674997de48f4fd5da4db96a621f8a58bb8a0f50a", func := "vergers/vergerslaw.NodeDoes", spec := "nodeDoes", apart := false, narrowed := true }
def NodeDoesUptoSaid : Prop := nodeDoesUptoRow.holds Try.pinned (OpenSpec.upto nodeDoesSpec)

/-- 'vergerslaw.NodeFenced', WHERE WHAT IT READS IS OF BULK AT MOST 1048576: true; the input reads as it did. -/
def nodeFencedUptoRow : OpenClaim := { program := "ytgcikokfgcpkfab", sum := "3aea7f0ccccacfe3c922d220674997de48f4fd5da4db96a621f8a58bb8a0f50a", func := "vergers/vergerslaw.NodeFenced", spec := "nodeFenced", apart := false, narrowed := true }
def NodeFencedUptoSaid : Prop := nodeFencedUptoRow.holds Try.pinned (OpenSpec.upto nodeFencedSpec)

/-- 'vergerslaw.NodeAgain', WHERE WHAT IT READS IS OF BULK AT MOST 1048576: true; the input reads as it did. -/
def nodeAgainUptoRow : OpenClaim := { program := "ytgcikokfgcpkfab", sum := "3aea7f0ccccacfe3c922d220674997de48f4fd5da4db96a621f8a58bb8a0f50a", func := "vergers/vergerslaw.NodeAgain", spec := "nodeAgain", apart := false, narrowed := true }
def NodeAgainUptoSaid : Prop := nodeAgainUptoRow.holds Try.pinned (OpenSpec.upto nodeAgainSpec)

/-- 'vergerslaw.NodeTears', WHERE WHAT IT READS IS OF BULK AT MOST 1048576: true; the input reads as it did. -/
def nodeTearsUptoRow : OpenClaim := { program := "ytgcikokfgcpkfab", sum := "3aea7f0ccccacfe3c922d220674997de48f4fd5da4db96a621f8a58bb8a0f50a", func := "vergers/vergerslaw.NodeTears", spec := "nodeTears", apart := false, narrowed := true }
def NodeTearsUptoSaid : Prop := nodeTearsUptoRow.holds Try.pinned (OpenSpec.upto nodeTearsSpec)

/-- 'vergerslaw.NodeAnswers', WHERE WHAT IT READS IS OF BULK AT MOST 1048576: true; the input reads as it did. -/
def nodeAnswersUptoRow : OpenClaim := { program := "ytgcikokfgcpkfab", sum := "3aea7f0ccccacfe3c922d220674997de48f4fd5da4db96a621f8a58bb8a0f50a", func := "vergers/vergerslaw.NodeAnswers", spec := "nodeAnswers", apart := false, narrowed := true }
def NodeAnswersUptoSaid : Prop := nodeAnswersUptoRow.holds Try.pinned (OpenSpec.upto nodeAnswersSpec)

/-- 'vergerslaw.GuildDoes', WHERE WHAT IT READS IS OF BULK AT MOST 1048576: true; the input reads as it did. -/
def guildDoesUptoRow : OpenClaim := { program := "ytgcikokfgcpkfab", sum := "3aea7f0ccccacfe3c922d220674997de48f4fd5da4db96a621f8a58bb8a0f50a", func := "vergers/vergerslaw.GuildDoes", spec := "guildDoes", apart := false, narrowed := true }
def GuildDoesUptoSaid : Prop := guildDoesUptoRow.holds Try.pinned (OpenSpec.upto guildDoesSpec)

/-- 'vergerslaw.GuildSerial', WHERE WHAT IT READS IS OF BULK AT MOST 1048576: true; the input reads as it did. -/
def guildSerialUptoRow : OpenClaim := { program := "ytgcikokfgcpkfab", sum := "3aea7f0ccccacfe3c922d220674997de48f4fd5da4db96a621f8a58bb8a0f50a", func := "vergers/vergerslaw.GuildSerial", spec := "guildSerial", apart := false, narrowed := true }
def GuildSerialUptoSaid : Prop := guildSerialUptoRow.holds Try.pinned (OpenSpec.upto guildSerialSpec)

/-- 'vergerslaw.GuildStays', WHERE WHAT IT READS IS OF BULK AT MOST 1048576: true; the input reads as it did. -/
def guildStaysUptoRow : OpenClaim := { program := "ytgcikokfgcpkfab", sum := "3aea7f0ccccacfe3c922d220674997de48f4fd5da4db96a621f8a58bb8a0f50a", func := "vergers/vergerslaw.GuildStays", spec := "guildStays", apart := false, narrowed := true }
def GuildStaysUptoSaid : Prop := guildStaysUptoRow.holds Try.pinned (OpenSpec.upto guildStaysSpec)

/-- 'vergerslaw.GuildTries', WHERE WHAT IT READS IS OF BULK AT MOST 1048576: true; the input reads as it did. -/
def guildTriesUptoRow : OpenClaim := { program := "ytgcikokfgcpkfab", sum := "3aea7f0ccccacfe3c922d220674997de48f4fd5da4db96a621f8a58bb8a0f50a", func := "vergers/vergerslaw.GuildTries", spec := "guildTries", apart := false, narrowed := true }
def GuildTriesUptoSaid : Prop := guildTriesUptoRow.holds Try.pinned (OpenSpec.upto guildTriesSpec)

/-- 'vergerslaw.GuildStops', WHERE WHAT IT READS IS OF BULK AT MOST 1048576: true; the input reads as it did. -/
def guildStopsUptoRow : OpenClaim := { program := "ytgcikokfgcpkfab", sum := "3aea7f0ccccacfe3c922d220674997de48f4fd5da4db96a621f8a58bb8a0f50a", func := "vergers/vergerslaw.GuildStops", spec := "guildStops", apart := false, narrowed := true }
def GuildStopsUptoSaid : Prop := guildStopsUptoRow.holds Try.pinned (OpenSpec.upto guildStopsSpec)

end Rows
end Go.Proofs.Ytgcikokfgcpkfab
