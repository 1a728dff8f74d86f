/-
  No cell of these rows narrows 'for every input' (looked for: loops, veiled, ifaces, maps, wideKeys, modest, calm, conditions, laid).
  DERIVED. THE GIVEN ROWS OF THIS SEAT. 3 by the template 'for every input the law returns true; each argument reads behind the call as it read before'; 0 by the template 'total and deterministic' (their statements: YtfdjpaaahekkbaaTotals.lean).
  GIVEN WITH THE SEED: the statements are not yours to turn. If you find one false, say at which input.
  Laid BY PROGRAM, IN A SANDBOX (cutbox-rows.mjs): the forced cells as the released guide's own fill.sh prints them over the translation 7a5320fbe8a60fa9… (all of the seat's roots in one cut). By AI agents, Wed Nov 11 2026. No macro, syntax, notation, axiom, sorry.
-/
import Derived.Test.YtfdjpaaahekkbaaChecked
import GoSem.Claim
import GoSem.ClaimJoined
import GoSem.ClaimMapViews
import Derived.JoinedTies
import Derived.KernelRfl
namespace Go.Proofs.Ytfdjpaaahekkbaa
/- THE CELL 'sum', in the pinned program and in every row, IS THE sha256 OF THE DUMP (.gsa) THAT YtfdjpaaahekkbaaProg.lean LOADS. Nothing in Lean hashes anything: it is a label: what it is worth is what the hold of that sum in a sandbox is worth. -/
noncomputable def Try.pinned : Pinned := { name := "ytfdjpaaahekkbaa", sum := "7a5320fbe8a60fa90136a26560cad39246722f11404c5c8c668e327de5b87739", checked := Try.checked }
namespace Rows
def none {H : Type} : Left H := { results := [], args := [] }

/-- 'bullionlaw11.ScoreAfters': WHATEVER THE INPUT: true; the input reads as it did. -/
def scoreAftersSpec : ChangeSpec := { name := "scoreAfters", fn := fun _ => fun
  | [d1, d2, d3] => { results := [.lit (.bool true)], args := [d1, d2, d3] }
  | _ => none }
def scoreAftersRow : OpenClaim := { program := "ytfdjpaaahekkbaa", sum := "7a5320fbe8a60fa90136a26560cad39246722f11404c5c8c668e327de5b87739", func := "bullion/bullionlaw11.ScoreAfters", spec := "scoreAfters", apart := false }
def ScoreAftersSaid : Prop := scoreAftersRow.holds Try.pinned (OpenSpec.ofChange scoreAftersSpec)

/-- ITS FALSE NEIGHBOUR: 'it returns false'. Refute it at one input. -/
def scoreAftersWrong : ChangeSpec := { name := "scoreAfters", fn := fun _ => fun
  | [d1, d2, d3] => { results := [.lit (.bool false)], args := [d1, d2, d3] }
  | _ => none }
def ScoreAftersWrongFalsely : Prop := scoreAftersRow.holds Try.pinned (OpenSpec.ofChange scoreAftersWrong)

/-- 'bullionlaw11.ScoreMounts': WHATEVER THE INPUT: true; the input reads as it did. -/
def scoreMountsSpec : ChangeSpec := { name := "scoreMounts", fn := fun _ => fun
  | [d1, d2, d3] => { results := [.lit (.bool true)], args := [d1, d2, d3] }
  | _ => none }
def scoreMountsRow : OpenClaim := { program := "ytfdjpaaahekkbaa", sum := "7a5320fbe8a60fa90136a26560cad39246722f11404c5c8c668e327de5b87739", func := "bullion/bullionlaw11.ScoreMounts", spec := "scoreMounts", apart := false }
def ScoreMountsSaid : Prop := scoreMountsRow.holds Try.pinned (OpenSpec.ofChange scoreMountsSpec)

/-- ITS FALSE NEIGHBOUR: 'it returns false'. Refute it at one input. -/
def scoreMountsWrong : ChangeSpec := { name := "scoreMounts", fn := fun _ => fun
  | [d1, d2, d3] => { results := [.lit (.bool false)], args := [d1, d2, d3] }
  | _ => none }
def ScoreMountsWrongFalsely : Prop := scoreMountsRow.holds Try.pinned (OpenSpec.ofChange scoreMountsWrong)

/-- 'bullionlaw11.ScoreKeeps': WHATEVER THE INPUT: true; the input reads as it did. -/
def scoreKeepsSpec : ChangeSpec := { name := "scoreKeeps", fn := fun _ => fun
  | [d1, d2, d3] => { results := [.lit (.bool true)], args := [d1, d2, d3] }
  | _ => none }
def scoreKeepsRow : OpenClaim := { program := "ytfdjpaaahekkbaa", sum := "7a5320fbe8a60fa90136a26560cad39246722f11404c5c8c668e327de5b87739", func := "bullion/bullionlaw11.ScoreKeeps", spec := "scoreKeeps", apart := false }
def ScoreKeepsSaid : Prop := scoreKeepsRow.holds Try.pinned (OpenSpec.ofChange scoreKeepsSpec)

/-- ITS FALSE NEIGHBOUR: 'it returns false'. Refute it at one input. -/
def scoreKeepsWrong : ChangeSpec := { name := "scoreKeeps", fn := fun _ => fun
  | [d1, d2, d3] => { results := [.lit (.bool false)], args := [d1, d2, d3] }
  | _ => none }
def ScoreKeepsWrongFalsely : Prop := scoreKeepsRow.holds Try.pinned (OpenSpec.ofChange scoreKeepsWrong)

/- THE SECOND FORM. 'bulk': how many values and letters a reading holds, each counted each time it is reached (what is shared counts as often as it is met; a slice's spare places count too). A statement '..UptoSaid' is the law's where the arguments, and the package variables that the reading takes, are together of bulk at most 1048576: NARROWER than '..Said'. Prove '..Said' where nothing that the law and all that it calls make is longer than what came in: it says more and counts as full. Else prove '..UptoSaid'. A law counts once. -/
mutual
def uptoBulk {H : Type} : DataW H → Nat
  | .lit (.string bytes) => bytes.length + 1
  | .lit _ => 1
  | .nil => 1
  | .ptr d => uptoBulk d + 1
  | .slice elems spare => uptoBulkAll elems + uptoBulkAll spare + 1
  | .agg parts => uptoBulkAll parts + 1
  | .iface _ d => uptoBulk d + 1
  | .map entries => uptoBulkEntries entries + 1
  | .held _ => 1
def uptoBulkAll {H : Type} : List (DataW H) → Nat
  | [] => 0
  | d :: r => uptoBulk d + uptoBulkAll r
def uptoBulkEntries {H : Type} : List (Lit × DataW H) → Nat
  | [] => 0
  | x :: r => uptoBulkEntry x + uptoBulkEntries r
def uptoBulkEntry {H : Type} : Lit × DataW H → Nat
  | (.string bytes, d) => bytes.length + uptoBulk d + 1
  | (_, d) => uptoBulk d + 1
 end
def uptoSmall : (H : Type) → List (DataW H) → Bool := fun _ ds => decide (uptoBulkAll ds ≤ 1048576)
def OpenSpec.upto (s : _root_.Go.ChangeSpec) : _root_.Go.OpenSpec := { _root_.Go.OpenSpec.ofChange s with cond := some uptoSmall }

/-- 'bullionlaw11.ScoreAfters', WHERE WHAT IT READS IS OF BULK AT MOST 1048576: true; the input reads as it did. -/
def scoreAftersUptoRow : OpenClaim := { program := "ytfdjpaaahekkbaa", sum := "7a5320fbe8a60fa90136a26560cad39246722f11404c5c8c668e327de5b87739", func := "bullion/bullionlaw11.ScoreAfters", spec := "scoreAfters", apart := false, narrowed := true }
def ScoreAftersUptoSaid : Prop := scoreAftersUptoRow.holds Try.pinned (OpenSpec.upto scoreAftersSpec)

/-- 'bullionlaw11.ScoreMounts', WHERE WHAT IT READS IS OF BULK AT MOST 1048576: true; the input reads as it did. -/
def scoreMountsUptoRow : OpenClaim := { program := "ytfdjpaaahekkbaa", sum := "7a5320fbe8a60fa90136a26560cad39246722f11404c5c8c668e327de5b87739", func := "bullion/bullionlaw11.ScoreMounts", spec := "scoreMounts", apart := false, narrowed := true }
def ScoreMountsUptoSaid : Prop := scoreMountsUptoRow.holds Try.pinned (OpenSpec.upto scoreMountsSpec)

/-- 'bullionlaw11.ScoreKeeps', WHERE WHAT IT READS IS OF BULK AT MOST 1048576: true; the input reads as it did. -/
def scoreKeepsUptoRow : OpenClaim := { program := "ytfdjpaaahekkbaa", sum := "7a5320fbe8a60fa90136a26560cad39246722f11404c5c8c668e327de5b87739", func := "bullion/bullionlaw11.ScoreKeeps", spec := "scoreKeeps", apart := false, narrowed := true }
def ScoreKeepsUptoSaid : Prop := scoreKeepsUptoRow.holds Try.pinned (OpenSpec.upto scoreKeepsSpec)

end Rows
end Go.Proofs.Ytfdjpaaahekkbaa
