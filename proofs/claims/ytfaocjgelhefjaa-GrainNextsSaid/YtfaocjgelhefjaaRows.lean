/-
  No cell of these rows narrows 'for every input' (looked for: loops, veiled, ifaces, maps, wideKeys, modest, calm, conditions, laid).
  DERIVED. THE GIVEN ROWS OF THIS SEAT. 3 by the template 'for every input the law returns true; each argument reads behind the call as it read before'; 0 by the template 'total and deterministic' (their statements: YtfaocjgelhefjaaTotals.lean).
  GIVEN WITH THE SEED: the statements are not yours to turn. If you find one false, say at which input.
  Laid BY PROGRAM, IN A SANDBOX (cutbox-rows.mjs): the forced cells as the released guide's own fill.sh prints them over the translation eaf8d744d2a68b76… (all of the seat's roots in one cut). By AI agents, Wed Nov 11 2026. No macro, syntax, notation, axiom, sorry.
-/
import Derived.Test.YtfaocjgelhefjaaChecked
import GoSem.Claim
import GoSem.ClaimJoined
import GoSem.ClaimMapViews
import Derived.JoinedTies
import Derived.KernelRfl
namespace Go.Proofs.Ytfaocjgelhefjaa
/- THE CELL 'sum', in the pinned program and in every row, IS THE sha256 OF THE DUMP (.gsa) THAT YtfaocjgelhefjaaProg.lean LOADS. Nothing in Lean hashes anything: it is a label: what it is worth is what the hold of that sum in a sandbox is worth. -/
noncomputable def Try.pinned : Pinned := { name := "ytfaocjgelhefjaa", sum := "eaf8d744d2a68b76c572a2019424160ceca74bc1c04028186b918526f9c2db91", checked := Try.checked }
namespace Rows
def none {H : Type} : Left H := { results := [], args := [] }

/-- 'bullionlaw10.GrainNexts': WHATEVER THE INPUT: true; the input reads as it did. -/
def grainNextsSpec : ChangeSpec := { name := "grainNexts", fn := fun _ => fun
  | [d1, d2, d3] => { results := [.lit (.bool true)], args := [d1, d2, d3] }
  | _ => none }
def grainNextsRow : OpenClaim := { program := "ytfaocjgelhefjaa", sum := "eaf8d744d2a68b76c572a2019424160ceca74bc1c04028186b918526f9c2db91", func := "bullion/bullionlaw10.GrainNexts", spec := "grainNexts", apart := false }
def GrainNextsSaid : Prop := grainNextsRow.holds Try.pinned (OpenSpec.ofChange grainNextsSpec)

/-- ITS FALSE NEIGHBOUR: 'it returns false'. Refute it at one input. -/
def grainNextsWrong : ChangeSpec := { name := "grainNexts", fn := fun _ => fun
  | [d1, d2, d3] => { results := [.lit (.bool false)], args := [d1, d2, d3] }
  | _ => none }
def GrainNextsWrongFalsely : Prop := grainNextsRow.holds Try.pinned (OpenSpec.ofChange grainNextsWrong)

/-- 'bullionlaw10.GrainStays': WHATEVER THE INPUT: true; the input reads as it did. -/
def grainStaysSpec : ChangeSpec := { name := "grainStays", fn := fun _ => fun
  | [d1, d2, d3] => { results := [.lit (.bool true)], args := [d1, d2, d3] }
  | _ => none }
def grainStaysRow : OpenClaim := { program := "ytfaocjgelhefjaa", sum := "eaf8d744d2a68b76c572a2019424160ceca74bc1c04028186b918526f9c2db91", func := "bullion/bullionlaw10.GrainStays", spec := "grainStays", apart := false }
def GrainStaysSaid : Prop := grainStaysRow.holds Try.pinned (OpenSpec.ofChange grainStaysSpec)

/-- ITS FALSE NEIGHBOUR: 'it returns false'. Refute it at one input. -/
def grainStaysWrong : ChangeSpec := { name := "grainStays", fn := fun _ => fun
  | [d1, d2, d3] => { results := [.lit (.bool false)], args := [d1, d2, d3] }
  | _ => none }
def GrainStaysWrongFalsely : Prop := grainStaysRow.holds Try.pinned (OpenSpec.ofChange grainStaysWrong)

/-- 'bullionlaw10.GrainRises': WHATEVER THE INPUT: true; the input reads as it did. -/
def grainRisesSpec : ChangeSpec := { name := "grainRises", fn := fun _ => fun
  | [d1, d2, d3] => { results := [.lit (.bool true)], args := [d1, d2, d3] }
  | _ => none }
def grainRisesRow : OpenClaim := { program := "ytfaocjgelhefjaa", sum := "eaf8d744d2a68b76c572a2019424160ceca74bc1c04028186b918526f9c2db91", func := "bullion/bullionlaw10.GrainRises", spec := "grainRises", apart := false }
def GrainRisesSaid : Prop := grainRisesRow.holds Try.pinned (OpenSpec.ofChange grainRisesSpec)

/-- ITS FALSE NEIGHBOUR: 'it returns false'. Refute it at one input. -/
def grainRisesWrong : ChangeSpec := { name := "grainRises", fn := fun _ => fun
  | [d1, d2, d3] => { results := [.lit (.bool false)], args := [d1, d2, d3] }
  | _ => none }
def GrainRisesWrongFalsely : Prop := grainRisesRow.holds Try.pinned (OpenSpec.ofChange grainRisesWrong)

/- THE SECOND FORM. 'bulk': how many values and letters a reading holds, each counted each time it is reached (what is shared counts as often as it is met; a slice's spare places count too). A statement '..UptoSaid' is the law's where the arguments, and the package variables that the reading takes, are together of bulk at most 1048576: NARROWER than '..Said'. Prove '..Said' where nothing that the law and all that it calls make is longer than what came in: it says more and counts as full. Else prove '..UptoSaid'. A law counts once. -/
mutual
def uptoBulk {H : Type} : DataW H → Nat
  | .lit (.string bytes) => bytes.length + 1
  | .lit _ => 1
  | .nil => 1
  | .ptr d => uptoBulk d + 1
  | .slice elems spare => uptoBulkAll elems + uptoBulkAll spare + 1
  | .agg parts => uptoBulkAll parts + 1
  | .iface _ d => uptoBulk d + 1
  | .map entries => uptoBulkEntries entries + 1
  | .held _ => 1
def uptoBulkAll {H : Type} : List (DataW H) → Nat
  | [] => 0
  | d :: r => uptoBulk d + uptoBulkAll r
def uptoBulkEntries {H : Type} : List (Lit × DataW H) → Nat
  | [] => 0
  | x :: r => uptoBulkEntry x + uptoBulkEntries r
def uptoBulkEntry {H : Type} : Lit × DataW H → Nat
  | (.string bytes, d) => bytes.length + uptoBulk d + 1
  | (_, d) => uptoBulk d + 1
 end
def uptoSmall : (H : Type) → List (DataW H) → Bool := fun _ ds => decide (uptoBulkAll ds ≤ 1048576)
def OpenSpec.upto (s : _root_.Go.ChangeSpec) : _root_.Go.OpenSpec := { _root_.Go.OpenSpec.ofChange s with cond := some uptoSmall }

/-- 'bullionlaw10.GrainNexts', WHERE WHAT IT READS IS OF BULK AT MOST 1048576: true; the input reads as it did. -/
def grainNextsUptoRow : OpenClaim := { program := "ytfaocjgelhefjaa", sum := "eaf8d744d2a68b76c572a2019424160ceca74bc1c04028186b918526f9c2db91", func := "bullion/bullionlaw10.GrainNexts", spec := "grainNexts", apart := false, narrowed := true }
def GrainNextsUptoSaid : Prop := grainNextsUptoRow.holds Try.pinned (OpenSpec.upto grainNextsSpec)

/-- 'bullionlaw10.GrainStays', WHERE WHAT IT READS IS OF BULK AT MOST 1048576: true; the input reads as it did. -/
def grainStaysUptoRow : OpenClaim := { program := "ytfaocjgelhefjaa", sum := "eaf8d744d2a68b76c572a2019424160ceca74bc1c04028186b918526f9c2db91", func := "bullion/bullionlaw10.GrainStays", spec := "grainStays", apart := false, narrowed := true }
def GrainStaysUptoSaid : Prop := grainStaysUptoRow.holds Try.pinned (OpenSpec.upto grainStaysSpec)

/-- 'bullionlaw10.GrainRises', WHERE WHAT IT READS IS OF BULK AT MOST 1048576: true; the input reads as it did. -/
def grainRisesUptoRow : OpenClaim := { program := "ytfaocjgelhefjaa", sum := "eaf8d744d2a68b76c572a2019424160ceca74bc1c04028186b918526f9c2db91", func := "bullion/bullionlaw10.GrainRises", spec := "grainRises", apart := false, narrowed := true }
def GrainRisesUptoSaid : Prop := grainRisesUptoRow.holds Try.pinned (OpenSpec.upto grainRisesSpec)

end Rows
end Go.Proofs.Ytfaocjgelhefjaa
