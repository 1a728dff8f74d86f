/-
  No cell of these rows narrows 'for every input' (looked for: loops, veiled, ifaces, maps, wideKeys, modest, calm, conditions, laid).
  DERIVED. THE GIVEN ROWS OF THIS SEAT. 4 by the template 'for every input the law returns true; each argument reads behind the call as it read before'; 0 by the template 'total and deterministic' (their statements: YtkflklfnianhoaaTotals.lean).
  GIVEN WITH THE SEED: the statements are not yours to turn. If you find one false, say at which input.
  Laid BY PROGRAM, IN A SANDBOX (cutbox-rows.mjs): the forced cells as the released guide's own fill.sh prints them over the translation 619dbd2631c3d7ba… (all of the seat's roots in one cut). By AI agents, Wed Nov 11 2026. No macro, syntax, notation, axiom, sorry.
-/
import Derived.Test.YtkflklfnianhoaaChecked
import GoSem.Claim
import GoSem.ClaimJoined
import GoSem.ClaimMapViews
import Derived.JoinedTies
import Derived.KernelRfl
namespace Go.Proofs.Ytkflklfnianhoaa
/- THE CELL 'sum', in the pinned program and in every row, IS THE sha256 OF THE DUMP (.gsa) THAT YtkflklfnianhoaaProg.lean LOADS. Nothing in Lean hashes anything: it is a label: what it is worth is what the hold of that sum in a sandbox is worth. -/
noncomputable def Try.pinned : Pinned := { name := "ytkflklfnianhoaa", sum := "619dbd2631c3d7bae72d57dcaf66b5f7f6952b56d55d54a2dd76751cc0e4f656", checked := Try.checked }
namespace Rows
def none {H : Type} : Left H := { results := [], args := [] }

/-- 'bullionlaw02.RatioParts': WHATEVER THE INPUT: true; the input reads as it did. -/
def ratioPartsSpec : ChangeSpec := { name := "ratioParts", fn := fun _ => fun
  | [d1, d2, d3] => { results := [.lit (.bool true)], args := [d1, d2, d3] }
  | _ => none }
def ratioPartsRow : OpenClaim := { program := "ytkflklfnianhoaa", sum := "619dbd2631c3d7bae72d57dcaf66b5f7f6952b56d55d54a2dd76751cc0e4f656", func := "bullion/bullionlaw02.RatioParts", spec := "ratioParts", named := ["math/bits.divideError", "math/bits.overflowError"], apart := false }
def RatioPartsSaid : Prop := ratioPartsRow.holds Try.pinned (OpenSpec.ofChange ratioPartsSpec)

/-- ITS FALSE NEIGHBOUR: 'it returns false'. Refute it at one input. -/
def ratioPartsWrong : ChangeSpec := { name := "ratioParts", fn := fun _ => fun
  | [d1, d2, d3] => { results := [.lit (.bool false)], args := [d1, d2, d3] }
  | _ => none }
def RatioPartsWrongFalsely : Prop := ratioPartsRow.holds Try.pinned (OpenSpec.ofChange ratioPartsWrong)

/-- 'bullionlaw02.RatioLess': WHATEVER THE INPUT: true; the input reads as it did. -/
def ratioLessSpec : ChangeSpec := { name := "ratioLess", fn := fun _ => fun
  | [d] => { results := [.lit (.bool true)], args := [d] }
  | _ => none }
def ratioLessRow : OpenClaim := { program := "ytkflklfnianhoaa", sum := "619dbd2631c3d7bae72d57dcaf66b5f7f6952b56d55d54a2dd76751cc0e4f656", func := "bullion/bullionlaw02.RatioLess", spec := "ratioLess", named := ["math/bits.divideError", "math/bits.overflowError"], apart := false }
def RatioLessSaid : Prop := ratioLessRow.holds Try.pinned (OpenSpec.ofChange ratioLessSpec)

/-- ITS FALSE NEIGHBOUR: 'it returns false'. Refute it at one input. -/
def ratioLessWrong : ChangeSpec := { name := "ratioLess", fn := fun _ => fun
  | [d] => { results := [.lit (.bool false)], args := [d] }
  | _ => none }
def RatioLessWrongFalsely : Prop := ratioLessRow.holds Try.pinned (OpenSpec.ofChange ratioLessWrong)

/-- 'bullionlaw02.RatioRises': WHATEVER THE INPUT: true; the input reads as it did. -/
def ratioRisesSpec : ChangeSpec := { name := "ratioRises", fn := fun _ => fun
  | [d1, d2, d3] => { results := [.lit (.bool true)], args := [d1, d2, d3] }
  | _ => none }
def ratioRisesRow : OpenClaim := { program := "ytkflklfnianhoaa", sum := "619dbd2631c3d7bae72d57dcaf66b5f7f6952b56d55d54a2dd76751cc0e4f656", func := "bullion/bullionlaw02.RatioRises", spec := "ratioRises", named := ["math/bits.divideError", "math/bits.overflowError"], apart := false }
def RatioRisesSaid : Prop := ratioRisesRow.holds Try.pinned (OpenSpec.ofChange ratioRisesSpec)

/-- ITS FALSE NEIGHBOUR: 'it returns false'. Refute it at one input. -/
def ratioRisesWrong : ChangeSpec := { name := "ratioRises", fn := fun _ => fun
  | [d1, d2, d3] => { results := [.lit (.bool false)], args := [d1, d2, d3] }
  | _ => none }
def RatioRisesWrongFalsely : Prop := ratioRisesRow.holds Try.pinned (OpenSpec.ofChange ratioRisesWrong)

/-- 'bullionlaw02.RatioThirds': WHATEVER THE INPUT: true; the input reads as it did. -/
def ratioThirdsSpec : ChangeSpec := { name := "ratioThirds", fn := fun _ => fun
  | [d1, d2] => { results := [.lit (.bool true)], args := [d1, d2] }
  | _ => none }
def ratioThirdsRow : OpenClaim := { program := "ytkflklfnianhoaa", sum := "619dbd2631c3d7bae72d57dcaf66b5f7f6952b56d55d54a2dd76751cc0e4f656", func := "bullion/bullionlaw02.RatioThirds", spec := "ratioThirds", named := ["math/bits.divideError", "math/bits.overflowError"], apart := false }
def RatioThirdsSaid : Prop := ratioThirdsRow.holds Try.pinned (OpenSpec.ofChange ratioThirdsSpec)

/-- ITS FALSE NEIGHBOUR: 'it returns false'. Refute it at one input. -/
def ratioThirdsWrong : ChangeSpec := { name := "ratioThirds", fn := fun _ => fun
  | [d1, d2] => { results := [.lit (.bool false)], args := [d1, d2] }
  | _ => none }
def RatioThirdsWrongFalsely : Prop := ratioThirdsRow.holds Try.pinned (OpenSpec.ofChange ratioThirdsWrong)

/- THE SECOND FORM. 'bulk': how many values and letters a reading holds, each counted each time it is reached (what is shared counts as often as it is met; a slice's spare places count too). A statement '..UptoSaid' is the law's where the arguments, and the package variables that the reading takes, are together of bulk at most 1048576: NARROWER than '..Said'. Prove '..Said' where nothing that the law and all that it calls make is longer than what came in: it says more and counts as full. Else prove '..UptoSaid'. A law counts once. -/
mutual
def uptoBulk {H : Type} : DataW H → Nat
  | .lit (.string bytes) => bytes.length + 1
  | .lit _ => 1
  | .nil => 1
  | .ptr d => uptoBulk d + 1
  | .slice elems spare => uptoBulkAll elems + uptoBulkAll spare + 1
  | .agg parts => uptoBulkAll parts + 1
  | .iface _ d => uptoBulk d + 1
  | .map entries => uptoBulkEntries entries + 1
  | .held _ => 1
def uptoBulkAll {H : Type} : List (DataW H) → Nat
  | [] => 0
  | d :: r => uptoBulk d + uptoBulkAll r
def uptoBulkEntries {H : Type} : List (Lit × DataW H) → Nat
  | [] => 0
  | x :: r => uptoBulkEntry x + uptoBulkEntries r
def uptoBulkEntry {H : Type} : Lit × DataW H → Nat
  | (.string bytes, d) => bytes.length + uptoBulk d + 1
  | (_, d) => uptoBulk d + 1
 end
def uptoSmall : (H : Type) → List (DataW H) → Bool := fun _ ds => decide (uptoBulkAll ds ≤ 1048576)
def OpenSpec.upto (s : _root_.Go.ChangeSpec) : _root_.Go.OpenSpec := { _root_.Go.OpenSpec.ofChange s with cond := some uptoSmall }

/-- 'bullionlaw02.RatioParts', WHERE WHAT IT READS IS OF BULK AT MOST 1048576: true; the input reads as it did. -/
def ratioPartsUptoRow : OpenClaim := { program := "ytkflklfnianhoaa", sum := "619dbd2631c3d7bae72d57dcaf66b5f7f6952b56d55d54a2dd76751cc0e4f656", func := "bullion/bullionlaw02.RatioParts", spec := "ratioParts", named := ["math/bits.divideError", "math/bits.overflowError"], apart := false, narrowed := true }
def RatioPartsUptoSaid : Prop := ratioPartsUptoRow.holds Try.pinned (OpenSpec.upto ratioPartsSpec)

/-- 'bullionlaw02.RatioLess', WHERE WHAT IT READS IS OF BULK AT MOST 1048576: true; the input reads as it did. -/
def ratioLessUptoRow : OpenClaim := { program := "ytkflklfnianhoaa", sum := "619dbd2631c3d7bae72d57dcaf66b5f7f6952b56d55d54a2dd76751cc0e4f656", func := "bullion/bullionlaw02.RatioLess", spec := "ratioLess", named := ["math/bits.divideError", "math/bits.overflowError"], apart := false, narrowed := true }
def RatioLessUptoSaid : Prop := ratioLessUptoRow.holds Try.pinned (OpenSpec.upto ratioLessSpec)

/-- 'bullionlaw02.RatioRises', WHERE WHAT IT READS IS OF BULK AT MOST 1048576: true; the input reads as it did. -/
def ratioRisesUptoRow : OpenClaim := { program := "ytkflklfnianhoaa", sum := "619dbd2631c3d7bae72d57dcaf66b5f7f6952b56d55d54a2dd76751cc0e4f656", func := "bullion/bullionlaw02.RatioRises", spec := "ratioRises", named := ["math/bits.divideError", "math/bits.overflowError"], apart := false, narrowed := true }
def RatioRisesUptoSaid : Prop := ratioRisesUptoRow.holds Try.pinned (OpenSpec.upto ratioRisesSpec)

/-- 'bullionlaw02.RatioThirds', WHERE WHAT IT READS IS OF BULK AT MOST 1048576: true; the input reads as it did. -/
def ratioThirdsUptoRow : OpenClaim := { program := "ytkflklfnianhoaa", sum := "619dbd2631c3d7bae72d57dcaf66b5f7f6952b56d55d54a2dd76751cc0e4f656", func := "bullion/bullionlaw02.RatioThirds", spec := "ratioThirds", named := ["math/bits.divideError", "math/bits.overflowError"], apart := false, narrowed := true }
def RatioThirdsUptoSaid : Prop := ratioThirdsUptoRow.holds Try.pinned (OpenSpec.upto ratioThirdsSpec)

end Rows
end Go.Proofs.Ytkflklfnianhoaa
