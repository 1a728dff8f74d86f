/-
  No cell of these rows narrows 'for every input' (looked for: loops, veiled, ifaces, maps, wideKeys, modest, calm, conditions, laid).
  DERIVED. THE GIVEN ROWS OF THIS SEAT. 4 by the template 'for every input the law returns true; each argument reads behind the call as it read before'; 0 by the template 'total and deterministic' (their statements: YtklempnebhcoiaaTotals.lean).
  GIVEN WITH THE SEED: the statements are not yours to turn. If you find one false, say at which input.
  Laid BY PROGRAM, IN A SANDBOX (cutbox-rows.mjs): the forced cells as the released guide's own fill.sh prints them over the translation 0ca487198cc54cbe… (all of the seat's roots in one cut). By AI agents, Wed Nov 11 2026. No macro, syntax, notation, axiom, sorry.
-/
import Derived.Test.YtklempnebhcoiaaChecked
import GoSem.Claim
import GoSem.ClaimJoined
import GoSem.ClaimMapViews
import Derived.JoinedTies
import Derived.KernelRfl
namespace Go.Proofs.Ytklempnebhcoiaa
/- THE CELL 'sum', in the pinned program and in every row, IS THE sha256 OF THE DUMP (.gsa) THAT YtklempnebhcoiaaProg.lean LOADS. Nothing in Lean hashes anything: it is a label: what it is worth is what the hold of that sum in a sandbox is worth. -/
noncomputable def Try.pinned : Pinned := { name := "ytklempnebhcoiaa", sum := "0ca487198cc54cbe7fee2d42d89807989e964673e3500961a378a9715da5b6d5", checked := Try.checked }
namespace Rows
def none {H : Type} : Left H := { results := [], args := [] }

/-- 'bullionlaw15.FineTakes': WHATEVER THE INPUT: true; the input reads as it did. -/
def fineTakesSpec : ChangeSpec := { name := "fineTakes", fn := fun _ => fun
  | [d1, d2, d3] => { results := [.lit (.bool true)], args := [d1, d2, d3] }
  | _ => none }
def fineTakesRow : OpenClaim := { program := "ytklempnebhcoiaa", sum := "0ca487198cc54cbe7fee2d42d89807989e964673e3500961a378a9715da5b6d5", func := "bullion/bullionlaw15.FineTakes", spec := "fineTakes", named := ["math/bits.divideError", "math/bits.overflowError"], apart := false }
def FineTakesSaid : Prop := fineTakesRow.holds Try.pinned (OpenSpec.ofChange fineTakesSpec)

/-- ITS FALSE NEIGHBOUR: 'it returns false'. Refute it at one input. -/
def fineTakesWrong : ChangeSpec := { name := "fineTakes", fn := fun _ => fun
  | [d1, d2, d3] => { results := [.lit (.bool false)], args := [d1, d2, d3] }
  | _ => none }
def FineTakesWrongFalsely : Prop := fineTakesRow.holds Try.pinned (OpenSpec.ofChange fineTakesWrong)

/-- 'bullionlaw15.FineSplits': WHATEVER THE INPUT: true; the input reads as it did. -/
def fineSplitsSpec : ChangeSpec := { name := "fineSplits", fn := fun _ => fun
  | [d1, d2] => { results := [.lit (.bool true)], args := [d1, d2] }
  | _ => none }
def fineSplitsRow : OpenClaim := { program := "ytklempnebhcoiaa", sum := "0ca487198cc54cbe7fee2d42d89807989e964673e3500961a378a9715da5b6d5", func := "bullion/bullionlaw15.FineSplits", spec := "fineSplits", named := ["math/bits.divideError", "math/bits.overflowError"], apart := false }
def FineSplitsSaid : Prop := fineSplitsRow.holds Try.pinned (OpenSpec.ofChange fineSplitsSpec)

/-- ITS FALSE NEIGHBOUR: 'it returns false'. Refute it at one input. -/
def fineSplitsWrong : ChangeSpec := { name := "fineSplits", fn := fun _ => fun
  | [d1, d2] => { results := [.lit (.bool false)], args := [d1, d2] }
  | _ => none }
def FineSplitsWrongFalsely : Prop := fineSplitsRow.holds Try.pinned (OpenSpec.ofChange fineSplitsWrong)

/-- 'bullionlaw15.FineLeast': WHATEVER THE INPUT: true; the input reads as it did. -/
def fineLeastSpec : ChangeSpec := { name := "fineLeast", fn := fun _ => fun
  | [d1, d2, d3] => { results := [.lit (.bool true)], args := [d1, d2, d3] }
  | _ => none }
def fineLeastRow : OpenClaim := { program := "ytklempnebhcoiaa", sum := "0ca487198cc54cbe7fee2d42d89807989e964673e3500961a378a9715da5b6d5", func := "bullion/bullionlaw15.FineLeast", spec := "fineLeast", named := ["math/bits.divideError", "math/bits.overflowError"], apart := false }
def FineLeastSaid : Prop := fineLeastRow.holds Try.pinned (OpenSpec.ofChange fineLeastSpec)

/-- ITS FALSE NEIGHBOUR: 'it returns false'. Refute it at one input. -/
def fineLeastWrong : ChangeSpec := { name := "fineLeast", fn := fun _ => fun
  | [d1, d2, d3] => { results := [.lit (.bool false)], args := [d1, d2, d3] }
  | _ => none }
def FineLeastWrongFalsely : Prop := fineLeastRow.holds Try.pinned (OpenSpec.ofChange fineLeastWrong)

/-- 'bullionlaw15.FineDrains': WHATEVER THE INPUT: true; the input reads as it did. -/
def fineDrainsSpec : ChangeSpec := { name := "fineDrains", fn := fun _ => fun
  | [d1, d2] => { results := [.lit (.bool true)], args := [d1, d2] }
  | _ => none }
def fineDrainsRow : OpenClaim := { program := "ytklempnebhcoiaa", sum := "0ca487198cc54cbe7fee2d42d89807989e964673e3500961a378a9715da5b6d5", func := "bullion/bullionlaw15.FineDrains", spec := "fineDrains", unfollowed := true, recurses := true, named := ["math/bits.divideError", "math/bits.overflowError"], apart := false }
def FineDrainsSaid : Prop := fineDrainsRow.holds Try.pinned (OpenSpec.ofChange fineDrainsSpec)

/-- ITS FALSE NEIGHBOUR: 'it returns false'. Refute it at one input. -/
def fineDrainsWrong : ChangeSpec := { name := "fineDrains", fn := fun _ => fun
  | [d1, d2] => { results := [.lit (.bool false)], args := [d1, d2] }
  | _ => none }
def FineDrainsWrongFalsely : Prop := fineDrainsRow.holds Try.pinned (OpenSpec.ofChange fineDrainsWrong)

/- THE SECOND FORM. 'bulk': how many values and letters a reading holds, each counted each time it is reached (what is shared counts as often as it is met; a slice's spare places count too). A statement '..UptoSaid' is the law's where the arguments, and the package variables that the reading takes, are together of bulk at most 1048576: NARROWER than '..Said'. Prove '..Said' where nothing that the law and all that it calls make is longer than what came in: it says more and counts as full. Else prove '..UptoSaid'. A law counts once. -/
mutual
def uptoBulk {H : Type} : DataW H → Nat
  | .lit (.string bytes) => bytes.length + 1
  | .lit _ => 1
  | .nil => 1
  | .ptr d => uptoBulk d + 1
  | .slice elems spare => uptoBulkAll elems + uptoBulkAll spare + 1
  | .agg parts => uptoBulkAll parts + 1
  | .iface _ d => uptoBulk d + 1
  | .map entries => uptoBulkEntries entries + 1
  | .held _ => 1
def uptoBulkAll {H : Type} : List (DataW H) → Nat
  | [] => 0
  | d :: r => uptoBulk d + uptoBulkAll r
def uptoBulkEntries {H : Type} : List (Lit × DataW H) → Nat
  | [] => 0
  | x :: r => uptoBulkEntry x + uptoBulkEntries r
def uptoBulkEntry {H : Type} : Lit × DataW H → Nat
  | (.string bytes, d) => bytes.length + uptoBulk d + 1
  | (_, d) => uptoBulk d + 1
 end
def uptoSmall : (H : Type) → List (DataW H) → Bool := fun _ ds => decide (uptoBulkAll ds ≤ 1048576)
def OpenSpec.upto (s : _root_.Go.ChangeSpec) : _root_.Go.OpenSpec := { _root_.Go.OpenSpec.ofChange s with cond := some uptoSmall }

/-- 'bullionlaw15.FineTakes', WHERE WHAT IT READS IS OF BULK AT MOST 1048576: true; the input reads as it did. -/
def fineTakesUptoRow : OpenClaim := { program := "ytklempnebhcoiaa", sum := "0ca487198cc54cbe7fee2d42d89807989e964673e3500961a378a9715da5b6d5", func := "bullion/bullionlaw15.FineTakes", spec := "fineTakes", named := ["math/bits.divideError", "math/bits.overflowError"], apart := false, narrowed := true }
def FineTakesUptoSaid : Prop := fineTakesUptoRow.holds Try.pinned (OpenSpec.upto fineTakesSpec)

/-- 'bullionlaw15.FineSplits', WHERE WHAT IT READS IS OF BULK AT MOST 1048576: true; the input reads as it did. -/
def fineSplitsUptoRow : OpenClaim := { program := "ytklempnebhcoiaa", sum := "0ca487198cc54cbe7fee2d42d89807989e964673e3500961a378a9715da5b6d5", func := "bullion/bullionlaw15.FineSplits", spec := "fineSplits", named := ["math/bits.divideError", "math/bits.overflowError"], apart := false, narrowed := true }
def FineSplitsUptoSaid : Prop := fineSplitsUptoRow.holds Try.pinned (OpenSpec.upto fineSplitsSpec)

/-- 'bullionlaw15.FineLeast', WHERE WHAT IT READS IS OF BULK AT MOST 1048576: true; the input reads as it did. -/
def fineLeastUptoRow : OpenClaim := { program := "ytklempnebhcoiaa", sum := "0ca487198cc54cbe7fee2d42d89807989e964673e3500961a378a9715da5b6d5", func := "bullion/bullionlaw15.FineLeast", spec := "fineLeast", named := ["math/bits.divideError", "math/bits.overflowError"], apart := false, narrowed := true }
def FineLeastUptoSaid : Prop := fineLeastUptoRow.holds Try.pinned (OpenSpec.upto fineLeastSpec)

/-- 'bullionlaw15.FineDrains', WHERE WHAT IT READS IS OF BULK AT MOST 1048576: true; the input reads as it did. -/
def fineDrainsUptoRow : OpenClaim := { program := "ytklempnebhcoiaa", sum := "0ca487198cc54cbe7fee2d42d89807989e964673e3500961a378a9715da5b6d5", func := "bullion/bullionlaw15.FineDrains", spec := "fineDrains", unfollowed := true, recurses := true, named := ["math/bits.divideError", "math/bits.overflowError"], apart := false, narrowed := true }
def FineDrainsUptoSaid : Prop := fineDrainsUptoRow.holds Try.pinned (OpenSpec.upto fineDrainsSpec)

end Rows
end Go.Proofs.Ytklempnebhcoiaa
