/-
  No cell of these rows narrows 'for every input' (looked for: loops, veiled, ifaces, maps, wideKeys, modest, calm, conditions, laid).
  DERIVED. THE GIVEN ROWS OF THIS SEAT. 2 by the template 'for every input the law returns true; each argument reads behind the call as it read before'; 0 by the template 'total and deterministic' (their statements: YtoaeckfppoaljaaTotals.lean).
  GIVEN WITH THE SEED: the statements are not yours to turn. If you find one false, say at which input.
  Laid BY PROGRAM, IN A SANDBOX (cutbox-rows.mjs): the forced cells as the released guide's own fill.sh prints them over the translation 01cc760dc99d8064… (all of the seat's roots in one cut). By AI agents, Wed Nov 11 2026. No macro, syntax, notation, axiom, sorry.
-/
import Derived.Test.YtoaeckfppoaljaaChecked
import GoSem.Claim
import GoSem.ClaimJoined
import GoSem.ClaimMapViews
import Derived.JoinedTies
import Derived.KernelRfl
namespace Go.Proofs.Ytoaeckfppoaljaa
/- THE CELL 'sum', in the pinned program and in every row, IS THE sha256 OF THE DUMP (.gsa) THAT YtoaeckfppoaljaaProg.lean LOADS. Nothing in Lean hashes anything: it is a label: what it is worth is what the hold of that sum in a sandbox is worth. -/
noncomputable def Try.pinned : Pinned := { name := "ytoaeckfppoaljaa", sum := "01cc760dc99d8064e08b21bc11a62a181376d1a7f7b7b0283a13185c7dbaa5af", checked := Try.checked }
namespace Rows
def none {H : Type} : Left H := { results := [], args := [] }

/-- 'bullionlaw21.SupplyParts': WHATEVER THE INPUT: true; the input reads as it did. -/
def supplyPartsSpec : ChangeSpec := { name := "supplyParts", fn := fun _ => fun
  | [d] => { results := [.lit (.bool true)], args := [d] }
  | _ => none }
def supplyPartsRow : OpenClaim := { program := "ytoaeckfppoaljaa", sum := "01cc760dc99d8064e08b21bc11a62a181376d1a7f7b7b0283a13185c7dbaa5af", func := "bullion/bullionlaw21.SupplyParts", spec := "supplyParts", unfollowed := true, recurses := true, apart := false }
def SupplyPartsSaid : Prop := supplyPartsRow.holds Try.pinned (OpenSpec.ofChange supplyPartsSpec)

/-- ITS FALSE NEIGHBOUR: 'it returns false'. Refute it at one input. -/
def supplyPartsWrong : ChangeSpec := { name := "supplyParts", fn := fun _ => fun
  | [d] => { results := [.lit (.bool false)], args := [d] }
  | _ => none }
def SupplyPartsWrongFalsely : Prop := supplyPartsRow.holds Try.pinned (OpenSpec.ofChange supplyPartsWrong)

/-- 'bullionlaw21.SupplyHolds': WHATEVER THE INPUT: true; the input reads as it did. -/
def supplyHoldsSpec : ChangeSpec := { name := "supplyHolds", fn := fun _ => fun
  | [d1, d2] => { results := [.lit (.bool true)], args := [d1, d2] }
  | _ => none }
def supplyHoldsRow : OpenClaim := { program := "ytoaeckfppoaljaa", sum := "01cc760dc99d8064e08b21bc11a62a181376d1a7f7b7b0283a13185c7dbaa5af", func := "bullion/bullionlaw21.SupplyHolds", spec := "supplyHolds", unfollowed := true, recurses := true, apart := false }
def SupplyHoldsSaid : Prop := supplyHoldsRow.holds Try.pinned (OpenSpec.ofChange supplyHoldsSpec)

/-- ITS FALSE NEIGHBOUR: 'it returns false'. Refute it at one input. -/
def supplyHoldsWrong : ChangeSpec := { name := "supplyHolds", fn := fun _ => fun
  | [d1, d2] => { results := [.lit (.bool false)], args := [d1, d2] }
  | _ => none }
def SupplyHoldsWrongFalsely : Prop := supplyHoldsRow.holds Try.pinned (OpenSpec.ofChange supplyHoldsWrong)

/- THE SECOND FORM. 'bulk': how many values and letters a reading holds, each counted each time it is reached (what is shared counts as often as it is met; a slice's spare places count too). A statement '..UptoSaid' is the law's where the arguments, and the package variables that the reading takes, are together of bulk at most 1048576: NARROWER than '..Said'. Prove '..Said' where nothing that the law and all that it calls make is longer than what came in: it says more and counts as full. Else prove '..UptoSaid'. A law counts once. -/
mutual
def uptoBulk {H : Type} : DataW H → Nat
  | .lit (.string bytes) => bytes.length + 1
  | .lit _ => 1
  | .nil => 1
  | .ptr d => uptoBulk d + 1
  | .slice elems spare => uptoBulkAll elems + uptoBulkAll spare + 1
  | .agg parts => uptoBulkAll parts + 1
  | .iface _ d => uptoBulk d + 1
  | .map entries => uptoBulkEntries entries + 1
  | .held _ => 1
def uptoBulkAll {H : Type} : List (DataW H) → Nat
  | [] => 0
  | d :: r => uptoBulk d + uptoBulkAll r
def uptoBulkEntries {H : Type} : List (Lit × DataW H) → Nat
  | [] => 0
  | x :: r => uptoBulkEntry x + uptoBulkEntries r
def uptoBulkEntry {H : Type} : Lit × DataW H → Nat
  | (.string bytes, d) => bytes.length + uptoBulk d + 1
  | (_, d) => uptoBulk d + 1
 end
def uptoSmall : (H : Type) → List (DataW H) → Bool := fun _ ds => decide (uptoBulkAll ds ≤ 1048576)
def OpenSpec.upto (s : _root_.Go.ChangeSpec) : _root_.Go.OpenSpec := { _root_.Go.OpenSpec.ofChange s with cond := some uptoSmall }

/-- 'bullionlaw21.SupplyParts', WHERE WHAT IT READS IS OF BULK AT MOST 1048576: true; the input reads as it did. -/
def supplyPartsUptoRow : OpenClaim := { program := "ytoaeckfppoaljaa", sum := "01cc760dc99d8064e08b21bc11a62a181376d1a7f7b7b0283a13185c7dbaa5af", func := "bullion/bullionlaw21.SupplyParts", spec := "supplyParts", unfollowed := true, recurses := true, apart := false, narrowed := true }
def SupplyPartsUptoSaid : Prop := supplyPartsUptoRow.holds Try.pinned (OpenSpec.upto supplyPartsSpec)

/-- 'bullionlaw21.SupplyHolds', WHERE WHAT IT READS IS OF BULK AT MOST 1048576: true; the input reads as it did. -/
def supplyHoldsUptoRow : OpenClaim := { program := "ytoaeckfppoaljaa", sum := "01cc760dc99d8064e08b21bc11a62a181376d1a7f7b7b0283a13185c7dbaa5af", func := "bullion/bullionlaw21.SupplyHolds", spec := "supplyHolds", unfollowed := true, recurses := true, apart := false, narrowed := true }
def SupplyHoldsUptoSaid : Prop := supplyHoldsUptoRow.holds Try.pinned (OpenSpec.upto supplyHoldsSpec)

end Rows
end Go.Proofs.Ytoaeckfppoaljaa
