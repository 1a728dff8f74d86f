/-
  No cell of these rows narrows 'for every input' (looked for: loops, veiled, ifaces, maps, wideKeys, modest, calm, conditions, laid).
  DERIVED. THE GIVEN ROWS OF THIS SEAT. 5 by the template 'for every input the law returns true; each argument reads behind the call as it read before'; 0 by the template 'total and deterministic' (their statements: YtjgbpgdnmghcpaaTotals.lean).
  GIVEN WITH THE SEED: the statements are not yours to turn. If you find one false, say at which input.
  Laid BY PROGRAM, IN A SANDBOX (cutbox-rows.mjs): the forced cells as the released guide's own fill.sh prints them over the translation 799c37825f7dc975… (all of the seat's roots in one cut). By AI agents, Wed Nov 11 2026. No macro, syntax, notation, axiom, sorry.
-/
import Derived.Test.YtjgbpgdnmghcpaaChecked
import GoSem.Claim
import GoSem.ClaimJoined
import GoSem.ClaimMapViews
import Derived.JoinedTies
import Derived.KernelRfl
namespace Go.Proofs.Ytjgbpgdnmghcpaa
/- THE CELL 'sum', in the pinned program and in every row, IS THE sha256 OF THE DUMP (.gsa) THAT YtjgbpgdnmghcpaaProg.lean LOADS. Nothing in Lean hashes anything: it is a label: what it is worth is what the hold of that sum in a sandbox is worth. -/
noncomputable def Try.pinned : Pinned := { name := "ytjgbpgdnmghcpaa", sum := "799c37825f7dc975194a1cfea0a85a5602d1970149e4db87e786f09039313d2b", checked := Try.checked }
namespace Rows
def none {H : Type} : Left H := { results := [], args := [] }

/-- 'bullionlaw07.ParamChecks': WHATEVER THE INPUT: true; the input reads as it did. -/
def paramChecksSpec : ChangeSpec := { name := "paramChecks", fn := fun _ => fun
  | [d] => { results := [.lit (.bool true)], args := [d] }
  | _ => none }
def paramChecksRow : OpenClaim := { program := "ytjgbpgdnmghcpaa", sum := "799c37825f7dc975194a1cfea0a85a5602d1970149e4db87e786f09039313d2b", func := "bullion/bullionlaw07.ParamChecks", spec := "paramChecks", unfollowed := true, recurses := true, named := ["math/bits.divideError", "math/bits.overflowError"], apart := false }
def ParamChecksSaid : Prop := paramChecksRow.holds Try.pinned (OpenSpec.ofChange paramChecksSpec)

/-- ITS FALSE NEIGHBOUR: 'it returns false'. Refute it at one input. -/
def paramChecksWrong : ChangeSpec := { name := "paramChecks", fn := fun _ => fun
  | [d] => { results := [.lit (.bool false)], args := [d] }
  | _ => none }
def ParamChecksWrongFalsely : Prop := paramChecksRow.holds Try.pinned (OpenSpec.ofChange paramChecksWrong)

/-- 'bullionlaw07.ParamBounds': WHATEVER THE INPUT: true; the input reads as it did. -/
def paramBoundsSpec : ChangeSpec := { name := "paramBounds", fn := fun _ => fun
  | [d1, d2] => { results := [.lit (.bool true)], args := [d1, d2] }
  | _ => none }
def paramBoundsRow : OpenClaim := { program := "ytjgbpgdnmghcpaa", sum := "799c37825f7dc975194a1cfea0a85a5602d1970149e4db87e786f09039313d2b", func := "bullion/bullionlaw07.ParamBounds", spec := "paramBounds", unfollowed := true, recurses := true, named := ["math/bits.divideError", "math/bits.overflowError"], apart := false }
def ParamBoundsSaid : Prop := paramBoundsRow.holds Try.pinned (OpenSpec.ofChange paramBoundsSpec)

/-- ITS FALSE NEIGHBOUR: 'it returns false'. Refute it at one input. -/
def paramBoundsWrong : ChangeSpec := { name := "paramBounds", fn := fun _ => fun
  | [d1, d2] => { results := [.lit (.bool false)], args := [d1, d2] }
  | _ => none }
def ParamBoundsWrongFalsely : Prop := paramBoundsRow.holds Try.pinned (OpenSpec.ofChange paramBoundsWrong)

/-- 'bullionlaw07.ParamBytes': WHATEVER THE INPUT: true; the input reads as it did. -/
def paramBytesSpec : ChangeSpec := { name := "paramBytes", fn := fun _ => fun
  | [d1, d2] => { results := [.lit (.bool true)], args := [d1, d2] }
  | _ => none }
def paramBytesRow : OpenClaim := { program := "ytjgbpgdnmghcpaa", sum := "799c37825f7dc975194a1cfea0a85a5602d1970149e4db87e786f09039313d2b", func := "bullion/bullionlaw07.ParamBytes", spec := "paramBytes", unfollowed := true, recurses := true, named := ["math/bits.divideError", "math/bits.overflowError"], apart := false }
def ParamBytesSaid : Prop := paramBytesRow.holds Try.pinned (OpenSpec.ofChange paramBytesSpec)

/-- ITS FALSE NEIGHBOUR: 'it returns false'. Refute it at one input. -/
def paramBytesWrong : ChangeSpec := { name := "paramBytes", fn := fun _ => fun
  | [d1, d2] => { results := [.lit (.bool false)], args := [d1, d2] }
  | _ => none }
def ParamBytesWrongFalsely : Prop := paramBytesRow.holds Try.pinned (OpenSpec.ofChange paramBytesWrong)

/-- 'bullionlaw07.ParamLeaks': WHATEVER THE INPUT: true; the input reads as it did. -/
def paramLeaksSpec : ChangeSpec := { name := "paramLeaks", fn := fun _ => fun
  | [d] => { results := [.lit (.bool true)], args := [d] }
  | _ => none }
def paramLeaksRow : OpenClaim := { program := "ytjgbpgdnmghcpaa", sum := "799c37825f7dc975194a1cfea0a85a5602d1970149e4db87e786f09039313d2b", func := "bullion/bullionlaw07.ParamLeaks", spec := "paramLeaks", unfollowed := true, recurses := true, named := ["math/bits.divideError", "math/bits.overflowError"], apart := false }
def ParamLeaksSaid : Prop := paramLeaksRow.holds Try.pinned (OpenSpec.ofChange paramLeaksSpec)

/-- ITS FALSE NEIGHBOUR: 'it returns false'. Refute it at one input. -/
def paramLeaksWrong : ChangeSpec := { name := "paramLeaks", fn := fun _ => fun
  | [d] => { results := [.lit (.bool false)], args := [d] }
  | _ => none }
def ParamLeaksWrongFalsely : Prop := paramLeaksRow.holds Try.pinned (OpenSpec.ofChange paramLeaksWrong)

/-- 'bullionlaw07.ParamBack': WHATEVER THE INPUT: true; the input reads as it did. -/
def paramBackSpec : ChangeSpec := { name := "paramBack", fn := fun _ => fun
  | [d1, d2] => { results := [.lit (.bool true)], args := [d1, d2] }
  | _ => none }
def paramBackRow : OpenClaim := { program := "ytjgbpgdnmghcpaa", sum := "799c37825f7dc975194a1cfea0a85a5602d1970149e4db87e786f09039313d2b", func := "bullion/bullionlaw07.ParamBack", spec := "paramBack", unfollowed := true, recurses := true, named := ["math/bits.divideError", "math/bits.overflowError"], apart := false }
def ParamBackSaid : Prop := paramBackRow.holds Try.pinned (OpenSpec.ofChange paramBackSpec)

/-- ITS FALSE NEIGHBOUR: 'it returns false'. Refute it at one input. -/
def paramBackWrong : ChangeSpec := { name := "paramBack", fn := fun _ => fun
  | [d1, d2] => { results := [.lit (.bool false)], args := [d1, d2] }
  | _ => none }
def ParamBackWrongFalsely : Prop := paramBackRow.holds Try.pinned (OpenSpec.ofChange paramBackWrong)

/- THE SECOND FORM. 'bulk': how many values and letters a reading holds, each counted each time it is reached (what is shared counts as often as it is met; a slice's spare places count too). A statement '..UptoSaid' is the law's where the arguments, and the package variables that the reading takes, are together of bulk at most 1048576: NARROWER than '..Said'. Prove '..Said' where nothing that the law and all that it calls make is longer than what came in: it says more and counts as full. Else prove '..UptoSaid'. A law counts once. -/
mutual
def uptoBulk {H : Type} : DataW H → Nat
  | .lit (.string bytes) => bytes.length + 1
  | .lit _ => 1
  | .nil => 1
  | .ptr d => uptoBulk d + 1
  | .slice elems spare => uptoBulkAll elems + uptoBulkAll spare + 1
  | .agg parts => uptoBulkAll parts + 1
  | .iface _ d => uptoBulk d + 1
  | .map entries => uptoBulkEntries entries + 1
  | .held _ => 1
def uptoBulkAll {H : Type} : List (DataW H) → Nat
  | [] => 0
  | d :: r => uptoBulk d + uptoBulkAll r
def uptoBulkEntries {H : Type} : List (Lit × DataW H) → Nat
  | [] => 0
  | x :: r => uptoBulkEntry x + uptoBulkEntries r
def uptoBulkEntry {H : Type} : Lit × DataW H → Nat
  | (.string bytes, d) => bytes.length + uptoBulk d + 1
  | (_, d) => uptoBulk d + 1
 end
def uptoSmall : (H : Type) → List (DataW H) → Bool := fun _ ds => decide (uptoBulkAll ds ≤ 1048576)
def OpenSpec.upto (s : _root_.Go.ChangeSpec) : _root_.Go.OpenSpec := { _root_.Go.OpenSpec.ofChange s with cond := some uptoSmall }

/-- 'bullionlaw07.ParamChecks', WHERE WHAT IT READS IS OF BULK AT MOST 1048576: true; the input reads as it did. -/
def paramChecksUptoRow : OpenClaim := { program := "ytjgbpgdnmghcpaa", sum := "799c37825f7dc975194a1cfea0a85a5602d1970149e4db87e786f09039313d2b", func := "bullion/bullionlaw07.ParamChecks", spec := "paramChecks", unfollowed := true, recurses := true, named := ["math/bits.divideError", "math/bits.overflowError"], apart := false, narrowed := true }
def ParamChecksUptoSaid : Prop := paramChecksUptoRow.holds Try.pinned (OpenSpec.upto paramChecksSpec)

/-- 'bullionlaw07.ParamBounds', WHERE WHAT IT READS IS OF BULK AT MOST 1048576: true; the input reads as it did. -/
def paramBoundsUptoRow : OpenClaim := { program := "ytjgbpgdnmghcpaa", sum := "799c37825f7dc975194a1cfea0a85a5602d1970149e4db87e786f09039313d2b", func := "bullion/bullionlaw07.ParamBounds", spec := "paramBounds", unfollowed := true, recurses := true, named := ["math/bits.divideError", "math/bits.overflowError"], apart := false, narrowed := true }
def ParamBoundsUptoSaid : Prop := paramBoundsUptoRow.holds Try.pinned (OpenSpec.upto paramBoundsSpec)

/-- 'bullionlaw07.ParamBytes', WHERE WHAT IT READS IS OF BULK AT MOST 1048576: true; the input reads as it did. -/
def paramBytesUptoRow : OpenClaim := { program := "ytjgbpgdnmghcpaa", sum := "799c37825f7dc975194a1cfea0a85a5602d1970149e4db87e786f09039313d2b", func := "bullion/bullionlaw07.ParamBytes", spec := "paramBytes", unfollowed := true, recurses := true, named := ["math/bits.divideError", "math/bits.overflowError"], apart := false, narrowed := true }
def ParamBytesUptoSaid : Prop := paramBytesUptoRow.holds Try.pinned (OpenSpec.upto paramBytesSpec)

/-- 'bullionlaw07.ParamLeaks', WHERE WHAT IT READS IS OF BULK AT MOST 1048576: true; the input reads as it did. -/
def paramLeaksUptoRow : OpenClaim := { program := "ytjgbpgdnmghcpaa", sum := "799c37825f7dc975194a1cfea0a85a5602d1970149e4db87e786f09039313d2b", func := "bullion/bullionlaw07.ParamLeaks", spec := "paramLeaks", unfollowed := true, recurses := true, named := ["math/bits.divideError", "math/bits.overflowError"], apart := false, narrowed := true }
def ParamLeaksUptoSaid : Prop := paramLeaksUptoRow.holds Try.pinned (OpenSpec.upto paramLeaksSpec)

/-- 'bullionlaw07.ParamBack', WHERE WHAT IT READS IS OF BULK AT MOST 1048576: true; the input reads as it did. -/
def paramBackUptoRow : OpenClaim := { program := "ytjgbpgdnmghcpaa", sum := "799c37825f7dc975194a1cfea0a85a5602d1970149e4db87e786f09039313d2b", func := "bullion/bullionlaw07.ParamBack", spec := "paramBack", unfollowed := true, recurses := true, named := ["math/bits.divideError", "math/bits.overflowError"], apart := false, narrowed := true }
def ParamBackUptoSaid : Prop := paramBackUptoRow.holds Try.pinned (OpenSpec.upto paramBackSpec)

end Rows
end Go.Proofs.Ytjgbpgdnmghcpaa
