/-
  No cell of these rows narrows 'for every input' (looked for: loops, veiled, ifaces, maps, wideKeys, modest, calm, conditions, laid).
  DERIVED. THE GIVEN ROWS OF THIS SEAT. 2 by the template 'for every input the law returns true; each argument reads behind the call as it read before'; 0 by the template 'total and deterministic' (their statements: YtfmmcklggnflkaaTotals.lean).
  GIVEN WITH THE SEED: the statements are not yours to turn. If you find one false, say at which input.
  Laid BY PROGRAM, IN A SANDBOX (cutbox-rows.mjs): the forced cells as the released guide's own fill.sh prints them over the translation fa887dcadf4586d2… (all of the seat's roots in one cut). By AI agents, Wed Nov 11 2026. No macro, syntax, notation, axiom, sorry.
-/
import Derived.Test.YtfmmcklggnflkaaChecked
import GoSem.Claim
import GoSem.ClaimJoined
import GoSem.ClaimMapViews
import Derived.JoinedTies
import Derived.KernelRfl
namespace Go.Proofs.Ytfmmcklggnflkaa
/- THE CELL 'sum', in the pinned program and in every row, IS THE sha256 OF THE DUMP (.gsa) THAT YtfmmcklggnflkaaProg.lean LOADS. Nothing in Lean hashes anything: it is a label: what it is worth is what the hold of that sum in a sandbox is worth. -/
noncomputable def Try.pinned : Pinned := { name := "ytfmmcklggnflkaa", sum := "fa887dcadf4586d2a1e88273c7a9f3313f7973670a0b343478f1a83fb7ce9dc3", checked := Try.checked }
namespace Rows
def none {H : Type} : Left H := { results := [], args := [] }

/-- 'bullionlaw19.MemberStakes': WHATEVER THE INPUT: true; the input reads as it did. -/
def memberStakesSpec : ChangeSpec := { name := "memberStakes", fn := fun _ => fun
  | [d1, d2] => { results := [.lit (.bool true)], args := [d1, d2] }
  | _ => none }
def memberStakesRow : OpenClaim := { program := "ytfmmcklggnflkaa", sum := "fa887dcadf4586d2a1e88273c7a9f3313f7973670a0b343478f1a83fb7ce9dc3", func := "bullion/bullionlaw19.MemberStakes", spec := "memberStakes", apart := false }
def MemberStakesSaid : Prop := memberStakesRow.holds Try.pinned (OpenSpec.ofChange memberStakesSpec)

/-- ITS FALSE NEIGHBOUR: 'it returns false'. Refute it at one input. -/
def memberStakesWrong : ChangeSpec := { name := "memberStakes", fn := fun _ => fun
  | [d1, d2] => { results := [.lit (.bool false)], args := [d1, d2] }
  | _ => none }
def MemberStakesWrongFalsely : Prop := memberStakesRow.holds Try.pinned (OpenSpec.ofChange memberStakesWrong)

/-- 'bullionlaw19.MemberFits': WHATEVER THE INPUT: true; the input reads as it did. -/
def memberFitsSpec : ChangeSpec := { name := "memberFits", fn := fun _ => fun
  | [d1, d2, d3] => { results := [.lit (.bool true)], args := [d1, d2, d3] }
  | _ => none }
def memberFitsRow : OpenClaim := { program := "ytfmmcklggnflkaa", sum := "fa887dcadf4586d2a1e88273c7a9f3313f7973670a0b343478f1a83fb7ce9dc3", func := "bullion/bullionlaw19.MemberFits", spec := "memberFits", apart := false }
def MemberFitsSaid : Prop := memberFitsRow.holds Try.pinned (OpenSpec.ofChange memberFitsSpec)

/-- ITS FALSE NEIGHBOUR: 'it returns false'. Refute it at one input. -/
def memberFitsWrong : ChangeSpec := { name := "memberFits", fn := fun _ => fun
  | [d1, d2, d3] => { results := [.lit (.bool false)], args := [d1, d2, d3] }
  | _ => none }
def MemberFitsWrongFalsely : Prop := memberFitsRow.holds Try.pinned (OpenSpec.ofChange memberFitsWrong)

/- THE SECOND FORM. 'bulk': how many values and letters a reading holds, each counted each time it is reached (what is shared counts as often as it is met; a slice's spare places count too). A statement '..UptoSaid' is the law's where the arguments, and the package variables that the reading takes, are together of bulk at most 1048576: NARROWER than '..Said'. Prove '..Said' where nothing that the law and all that it calls make is longer than what came in: it says more and counts as full. Else prove '..UptoSaid'. A law counts once. -/
mutual
def uptoBulk {H : Type} : DataW H → Nat
  | .lit (.string bytes) => bytes.length + 1
  | .lit _ => 1
  | .nil => 1
  | .ptr d => uptoBulk d + 1
  | .slice elems spare => uptoBulkAll elems + uptoBulkAll spare + 1
  | .agg parts => uptoBulkAll parts + 1
  | .iface _ d => uptoBulk d + 1
  | .map entries => uptoBulkEntries entries + 1
  | .held _ => 1
def uptoBulkAll {H : Type} : List (DataW H) → Nat
  | [] => 0
  | d :: r => uptoBulk d + uptoBulkAll r
def uptoBulkEntries {H : Type} : List (Lit × DataW H) → Nat
  | [] => 0
  | x :: r => uptoBulkEntry x + uptoBulkEntries r
def uptoBulkEntry {H : Type} : Lit × DataW H → Nat
  | (.string bytes, d) => bytes.length + uptoBulk d + 1
  | (_, d) => uptoBulk d + 1
 end
def uptoSmall : (H : Type) → List (DataW H) → Bool := fun _ ds => decide (uptoBulkAll ds ≤ 1048576)
def OpenSpec.upto (s : _root_.Go.ChangeSpec) : _root_.Go.OpenSpec := { _root_.Go.OpenSpec.ofChange s with cond := some uptoSmall }

/-- 'bullionlaw19.MemberStakes', WHERE WHAT IT READS IS OF BULK AT MOST 1048576: true; the input reads as it did. -/
def memberStakesUptoRow : OpenClaim := { program := "ytfmmcklggnflkaa", sum := "fa887dcadf4586d2a1e88273c7a9f3313f7973670a0b343478f1a83fb7ce9dc3", func := "bullion/bullionlaw19.MemberStakes", spec := "memberStakes", apart := false, narrowed := true }
def MemberStakesUptoSaid : Prop := memberStakesUptoRow.holds Try.pinned (OpenSpec.upto memberStakesSpec)

/-- 'bullionlaw19.MemberFits', WHERE WHAT IT READS IS OF BULK AT MOST 1048576: true; the input reads as it did. -/
def memberFitsUptoRow : OpenClaim := { program := "ytfmmcklggnflkaa", sum := "fa887dcadf4586d2a1e88273c7a9f3313f7973670a0b343478f1a83fb7ce9dc3", func := "bullion/bullionlaw19.MemberFits", spec := "memberFits", apart := false, narrowed := true }
def MemberFitsUptoSaid : Prop := memberFitsUptoRow.holds Try.pinned (OpenSpec.upto memberFitsSpec)

end Rows
end Go.Proofs.Ytfmmcklggnflkaa
