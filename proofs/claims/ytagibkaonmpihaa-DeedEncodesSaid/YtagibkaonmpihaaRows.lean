/-
  No cell of these rows narrows 'for every input' (looked for: loops, veiled, ifaces, maps, wideKeys, modest, calm, conditions, laid).
  DERIVED. THE GIVEN ROWS OF THIS SEAT. 4 by the template 'for every input the law returns true; each argument reads behind the call as it read before'; 0 by the template 'total and deterministic' (their statements: YtagibkaonmpihaaTotals.lean).
  GIVEN WITH THE SEED: the statements are not yours to turn. If you find one false, say at which input.
  Laid BY PROGRAM, IN A SANDBOX (cutbox-rows.mjs): the forced cells as the released guide's own fill.sh prints them over the translation cbb6a6a72e645240… (all of the seat's roots in one cut). By AI agents, Wed Nov 11 2026. No macro, syntax, notation, axiom, sorry.
-/
import Derived.Test.YtagibkaonmpihaaChecked
import GoSem.Claim
import GoSem.ClaimJoined
import GoSem.ClaimMapViews
import Derived.JoinedTies
import Derived.KernelRfl
namespace Go.Proofs.Ytagibkaonmpihaa
/- THE CELL 'sum', in the pinned program and in every row, IS THE sha256 OF THE DUMP (.gsa) THAT YtagibkaonmpihaaProg.lean LOADS. Nothing in Lean hashes anything: it is a label: what it is worth is what the hold of that sum in a sandbox is worth. -/
noncomputable def Try.pinned : Pinned := { name := "ytagibkaonmpihaa", sum := "cbb6a6a72e645240e93cbfd6a808062cd3a4394b6bb3091c63375f8f131fbc78", checked := Try.checked }
namespace Rows
def none {H : Type} : Left H := { results := [], args := [] }

/-- 'bullionlaw08.DeedEncodes': WHATEVER THE INPUT: true; the input reads as it did. -/
def deedEncodesSpec : ChangeSpec := { name := "deedEncodes", fn := fun _ => fun
  | [d] => { results := [.lit (.bool true)], args := [d] }
  | _ => none }
def deedEncodesRow : OpenClaim := { program := "ytagibkaonmpihaa", sum := "cbb6a6a72e645240e93cbfd6a808062cd3a4394b6bb3091c63375f8f131fbc78", func := "bullion/bullionlaw08.DeedEncodes", spec := "deedEncodes", recurses := true, apart := false }
def DeedEncodesSaid : Prop := deedEncodesRow.holds Try.pinned (OpenSpec.ofChange deedEncodesSpec)

/-- ITS FALSE NEIGHBOUR: 'it returns false'. Refute it at one input. -/
def deedEncodesWrong : ChangeSpec := { name := "deedEncodes", fn := fun _ => fun
  | [d] => { results := [.lit (.bool false)], args := [d] }
  | _ => none }
def DeedEncodesWrongFalsely : Prop := deedEncodesRow.holds Try.pinned (OpenSpec.ofChange deedEncodesWrong)

/-- 'bullionlaw08.DeedNone': WHATEVER THE INPUT: true; the input reads as it did. -/
def deedNoneSpec : ChangeSpec := { name := "deedNone", fn := fun _ => fun
  | [d] => { results := [.lit (.bool true)], args := [d] }
  | _ => none }
def deedNoneRow : OpenClaim := { program := "ytagibkaonmpihaa", sum := "cbb6a6a72e645240e93cbfd6a808062cd3a4394b6bb3091c63375f8f131fbc78", func := "bullion/bullionlaw08.DeedNone", spec := "deedNone", apart := false }
def DeedNoneSaid : Prop := deedNoneRow.holds Try.pinned (OpenSpec.ofChange deedNoneSpec)

/-- ITS FALSE NEIGHBOUR: 'it returns false'. Refute it at one input. -/
def deedNoneWrong : ChangeSpec := { name := "deedNone", fn := fun _ => fun
  | [d] => { results := [.lit (.bool false)], args := [d] }
  | _ => none }
def DeedNoneWrongFalsely : Prop := deedNoneRow.holds Try.pinned (OpenSpec.ofChange deedNoneWrong)

/-- 'bullionlaw08.DeedBack': WHATEVER THE INPUT: true; the input reads as it did. -/
def deedBackSpec : ChangeSpec := { name := "deedBack", fn := fun _ => fun
  | [d1, d2] => { results := [.lit (.bool true)], args := [d1, d2] }
  | _ => none }
def deedBackRow : OpenClaim := { program := "ytagibkaonmpihaa", sum := "cbb6a6a72e645240e93cbfd6a808062cd3a4394b6bb3091c63375f8f131fbc78", func := "bullion/bullionlaw08.DeedBack", spec := "deedBack", apart := false }
def DeedBackSaid : Prop := deedBackRow.holds Try.pinned (OpenSpec.ofChange deedBackSpec)

/-- ITS FALSE NEIGHBOUR: 'it returns false'. Refute it at one input. -/
def deedBackWrong : ChangeSpec := { name := "deedBack", fn := fun _ => fun
  | [d1, d2] => { results := [.lit (.bool false)], args := [d1, d2] }
  | _ => none }
def DeedBackWrongFalsely : Prop := deedBackRow.holds Try.pinned (OpenSpec.ofChange deedBackWrong)

/-- 'bullionlaw08.DeedSound': WHATEVER THE INPUT: true; the input reads as it did. -/
def deedSoundSpec : ChangeSpec := { name := "deedSound", fn := fun _ => fun
  | [d] => { results := [.lit (.bool true)], args := [d] }
  | _ => none }
def deedSoundRow : OpenClaim := { program := "ytagibkaonmpihaa", sum := "cbb6a6a72e645240e93cbfd6a808062cd3a4394b6bb3091c63375f8f131fbc78", func := "bullion/bullionlaw08.DeedSound", spec := "deedSound", apart := false }
def DeedSoundSaid : Prop := deedSoundRow.holds Try.pinned (OpenSpec.ofChange deedSoundSpec)

/-- ITS FALSE NEIGHBOUR: 'it returns false'. Refute it at one input. -/
def deedSoundWrong : ChangeSpec := { name := "deedSound", fn := fun _ => fun
  | [d] => { results := [.lit (.bool false)], args := [d] }
  | _ => none }
def DeedSoundWrongFalsely : Prop := deedSoundRow.holds Try.pinned (OpenSpec.ofChange deedSoundWrong)

/- THE SECOND FORM. 'bulk': how many values and letters a reading holds, each counted each time it is reached (what is shared counts as often as it is met; a slice's spare places count too). A statement '..UptoSaid' is the law's where the arguments, and the package variables that the reading takes, are together of bulk at most 1048576: NARROWER than '..Said'. Prove '..Said' where nothing that the law and all that it calls make is longer than what came in: it says more and counts as full. Else prove '..UptoSaid'. A law counts once. -/
mutual
def uptoBulk {H : Type} : DataW H → Nat
  | .lit (.string bytes) => bytes.length + 1
  | .lit _ => 1
  | .nil => 1
  | .ptr d => uptoBulk d + 1
  | .slice elems spare => uptoBulkAll elems + uptoBulkAll spare + 1
  | .agg parts => uptoBulkAll parts + 1
  | .iface _ d => uptoBulk d + 1
  | .map entries => uptoBulkEntries entries + 1
  | .held _ => 1
def uptoBulkAll {H : Type} : List (DataW H) → Nat
  | [] => 0
  | d :: r => uptoBulk d + uptoBulkAll r
def uptoBulkEntries {H : Type} : List (Lit × DataW H) → Nat
  | [] => 0
  | x :: r => uptoBulkEntry x + uptoBulkEntries r
def uptoBulkEntry {H : Type} : Lit × DataW H → Nat
  | (.string bytes, d) => bytes.length + uptoBulk d + 1
  | (_, d) => uptoBulk d + 1
 end
def uptoSmall : (H : Type) → List (DataW H) → Bool := fun _ ds => decide (uptoBulkAll ds ≤ 1048576)
def OpenSpec.upto (s : _root_.Go.ChangeSpec) : _root_.Go.OpenSpec := { _root_.Go.OpenSpec.ofChange s with cond := some uptoSmall }

/-- 'bullionlaw08.DeedEncodes', WHERE WHAT IT READS IS OF BULK AT MOST 1048576: true; the input reads as it did. -/
def deedEncodesUptoRow : OpenClaim := { program := "ytagibkaonmpihaa", sum := "cbb6a6a72e645240e93cbfd6a808062cd3a4394b6bb3091c63375f8f131fbc78", func := "bullion/bullionlaw08.DeedEncodes", spec := "deedEncodes", recurses := true, apart := false, narrowed := true }
def DeedEncodesUptoSaid : Prop := deedEncodesUptoRow.holds Try.pinned (OpenSpec.upto deedEncodesSpec)

/-- 'bullionlaw08.DeedNone', WHERE WHAT IT READS IS OF BULK AT MOST 1048576: true; the input reads as it did. -/
def deedNoneUptoRow : OpenClaim := { program := "ytagibkaonmpihaa", sum := "cbb6a6a72e645240e93cbfd6a808062cd3a4394b6bb3091c63375f8f131fbc78", func := "bullion/bullionlaw08.DeedNone", spec := "deedNone", apart := false, narrowed := true }
def DeedNoneUptoSaid : Prop := deedNoneUptoRow.holds Try.pinned (OpenSpec.upto deedNoneSpec)

/-- 'bullionlaw08.DeedBack', WHERE WHAT IT READS IS OF BULK AT MOST 1048576: true; the input reads as it did. -/
def deedBackUptoRow : OpenClaim := { program := "ytagibkaonmpihaa", sum := "cbb6a6a72e645240e93cbfd6a808062cd3a4394b6bb3091c63375f8f131fbc78", func := "bullion/bullionlaw08.DeedBack", spec := "deedBack", apart := false, narrowed := true }
def DeedBackUptoSaid : Prop := deedBackUptoRow.holds Try.pinned (OpenSpec.upto deedBackSpec)

/-- 'bullionlaw08.DeedSound', WHERE WHAT IT READS IS OF BULK AT MOST 1048576: true; the input reads as it did. -/
def deedSoundUptoRow : OpenClaim := { program := "ytagibkaonmpihaa", sum := "cbb6a6a72e645240e93cbfd6a808062cd3a4394b6bb3091c63375f8f131fbc78", func := "bullion/bullionlaw08.DeedSound", spec := "deedSound", apart := false, narrowed := true }
def DeedSoundUptoSaid : Prop := deedSoundUptoRow.holds Try.pinned (OpenSpec.upto deedSoundSpec)

end Rows
end Go.Proofs.Ytagibkaonmpihaa
