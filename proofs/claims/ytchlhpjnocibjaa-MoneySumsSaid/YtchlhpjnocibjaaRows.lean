/-
  No cell of these rows narrows 'for every input' (looked for: loops, veiled, ifaces, maps, wideKeys, modest, calm, conditions, laid).
  DERIVED. THE GIVEN ROWS OF THIS SEAT. 4 by the template 'for every input the law returns true; each argument reads behind the call as it read before'; 0 by the template 'total and deterministic' (their statements: YtchlhpjnocibjaaTotals.lean).
  GIVEN WITH THE SEED: the statements are not yours to turn. If you find one false, say at which input.
  Laid BY PROGRAM, IN A SANDBOX (cutbox-rows.mjs): the forced cells as the released guide's own fill.sh prints them over the translation f8747758178f4dca… (all of the seat's roots in one cut). By AI agents, Wed Nov 11 2026. No macro, syntax, notation, axiom, sorry.
-/
import Derived.Test.YtchlhpjnocibjaaChecked
import GoSem.Claim
import GoSem.ClaimJoined
import GoSem.ClaimMapViews
import Derived.JoinedTies
import Derived.KernelRfl
namespace Go.Proofs.Ytchlhpjnocibjaa
/- THE CELL 'sum', in the pinned program and in every row, IS THE sha256 OF THE DUMP (.gsa) THAT YtchlhpjnocibjaaProg.lean LOADS. Nothing in Lean hashes anything: it is a label: what it is worth is what the hold of that sum in a sandbox is worth. -/
noncomputable def Try.pinned : Pinned := { name := "ytchlhpjnocibjaa", sum := "f8747758178f4dca77028a5054841592aa7ea8ca8aebe8f416ff12fabb9496fb", checked := Try.checked }
namespace Rows
def none {H : Type} : Left H := { results := [], args := [] }

/-- 'bullionlaw01.MoneySums': WHATEVER THE INPUT: true; the input reads as it did. -/
def moneySumsSpec : ChangeSpec := { name := "moneySums", fn := fun _ => fun
  | [d1, d2] => { results := [.lit (.bool true)], args := [d1, d2] }
  | _ => none }
def moneySumsRow : OpenClaim := { program := "ytchlhpjnocibjaa", sum := "f8747758178f4dca77028a5054841592aa7ea8ca8aebe8f416ff12fabb9496fb", func := "bullion/bullionlaw01.MoneySums", spec := "moneySums", apart := false }
def MoneySumsSaid : Prop := moneySumsRow.holds Try.pinned (OpenSpec.ofChange moneySumsSpec)

/-- ITS FALSE NEIGHBOUR: 'it returns false'. Refute it at one input. -/
def moneySumsWrong : ChangeSpec := { name := "moneySums", fn := fun _ => fun
  | [d1, d2] => { results := [.lit (.bool false)], args := [d1, d2] }
  | _ => none }
def MoneySumsWrongFalsely : Prop := moneySumsRow.holds Try.pinned (OpenSpec.ofChange moneySumsWrong)

/-- 'bullionlaw01.MoneyTotals': WHATEVER THE INPUT: true; the input reads as it did. -/
def moneyTotalsSpec : ChangeSpec := { name := "moneyTotals", fn := fun _ => fun
  | [d] => { results := [.lit (.bool true)], args := [d] }
  | _ => none }
def moneyTotalsRow : OpenClaim := { program := "ytchlhpjnocibjaa", sum := "f8747758178f4dca77028a5054841592aa7ea8ca8aebe8f416ff12fabb9496fb", func := "bullion/bullionlaw01.MoneyTotals", spec := "moneyTotals", apart := false }
def MoneyTotalsSaid : Prop := moneyTotalsRow.holds Try.pinned (OpenSpec.ofChange moneyTotalsSpec)

/-- ITS FALSE NEIGHBOUR: 'it returns false'. Refute it at one input. -/
def moneyTotalsWrong : ChangeSpec := { name := "moneyTotals", fn := fun _ => fun
  | [d] => { results := [.lit (.bool false)], args := [d] }
  | _ => none }
def MoneyTotalsWrongFalsely : Prop := moneyTotalsRow.holds Try.pinned (OpenSpec.ofChange moneyTotalsWrong)

/-- 'bullionlaw01.MoneyStops': WHATEVER THE INPUT: true; the input reads as it did. -/
def moneyStopsSpec : ChangeSpec := { name := "moneyStops", fn := fun _ => fun
  | [d1, d2, d3] => { results := [.lit (.bool true)], args := [d1, d2, d3] }
  | _ => none }
def moneyStopsRow : OpenClaim := { program := "ytchlhpjnocibjaa", sum := "f8747758178f4dca77028a5054841592aa7ea8ca8aebe8f416ff12fabb9496fb", func := "bullion/bullionlaw01.MoneyStops", spec := "moneyStops", apart := false }
def MoneyStopsSaid : Prop := moneyStopsRow.holds Try.pinned (OpenSpec.ofChange moneyStopsSpec)

/-- ITS FALSE NEIGHBOUR: 'it returns false'. Refute it at one input. -/
def moneyStopsWrong : ChangeSpec := { name := "moneyStops", fn := fun _ => fun
  | [d1, d2, d3] => { results := [.lit (.bool false)], args := [d1, d2, d3] }
  | _ => none }
def MoneyStopsWrongFalsely : Prop := moneyStopsRow.holds Try.pinned (OpenSpec.ofChange moneyStopsWrong)

/-- 'bullionlaw01.MoneyTakes': WHATEVER THE INPUT: true; the input reads as it did. -/
def moneyTakesSpec : ChangeSpec := { name := "moneyTakes", fn := fun _ => fun
  | [d1, d2] => { results := [.lit (.bool true)], args := [d1, d2] }
  | _ => none }
def moneyTakesRow : OpenClaim := { program := "ytchlhpjnocibjaa", sum := "f8747758178f4dca77028a5054841592aa7ea8ca8aebe8f416ff12fabb9496fb", func := "bullion/bullionlaw01.MoneyTakes", spec := "moneyTakes", apart := false }
def MoneyTakesSaid : Prop := moneyTakesRow.holds Try.pinned (OpenSpec.ofChange moneyTakesSpec)

/-- ITS FALSE NEIGHBOUR: 'it returns false'. Refute it at one input. -/
def moneyTakesWrong : ChangeSpec := { name := "moneyTakes", fn := fun _ => fun
  | [d1, d2] => { results := [.lit (.bool false)], args := [d1, d2] }
  | _ => none }
def MoneyTakesWrongFalsely : Prop := moneyTakesRow.holds Try.pinned (OpenSpec.ofChange moneyTakesWrong)

/- THE SECOND FORM. 'bulk': how many values and letters a reading holds, each counted each time it is reached (what is shared counts as often as it is met; a slice's spare places count too). A statement '..UptoSaid' is the law's where the arguments, and the package variables that the reading takes, are together of bulk at most 1048576: NARROWER than '..Said'. Prove '..Said' where nothing that the law and all that it calls make is longer than what came in: it says more and counts as full. Else prove '..UptoSaid'. A law counts once. -/
mutual
def uptoBulk {H : Type} : DataW H → Nat
  | .lit (.string bytes) => bytes.length + 1
  | .lit _ => 1
  | .nil => 1
  | .ptr d => uptoBulk d + 1
  | .slice elems spare => uptoBulkAll elems + uptoBulkAll spare + 1
  | .agg parts => uptoBulkAll parts + 1
  | .iface _ d => uptoBulk d + 1
  | .map entries => uptoBulkEntries entries + 1
  | .held _ => 1
def uptoBulkAll {H : Type} : List (DataW H) → Nat
  | [] => 0
  | d :: r => uptoBulk d + uptoBulkAll r
def uptoBulkEntries {H : Type} : List (Lit × DataW H) → Nat
  | [] => 0
  | x :: r => uptoBulkEntry x + uptoBulkEntries r
def uptoBulkEntry {H : Type} : Lit × DataW H → Nat
  | (.string bytes, d) => bytes.length + uptoBulk d + 1
  | (_, d) => uptoBulk d + 1
 end
def uptoSmall : (H : Type) → List (DataW H) → Bool := fun _ ds => decide (uptoBulkAll ds ≤ 1048576)
def OpenSpec.upto (s : _root_.Go.ChangeSpec) : _root_.Go.OpenSpec := { _root_.Go.OpenSpec.ofChange s with cond := some uptoSmall }

/-- 'bullionlaw01.MoneySums', WHERE WHAT IT READS IS OF BULK AT MOST 1048576: true; the input reads as it did. -/
def moneySumsUptoRow : OpenClaim := { program := "ytchlhpjnocibjaa", sum := "f8747758178f4dca77028a5054841592aa7ea8ca8aebe8f416ff12fabb9496fb", func := "bullion/bullionlaw01.MoneySums", spec := "moneySums", apart := false, narrowed := true }
def MoneySumsUptoSaid : Prop := moneySumsUptoRow.holds Try.pinned (OpenSpec.upto moneySumsSpec)

/-- 'bullionlaw01.MoneyTotals', WHERE WHAT IT READS IS OF BULK AT MOST 1048576: true; the input reads as it did. -/
def moneyTotalsUptoRow : OpenClaim := { program := "ytchlhpjnocibjaa", sum := "f8747758178f4dca77028a5054841592aa7ea8ca8aebe8f416ff12fabb9496fb", func := "bullion/bullionlaw01.MoneyTotals", spec := "moneyTotals", apart := false, narrowed := true }
def MoneyTotalsUptoSaid : Prop := moneyTotalsUptoRow.holds Try.pinned (OpenSpec.upto moneyTotalsSpec)

/-- 'bullionlaw01.MoneyStops', WHERE WHAT IT READS IS OF BULK AT MOST 1048576: true; the input reads as it did. -/
def moneyStopsUptoRow : OpenClaim := { program := "ytchlhpjnocibjaa", sum := "f8747758178f4dca77028a5054841592aa7ea8ca8aebe8f416ff12fabb9496fb", func := "bullion/bullionlaw01.MoneyStops", spec := "moneyStops", apart := false, narrowed := true }
def MoneyStopsUptoSaid : Prop := moneyStopsUptoRow.holds Try.pinned (OpenSpec.upto moneyStopsSpec)

/-- 'bullionlaw01.MoneyTakes', WHERE WHAT IT READS IS OF BULK AT MOST 1048576: true; the input reads as it did. -/
def moneyTakesUptoRow : OpenClaim := { program := "ytchlhpjnocibjaa", sum := "f8747758178f4dca77028a5054841592aa7ea8ca8aebe8f416ff12fabb9496fb", func := "bullion/bullionlaw01.MoneyTakes", spec := "moneyTakes", apart := false, narrowed := true }
def MoneyTakesUptoSaid : Prop := moneyTakesUptoRow.holds Try.pinned (OpenSpec.upto moneyTakesSpec)

end Rows
end Go.Proofs.Ytchlhpjnocibjaa
