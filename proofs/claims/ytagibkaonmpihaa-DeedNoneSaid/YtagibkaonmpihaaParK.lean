/- Layer 7 (param): bytes as parameters. By contracts. -/
import Derived.Test.YtagibkaonmpihaaParH
import Derived.Test.YtagibkaonmpihaaParC
import Derived.Test.YtagibkaonmpihaaCoderV
namespace Go.Proofs.Ytagibkaonmpihaa
open Go.RowKit
set_option linter.unusedVariables false
set_option linter.unusedSimpArgs false

theorem pres_bad {bs : List Nat} {s st : Nat × Nat} {q : Par} {ee : Nat} (h : PRes bs s q ee st) (he : ee ≠ 0) : q = Par.none := by
  rcases h.2 with ⟨_, h1, _⟩ | ⟨_, p, _, _, ⟨_, _, h1⟩ | ⟨_, h1, _⟩⟩
  · exact h1
  · exact absurd h1 he
  · exact h1

end Go.Proofs.Ytagibkaonmpihaa
