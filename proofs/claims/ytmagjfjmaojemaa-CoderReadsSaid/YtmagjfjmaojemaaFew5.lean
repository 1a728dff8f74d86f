/- What is written and asked for is few (layer 5). By contracts. -/
import Derived.Test.YtmagjfjmaojemaaLaw8
import Derived.Test.YtmagjfjmaojemaaProg
import Derived.OwnWalk
namespace Go.Proofs.Ytmagjfjmaojemaa
open Go.RowKit
set_option linter.unusedVariables false
set_option linter.unusedSimpArgs false

def Few (ops : List OpV) : Prop := (∀ o ∈ ops, o.bs.length ≤ 140000) ∧ ops.length ≤ 60

set_option maxRecDepth 100000 in
set_option maxHeartbeats 1000000 in
theorem few_yes (ops : List OpV) (A : Option Addr) (c B : Nat) (w : World) (ho : OpsIn w B A ops) (hB : B ≤ w.heap.size) (h : Few ops) :
    Calls Try.prog 9 #[.slice A ops.length c] w fun e w' => e = .returned (.bool true) ∧ Below w.heap.size w w' := by
  obtain ⟨h1, h2⟩ := h
  have H1 := Lib.hid h1
  clear h1
  go_enter Try.func9, Try.ntmps9
  go_wp2
  go_loopw [7] (fun iv wr => ∃ k : Nat, k ≤ ops.length ∧ iv = .int .i64 (k : Int) ∧ Below w.heap.size w wr) (fun iv _ => ops.length - (intOf iv).toNat)
  case atStart => exact ⟨0, Nat.zero_le _, rfl, Below.refl _ _⟩
  case round =>
    obtain ⟨k, hk, rfl, hBr⟩ := hrel
    by_cases hlt : k < ops.length
    · obtain ⟨hin, a, rfl, c0, c1, c2, c3⟩ := (ho.below (hBr.mono hB)).at (List.getElem?_eq_getElem hlt)
      have hsm := H1.out ops[k] (List.getElem_mem hlt)
      obtain ⟨o, hoo⟩ : ∃ o, Hid (ops[k] = o) := ⟨ops[k], Lib.hid rfl⟩
      rw [hoo.out] at hin c0 c1 c2 c3 hsm
      have hkI : (k : Int) < (ops.length : Int) := by omega
      have hsI : (o.bs.length : Int) ≤ 140000 := by omega
      clear hsm
      go_wp2
      go_roundw
      case rel => exact ⟨k + 1, by omega, by go_num, hBr.alloc hBr.size _⟩
      case measure => simp [intOf]; omega
    · obtain rfl : k = ops.length := by omega
      have h2I : (ops.length : Int) ≤ 60 := by omega
      clear hlt hk h2
      go_wp2
      go_ret
      exact ⟨by simp, hBr⟩

set_option maxRecDepth 100000 in
set_option maxHeartbeats 1000000 in
theorem few_no (ops : List OpV) (A : Option Addr) (c B : Nat) (w : World) (ho : OpsIn w B A ops) (hB : B ≤ w.heap.size) (hl : ops.length ≤ c) (hcm : c ≤ maxLen) (h : ¬ Few ops) :
    Calls Try.prog 9 #[.slice A ops.length c] w fun e w' => e = .returned (.bool false) ∧ Below w.heap.size w w' := by
  unfold maxLen at hcm
  have H1 := Lib.hid h
  clear h
  go_enter Try.func9, Try.ntmps9
  go_wp2
  go_loopw [7] (fun iv wr => ∃ k : Nat, k ≤ ops.length ∧ iv = .int .i64 (k : Int) ∧ Below w.heap.size w wr ∧ Hid (∀ o ∈ ops.take k, o.bs.length ≤ 140000)) (fun iv _ => ops.length - (intOf iv).toNat)
  case atStart => exact ⟨0, Nat.zero_le _, rfl, Below.refl _ _, by intro o ho; simp at ho⟩
  case round =>
    obtain ⟨k, hk, rfl, hBr, HT⟩ := hrel
    by_cases hlt : k < ops.length
    · obtain ⟨hin, a, rfl, c0, c1, c2, c3⟩ := (ho.below (hBr.mono hB)).at (List.getElem?_eq_getElem hlt)
      have htk := List.take_succ_eq_append_getElem hlt
      obtain ⟨o, hoo⟩ : ∃ o, Hid (ops[k] = o) := ⟨ops[k], Lib.hid rfl⟩
      rw [hoo.out] at hin c0 c1 c2 c3 htk
      have HTK := Lib.hid htk
      have hkI : (k : Int) < (ops.length : Int) := by omega
      clear htk
      by_cases hsm : o.bs.length ≤ 140000
      · have hsI : (o.bs.length : Int) ≤ 140000 := by omega
        go_wp2
        go_roundw
        case rel =>
          refine ⟨k + 1, by omega, by go_num, hBr.alloc hBr.size _, ?_⟩
          intro o' ho'
          rw [HTK.out] at ho'
          rcases List.mem_append.1 ho' with h1 | h1
          · exact HT.out o' h1
          · simp at h1; subst h1; exact hsm
        case measure => simp [intOf]; omega
      · have hsI : (140000 : Int) < (o.bs.length : Int) := by omega
        clear hsm
        go_wp2
        go_ret
        exact ⟨rfl, hBr.alloc hBr.size _⟩
    · obtain rfl : k = ops.length := by omega
      have h60 : ¬ ops.length ≤ 60 := fun h => H1.out ⟨by have := HT.out; rwa [List.take_length] at this, h⟩
      have h2I : (60 : Int) < (ops.length : Int) := by omega
      clear hlt hk h60
      go_wp2
      go_ret
      exact ⟨by simp; omega, hBr⟩
end Go.Proofs.Ytmagjfjmaojemaa
