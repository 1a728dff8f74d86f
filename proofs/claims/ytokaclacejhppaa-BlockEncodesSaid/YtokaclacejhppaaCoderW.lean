/- Layer 5 (coder): a writer in memory, and its calls. By contracts. -/
import Derived.Test.YtokaclacejhppaaCoderA
namespace Go.Proofs.Ytokaclacejhppaa
open Go.RowKit
set_option linter.unusedVariables false

/-- The pieces that a writer has filled, the last first. -/
def Chain (w : World) (F : Nat → Prop) : Nat → Value → List Nat → Prop
  | 0, p, bs => p = .pointer none ∧ bs = []
  | m + 1, p, bs => ∃ (g : Nat) (q : Value) (pre last : List Nat), p = .pointer (some ⟨g, 0, none⟩) ∧ F g ∧ bs = pre ++ last ∧ last.length = 64 ∧ w.heap[g]? = some (.cells (q :: u8s last).toArray 76 (0, 0)) ∧ Chain w F m q pre

theorem Chain.hold {w w' : World} {F F' : Nat → Prop} (hk : ∀ k, k < w.heap.size → F k → w'.heap[k]? = w.heap[k]?) (hF : ∀ k, F k → F' k) : ∀ (m : Nat) (p : Value) (bs : List Nat), Chain w F m p bs → Chain w' F' m p bs
  | 0, _, _, h => h
  | m + 1, p, bs, ⟨g, q, pre, last, hp, hg, hb, hl, hh, hr⟩ => ⟨g, q, pre, last, hp, hF g hg, hb, hl, by rw [hk g (by rw [Array.getElem?_eq_some_iff] at hh; exact hh.1) hg]; exact hh, Chain.hold hk hF m q pre hr⟩

theorem Chain.len {w : World} {F : Nat → Prop} : ∀ (m : Nat) (p : Value) (bs : List Nat), Chain w F m p bs → bs.length = 64 * m
  | 0, _, _, ⟨_, h⟩ => by rw [h]; rfl
  | m + 1, p, bs, ⟨g, q, pre, last, hp, hg, hb, hl, hh, hr⟩ => by rw [hb, List.length_append, hl, Chain.len m q pre hr]; omega

/-- A writer's cells. -/
def wcells (n e : Nat) (p : Value) (part : List Nat) : List Value := .int .i64 (n : Int) :: .int .i64 (e : Int) :: p :: u8s part

/-- In block b lies a writer that has written the bytes, with its failure; its pieces lie in blocks of which F is said. -/
structure WriterAt (w : World) (b : Nat) (F : Nat → Prop) (s : List Nat × Nat) (m : Nat) (p : Value) (pre tail part : List Nat) : Prop where
  text : s.1 = pre ++ tail
  short : tail.length < 64
  whole : part.length = 64
  same : part.take tail.length = tail
  most : s.1.length ≤ 131072
  small : s.2 ≤ 100
  chain : Chain w F m p pre
  apart : ∀ k, F k → k ≠ b ∧ k < w.heap.size
  block : w.heap[b]? = some (.cells (wcells s.1.length s.2 p part).toArray 51 (0, 0))

theorem WriterAt.lt {w : World} {b : Nat} {F : Nat → Prop} {s : List Nat × Nat} {m : Nat} {p : Value} {pre tail part : List Nat} (h : WriterAt w b F s m p pre tail part) : b < w.heap.size := by
  have := h.block
  rw [Array.getElem?_eq_some_iff] at this
  exact this.1

theorem WriterAt.grown {w w' : World} {b : Nat} {F : Nat → Prop} {s : List Nat × Nat} {m : Nat} {p : Value} {pre tail part : List Nat} (h : WriterAt w b F s m p pre tail part) {row : Option Nat} (hg : w.grownBy w' row) (hb : some b ≠ row) (hF : ∀ k, F k → some k ≠ row) : WriterAt w' b F s m p pre tail part :=
  ⟨h.text, h.short, h.whole, h.same, h.most, h.small, Chain.hold (fun k hk hf => hg.block k hk (hF k hf)) (fun _ h => h) m p pre h.chain, fun k hk => ⟨(h.apart k hk).1, Nat.lt_of_lt_of_le (h.apart k hk).2 hg.size⟩, by rw [hg.block b h.lt hb]; exact h.block⟩

theorem cell_at {w : World} {b k : Nat} {C : List Value} {t : TypeId} {v : Value} (h : w.heap[b]? = some (.cells C.toArray t (0, 0))) (hk : C[k]? = some v) : w.cell? ⟨b, k, none⟩ = some v := by
  rw [cell_of_row w b k _ t (0, 0) h]; simpa using hk
theorem WriterAt.cells {w : World} {b : Nat} {F : Nat → Prop} {s : List Nat × Nat} {m : Nat} {p : Value} {pre tail part : List Nat} (h : WriterAt w b F s m p pre tail part) :
    w.cell? ⟨b, 0, none⟩ = some (.int .i64 (s.1.length : Int)) ∧ w.cell? ⟨b, 1, none⟩ = some (.int .i64 (s.2 : Int)) ∧ w.cell? ⟨b, 2, none⟩ = some p ∧ w.frozen? ⟨b, 0, none⟩ = false ∧ w.frozen? ⟨b, 1, none⟩ = false ∧ w.frozen? ⟨b, 2, none⟩ = false :=
  ⟨cell_at h.block rfl, cell_at h.block rfl, cell_at h.block rfl, frozen_of_row w b 0 _ _ h.block, frozen_of_row w b 1 _ _ h.block, frozen_of_row w b 2 _ _ h.block⟩

theorem failed_no (b : Nat) (w : World) (h : w.cell? ⟨b, 1, none⟩ = some (.int .i64 0)) :
    Calls Try.prog 32 #[.pointer (some ⟨b, 0, none⟩)] w fun e w' => e = .returned (.bool false) ∧ w = w' := by
  go_enter Try.func32, Try.ntmps32
  go_wp2
  go_ret
  exact ⟨rfl, rfl⟩
theorem failed_yes (b e : Nat) (w : World) (h : w.cell? ⟨b, 1, none⟩ = some (.int .i64 (e : Int))) (he : e ≠ 0) :
    Calls Try.prog 32 #[.pointer (some ⟨b, 0, none⟩)] w fun e w' => e = .returned (.bool true) ∧ w = w' := by
  have h1 : ((e : Int) != 0) = true := by simp; omega
  have h2 : ((e : Int) == 0) = false := by simp; omega
  clear he
  go_enter Try.func32, Try.ntmps32
  go_wp2
  go_ret
  exact ⟨rfl, rfl⟩

theorem wshut_nil (w : World) :
    Calls Try.prog 28 #[.pointer none] w fun e w' => e = .returned (.bool true) ∧ w = w' := by
  go_enter Try.func28, Try.ntmps28
  go_wp2_with fail
  go_ret
  exact ⟨rfl, rfl⟩
theorem wshut_no (b : Nat) (w : World) (h : w.cell? ⟨b, 1, none⟩ = some (.int .i64 0)) :
    Calls Try.prog 28 #[.pointer (some ⟨b, 0, none⟩)] w fun e w' => e = .returned (.bool false) ∧ w = w' := by
  have k := failed_no b w h
  go_enter Try.func28, Try.ntmps28
  go_wp2_with (go_at_call 32; refine k.mono ?_; rintro e w' ⟨rfl, rfl⟩)
  go_ret
  exact ⟨rfl, rfl⟩
theorem wshut_yes (b e : Nat) (w : World) (h : w.cell? ⟨b, 1, none⟩ = some (.int .i64 (e : Int))) (he : e ≠ 0) :
    Calls Try.prog 28 #[.pointer (some ⟨b, 0, none⟩)] w fun e w' => e = .returned (.bool true) ∧ w = w' := by
  have k := failed_yes b e w h he
  clear he
  go_enter Try.func28, Try.ntmps28
  go_wp2_with (go_at_call 32; refine k.mono ?_; rintro e w' ⟨rfl, rfl⟩)
  go_ret
  exact ⟨rfl, rfl⟩

theorem move_ok (b : Nat) (n : Int) (v : Value) (w : World) (h : w.cell? ⟨b, 0, none⟩ = some v) (hf : w.frozen? ⟨b, 0, none⟩ = false) :
    Calls Try.prog 29 #[.pointer (some ⟨b, 0, none⟩), .int .i64 n, .int .i64 0] w fun e w' => e = .returned (.bool true) ∧ w' = w.setCell ⟨b, 0, none⟩ (.int .i64 n) := by
  go_enter Try.func29, Try.ntmps29
  go_wp2
  go_ret
  exact ⟨rfl, rfl⟩
theorem move_not (b why : Nat) (n : Int) (v : Value) (w : World) (h : w.cell? ⟨b, 1, none⟩ = some v) (hf : w.frozen? ⟨b, 1, none⟩ = false) (hy : why ≠ 0) :
    Calls Try.prog 29 #[.pointer (some ⟨b, 0, none⟩), .int .i64 n, .int .i64 (why : Int)] w fun e w' => e = .returned (.bool false) ∧ w' = w.setCell ⟨b, 1, none⟩ (.int .i64 (why : Int)) := by
  have h1 : ((why : Int) != 0) = true := by simp; omega
  have h2 : ((why : Int) == 0) = false := by simp; omega
  clear hy
  go_enter Try.func29, Try.ntmps29
  go_wp2
  go_ret
  exact ⟨rfl, rfl⟩
end Go.Proofs.Ytokaclacejhppaa
