/- Layer 5 (coder): a writer in memory, and its calls. By contracts. -/
import Derived.Test.YtmagjfjmaojemaaCoderA
namespace Go.Proofs.Ytmagjfjmaojemaa
open Go.RowKit
set_option linter.unusedVariables false

/-- Bytes lie one behind the other from an address on, in blocks of which S is said. -/
def Lies (w : World) (S : Nat → Prop) (A : Option Addr) (xs : List Nat) : Prop :=
  ∀ (k x : Nat), xs[k]? = some x → ∃ a, A = some a ∧ S a.block ∧ w.cell? (a.add k) = some (.int .u8 (x : Int))

theorem Lies.hold {w w' : World} {S : Nat → Prop} {A : Option Addr} {xs : List Nat} (h : Lies w S A xs) (hk : ∀ p : Addr, S p.block → w'.cell? p = w.cell? p) : Lies w' S A xs := fun k x hx => by
  obtain ⟨a, hA, hb, hc⟩ := h k x hx
  exact ⟨a, hA, hb, (hk _ (by rw [addr_block]; exact hb)).trans hc⟩
theorem Lies.imp {w : World} {S S' : Nat → Prop} {A : Option Addr} {xs : List Nat} (h : Lies w S A xs) (hS : ∀ k, k < w.heap.size → S k → S' k) : Lies w S' A xs := fun k x hx => by
  obtain ⟨a, hA, hb, hc⟩ := h k x hx
  have hl := World.block_lt_of_cell? w _ hc
  rw [addr_block] at hl
  exact ⟨a, hA, hS _ hl hb, hc⟩
theorem Lies.grown {w w' : World} {S : Nat → Prop} {A : Option Addr} {xs : List Nat} {row : Option Nat} (h : Lies w S A xs) (hg : w.grownBy w' row) (hS : ∀ k, S k → some k ≠ row) : Lies w' S A xs := fun k x hx => by
  obtain ⟨a, hA, hb, hc⟩ := h k x hx
  have hl := World.block_lt_of_cell? w _ hc
  refine ⟨a, hA, hb, ?_⟩
  rw [World.cell?_of_block (w := w) (hg.block _ hl (by rw [addr_block]; exact hS _ hb))]
  exact hc
theorem Lies.nil (w : World) (S : Nat → Prop) (A : Option Addr) : Lies w S A [] := fun k x h => by simp at h
theorem Lies.get {w : World} {S : Nat → Prop} {A : Option Addr} {xs : List Nat} (h : Lies w S A xs) {k : Nat} (hk : k < xs.length) : ∃ a, A = some a ∧ S a.block ∧ w.cell? (a.add k) = some (.int .u8 (xs[k] : Nat)) := h k _ (List.getElem?_eq_getElem hk)
theorem Lies.ofRow {w : World} {B : Nat} {A : Option Addr} {xs : List Nat} (h : Row w B A (u8s xs)) : Lies w (· < B) A xs := fun k x hx => by
  have hk : k < xs.length := (List.getElem?_eq_some_iff.1 hx).1
  have e : xs[k] = x := (List.getElem?_eq_some_iff.1 hx).2
  obtain ⟨a, hA, hb, hc⟩ := h k _ (u8s_get hk)
  exact ⟨a, hA, hb, by rw [hc, e]⟩
theorem Lies.row {w : World} {B : Nat} {S : Nat → Prop} {A : Option Addr} {xs : List Nat} (h : Lies w S A xs) (hS : ∀ k, k < w.heap.size → S k → k < B) : Row w B A (u8s xs) := fun k v hv => by
  have hk : k < xs.length := by have := (List.getElem?_eq_some_iff.1 hv).1; rwa [u8s_len] at this
  rw [u8s_get hk] at hv
  cases hv
  obtain ⟨a, hA, hb, hc⟩ := h.get hk
  have hl := World.block_lt_of_cell? w _ hc
  rw [addr_block] at hl
  exact ⟨a, hA, hS _ hl hb, hc⟩
/-- A slice of the call's own. -/
theorem Lies.own {w : World} {base : Nat} {v : Value} {n : Nat} {xs : List Nat} (h : w.ownsRow base 5 1 v n (u8s xs)) :
    ∃ A c, v = .slice A n c ∧ n ≤ c ∧ c ≤ maxLen ∧ n = xs.length ∧ Lies w (fun k => base ≤ k ∧ k < w.heap.size ∧ v.ownBlock = some k) A xs := by
  have hl := h.1
  rcases h.2 with ⟨rfl, rfl⟩ | ⟨g, cap, cur, rfl, hg, hh, hnc, hcm, hs, ht⟩
  · have : xs = [] := List.eq_nil_of_length_eq_zero (by rw [u8s_len] at hl; simpa using hl)
    subst this
    exact ⟨none, 0, rfl, Nat.le_refl _, Nat.zero_le _, rfl, Lies.nil _ _ _⟩
  · refine ⟨some ⟨g, 0, none⟩, cap, rfl, hnc, hcm, by rw [u8s_len] at hl; omega, fun k x hx => ⟨_, rfl, ?_, ?_⟩⟩
    · exact ⟨hg, (h.lt g rfl).2, rfl⟩
    · have hk : k < xs.length := (List.getElem?_eq_some_iff.1 hx).1
      have e : xs[k] = x := (List.getElem?_eq_some_iff.1 hx).2
      have := h.cells (g := g) rfl k _ (u8s_get hk)
      rwa [e] at this

/-- What is left of a slice behind its first j bytes. -/
theorem Lies.behind {w : World} {S : Nat → Prop} {a : Addr} {xs : List Nat} {j c : Nat} (h : Lies w S (some a) xs) (hj : j ≤ xs.length) (hc : xs.length ≤ c) : Lies w S (if c = j then some a else some (a.add j)) (xs.drop j) := by
  by_cases e : c = j
  · have : xs.drop j = [] := List.drop_eq_nil_of_le (by omega)
    rw [this]; exact Lies.nil _ _ _
  · rw [if_neg e]
    intro k x hx
    rw [List.getElem?_drop] at hx
    obtain ⟨a', hA, hb, hcell⟩ := h (j + k) x hx
    cases hA
    exact ⟨_, rfl, by rw [addr_block]; exact hb, by rw [Addr.add_add]; exact hcell⟩

/-- The pieces that a writer has filled, the last first. -/
def Chain (w : World) (F : Nat → Prop) : Nat → Value → List Nat → Prop
  | 0, p, bs => p = .pointer none ∧ bs = []
  | m + 1, p, bs => ∃ (g : Nat) (q : Value) (pre last : List Nat), p = .pointer (some ⟨g, 0, none⟩) ∧ F g ∧ bs = pre ++ last ∧ last.length = 64 ∧ w.heap[g]? = some (.cells (q :: u8s last).toArray 68 (0, 0)) ∧ Chain w F m q pre

theorem Chain.hold {w w' : World} {F F' : Nat → Prop} (hk : ∀ k, k < w.heap.size → F k → w'.heap[k]? = w.heap[k]?) (hF : ∀ k, F k → F' k) : ∀ (m : Nat) (p : Value) (bs : List Nat), Chain w F m p bs → Chain w' F' m p bs
  | 0, _, _, h => h
  | m + 1, p, bs, ⟨g, q, pre, last, hp, hg, hb, hl, hh, hr⟩ => ⟨g, q, pre, last, hp, hF g hg, hb, hl, by rw [hk g (by rw [Array.getElem?_eq_some_iff] at hh; exact hh.1) hg]; exact hh, Chain.hold hk hF m q pre hr⟩

theorem Chain.len {w : World} {F : Nat → Prop} : ∀ (m : Nat) (p : Value) (bs : List Nat), Chain w F m p bs → bs.length = 64 * m
  | 0, _, _, ⟨_, h⟩ => by rw [h]; rfl
  | m + 1, p, bs, ⟨g, q, pre, last, hp, hg, hb, hl, hh, hr⟩ => by rw [hb, List.length_append, hl, Chain.len m q pre hr]; omega

/-- A writer's cells. -/
def wcells (n e : Nat) (p : Value) (part : List Nat) : List Value := .int .i64 (n : Int) :: .int .i64 (e : Int) :: p :: u8s part

/-- In block b lies a writer that has written the bytes, with its failure; its pieces lie in blocks of which F is said. -/
structure WriterAt (w : World) (b : Nat) (F : Nat → Prop) (s : List Nat × Nat) (m : Nat) (p : Value) (pre tail part : List Nat) : Prop where
  text : s.1 = pre ++ tail
  short : tail.length < 64
  whole : part.length = 64
  same : part.take tail.length = tail
  most : s.1.length ≤ 131072
  small : s.2 ≤ 100
  chain : Chain w F m p pre
  apart : ∀ k, F k → k ≠ b ∧ k < w.heap.size
  block : w.heap[b]? = some (.cells (wcells s.1.length s.2 p part).toArray 32 (0, 0))

theorem WriterAt.lt {w : World} {b : Nat} {F : Nat → Prop} {s : List Nat × Nat} {m : Nat} {p : Value} {pre tail part : List Nat} (h : WriterAt w b F s m p pre tail part) : b < w.heap.size := by
  have := h.block
  rw [Array.getElem?_eq_some_iff] at this
  exact this.1

theorem WriterAt.grown {w w' : World} {b : Nat} {F : Nat → Prop} {s : List Nat × Nat} {m : Nat} {p : Value} {pre tail part : List Nat} (h : WriterAt w b F s m p pre tail part) {row : Option Nat} (hg : w.grownBy w' row) (hb : some b ≠ row) (hF : ∀ k, F k → some k ≠ row) : WriterAt w' b F s m p pre tail part :=
  ⟨h.text, h.short, h.whole, h.same, h.most, h.small, Chain.hold (fun k hk hf => hg.block k hk (hF k hf)) (fun _ h => h) m p pre h.chain, fun k hk => ⟨(h.apart k hk).1, Nat.lt_of_lt_of_le (h.apart k hk).2 hg.size⟩, by rw [hg.block b h.lt hb]; exact h.block⟩

theorem grown_refl (w : World) (row : Option Nat) : w.grownBy w row := ⟨rfl, rfl, rfl, Nat.le_refl _, fun _ _ _ => rfl⟩
theorem grown_trans {a b c : World} {row : Option Nat} (h : a.grownBy b row) (k : b.grownBy c row) : a.grownBy c row :=
  ⟨k.os.trans h.os, k.tape.trans h.tape, k.output.trans h.output, Nat.le_trans h.size k.size, fun i hi hn => (k.block i (Nat.lt_of_lt_of_le hi h.size) hn).trans (h.block i hi hn)⟩
theorem grown_below {a b : World} (h : Below a.heap.size a b) (row : Option Nat) : a.grownBy b row := ⟨h.os, h.tape, h.output, h.size, fun i hi _ => h.block i hi⟩
theorem grown_alloc (w : World) (o : Obj) (row : Option Nat) : w.grownBy (w.alloc o) row := grown_below ((Below.refl _ w).alloc (Nat.le_refl _) o) row
theorem grown_drew (w : World) (n : Nat) (row : Option Nat) : w.grownBy (w.drewN n) row := ⟨rfl, rfl, rfl, Nat.le_refl _, fun _ _ _ => rfl⟩
theorem grown_set (w : World) (b k : Nat) (v : Value) : w.grownBy (w.setCell ⟨b, k, none⟩ v) (some b) :=
  ⟨rfl, rfl, rfl, by simp [World.setCell], fun i hi hn => Below.heap_setCell _ _ _ _ (fun e => hn (by rw [e]))⟩
theorem grown_setRow (w : World) (b : Nat) (cs : Array Value) : w.grownBy (w.setRow b cs) (some b) :=
  ⟨rfl, rfl, rfl, by simp [World.setRow], fun i hi hn => setRow_other w b i cs (fun e => hn (by rw [e]))⟩
theorem below_of_grown {B : Nat} {w w' : World} {b : Nat} (h : w.grownBy w' (some b)) (hB : B ≤ b) (hw : B ≤ w.heap.size) : Below B w w' :=
  ⟨h.os, h.tape, h.output, h.size, fun k hk => h.block k (by omega) (fun e => by injection e with e; omega)⟩

theorem cell_at {w : World} {b k : Nat} {C : List Value} {t : TypeId} {v : Value} (h : w.heap[b]? = some (.cells C.toArray t (0, 0))) (hk : C[k]? = some v) : w.cell? ⟨b, k, none⟩ = some v := by
  rw [cell_of_row w b k _ t (0, 0) h]; simpa using hk
theorem WriterAt.cells {w : World} {b : Nat} {F : Nat → Prop} {s : List Nat × Nat} {m : Nat} {p : Value} {pre tail part : List Nat} (h : WriterAt w b F s m p pre tail part) :
    w.cell? ⟨b, 0, none⟩ = some (.int .i64 (s.1.length : Int)) ∧ w.cell? ⟨b, 1, none⟩ = some (.int .i64 (s.2 : Int)) ∧ w.cell? ⟨b, 2, none⟩ = some p ∧ w.frozen? ⟨b, 0, none⟩ = false ∧ w.frozen? ⟨b, 1, none⟩ = false ∧ w.frozen? ⟨b, 2, none⟩ = false :=
  ⟨cell_at h.block rfl, cell_at h.block rfl, cell_at h.block rfl, frozen_of_row w b 0 _ _ h.block, frozen_of_row w b 1 _ _ h.block, frozen_of_row w b 2 _ _ h.block⟩

theorem failed_no (b : Nat) (w : World) (h : w.cell? ⟨b, 1, none⟩ = some (.int .i64 0)) :
    Calls Try.prog 35 #[.pointer (some ⟨b, 0, none⟩)] w fun e w' => e = .returned (.bool false) ∧ w = w' := by
  go_enter Try.func35, Try.ntmps35
  go_wp2
  go_ret
  exact ⟨rfl, rfl⟩
theorem failed_yes (b e : Nat) (w : World) (h : w.cell? ⟨b, 1, none⟩ = some (.int .i64 (e : Int))) (he : e ≠ 0) :
    Calls Try.prog 35 #[.pointer (some ⟨b, 0, none⟩)] w fun e w' => e = .returned (.bool true) ∧ w = w' := by
  have h1 : ((e : Int) != 0) = true := by simp; omega
  have h2 : ((e : Int) == 0) = false := by simp; omega
  clear he
  go_enter Try.func35, Try.ntmps35
  go_wp2
  go_ret
  exact ⟨rfl, rfl⟩

theorem wshut_nil (w : World) :
    Calls Try.prog 33 #[.pointer none] w fun e w' => e = .returned (.bool true) ∧ w = w' := by
  go_enter Try.func33, Try.ntmps33
  go_wp2_with fail
  go_ret
  exact ⟨rfl, rfl⟩
theorem wshut_no (b : Nat) (w : World) (h : w.cell? ⟨b, 1, none⟩ = some (.int .i64 0)) :
    Calls Try.prog 33 #[.pointer (some ⟨b, 0, none⟩)] w fun e w' => e = .returned (.bool false) ∧ w = w' := by
  have k := failed_no b w h
  go_enter Try.func33, Try.ntmps33
  go_wp2_with (go_at_call 35; refine k.mono ?_; rintro e w' ⟨rfl, rfl⟩)
  go_ret
  exact ⟨rfl, rfl⟩
theorem wshut_yes (b e : Nat) (w : World) (h : w.cell? ⟨b, 1, none⟩ = some (.int .i64 (e : Int))) (he : e ≠ 0) :
    Calls Try.prog 33 #[.pointer (some ⟨b, 0, none⟩)] w fun e w' => e = .returned (.bool true) ∧ w = w' := by
  have k := failed_yes b e w h he
  clear he
  go_enter Try.func33, Try.ntmps33
  go_wp2_with (go_at_call 35; refine k.mono ?_; rintro e w' ⟨rfl, rfl⟩)
  go_ret
  exact ⟨rfl, rfl⟩

theorem move_ok (b : Nat) (n : Int) (v : Value) (w : World) (h : w.cell? ⟨b, 0, none⟩ = some v) (hf : w.frozen? ⟨b, 0, none⟩ = false) :
    Calls Try.prog 34 #[.pointer (some ⟨b, 0, none⟩), .int .i64 n, .int .i64 0] w fun e w' => e = .returned (.bool true) ∧ w' = w.setCell ⟨b, 0, none⟩ (.int .i64 n) := by
  go_enter Try.func34, Try.ntmps34
  go_wp2
  go_ret
  exact ⟨rfl, rfl⟩
theorem move_not (b why : Nat) (n : Int) (v : Value) (w : World) (h : w.cell? ⟨b, 1, none⟩ = some v) (hf : w.frozen? ⟨b, 1, none⟩ = false) (hy : why ≠ 0) :
    Calls Try.prog 34 #[.pointer (some ⟨b, 0, none⟩), .int .i64 n, .int .i64 (why : Int)] w fun e w' => e = .returned (.bool false) ∧ w' = w.setCell ⟨b, 1, none⟩ (.int .i64 (why : Int)) := by
  have h1 : ((why : Int) != 0) = true := by simp; omega
  have h2 : ((why : Int) == 0) = false := by simp; omega
  clear hy
  go_enter Try.func34, Try.ntmps34
  go_wp2
  go_ret
  exact ⟨rfl, rfl⟩
end Go.Proofs.Ytmagjfjmaojemaa
