/- The calls of layer 1 (money) on single numbers, each by a contract: what they answer, and that the world stays. · Layer 1 (money) over natural numbers: Fall, Take, Rise whatever comes out. By contracts. · The sum of a list (layer 1), by a contract: the sum of all where it is a number of 64 bits, else the error. · Layer 19 (member), plain: who has something at stake; what of many is active, and what is present. -/
import Derived.Test.YtcaejanfhchacaaProg
import Derived.WalkKit
import Derived.ProofKit
import Derived.Test.YtcaejanfhchacaaBytes
import Derived.Laws.Rows
import Derived.Test.YtcaejanfhchacaaPlM
import Derived.Test.YtcaejanfhchacaaRec
import Derived.Test.YtcaejanfhchacaaBitM
namespace Go.Proofs.Ytcaejanfhchacaa
open Go.RowKit
set_option linter.unusedVariables false

theorem money_add_ok (a b : Int) (w : World) (ha : 0 ≤ a) (hb : 0 ≤ b) (h : a + b ≤ 18446744073709551615) :
    Calls Try.prog 113 #[.int .u64 a, .int .u64 b] w fun e w' => e = .returned (.tuple #[.int .u64 (a + b), .int .i64 0]) ∧ w = w' := by
  go_enter Try.func113, Try.ntmps113
  go_wp2
  go_ret2
  exact ⟨rfl, rfl⟩

theorem money_add_over (a b : Int) (w : World) (ha : 0 ≤ a) (ha' : a ≤ 18446744073709551615) (hb : 0 ≤ b) (hb' : b ≤ 18446744073709551615) (h : 18446744073709551615 < a + b) :
    Calls Try.prog 113 #[.int .u64 a, .int .u64 b] w fun e w' => e = .returned (.tuple #[.int .u64 0, .int .i64 10]) ∧ w = w' := by
  go_enter Try.func113, Try.ntmps113
  go_wp2
  go_ret2
  exact ⟨rfl, rfl⟩

end Go.Proofs.Ytcaejanfhchacaa
namespace Go.Proofs.Ytcaejanfhchacaa
set_option linter.unusedVariables false
end Go.Proofs.Ytcaejanfhchacaa
namespace Go.Proofs.Ytcaejanfhchacaa
open Go.RowKit
set_option linter.unusedVariables false

/-- The sum of a list of whole numbers. -/
def tot : List Nat → Nat
  | [] => 0
  | n :: r => n + tot r
theorem tot_append (a b : List Nat) : tot (a ++ b) = tot a + tot b := by
  induction a with
  | nil => simp [tot]
  | cons x a ih => show x + tot (a ++ b) = x + tot a + tot b; rw [ih]; omega
theorem tot_take_succ (l : List Nat) (k : Nat) (h : k < l.length) : tot (l.take (k + 1)) = tot (l.take k) + l[k] := by
  rw [List.take_succ_eq_append_getElem h, tot_append]; simp [tot]
theorem tot_take_le (l : List Nat) (k : Nat) : tot (l.take k) ≤ tot l := by
  have h := tot_append (l.take k) (l.drop k)
  rw [List.take_append_drop] at h
  omega
/-- A list of numbers of 64 bits, as values. -/
def u64s (ns : List Nat) : List Value := ns.map fun (n : Nat) => Value.int .u64 (n : Int)
theorem u64s_len (ns : List Nat) : (u64s ns).length = ns.length := by simp [u64s]
/-- Numbers made at once. -/
theorem row_new (w : World) (ns : List Nat) (T : TypeId) : Row (w.alloc (.cells (u64s ns).toArray T)) (w.heap.size + 1) (some ⟨w.heap.size, 0, none⟩) (u64s ns) := fun k v hk => by
  refine ⟨_, rfl, by show w.heap.size < _; omega, ?_⟩
  rw [show (⟨w.heap.size, 0, none⟩ : Addr).add k = ⟨w.heap.size, k, none⟩ by unfold Addr.add; by_cases h : k = 0 <;> simp [h], cell_of_row _ _ _ _ _ _ (heap_alloc_new w _)]
  simpa using hk
set_option maxRecDepth 100000 in
theorem sum_ok (ns : List Nat) (A : Option Addr) (c B : Nat) (w : World) (hr : Row w B A (u64s ns)) (hlen : ns.length ≤ maxLen) (h : tot ns ≤ 18446744073709551615) :
    Calls Try.prog 110 #[.slice A ns.length c] w fun e w' => e = .returned (.tuple #[.int .u64 (tot ns : Nat), .int .i64 0]) ∧ w = w' := by
  unfold maxLen at hlen
  go_enter Try.func110, Try.ntmps110
  go_wp2
  go_loop [4, 11] (fun s i => ∃ k : Nat, k ≤ ns.length ∧ i = .int .i64 k ∧ s = .int .u64 (tot (ns.take k) : Nat)) (fun _ i => ns.length - (intOf i).toNat)
  case atStart => exact ⟨0, Nat.zero_le _, rfl, rfl⟩
  case round =>
    obtain ⟨k, hk, rfl, rfl⟩ := hrel
    by_cases hlt : k < ns.length
    · obtain ⟨a, rfl, hb, hc⟩ := hr.get (k := k) (by rw [u64s_len]; exact hlt)
      simp only [u64s, List.getElem_map] at hc
      have h1 := tot_take_succ ns k hlt
      have h2 := tot_take_le ns (k + 1)
      have h3 : tot (ns.take k) + ns[k] ≤ 18446744073709551615 := by omega
      have H1 := Lib.hid h1
      clear h1 h2 h
      go_wp2_with (go_at_call 113; refine (money_add_ok _ _ _ (by omega) (by omega) (by omega)).mono ?_; rintro e w' ⟨rfl, rfl⟩)
      go_round
      case rel => exact ⟨k + 1, by omega, by go_num, by rw [H1.out]; go_num⟩
      case measure => simp [intOf]; omega
    · obtain rfl : k = ns.length := by omega
      go_wp2
      go_ret2
      exact ⟨rfl, rfl⟩

set_option maxRecDepth 100000 in
theorem sum_over (ns : List Nat) (A : Option Addr) (c B : Nat) (w : World) (hr : Row w B A (u64s ns)) (hlen : ns.length ≤ maxLen) (hn : ∀ n ∈ ns, n ≤ 18446744073709551615) (h : 18446744073709551615 < tot ns) :
    Calls Try.prog 110 #[.slice A ns.length c] w fun e w' => e = .returned (.tuple #[.int .u64 0, .int .i64 10]) ∧ w = w' := by
  unfold maxLen at hlen
  have HN := Lib.hid hn
  clear hn
  go_enter Try.func110, Try.ntmps110
  go_wp2
  go_loop [4, 11] (fun s i => ∃ k : Nat, k ≤ ns.length ∧ tot (ns.take k) ≤ 18446744073709551615 ∧ i = .int .i64 k ∧ s = .int .u64 (tot (ns.take k) : Nat)) (fun _ i => ns.length - (intOf i).toNat)
  case atStart => exact ⟨0, Nat.zero_le _, by simp [tot], rfl, rfl⟩
  case round =>
    obtain ⟨k, hk, hs, rfl, rfl⟩ := hrel
    by_cases hlt : k < ns.length
    · obtain ⟨a, rfl, hb, hc⟩ := hr.get (k := k) (by rw [u64s_len]; exact hlt)
      simp only [u64s, List.getElem_map] at hc
      have h1 := tot_take_succ ns k hlt
      have h4 := HN.out ns[k] (List.getElem_mem hlt)
      have H1 := Lib.hid h1
      clear h1 h
      by_cases h3 : tot (ns.take k) + ns[k] ≤ 18446744073709551615
      · go_wp2_with (go_at_call 113; refine (money_add_ok _ _ _ (by omega) (by omega) (by omega)).mono ?_; rintro e w' ⟨rfl, rfl⟩)
        go_round
        case rel => exact ⟨k + 1, by omega, by rw [H1.out]; exact h3, by go_num, by rw [H1.out]; go_num⟩
        case measure => simp [intOf]; omega
      · go_wp2_with (go_at_call 113; refine (money_add_over _ _ _ (by omega) (by omega) (by omega) (by omega) (by omega)).mono ?_; rintro e w' ⟨rfl, rfl⟩)
        go_ret2
        exact ⟨rfl, rfl⟩
    · obtain rfl : k = ns.length := by omega
      rw [List.take_length] at hs
      omega

end Go.Proofs.Ytcaejanfhchacaa
namespace Go.Proofs.Ytcaejanfhchacaa
open Go.RowKit
set_option linter.unusedVariables false

/-- A standing, and whose it is. -/
structure Mem where
  s : Std
  owner : Int
  status : Int
def Mem.vals (m : Mem) : Array Value := #[.int .u64 (m.s.bal : Int), .int .u64 (m.s.eff : Int), .int .u64 (m.s.score : Int), .int .i64 m.s.streak, .int .i64 m.owner, .int .i64 m.status]
instance : Rec Mem := ⟨Mem.vals, 6, fun _ => rfl, by decide, fun d => by simp [Mem.vals, Value.oneCell']⟩
def Mem.zero : Mem := ⟨Std.none, 0, 0⟩
/-- A standing is within its parameters. -/
def Std.held (p : Par) (s : Std) : Bool := decide (s.score ≤ p.scoreCap) && (decide (0 ≤ s.streak) && decide (s.streak ≤ p.streak))
namespace Mem
def counts (m : Mem) : Bool := decide (m.status = 2) || decide (m.status = 3)
def owned (m : Mem) : Bool := decide (0 ≤ m.owner) && decide (m.owner < 64)
def gone (m : Mem) : Bool := decide (m.status = 4) || decide (m.status = 5)
def staked (p : Par) (m : Mem) : Bool := decide (p.floor < m.s.bal) && decide (m.s.bal ≤ p.cap)
/-- What it has is right for its status. -/
def holds (p : Par) (m : Mem) : Bool :=
  bif m.counts then m.staked p && p.fit m.s.eff m.s.bal
  else bif decide (m.status = 1) then decide (0 < m.s.bal) && (decide (m.s.bal ≤ p.cap) && decide (m.s.eff = 0))
  else bif m.gone then decide (m.s.bal = 0) && decide (m.s.eff = 0) else false
/-- Of parameters that are right: is the member? -/
def fits (p : Par) (m : Mem) : Bool := m.s.held p && (m.owned && m.holds p)
/-- A member that waited, active. -/
def starts (p : Par) (m : Mem) : Bool := decide (m.status = 1) && m.staked p
/-- One with more, as far as there is room. -/
def room (p : Par) (m : Mem) (n : Nat) : Nat := min n (p.cap - m.s.bal)
def again (p : Par) (m : Mem) (n : Nat) : Bool := m.gone && decide (0 < m.s.bal + m.room p n)
def credited (p : Par) (m : Mem) (n : Nat) : Mem :=
  bif m.again p n then ⟨⟨m.s.bal + m.room p n, 0, m.s.score, m.s.streak⟩, m.owner, 1⟩ else ⟨⟨m.s.bal + m.room p n, m.s.eff, m.s.score, m.s.streak⟩, m.owner, m.status⟩

theorem counts_two {m : Mem} (h : m.status = 2) : m.counts = true := by simp [counts, h]
theorem counts_three {m : Mem} (h : m.status = 3) : m.counts = true := by simp [counts, h]
theorem counts_no {m : Mem} (h : ¬ m.status = 2) (h2 : ¬ m.status = 3) : m.counts = false := by simp [counts, h, h2]
end Mem

/-- The effective balances of those that are picked, of the first k. -/
def picked (f : Nat → Mem → Bool) (l : List Mem) : Nat → List Nat
  | 0 => []
  | k + 1 => picked f l k ++ (match l[k]? with | some m => if f k m = true then [m.s.eff] else [] | none => [])
theorem picked_yes {f : Nat → Mem → Bool} {l : List Mem} {k : Nat} {m : Mem} (h : l[k]? = some m) (hf : f k m = true) : picked f l (k + 1) = picked f l k ++ [m.s.eff] := by
  show picked f l k ++ _ = _
  rw [h]
  simp [hf]
theorem picked_no {f : Nat → Mem → Bool} {l : List Mem} {k : Nat} {m : Mem} (h : l[k]? = some m) (hf : f k m = false) : picked f l (k + 1) = picked f l k := by
  show picked f l k ++ _ = _
  rw [h]
  simp [hf]
theorem tot_snoc (l : List Nat) (x : Nat) : tot (l ++ [x]) = tot l + x := by
  rw [tot_append]
  rfl
theorem picked_up (f : Nat → Mem → Bool) (l : List Mem) (k : Nat) : ∀ j, tot (picked f l k) ≤ tot (picked f l (k + j))
  | 0 => Nat.le_refl _
  | j + 1 => by
    have ih := picked_up f l k j
    refine Nat.le_trans ih ?_
    show _ ≤ tot (picked f l (k + j) ++ _)
    rw [tot_append]
    exact Nat.le_add_right _ _
theorem picked_mono (f : Nat → Mem → Bool) (l : List Mem) {k n : Nat} (h : k ≤ n) : tot (picked f l k) ≤ tot (picked f l n) := by
  obtain ⟨j, rfl⟩ : ∃ j, n = k + j := ⟨n - k, by omega⟩
  exact picked_up f l k j
theorem picked_less {f g : Nat → Mem → Bool} (h : ∀ k m, f k m = true → g k m = true) (l : List Mem) : ∀ k, tot (picked f l k) ≤ tot (picked g l k)
  | 0 => Nat.le_refl _
  | k + 1 => by
    have ih := picked_less h l k
    rcases hm : l[k]? with _ | m
    · show tot (picked f l k ++ _) ≤ tot (picked g l k ++ _)
      rw [hm]
      simpa using ih
    · cases hf : f k m with
      | true =>
        rw [picked_yes hm hf, picked_yes hm (h k m hf), tot_snoc, tot_snoc]
        omega
      | false =>
        rw [picked_no hm hf]
        exact Nat.le_trans ih (picked_up g l k 1)
theorem picked_len (f : Nat → Mem → Bool) (l : List Mem) : ∀ k, (picked f l k).length ≤ k
  | 0 => Nat.le_refl _
  | k + 1 => by
    have ih := picked_len f l k
    show (picked f l k ++ _).length ≤ _
    rw [List.length_append]
    split
    · split <;> simp <;> omega
    · simp; omega
theorem picked_most {f : Nat → Mem → Bool} {l : List Mem} {M : Nat} (h : ∀ m ∈ l, m.s.eff ≤ M) : ∀ k, ∀ n ∈ picked f l k, n ≤ M
  | 0, n, hn => by cases hn
  | k + 1, n, hn => by
    rcases List.mem_append.1 hn with h1 | h1
    · exact picked_most h k n h1
    · split at h1
      · rename_i m hm
        split at h1
        · simp at h1
          subst h1
          exact h m (List.mem_of_getElem? hm)
        · simp at h1
      · simp at h1
def isAct (_ : Nat) (m : Mem) : Bool := m.counts
def isThere (xs : List Nat) (k : Nat) (m : Mem) : Bool := m.counts && bitAt xs k
theorem there_act {xs : List Nat} (k : Nat) (m : Mem) (h : isThere xs k m = true) : isAct k m = true := by
  unfold isThere at h
  simp only [Bool.and_eq_true] at h
  exact h.1
/-- All that is active, all that is present. -/
def actives (l : List Mem) (k : Nat) : Nat := tot (picked isAct l k)
def presents (l : List Mem) (xs : List Nat) (k : Nat) : Nat := tot (picked (isThere xs) l k)
theorem presents_le (l : List Mem) (xs : List Nat) (k : Nat) : presents l xs k ≤ actives l k := picked_less there_act l k
/-- What comes of it: what is present, what is active, an error's number. -/
def stk (l : List Mem) (xs : List Nat) : Nat × Nat × Nat :=
  if actives l l.length ≤ 18446744073709551615 then (presents l xs l.length, actives l l.length, 0) else (0, 0, 10)
theorem stk_in {l : List Mem} {xs : List Nat} (h : actives l l.length ≤ 18446744073709551615) : stk l xs = (presents l xs l.length, actives l l.length, 0) := if_pos h
theorem stk_out {l : List Mem} {xs : List Nat} (h : ¬ actives l l.length ≤ 18446744073709551615) : stk l xs = (0, 0, 10) := if_neg h
end Go.Proofs.Ytcaejanfhchacaa
