/- Layer 18 (pool): what is due: one more, what is ripe. By contracts. -/
import Derived.Test.YtaaildlopknbjaaPoolT
import Derived.Test.YtaaildlopknbjaaPart
import Derived.Test.YtaaildlopknbjaaSeqR
import Derived.Shelf.Abstract
import Derived.Laws.OwnMore
namespace Go.Proofs.Ytaaildlopknbjaa
open Go.RowKit Go.Shelf
set_option linter.unusedVariables false
set_option linter.unusedSimpArgs false

set_option maxRecDepth 100000 in
/-- The function that tells those to the same account at the same tick, as a value that took the one with it. -/
theorem same_is (d o : Due) (g : Nat) (w : World) (hS : RecAt w g (Rec.vals d) 50) :
    Calls Try.prog 29 #[.agg (Rec.vals o), .pointer (some ⟨g, 0, none⟩)] w fun e w' => e = .returned (.bool (d.same o)) ∧ Below w.heap.size w w' := by
  have hB : Below w.heap.size w (w.alloc (.cells (Rec.vals o) 50)) := (Below.refl _ _).alloc (Nat.le_refl _) _
  have hS2 := hS.up hB
  have x0 : (w.alloc (.cells (Rec.vals o) 50)).cell? ⟨g, 0, none⟩ = some (.int .i64 d.acc) := hS2.cell 0
  have x1 : (w.alloc (.cells (Rec.vals o) 50)).cell? ⟨g, 1, none⟩ = some (.int .i64 d.tick) := hS2.cell 1
  have hO := RecAt.new w (Rec.vals o) 50
  have y0 : (w.alloc (.cells (Rec.vals o) 50)).cell? ⟨w.heap.size, 0, none⟩ = some (.int .i64 o.acc) := hO.cell 0
  have y1 : (w.alloc (.cells (Rec.vals o) 50)).cell? ⟨w.heap.size, 1, none⟩ = some (.int .i64 o.tick) := hO.cell 1
  unfold Due.same
  by_cases h1 : o.acc = d.acc
  · have z1 : (o.acc == d.acc) = true := by simp [h1]
    rw [decide_eq_true h1, Bool.true_and]
    by_cases h2 : o.tick = d.tick
    · have z2 : (o.tick == d.tick) = true := by simp [h2]
      rw [decide_eq_true h2]
      clear h1 h2 hS hS2 hO
      go_enter Try.func29, Try.ntmps29
      go_wp2
      go_ret
      exact ⟨by first | rfl | simp, hB⟩
    · have z2 : (o.tick == d.tick) = false := by simp [h2]
      rw [decide_eq_false h2]
      clear h1 h2 hS hS2 hO
      go_enter Try.func29, Try.ntmps29
      go_wp2
      go_ret
      exact ⟨by first | rfl | simp, hB⟩
  · have z1 : (o.acc == d.acc) = false := by simp [h1]
    rw [decide_eq_false h1, Bool.false_and]
    clear h1 hS hS2 hO
    go_enter Try.func29, Try.ntmps29
    go_wp2
    go_ret
    exact ⟨by first | rfl | simp, hB⟩

/-- None of the first k. -/
def NoneOf (p : Due → Bool) (l : List Due) (k : Nat) : Prop := ∀ j x, j < k → l[j]? = some x → p x = false
theorem NoneOf.zero (p : Due → Bool) (l : List Due) : NoneOf p l 0 := fun j x hj => absurd hj (Nat.not_lt_zero _)
theorem NoneOf.succ {p : Due → Bool} {l : List Due} {k : Nat} {s : Due} (h : NoneOf p l k) (hk : l[k]? = some s) (h0 : p s = false) : NoneOf p l (k + 1) := fun j x hj hx => by
  by_cases e : j = k
  · subst e
    rw [hk] at hx
    cases hx
    exact h0
  · exact h j x (by omega) hx
theorem NoneOf.all {p : Due → Bool} {l : List Due} (h : NoneOf p l l.length) : l.findIdx? p = none := by
  rw [List.findIdx?_eq_none_iff]
  intro x hx
  obtain ⟨j, hj, rfl⟩ := List.getElem_of_mem hx
  exact h j _ hj (List.getElem?_eq_getElem hj)
theorem NoneOf.hit {p : Due → Bool} {l : List Due} {k : Nat} {s : Due} (h : NoneOf p l k) (hk : l[k]? = some s) (h1 : p s = true) : l.findIdx? p = some k := by
  obtain ⟨hlt, e⟩ := List.getElem?_eq_some_iff.1 hk
  rw [List.findIdx?_eq_some_iff_getElem]
  refine ⟨hlt, by rw [e]; exact h1, fun j hj => ?_⟩
  have := h j _ hj (List.getElem?_eq_getElem (by omega))
  simp [this]
/-- A place, or -1. -/
def placeOf : Option Nat → Int
  | some k => (k : Int)
  | none => -1

set_option maxRecDepth 100000 in
set_option maxHeartbeats 1000000 in
theorem index_same (d : Due) (l : List Due) (g : Nat) (A : Option Addr) (c : Nat) (w : World) (hS : RecAt w g (Rec.vals d) 50) (hr : Row w w.heap.size A (rows l)) (hlen : l.length ≤ 1000000) :
    Calls Try.prog 30 #[.slice A l.length c, .func (.func 29) #[] #[.pointer (some ⟨g, 0, none⟩)]] w fun e w' => e = .returned (.int .i64 (placeOf (l.findIdx? d.same))) ∧ Below w.heap.size w w' := by
  have eg := enters_of (P := Try.prog) Try.func29 (by kernel_rfl) rfl
  have HR := Lib.hid hr
  clear hr
  go_enter Try.func30, Try.ntmps30
  go_wp2
  go_loopw [8] (fun i wr => ∃ k : Nat, k ≤ l.length ∧ i = .int .i64 k ∧ Hid (NoneOf d.same l k) ∧ Below w.heap.size w wr) (fun i _ => l.length - (intOf i).toNat)
  case atStart => exact ⟨0, Nat.zero_le _, rfl, Lib.hid (NoneOf.zero _ _), Below.refl _ _⟩
  case round =>
    obtain ⟨k, hk, rfl, HN, hB⟩ := hrel
    by_cases hlt : k < l.length
    · obtain ⟨s, hs⟩ : ∃ s, l[k]? = some s := ⟨_, List.getElem?_eq_getElem hlt⟩
      obtain ⟨a, rfl, hab, hat0⟩ := rows_row (HR.out.below hB) hs
      have hat : LiesAt wr (a.add (k * 3)) (Rec.vals s) := hat0
      have hki : (k : Int) < (l.length : Int) := by omega
      have hk0 : (0 : Int) ≤ (k : Int) := by omega
      have HS := Lib.hid hs
      have kw := same_is d s g wr (hS.up hB)
      clear hs hat0
      by_cases hsm : d.same s = true
      · rw [hsm] at kw
        have HM := Lib.hid hsm
        clear hsm
        go_wp2_with (first
          | (refine load_rec 50 _ rfl rfl _ (Rec.vals s) rfl hat Try.underlying50 size_due ?_)
          | (go_at_call 29; refine kw.mono ?_; clear kw; rintro e w3 ⟨rfl, hb3⟩)
          | (go_at_fn 29; refine kw.mono ?_; clear kw; rintro e w3 ⟨rfl, hb3⟩))
        go_ret
        exact ⟨by rw [HN.out.hit HS.out HM.out]; rfl, Below.then hB hb3⟩
      · have hsm : d.same s = false := by simpa using hsm
        rw [hsm] at kw
        have HM := Lib.hid hsm
        clear hsm
        go_wp2_with (first
          | (refine load_rec 50 _ rfl rfl _ (Rec.vals s) rfl hat Try.underlying50 size_due ?_)
          | (go_at_call 29; refine kw.mono ?_; clear kw; rintro e w3 ⟨rfl, hb3⟩)
          | (go_at_fn 29; refine kw.mono ?_; clear kw; rintro e w3 ⟨rfl, hb3⟩))
        go_roundw
        case rel => exact ⟨k + 1, by omega, by go_num, Lib.hid (HN.out.succ HS.out HM.out), Below.then hB hb3⟩
        case measure => simp [intOf]; omega
    · obtain rfl : k = l.length := by omega
      go_wp2
      go_ret
      exact ⟨by rw [HN.out.all]; rfl, hB⟩

set_option maxRecDepth 100000 in
set_option maxHeartbeats 1000000 in
/-- How many stand ahead. -/
theorem behind_is (l : List Due) (t : Int) (A : Option Addr) (c : Nat) (w : World) (hr : Row w w.heap.size A (rows l)) (hlen : l.length ≤ 1000000) :
    Calls Try.prog 32 #[.slice A l.length c, .int .i64 t] w fun e w' => e = .returned (.int .i64 (behindOf l t l.length : Nat)) ∧ w = w' := by
  go_enter Try.func32, Try.ntmps32
  go_wp2
  go_loop [5] (fun i => ∃ k : Nat, k ≤ l.length ∧ i = .int .i64 k ∧ Hid (behindOf l t l.length = behindOf l t k)) (fun i => (intOf i).toNat)
  case atStart => exact ⟨l.length, Nat.le_refl _, rfl, Lib.hid rfl⟩
  case round =>
    obtain ⟨k, hk, rfl, HE⟩ := hrel
    rcases Nat.eq_zero_or_pos k with rfl | hpos
    · rw [show ((0 : Nat) : Int) = 0 from rfl]
      go_wp2
      go_ret
      exact ⟨by rw [HE.out]; rfl, rfl⟩
    · obtain ⟨j, rfl⟩ : ∃ j, k = j + 1 := ⟨k - 1, by omega⟩
      have hjl : j < l.length := by omega
      have hs : l[j]? = some l[j] := List.getElem?_eq_getElem hjl
      obtain ⟨a, rfl, hab, hat0⟩ := rows_row hr hs
      have hat : LiesAt w (a.add (j * 3)) (Rec.vals l[j]) := hat0
      have hback := fun h => behindOf_back (t := t) hjl h
      have hstop := fun h => behindOf_stop (t := t) hjl h
      obtain ⟨s, es⟩ : ∃ s, l[j] = s := ⟨_, rfl⟩
      rw [es] at hat hback hstop
      have x1 : w.cell? ⟨(a.add (j * 3)).block, (a.add (j * 3)).off + 1, none⟩ = some (.int .i64 s.tick) := hat.fld 0 rfl
      have e1 : ((j + 1 : Nat) : Int) = (j : Int) + 1 := by omega
      have hjI : (j : Int) < (l.length : Int) := by omega
      have hj0 : (0 : Int) ≤ (j : Int) := by omega
      have hj1 : (0 : Int) < (j : Int) + 1 := by omega
      have e2 : IntKind.i64.wrap ((j : Int) + 1 - 1) = (j : Int) := by rw [IntKind.wrap_i64]; omega
      rw [e1]
      have HB := Lib.hid hback
      have HT := Lib.hid hstop
      clear hback hstop hs hat0 hat es e1
      by_cases ht : t < s.tick
      · have HTT := Lib.hid ht
        go_wp2
        go_round
        case rel => exact ⟨j, by omega, by go_num, Lib.hid (by rw [HE.out, HB.out HTT.out])⟩
        case measure => simp [intOf]
      · have HTT := Lib.hid ht
        go_wp2
        go_ret
        exact ⟨by rw [HE.out, HT.out HTT.out]; simp, rfl⟩
end Go.Proofs.Ytaaildlopknbjaa
