/- Bytes, and lists of bytes, in memory; lists of them that a call made. -/
import Derived.Test.YtcggcnegagogkaaBytes
namespace Go.Proofs.Ytcggcnegagogkaa
open Go.RowKit
set_option linter.unusedVariables false
set_option linter.unusedSimpArgs false

/-- Bytes that are handed over among others. -/
structure BV where
  row : Option Addr
  bs : List Nat
  cap : Nat

/-- Bytes, as one value. -/
def BV.val (b : BV) : Value := .slice b.row b.bs.length b.cap
/-- Lists of bytes, as values. -/
def bvs (l : List BV) : List Value := l.map BV.val
theorem bvs_len (l : List BV) : (bvs l).length = l.length := by simp [bvs]
theorem bvs_get {l : List BV} {k : Nat} {b : BV} (h : l[k]? = some b) : (bvs l)[k]? = some (.slice b.row b.bs.length b.cap) := by
  unfold bvs
  rw [List.getElem?_map, h]
  rfl
theorem bvs_of {l : List BV} {k : Nat} {v : Value} (h : (bvs l)[k]? = some v) : ∃ b, l[k]? = some b ∧ v = b.val := by
  unfold bvs at h
  rw [List.getElem?_map] at h
  obtain ⟨b, hb, e⟩ := Option.map_eq_some_iff.1 h
  exact ⟨b, hb, e.symm⟩
theorem bvs_snoc (l : List BV) (b : BV) : bvs (l ++ [b]) = bvs l ++ [b.val] := by simp [bvs]
theorem bvs_append (l r : List BV) : bvs (l ++ r) = bvs l ++ bvs r := by simp [bvs]
theorem bvs_one {l : List BV} : ∀ v ∈ bvs l, v.oneCell' = true := fun v hv => by
  obtain ⟨b, _, rfl⟩ := List.mem_map.1 hv
  rfl
theorem bvs_take (l : List BV) (k : Nat) : (bvs l).take k = bvs (l.take k) := by simp [bvs, List.map_take]
theorem bv_info : (Try.prog.info? 23).map (fun i => (i.zero, i.size, i.bytes)) = some (some (.slice none 0 0), 1, 24) := by kernel_rfl
theorem bv_size (w : World) : (sizeOf 23).run Try.prog w = .ok 1 w := by kernel_rfl

theorem row_kept {w w' : World} {A : Option Addr} {xs : List Value} (h : Row w w.heap.size A xs) (hb : Below w.heap.size w w') : Row w' w'.heap.size A xs := (h.below hb).up hb.size
theorem row_lies {w : World} {A : Option Addr} {xs : List Nat} (h : Row w w.heap.size A (u8s xs)) : Lies w (· < w.heap.size) A xs := Lies.ofRow h

/-- A list of lists of bytes, in memory that is there. -/
structure Ring (w : World) (A : Option Addr) (l : List BV) : Prop where
  row : Row w w.heap.size A (bvs l)
  each : ∀ b ∈ l, Row w w.heap.size b.row (u8s b.bs) ∧ ∀ x ∈ b.bs, x < 256
theorem Ring.up {w w' : World} {A : Option Addr} {l : List BV} (h : Ring w A l) (hb : Below w.heap.size w w') : Ring w' A l :=
  ⟨row_kept h.row hb, fun b hm => ⟨row_kept (h.each b hm).1 hb, (h.each b hm).2⟩⟩
theorem Ring.nil (w : World) (A : Option Addr) : Ring w A [] := ⟨Row.nil _ _ _, fun b h => by cases h⟩
/-- The k-th of them. -/
theorem Ring.at {w : World} {A : Option Addr} {l : List BV} (h : Ring w A l) {k : Nat} (hk : k < l.length) :
    ∃ a, A = some a ∧ a.block < w.heap.size ∧ w.cell? (a.add k) = some (.slice (l[k]).row (l[k]).bs.length (l[k]).cap) ∧ Row w w.heap.size (l[k]).row (u8s (l[k]).bs) ∧ ∀ x ∈ (l[k]).bs, x < 256 := by
  obtain ⟨a, hA, hb, hc⟩ := h.row k _ (bvs_get (List.getElem?_eq_getElem hk))
  have he := h.each _ (List.getElem_mem hk)
  exact ⟨a, hA, hb, hc, he.1, he.2⟩
theorem Ring.take {w : World} {A : Option Addr} {l : List BV} (h : Ring w A l) (k : Nat) : Ring w A (l.take k) :=
  ⟨by rw [← bvs_take]; exact h.row.take k, fun b hm => h.each b (List.mem_of_mem_take hm)⟩

/-- A list of lists of bytes that was made in blocks from lo on, each of them too. -/
def Made (w : World) (lo : Nat) (v : Value) (xs : List (List Nat)) : Prop :=
  ∃ l : List BV, l.map BV.bs = xs ∧ w.ownsRow lo 23 1 v l.length (bvs l) ∧ ∀ b ∈ l, w.ownsRow lo 5 1 b.val b.bs.length (u8s b.bs)
/-- A row of lists and one of bytes lie in other blocks. -/
theorem own_differ {w : World} {lo lo' n n' : Nat} {v v' : Value} {xs xs' : List Value} (h : w.ownsRow lo 23 1 v n xs) (h' : w.ownsRow lo' 5 1 v' n' xs') : ∀ g, v.ownBlock = some g → v'.ownBlock ≠ some g := by
  intro g hg hg'
  rcases h.2 with ⟨rfl, _⟩ | ⟨g1, c1, cur1, rfl, _, hh1, _⟩
  · cases hg
  · rcases h'.2 with ⟨rfl, _⟩ | ⟨g2, c2, cur2, rfl, _, hh2, _⟩
    · cases hg'
    · simp only [Value.ownBlock, Option.some.injEq] at hg hg'
      subst hg
      subst hg'
      rw [hh1] at hh2
      simp only [Option.some.injEq, Obj.cells.injEq] at hh2
      exact absurd hh2.2.1 (by decide)
theorem own_row {w : World} {lo n : Nat} {e : TypeId} {A : Option Addr} {c : Nat} {xs : List Value} (h : w.ownsRow lo e 1 (.slice A n c) n xs) : Row w w.heap.size A xs := by
  obtain ⟨A', c', e, _, _, hr⟩ := Row.of_own h
  cases e
  exact hr
theorem Made.ring {w : World} {lo : Nat} {v : Value} {xs : List (List Nat)} (h : Made w lo v xs) (hx : ∀ x ∈ xs, ∀ y ∈ x, y < 256) :
    ∃ A c l, v = .slice A l.length c ∧ l.map BV.bs = xs ∧ l.length ≤ c ∧ c ≤ maxLen ∧ (A = none → c = 0) ∧ Ring w A l := by
  obtain ⟨l, rfl, ho, he⟩ := h
  obtain ⟨A, c, rfl, hc, hm, hr⟩ := Row.of_own ho
  have hz : A = none → c = 0 := fun e => by
    subst e
    rcases ho.2 with ⟨h1, _⟩ | ⟨g, cap, cur, h1, _⟩
    · simp only [Value.slice.injEq] at h1; exact h1.2.2
    · cases h1
  exact ⟨A, c, l, rfl, rfl, hc, hm, hz, hr, fun b hb => ⟨own_row (he b hb), hx _ (List.mem_map_of_mem hb)⟩⟩
theorem Made.kept {w w' : World} {lo : Nat} {v : Value} {xs : List (List Nat)} (h : Made w lo v xs) (hb : Below w.heap.size w w') : Made w' lo v xs := by
  obtain ⟨l, hl, ho, he⟩ := h
  exact ⟨l, hl, own_kept ho hb, fun b hm => own_kept (he b hm) hb⟩
theorem Made.base {w : World} {lo lo' : Nat} {v : Value} {xs : List (List Nat)} (h : Made w lo v xs) (hb : lo' ≤ lo) : Made w lo' v xs := by
  obtain ⟨l, hl, ho, he⟩ := h
  exact ⟨l, hl, own_base ho hb, fun b hm => own_base (he b hm) hb⟩
theorem Made.nil (w : World) (lo : Nat) : Made w lo (.slice none 0 0) [] := ⟨[], rfl, World.ownsRow_nil _ _ _ _, fun b h => by cases h⟩

/-- An answer: bytes of the call's own, or none, and an error's number. -/
def BytesOf (w0 : World) (r : List Nat × Nat) (e : Ending) (w : World) : Prop :=
  ∃ v, e = .returned (.tuple #[v, .int .i64 (r.2 : Int)]) ∧ w.ownsRow w0.heap.size 5 1 v r.1.length (u8s r.1) ∧ Below w0.heap.size w0 w
theorem BytesOf.none {w0 w : World} (y : Nat) (h : Below w0.heap.size w0 w) : BytesOf w0 ([], y) (.returned (.tuple #[.slice none 0 0, .int .i64 (y : Int)])) w :=
  ⟨_, rfl, World.ownsRow_nil _ _ _ _, h⟩
end Go.Proofs.Ytcggcnegagogkaa
