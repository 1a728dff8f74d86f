/- Layer 19 (member): members, and lists of them, that come in with a law's arguments. · Layer 18 (pool), plain: deposits and what is due; one more of them, what is ripe, what they are together. · What comes in takes no more than memory holds, piece by piece: how much of it a list may have. -/
import Derived.Test.YtcaejanfhchacaaMemM
import Derived.Test.YtcaejanfhchacaaScoS
import Derived.Test.YtcaejanfhchacaaRec
import Derived.SizedLaws
namespace Go.Proofs.Ytcaejanfhchacaa
open Go.ChangeShapes Go.WideShapes Go.ChangeAt Go.RowKit Go.Deep
set_option linter.unusedVariables false

section
variable {H : Type} {enc : TypeId × Value → H} {P : Program} {w : World} {base : Nat} {held : Bool} {α : Type} [Rec α]
/-- A list of records that comes in, whatever a record is made of. -/
theorem open_recs_any (Fits : α → Prop) {T e : TypeId} {A : Option Addr} {n c : Nat} {d : DataW H} {p : List MemPlace} (ht : P.underlying T = some (.slice e)) (hcz : P.cellsOf e = Rec.z α)
    (hread : ∀ (n2 : Nat) (cs : List Value) (x : DataW H × List MemPlace), cs.length = Rec.z α → DataW.trod enc P w base (fun _ => true) held n2 e cs = some x → ∃ x : α, Fits x ∧ (Rec.vals x).toList = cs)
    (h : DataW.Trod enc P w base (fun _ => true) held T (.slice A n c) d p) : ∃ l : List α, n = l.length ∧ (∀ s ∈ l, Fits s) ∧ l.length ≤ c ∧ c ≤ maxLen ∧ (A = none → c = 0) ∧ Row w w.heap.size A (rows l) := by
  obtain ⟨fuel, hf⟩ := h
  have hz : 0 < Rec.z α := Rec.pos
  rcases open_slice ht hf with ⟨hcs, _⟩ | ⟨a, len, cap, m, n', D, Pl, hcs, hb, hl, hm, hmm, hx, hi⟩
  · simp [Value.cells] at hcs
    obtain ⟨rfl, rfl, rfl⟩ := hcs
    exact ⟨[], rfl, by simp, Nat.le_refl _, Nat.zero_le _, fun _ => rfl, Row.nil _ _ _⟩
  · simp [Value.cells] at hcs
    obtain ⟨rfl, rfl, rfl⟩ := hcs
    simp only [if_true] at hmm
    rw [hcz] at hi
    have hone4 : ∀ i, i < n → ∃ s : α, Fits s ∧ a.block < w.heap.size ∧ LiesAt w (a.add (i * Rec.z α)) (Rec.vals s) := by
      intro i hin
      obtain ⟨cs, hc, ht⟩ := hi i (by omega)
      obtain ⟨_, hcl, hat⟩ := World.cells?_some hc
      have hcl' : cs.length = Rec.z α := by omega
      obtain ⟨x, hF, hv⟩ := hread _ cs _ hcl' ht
      have hLi : LiesAt w (a.add (i * Rec.z α)) (Rec.vals x) := fun j v hv2 => by
        have hj : j < Rec.z α := by
          have := (List.getElem?_eq_some_iff.1 hv2).1
          rwa [rec_len] at this
        have h2 := hat j (by omega)
        rw [hv] at hv2
        exact h2.trans hv2
      have h0 : 0 < (Rec.vals x).toList.length := by rw [rec_len]; exact hz
      have hbl := World.block_lt_of_cell? w _ (hLi 0 _ (List.getElem?_eq_getElem h0))
      rw [addr_block, addr_block] at hbl
      exact ⟨x, hF, hbl, hLi⟩
    have hch := fun i : Fin n => hone4 i.1 i.2
    refine ⟨List.ofFn fun i : Fin n => (hch i).choose, by simp, ?_, by simpa using hl, hm, fun e => by simp at e, fun k o ho => ?_⟩
    · intro x hx
      obtain ⟨i, rfl⟩ := (List.mem_ofFn).1 hx
      exact (hch i).choose_spec.1
    · obtain ⟨x, hx, hv⟩ := rows_of ho
      rw [List.getElem?_ofFn] at hx
      split at hx
      · rename_i hk
        cases hx
        have hs := (hch ⟨k / Rec.z α, hk⟩).choose_spec
        have hc := hs.2.2 _ _ hv
        rw [Addr.add_add, show k / Rec.z α * Rec.z α + k % Rec.z α = k by rw [Nat.mul_comm]; exact Nat.div_add_mod k _] at hc
        exact ⟨a, rfl, hs.2.1, hc⟩
      · cases hx
end

theorem std_fields19 : ∃ fs : Array Field, Try.prog.underlying 114 = some (.struct fs) ∧ fs.map (fun f => (f.type, f.offset, Try.prog.cellsOf f.type)) = #[(35, 0, 1), (35, 1, 1), (35, 2, 1), (3, 3, 1)] := ⟨_, Try.underlying114, by kernel_rfl⟩
theorem mem_fields : ∃ fs : Array Field, Try.prog.underlying 116 = some (.struct fs) ∧ fs.map (fun f => (f.type, f.offset, Try.prog.cellsOf f.type)) = #[(114, 0, 4), (3, 4, 1), (3, 5, 1)] := ⟨_, Try.underlying116, by kernel_rfl⟩
theorem mem_cells : Try.prog.cellsOf 116 = 6 := by kernel_rfl

section
variable {H : Type} {enc : TypeId × Value → H} {w : World} {base : Nat} {held : Bool}
/-- The fields of a struct, each by its own cells. -/
theorem fields_open {T : TypeId} {fs : Array Field} {L : Array (TypeId × Nat × Nat)} {fuel : Nat} {cs : List Value} {x : DataW H × List MemPlace} (hfs : Try.prog.underlying T = some (.struct fs)) (hty : fs.map (fun f => (f.type, f.offset, Try.prog.cellsOf f.type)) = L)
    (hf : DataW.trod enc Try.prog w base (fun _ => true) held fuel T cs = some x) : ∃ n2, ∀ (j : Nat) (ty : TypeId) (off k : Nat), L[j]? = some (ty, off, k) → ∃ y, DataW.trod enc Try.prog w base (fun _ => true) held n2 ty ((cs.drop off).take k) = some y := by
  obtain ⟨ys, n2, hn2, hy, hlen, hyl, hfd⟩ := DataW.trod_struct hfs hf
  refine ⟨n2, fun j ty off k hjt => ?_⟩
  rw [← hty, Array.getElem?_map] at hjt
  obtain ⟨f, hjf, he⟩ := Option.map_eq_some_iff.1 hjt
  simp only [Prod.mk.injEq] at he
  obtain ⟨rfl, rfl, rfl⟩ := he
  have hjl : j < ys.length := by rw [hyl]; exact (Array.getElem?_eq_some_iff.1 hjf).1
  have h1 := hfd j f hjf
  rw [List.getElem?_eq_getElem hjl] at h1
  exact ⟨_, h1⟩
theorem word_open {fuel : Nat} {v : Value} {y : DataW H × List MemPlace} (h : DataW.trod enc Try.prog w base (fun _ => true) held fuel 35 [v] = some y) : ∃ n : Nat, v = .int .u64 (n : Int) ∧ n < 18446744073709551616 := by
  obtain ⟨z, q, _, u⟩ := DataW.trod_int Try.underlying35 h
  simp only [List.cons.injEq, and_true] at q
  have b := u64_fits u
  exact ⟨z.toNat, by rw [q, Int.toNat_of_nonneg b.1], by omega⟩
theorem int_open {fuel : Nat} {v : Value} {y : DataW H × List MemPlace} (h : DataW.trod enc Try.prog w base (fun _ => true) held fuel 3 [v] = some y) : ∃ n : Int, v = .int .i64 n ∧ -9223372036854775808 ≤ n ∧ n ≤ 9223372036854775807 := by
  obtain ⟨z, q, _, u⟩ := DataW.trod_int Try.underlying3 h
  simp only [List.cons.injEq, and_true] at q
  have b := i64_bounds u
  exact ⟨z, q, b.1, b.2⟩
theorem std_cells_open {fuel : Nat} {cs : List Value} {x : DataW H × List MemPlace} (hl : cs.length = 4) (hf : DataW.trod enc Try.prog w base (fun _ => true) held fuel 114 cs = some x) : ∃ s : Std, cs = s.vals.toList ∧ s.Fits := by
  obtain ⟨fs, hfs, hty⟩ := std_fields19
  obtain ⟨n2, h⟩ := fields_open hfs hty hf
  match cs, hl with
  | [c0, c1, c2, c3], _ =>
    obtain ⟨y0, h0⟩ := h 0 _ _ _ rfl
    obtain ⟨y1, h1⟩ := h 1 _ _ _ rfl
    obtain ⟨y2, h2⟩ := h 2 _ _ _ rfl
    obtain ⟨y3, h3⟩ := h 3 _ _ _ rfl
    obtain ⟨a0, rfl, b0⟩ := word_open h0
    obtain ⟨a1, rfl, b1⟩ := word_open h1
    obtain ⟨a2, rfl, b2⟩ := word_open h2
    obtain ⟨a3, rfl, b3, b4⟩ := int_open h3
    exact ⟨⟨a0, a1, a2, a3⟩, rfl, b0, b1, b2, b3, b4⟩
theorem mem_cells_open {fuel : Nat} {cs : List Value} {x : DataW H × List MemPlace} (hl : cs.length = 6) (hf : DataW.trod enc Try.prog w base (fun _ => true) held fuel 116 cs = some x) : ∃ m : Mem, m.s.Fits ∧ (Rec.vals m).toList = cs := by
  obtain ⟨fs, hfs, hty⟩ := mem_fields
  obtain ⟨n2, h⟩ := fields_open hfs hty hf
  match cs, hl with
  | [c0, c1, c2, c3, c4, c5], _ =>
    obtain ⟨y0, h0⟩ := h 0 _ _ _ rfl
    obtain ⟨y1, h1⟩ := h 1 _ _ _ rfl
    obtain ⟨y2, h2⟩ := h 2 _ _ _ rfl
    obtain ⟨s, e, hF⟩ := std_cells_open rfl h0
    obtain ⟨a1, rfl, -, -⟩ := int_open h1
    obtain ⟨a2, rfl, -, -⟩ := int_open h2
    have e' : [c0, c1, c2, c3] = s.vals.toList := e
    unfold Std.vals at e'
    simp only [List.cons.injEq, and_true] at e'
    obtain ⟨rfl, rfl, rfl, rfl⟩ := e'
    exact ⟨⟨s, a1, a2⟩, hF, rfl⟩
set_option maxRecDepth 100000 in
theorem open_mems {A : Option Addr} {n c : Nat} {d : DataW H} {p : List MemPlace}
    (h : DataW.Trod enc Try.prog w base (fun _ => true) held 60 (.slice A n c) d p) : ∃ l : List Mem, n = l.length ∧ (∀ s ∈ l, s.s.Fits) ∧ l.length ≤ c ∧ c ≤ maxLen ∧ (A = none → c = 0) ∧ Row w w.heap.size A (rows l) :=
  open_recs_any (α := Mem) (fun s => s.s.Fits) Try.underlying60 mem_cells (fun n2 cs x hl hf => mem_cells_open hl hf) h
end
end Go.Proofs.Ytcaejanfhchacaa
namespace Go.Proofs.Ytcaejanfhchacaa
open Go.RowKit
set_option linter.unusedVariables false

structure Dep where
  acc : Int
  mem : Int
  amt : Nat
  new : Bool
def Dep.vals (d : Dep) : Array Value := #[.int .i64 d.acc, .int .i64 d.mem, .int .u64 (d.amt : Int), .bool d.new]
instance : Rec Dep := ⟨Dep.vals, 4, fun _ => rfl, by decide, fun d => by simp [Dep.vals, Value.oneCell']⟩
structure Due where
  acc : Int
  tick : Int
  amt : Nat
def Due.vals (d : Due) : Array Value := #[.int .i64 d.acc, .int .i64 d.tick, .int .u64 (d.amt : Int)]
instance : Rec Due := ⟨Due.vals, 3, fun _ => rfl, by decide, fun d => by simp [Due.vals, Value.oneCell']⟩
def Dep.zero : Dep := ⟨0, 0, 0, false⟩
def Due.zero : Due := ⟨0, 0, 0⟩

/-- An account that there may be; a member that there may be, or none for a new one. -/
def Dep.placed (d : Dep) : Prop := (0 ≤ d.acc ∧ d.acc < 64) ∧ ((d.new = true ∧ d.mem = 0) ∨ (d.new = false ∧ 0 ≤ d.mem ∧ d.mem < 128))
instance (d : Dep) : Decidable d.placed := by unfold Dep.placed; exact inferInstance
/-- To the same account at the same tick. -/
def Due.same (d o : Due) : Bool := decide (o.acc = d.acc) && decide (o.tick = d.tick)
def Due.more (d : Due) (n : Nat) : Due := ⟨d.acc, d.tick, d.amt + n⟩
/-- Dues in the order of their ticks, of more than nothing each. -/
structure DuesKept (l : List Due) : Prop where
  rise : ∀ (i : Nat) (h : i + 1 < l.length), l[i].tick ≤ l[i + 1].tick
  some : ∀ d ∈ l, d.amt ≠ 0
theorem DuesKept.nil : DuesKept [] := ⟨fun i h => absurd h (Nat.not_lt_zero _), fun d h => by simp at h⟩
end Go.Proofs.Ytcaejanfhchacaa
namespace Go.Proofs.Ytcaejanfhchacaa
open Go.ChangeShapes Go.WideShapes Go.ChangeAt Go.RowKit Go.Deep
set_option linter.unusedVariables false
set_option linter.unusedSimpArgs false

section
variable {H : Type} {enc : TypeId × Value → H} {P : Program} {w : World} {base : Nat} {held : Bool}
/-- What is read is no more than memory holds, piece by piece. -/
def Light (P : Program) (t : TypeId) (x : DataW H × List MemPlace) : Prop := ∀ k ∈ x.1.weights P t, k ≤ reachBytes
theorem each_light : ∀ (ts : List TypeId) (xs : List (DataW H × List MemPlace)), (∀ k ∈ DataW.weightsEach P ts (xs.map (·.1)), k ≤ reachBytes) → ∀ (j : Nat) (t : TypeId) (y : DataW H × List MemPlace), ts[j]? = some t → xs[j]? = some y → Light P t y
  | ts, xs, h, j, t, y, ht, hy => fun k hk => h k (DataW.weights_mem_each ht (by rw [List.getElem?_map, hy]; rfl) k hk)
theorem all_light : ∀ (e : TypeId) (ds : List (DataW H)), (∀ k ∈ DataW.weightsAll P e ds, k ≤ reachBytes) → ∀ d ∈ ds, ∀ k ∈ d.weights P e, k ≤ reachBytes
  | e, [], _, d, hd, _, _ => by cases hd
  | e, d0 :: ds, h, d, hd, k, hk => by
    unfold DataW.weightsAll at h
    rcases List.mem_cons.1 hd with rfl | hd
    · exact h k (List.mem_append_left _ hk)
    · exact all_light e ds (fun k hk => h k (List.mem_append_right _ hk)) d hd k hk
theorem slice_light {t e : TypeId} {fuel : Nat} {A : Option Addr} {n c : Nat} {x : DataW H × List MemPlace} (ht : P.underlying t = some (.slice e)) (h : DataW.trod enc P w base (fun _ => true) held fuel t [.slice A n c] = some x) (hw : Light P t x) : n * P.bytesOf e ≤ reachBytes := by
  rcases open_slice ht h with ⟨hcs, _⟩ | ⟨a, len, cap, m, n', D, Pl, hcs, hb, hl, hm, hmm, hx, hi⟩
  · simp only [List.cons.injEq, and_true, Value.slice.injEq] at hcs
    obtain ⟨_, rfl, _⟩ := hcs
    rw [Nat.zero_mul]; exact Nat.zero_le _
  · simp only [List.cons.injEq, and_true, Value.slice.injEq] at hcs
    obtain ⟨rfl, rfl, rfl⟩ := hcs
    subst hx
    have h1 := hw ((n + (m - n)) * P.bytesOf e) (by simp [DataW.weights, ht])
    exact Nat.le_trans (Nat.mul_le_mul_right _ (by omega)) h1
/-- The fields of a struct, each by its own cells. -/
theorem fields_light {T : TypeId} {fs : Array Field} {L : Array (TypeId × Nat × Nat)} {fuel : Nat} {cs : List Value} {x : DataW H × List MemPlace} (hfs : P.underlying T = some (.struct fs)) (hty : fs.map (fun f => (f.type, f.offset, P.cellsOf f.type)) = L)
    (hf : DataW.trod enc P w base (fun _ => true) held fuel T cs = some x) (hw : Light P T x) : ∃ n2, ∀ (j : Nat) (ty : TypeId) (off k : Nat), L[j]? = some (ty, off, k) → ∃ y, DataW.trod enc P w base (fun _ => true) held n2 ty ((cs.drop off).take k) = some y ∧ Light P ty y := by
  obtain ⟨ys, n2, hn2, hy, hlen, hyl, hfd⟩ := DataW.trod_struct hfs hf
  refine ⟨n2, fun j ty off k hjt => ?_⟩
  rw [← hty, Array.getElem?_map] at hjt
  obtain ⟨f, hjf, he⟩ := Option.map_eq_some_iff.1 hjt
  simp only [Prod.mk.injEq] at he
  obtain ⟨rfl, rfl, rfl⟩ := he
  have hjl : j < ys.length := by rw [hyl]; exact (Array.getElem?_eq_some_iff.1 hjf).1
  have h1 := hfd j f hjf
  rw [List.getElem?_eq_getElem hjl] at h1
  refine ⟨_, h1, each_light (fs.toList.map (·.type)) ys ?_ j _ _ ?_ (List.getElem?_eq_getElem hjl)⟩
  · intro k hk
    apply hw
    rw [hy]
    simp only [DataW.weights, hfs]
    exact hk
  · rw [List.getElem?_map, Array.getElem?_toList, hjf]
    rfl
/-- A list of records that comes in, whatever a record is made of. -/
theorem recs_light {α : Type} [Rec α] (Fits : α → Prop) {T e : TypeId} {A : Option Addr} {n c : Nat} {fuel : Nat} {x : DataW H × List MemPlace} (ht : P.underlying T = some (.slice e)) (hcz : P.cellsOf e = Rec.z α)
    (hread : ∀ (n2 : Nat) (cs : List Value) (x : DataW H × List MemPlace), cs.length = Rec.z α → DataW.trod enc P w base (fun _ => true) held n2 e cs = some x → Light P e x → ∃ x : α, Fits x ∧ (Rec.vals x).toList = cs)
    (hf : DataW.trod enc P w base (fun _ => true) held fuel T [.slice A n c] = some x) (hw : Light P T x) : ∃ l : List α, n = l.length ∧ (∀ s ∈ l, Fits s) ∧ l.length ≤ c ∧ c ≤ maxLen ∧ (A = none → c = 0) ∧ Row w w.heap.size A (rows l) := by
  have hz : 0 < Rec.z α := Rec.pos
  rcases open_slice ht hf with ⟨hcs, _⟩ | ⟨a, len, cap, m, n', D, Pl, hcs, hb, hl, hm, hmm, hx, hi⟩
  · simp only [List.cons.injEq, and_true, Value.slice.injEq] at hcs
    obtain ⟨rfl, rfl, rfl⟩ := hcs
    exact ⟨[], rfl, by simp, Nat.le_refl _, Nat.zero_le _, fun _ => rfl, Row.nil _ _ _⟩
  · simp only [List.cons.injEq, and_true, Value.slice.injEq] at hcs
    obtain ⟨rfl, rfl, rfl⟩ := hcs
    simp only [if_true] at hmm
    rw [hcz] at hi
    have hlt : ∀ i, i < n → Light P e (D i, Pl i) := fun i hin k hk => by
      refine all_light e ((List.range n).map D) (fun k hk => hw k ?_) (D i) (List.mem_map.2 ⟨i, List.mem_range.2 hin, rfl⟩) k hk
      rw [hx]
      simp only [DataW.weights, ht, List.mem_cons, List.mem_append]
      exact .inr (.inl hk)
    have hone4 : ∀ i, i < n → ∃ s : α, Fits s ∧ a.block < w.heap.size ∧ LiesAt w (a.add (i * Rec.z α)) (Rec.vals s) := by
      intro i hin
      obtain ⟨cs, hc, ht⟩ := hi i (by omega)
      obtain ⟨_, hcl, hat⟩ := World.cells?_some hc
      have hcl' : cs.length = Rec.z α := by omega
      obtain ⟨x, hF, hv⟩ := hread _ cs _ hcl' ht (hlt i hin)
      have hLi : LiesAt w (a.add (i * Rec.z α)) (Rec.vals x) := fun j v hv2 => by
        have hj : j < Rec.z α := by
          have := (List.getElem?_eq_some_iff.1 hv2).1
          rwa [rec_len] at this
        have h2 := hat j (by omega)
        rw [hv] at hv2
        exact h2.trans hv2
      have h0 : 0 < (Rec.vals x).toList.length := by rw [rec_len]; exact hz
      have hbl := World.block_lt_of_cell? w _ (hLi 0 _ (List.getElem?_eq_getElem h0))
      rw [addr_block, addr_block] at hbl
      exact ⟨x, hF, hbl, hLi⟩
    have hch := fun i : Fin n => hone4 i.1 i.2
    refine ⟨List.ofFn fun i : Fin n => (hch i).choose, by simp, ?_, by simpa using hl, hm, fun e => by simp at e, fun k o ho => ?_⟩
    · intro x hx
      obtain ⟨i, rfl⟩ := (List.mem_ofFn).1 hx
      exact (hch i).choose_spec.1
    · obtain ⟨x, hx, hv⟩ := rows_of ho
      rw [List.getElem?_ofFn] at hx
      split at hx
      · rename_i hk
        cases hx
        have hs := (hch ⟨k / Rec.z α, hk⟩).choose_spec
        have hc := hs.2.2 _ _ hv
        rw [Addr.add_add, show k / Rec.z α * Rec.z α + k % Rec.z α = k by rw [Nat.mul_comm]; exact Nat.div_add_mod k _] at hc
        exact ⟨a, rfl, hs.2.1, hc⟩
      · cases hx
end
end Go.Proofs.Ytcaejanfhchacaa
