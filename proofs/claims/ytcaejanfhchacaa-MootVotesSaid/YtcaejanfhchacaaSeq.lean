/- A region that draws its order: one walk in the order of its text serves every order, where each operation yields one value in every world of which S is said, and keeps S; some of them (the bars), each waiting for the one before it, lead from one phase of S to the next. -/
import Derived.Test.YtcaejanfhchacaaBytes
import Derived.Orders
import Derived.Laws.Rows
namespace Go.Proofs.Ytcaejanfhchacaa
open Go.RowKit
set_option linter.unusedVariables false
set_option linter.unusedSimpArgs false

/-- Operation i writes temporary t. -/
def writes (ops : Array Oper) (t : Tmp) (i : Nat) : Bool := ((ops[i]?).bind (·.dst)) == some t
def waits (o : Oper) (i : Nat) : Bool := o.after.any fun e => Region.binds .any e && e.on == i
def tidyAt (ops : Array Oper) (j : Nat) : Bool :=
  match ops[j]? with
  | none => true
  | some o => (o.after.all fun e => !Region.binds .any e || decide (e.on < j)) &&
    ((o.looksAt ops).all fun t => (List.range ops.size).all fun i => !writes ops t i || waits o i) &&
    (match o.dst with | none => true | some t => (List.range ops.size).all fun i => i == j || !writes ops t i)
def barAt (ops : Array Oper) (bar : List Nat) (k : Nat) : Bool :=
  match bar[k]? with
  | none => true
  | some b => decide (b < ops.size) && (k == 0 || match ops[b]? with | none => false | some o => match bar[k - 1]? with | none => false | some b' => waits o b')
def tidy (ops : Array Oper) (bar : List Nat) : Bool :=
  (List.range ops.size).all (tidyAt ops) && (List.range bar.length).all (barAt ops bar) && Region.noSelect ops && decide bar.Nodup

section
variable {P : Program} {ops : Array Oper} {bar : List Nat} {S : Nat → World → Prop}

/-- What is asked of operation i: it leaves v in its temporary. -/
def Does (P : Program) (ops : Array Oper) (bar : List Nat) (S : Nat → World → Prop) (i : Nat) (o : Oper) (a : Act) (v : Value) : Prop :=
  if Region.wanted o (yielded ops a.tmps) = true then
    ∀ p w, S p w → (i ∈ bar → bar[p]? = some i) → o.wp P a w (fun a' w' => a' = a.put o.dst v ∧ S (if i ∈ bar then p + 1 else p) w') (fun _ _ _ => False)
  else v = undef ∧ i ∉ bar

/-- The walk. -/
def SeqS (P : Program) (ops : Array Oper) (bar : List Nat) (S : Nat → World → Prop) : Nat → List Oper → Act → (Act → Prop) → Prop
  | _, [], a, F => F a
  | i, o :: rest, a, F => ∃ v, Does P ops bar S i o a v ∧ SeqS P ops bar S (i + 1) rest (a.put o.dst v) F

theorem waits_on {o : Oper} {i : Nat} (h : waits o i = true) : ∃ e ∈ o.after, Region.binds .any e = true ∧ e.on = i := by
  obtain ⟨e, he, hb⟩ := Array.any_eq_true'.1 h
  simp only [Bool.and_eq_true, beq_iff_eq] at hb
  exact ⟨e, he, hb⟩

structure Tidy (ops : Array Oper) (bar : List Nat) : Prop where
  low : ∀ (j : Nat) (o : Oper), ops[j]? = some o → ∀ e ∈ o.after, Region.binds .any e = true → e.on < j
  looks : ∀ (j : Nat) (o : Oper), ops[j]? = some o → ∀ t ∈ o.looksAt ops, ∀ i, writes ops t i = true → waits o i = true
  once : ∀ (j : Nat) (o : Oper) (t : Tmp), ops[j]? = some o → o.dst = some t → ∀ i, writes ops t i = true → i = j
  sel : ∀ (j : Nat) (o : Oper) cs b, ops[j]? = some o → o.op ≠ .select cs b
  barLt : ∀ (k b : Nat), bar[k]? = some b → b < ops.size
  barNext : ∀ (k b b' : Nat) (o : Oper), bar[k + 1]? = some b → bar[k]? = some b' → ops[b]? = some o → waits o b' = true
  nodup : bar.Nodup

theorem writes_lt {t : Tmp} {i : Nat} (h : writes ops t i = true) : i < ops.size := by
  rcases Nat.lt_or_ge i ops.size with h' | h'
  · exact h'
  · simp [writes, Array.getElem?_eq_none h'] at h

theorem tidy_is (h : tidy ops bar = true) : Tidy ops bar := by
  simp only [tidy, Bool.and_eq_true, decide_eq_true_eq, List.all_eq_true, List.mem_range] at h
  obtain ⟨⟨⟨h1, h2⟩, h3⟩, h4⟩ := h
  have g : ∀ (j : Nat) (o : Oper), ops[j]? = some o → ((o.after.all fun e => !Region.binds .any e || decide (e.on < j)) = true ∧ ((o.looksAt ops).all fun t => (List.range ops.size).all fun i => !writes ops t i || waits o i) = true) ∧ (match o.dst with | none => true | some t => (List.range ops.size).all fun i => i == j || !writes ops t i) = true := fun j o ho => by
    have := h1 j (Array.getElem?_eq_some_iff.1 ho).1
    simp only [tidyAt, ho, Bool.and_eq_true] at this
    exact this
  refine ⟨fun j o ho e he hb => ?_, fun j o ho t ht i hi => ?_, fun j o t ho hd i hi => ?_, Region.noSelect_spec h3, fun k b hk => ?_, fun k b b' o hk hk' ho => ?_, h4⟩
  · have := (Array.all_eq_true_iff_forall_mem.1 (g j o ho).1.1) e he
    simpa [hb] using this
  · have := List.all_eq_true.1 (List.all_eq_true.1 (g j o ho).1.2 t ht) i (List.mem_range.2 (writes_lt hi))
    simpa [hi] using this
  · have := (g j o ho).2
    rw [hd] at this
    have := List.all_eq_true.1 this i (List.mem_range.2 (writes_lt hi))
    simpa [hi] using this
  · have := h2 k (List.getElem?_eq_some_iff.1 hk).1
    simp only [barAt, hk, Bool.and_eq_true, decide_eq_true_eq] at this
    exact this.1
  · have := h2 (k + 1) (List.getElem?_eq_some_iff.1 hk).1
    simp only [barAt, hk, Bool.and_eq_true, ho, Nat.add_sub_cancel, hk', Bool.or_eq_true, beq_iff_eq] at this
    rcases this.2 with h | h
    · omega
    · exact h

/-- Two states that agree on what an operation looks at. -/
theorem same_exec (hs : ∀ (j : Nat) (o : Oper) cs b, ops[j]? = some o → o.op ≠ .select cs b) {i : Nat} {o : Oper} (ho : ops[i]? = some o) {a b : Act} (h : ∀ t ∈ o.looksAt ops, b.tmps[t]? = a.tmps[t]?) :
    execOp b.eval o = execOp a.eval o ∧ Region.wanted o (yielded ops b.tmps) = Region.wanted o (yielded ops a.tmps) := by
  constructor
  · refine execOp_congr o (fun cs b => hs i o cs b ho) fun x hx => ?_
    cases x with
    | tmp t =>
      have := h t (List.mem_append_left _ (List.mem_filterMap.2 ⟨.tmp t, by simpa using hx, rfl⟩))
      simp [Act.eval, this]
    | _ => rfl
  · unfold Region.wanted
    cases hg : o.guard with
    | none => rfl
    | some gw =>
      obtain ⟨g, want⟩ := gw
      have hy : yielded ops b.tmps g = yielded ops a.tmps g := by
        unfold yielded
        cases ht : (ops[g]?).bind (·.dst) with
        | none => rfl
        | some t =>
          have := h t (List.mem_append_right _ (by simp [hg, ht]))
          simp [this]
      simp only [hy]

/-- What an operation does in one state it does in the other. -/
theorem wp_moved {o : Oper} {a b : Act} {w : World} {v : Value} {T : World → Prop} {Q : Exit → Act → World → Prop} (he : execOp b.eval o = execOp a.eval o)
    (h : o.wp P a w (fun a' w' => a' = a.put o.dst v ∧ T w') (fun _ _ _ => False)) :
    o.wp P b w (fun b' w' => (∃ u, b' = b.put o.dst u ∧ a.put o.dst u = a.put o.dst v) ∧ T w') Q := by
  unfold Oper.wp at *
  rw [he]
  generalize (execOp a.eval o).run P w = r at *
  cases r with
  | ok n w' =>
    cases n <;> simp only [Oper.upon] at h ⊢
    case value u => exact ⟨⟨u, rfl, h.1⟩, h.2⟩
    case skip => exact ⟨⟨_, rfl, h.1⟩, h.2⟩
    case defer d =>
      exfalso
      have := congrArg (fun x => x.defers.length) h.1
      cases hd : o.dst <;> simp [Act.put, hd] at this
    case enter f args =>
      refine Calls.mono h fun e w'' he => ?_
      cases e with
      | returned u => exact ⟨⟨u, rfl, he.1⟩, he.2⟩
      | panicked c => exact he.elim
      | outgrown => obtain ⟨_, _, hx⟩ := he; exact hx.elim
    case row row args => exact Rows.mono h fun u w'' he => ⟨⟨u, rfl, he.1⟩, he.2⟩
  | halt x w' =>
    cases x <;> simp only [Oper.upon] at h

/-- The state behind the walk, and what was asked of each operation, in a state that agrees with it on what the operation looks at. -/
def Ends (P : Program) (ops : Array Oper) (bar : List Nat) (S : Nat → World → Prop) (A : Act) (i : Nat) (o : Oper) : Prop :=
  ∃ b v, Does P ops bar S i o b v ∧ (∀ t ∈ o.looksAt ops, b.tmps[t]? = A.tmps[t]?) ∧ b.tmps.size = A.tmps.size ∧ (∀ d, o.dst = some d → A.tmps[d]? = (b.put o.dst v).tmps[d]?)

theorem put_other {a : Act} {dst : Option Tmp} {v : Value} {t : Tmp} (h : dst ≠ some t) : (a.put dst v).tmps[t]? = a.tmps[t]? := by
  cases dst with
  | none => rfl
  | some d => simp [Act.put, Array.getElem?_setIfInBounds_ne (fun e => h (by rw [e]) : d ≠ t)]
theorem put_size (a : Act) (dst : Option Tmp) (v : Value) : (a.put dst v).tmps.size = a.tmps.size := by cases dst <;> simp [Act.put]
theorem put_defs (a : Act) (dst : Option Tmp) (v : Value) : (a.put dst v).defers = a.defers := by cases dst <;> rfl

theorem seq_ends (ht : Tidy ops bar) : ∀ (l : List Oper) (j : Nat) (a : Act) (F : Act → Prop), (∀ k, l[k]? = ops[j + k]?) → SeqS P ops bar S j l a F →
    ∃ A, F A ∧ A.defers = a.defers ∧ A.tmps.size = a.tmps.size ∧ (∀ t, (∀ i, j ≤ i → writes ops t i = false) → A.tmps[t]? = a.tmps[t]?) ∧ ∀ (i : Nat) (o : Oper), j ≤ i → ops[i]? = some o → Ends P ops bar S A i o
  | [], j, a, F, hl, h => ⟨a, h, rfl, rfl, fun _ _ => rfl, fun i o hi ho => by
      have := hl (i - j)
      rw [show j + (i - j) = i by omega, ho] at this
      simp at this⟩
  | o :: l, j, a, F, hl, ⟨v, hd, h⟩ => by
    have ho : ops[j]? = some o := by have := hl 0; simpa using this.symm
    obtain ⟨A, hF, h1, h2, h3, h4⟩ := seq_ends ht l (j + 1) (a.put o.dst v) F (fun k => by have := hl (k + 1); rw [List.getElem?_cons_succ] at this; rw [this]; congr 1; omega) h
    refine ⟨A, hF, by rw [h1, put_defs], by rw [h2, put_size], fun t hw => ?_, fun i o' hi ho' => ?_⟩
    · rw [h3 t (fun i hi => hw i (by omega)), put_other]
      intro e
      have := hw j (Nat.le_refl _)
      simp [writes, ho, e] at this
    · rcases Nat.eq_or_lt_of_le hi with rfl | hlt
      · rw [ho] at ho'
        cases ho'
        refine ⟨a, v, hd, fun t ht' => ?_, by rw [h2, put_size], fun d hdst => ?_⟩
        · have hnw : ∀ i, j ≤ i → writes ops t i = false := fun i hi => by
            cases hx : writes ops t i with
            | false => rfl
            | true =>
              obtain ⟨e, he, hb, hon⟩ := waits_on (ht.looks j o ho t ht' i hx)
              have := ht.low j o ho e he hb
              omega
          rw [h3 t (fun i hi => hnw i (by omega)), put_other]
          intro e
          have := hnw j (Nat.le_refl _)
          simp [writes, ho, e] at this
        · refine h3 d fun i hi => ?_
          cases hx : writes ops d i with
          | false => rfl
          | true => have := ht.once j o d ho hdst i hx; omega
      · exact h4 i o' hlt ho'

/-- The state at a time: what all writers of which have come up is as it will be. -/
structure Now (ops : Array Oper) (bar : List Nat) (S : Nat → World → Prop) (A : Act) (listed : Array Bool) (a : Act) (w : World) (p : Nat) : Prop where
  defers : a.defers = A.defers
  size : a.tmps.size = A.tmps.size
  agree : ∀ t, (∀ i, writes ops t i = true → listed.getD i true = true) → a.tmps[t]? = A.tmps[t]?
  phase : S p w
  le : p ≤ bar.length
  bars : ∀ (k b : Nat), bar[k]? = some b → (listed.getD b true = true ↔ k < p)

theorem getD_low {listed : Array Bool} {i : Nat} (h : listed.getD i false = true) : listed.getD i true = true := by
  rcases Nat.lt_or_ge i listed.size with h' | h'
  · simp [h'] at h ⊢; exact h
  · simp [Array.getElem?_eq_none h'] at h

def left (n : Nat) (listed : Array Bool) : Nat := ((List.range n).filter fun i => !listed.getD i true).length

theorem left_set {n i : Nat} {listed : Array Bool} (hi : i < n) (hl : i < listed.size) (h : listed.getD i true = false) : left n (listed.setIfInBounds i true) < left n listed := by
  unfold left
  have e : ((List.range n).filter fun j => !(listed.setIfInBounds i true).getD j true) = ((List.range n).filter fun j => !listed.getD j true).filter fun j => j != i := by
    rw [List.filter_filter]
    refine List.filter_congr fun j _ => ?_
    by_cases hj : j = i
    · subst hj; simp [hl]
    · rw [getD_set_ne true (Ne.symm hj)]; simp [hj]
  rw [e, List.length_filter_lt_length_iff_exists]
  exact ⟨i, List.mem_filter.2 ⟨List.mem_range.2 hi, by simp only [h, Bool.not_false]⟩, by simp⟩

theorem none_left {n : Nat} {listed : Array Bool} (h : left n listed = 0) : ∀ i, i < n → listed.getD i true = true := fun i hi => by
  unfold left at h
  have := List.eq_nil_of_length_eq_zero h
  rw [List.filter_eq_nil_iff] at this
  simpa using this i (List.mem_range.2 hi)

theorem least_ready (ht : Tidy ops bar) {listed : Array Bool} (hz : listed.size = ops.size) (hr : Region.ready .any ops listed = []) : ∀ i, i < ops.size → listed.getD i true = true := by
  intro i
  induction i using Nat.strongRecOn with
  | ind i ih =>
    intro hi
    cases hx : listed.getD i true with
    | true => rfl
    | false =>
      exfalso
      obtain ⟨o, ho⟩ : ∃ o, ops[i]? = some o := ⟨_, Array.getElem?_eq_getElem hi⟩
      have : i ∈ Region.ready .any ops listed := mem_ready.2 ⟨hx, o, ho, fun e he hb => by
        have hlt := ht.low i o ho e he hb
        have := ih e.on hlt (by omega)
        have hs : e.on < listed.size := by omega
        rw [← this, Array.getD_eq_getD_getElem?, Array.getD_eq_getD_getElem?, Array.getElem?_eq_getElem hs]; rfl⟩
      rw [hr] at this
      cases this

theorem Now.done {A a : Act} {listed : Array Bool} {w : World} {p : Nat} (ht : Tidy ops bar) (h : Now ops bar S A listed a w p) (hall : ∀ i, i < ops.size → listed.getD i true = true) : a = A ∧ S bar.length w := by
  constructor
  · obtain ⟨tm, df⟩ := a
    obtain ⟨tm', df'⟩ := A
    have h1 := h.defers
    simp only at h1
    subst h1
    congr 1
    apply Array.ext_getElem?
    intro t
    exact h.agree t fun i hi => hall i (writes_lt hi)
  · have hp : p = bar.length ∨ bar.length < p ∨ p < bar.length := by omega
    rcases hp with rfl | hp | hp
    · exact h.phase
    · have := h.le; omega
    · exfalso
      have hk : bar[p]? = some bar[p] := List.getElem?_eq_getElem hp
      have := (h.bars p _ hk).1 (hall _ (ht.barLt p _ hk))
      omega

theorem Now.atBar {A a : Act} {listed : Array Bool} {w : World} {p i : Nat} {o : Oper} (ht : Tidy ops bar) (h : Now ops bar S A listed a w p) (hi : listed.getD i true = false) (ho : ops[i]? = some o)
    (hall : ∀ e ∈ o.after, Region.binds .any e = true → listed.getD e.on false = true) : i ∈ bar → bar[p]? = some i := by
  intro hb
  obtain ⟨k, hk⟩ := List.getElem?_of_mem hb
  have hkp : ¬ k < p := fun hlt => by rw [(h.bars k i hk).2 hlt] at hi; cases hi
  rcases Nat.eq_or_lt_of_le (Nat.le_of_not_lt hkp) with rfl | hlt
  · exact hk
  · exfalso
    obtain ⟨m, rfl⟩ : ∃ m, k = m + 1 := ⟨k - 1, by omega⟩
    have hml : m < bar.length := by have := (List.getElem?_eq_some_iff.1 hk).1; omega
    have hm : bar[m]? = some bar[m] := List.getElem?_eq_getElem hml
    obtain ⟨e, he, hbd, hon⟩ := waits_on (ht.barNext m i _ o hk hm ho)
    have := (h.bars m _ hm).1 (by rw [← hon]; exact getD_low (hall e he hbd))
    omega

theorem Now.next {A a b : Act} {listed : Array Bool} {w w' : World} {p i : Nat} {o : Oper} {u v : Value} (ht : Tidy ops bar) (h : Now ops bar S A listed a w p) (hi : listed.getD i true = false) (ho : ops[i]? = some o) (hz : listed.size = ops.size)
    (hu : b.put o.dst u = b.put o.dst v) (hsz : b.tmps.size = A.tmps.size) (hd : ∀ d, o.dst = some d → A.tmps[d]? = (b.put o.dst v).tmps[d]?) (hb : i ∈ bar → bar[p]? = some i)
    (hS : S (if i ∈ bar then p + 1 else p) w') : Now ops bar S A (listed.setIfInBounds i true) (a.put o.dst u) w' (if i ∈ bar then p + 1 else p) := by
  have hil : i < ops.size := (Array.getElem?_eq_some_iff.1 ho).1
  have hself : (listed.setIfInBounds i true).getD i true = true := by
    have : i < listed.size := by omega
    simp [this]
  refine ⟨by rw [put_defs]; exact h.defers, by rw [put_size]; exact h.size, fun t hw => ?_, hS, ?_, fun k c hk => ?_⟩
  · by_cases e : o.dst = some t
    · rw [hd t e, ← hu, e]
      simp only [Act.put, Array.getElem?_setIfInBounds, h.size, hsz]
      by_cases hlt : t < A.tmps.size
      · simp [hlt]
      · simp only [if_true, if_neg hlt]
    · rw [put_other e]
      refine h.agree t fun j hj => ?_
      have hji : i ≠ j := fun e2 => by subst e2; simp [writes, ho] at hj; exact e hj
      have := hw j hj
      rwa [getD_set_ne true hji] at this
  · by_cases hm : i ∈ bar
    · rw [if_pos hm]
      have := (List.getElem?_eq_some_iff.1 (hb hm)).1
      omega
    · rw [if_neg hm]; exact h.le
  · by_cases hm : i ∈ bar
    · rw [if_pos hm]
      have hp := hb hm
      by_cases e : i = c
      · subst e
        have : k = p := by
          obtain ⟨h1, h2⟩ := List.getElem?_eq_some_iff.1 hk
          obtain ⟨h3, h4⟩ := List.getElem?_eq_some_iff.1 hp
          exact (List.getElem_inj ht.nodup).1 (h2.trans h4.symm)
        rw [hself]
        simp; omega
      · rw [getD_set_ne true e, h.bars k c hk]
        have : k ≠ p := fun e2 => by subst e2; rw [hp] at hk; cases hk; exact e rfl
        omega
    · rw [if_neg hm]
      have e : i ≠ c := fun e => hm (by subst e; exact List.mem_of_getElem? hk)
      rw [getD_set_ne true e]
      exact h.bars k c hk

theorem any_now {Q : Exit → Act → World → Prop} {A : Act} (ht : Tidy ops bar) (hE : ∀ (i : Nat) (o : Oper), ops[i]? = some o → Ends P ops bar S A i o) (hF : ∀ w, S bar.length w → Q .normal A w) :
    ∀ (fuel : Nat) (listed : Array Bool) (a : Act) (w : World) (p : Nat), Now ops bar S A listed a w p → listed.size = ops.size → left ops.size listed ≤ fuel → wpAny P .any ops Q fuel listed a w
  | 0, listed, a, w, p, h, hz, hl => by
    have hall := none_left (Nat.le_zero.1 hl)
    obtain ⟨rfl, hS⟩ := h.done ht hall
    refine ⟨?_, hF w hS⟩
    rw [List.eq_nil_iff_forall_not_mem]
    intro j hj
    obtain ⟨hx, o, ho, _⟩ := mem_ready.1 hj
    rw [hall j (Array.getElem?_eq_some_iff.1 ho).1] at hx
    cases hx
  | fuel + 1, listed, a, w, p, h, hz, hl => by
    refine ⟨fun hr => ?_, fun i hi => ?_⟩
    · obtain ⟨rfl, hS⟩ := h.done ht (least_ready ht hz hr)
      exact hF w hS
    · obtain ⟨hx, o, ho, hall⟩ := mem_ready.1 hi
      obtain ⟨b, v, hdo, hag, hsz, hd⟩ := hE i o ho
      have hil : i < ops.size := (Array.getElem?_eq_some_iff.1 ho).1
      have hsame : ∀ t ∈ o.looksAt ops, a.tmps[t]? = b.tmps[t]? := fun t htm => by
        rw [hag t htm]
        refine h.agree t fun j hj => ?_
        obtain ⟨e, he, hbd, hon⟩ := waits_on (ht.looks i o ho t htm j hj)
        rw [← hon]
        exact getD_low (hall e he hbd)
      obtain ⟨he, hw⟩ := same_exec ht.sel ho hsame
      have hbar := h.atBar ht hx ho hall
      have hlt := left_set hil (by omega : i < listed.size) hx
      have hz' : (listed.setIfInBounds i true).size = ops.size := by simpa using hz
      unfold wpOp
      simp only [ho]
      unfold Does at hdo
      rw [← hw] at hdo
      split
      · rename_i hwt
        rw [if_pos hwt] at hdo
        refine .inl (Oper.wp_mono ?_ (wp_moved (Q := Q) he (hdo p w h.phase hbar)))
        rintro a' w' ⟨⟨u, rfl, hu⟩, hS⟩
        exact any_now ht hE hF fuel _ _ _ _ (h.next ht hx ho hz hu hsz hd hbar hS) hz' (by omega)
      · rename_i hwt
        rw [if_neg hwt] at hdo
        obtain ⟨rfl, hnb⟩ := hdo
        have hn := h.next (w' := w) (u := undef) ht hx ho hz rfl hsz hd hbar (by rw [if_neg hnb]; exact h.phase)
        exact any_now ht hE hF fuel _ _ _ _ hn hz' (by omega)

/-- THE REGION. -/
theorem region_seq {Q : Exit → Act → World → Prop} {id : Nat} {a : Act} {w : World} (bar : List Nat) (S : Nat → World → Prop) (hm : P.follows .mixedOrders = true) (ht : tidy ops bar = true) (hS : S 0 w.drew)
    (h : SeqS P ops bar S 0 ops.toList a (fun A => ∀ w', S bar.length w' → Q .normal A w')) : (Code.region id ops true).wp P Q a w := by
  have ht := tidy_is ht
  obtain ⟨A, hF, h1, h2, h3, h4⟩ := seq_ends ht ops.toList 0 a _ (fun k => by simp) h
  refine wp_region_any hm (any_now ht (fun i o ho => h4 i o (Nat.zero_le _) ho) hF ops.size _ a _ 0 ⟨h1.symm, h2.symm, fun t hw => ?_, hS, Nat.zero_le _, fun k b hk => ?_⟩ (by simp) ?_)
  · refine (h3 t fun i _ => ?_).symm
    cases hx : writes ops t i with
    | false => rfl
    | true =>
      have := hw i hx
      simp [writes_lt hx] at this
  · have := ht.barLt k b hk
    simp [this]
  · unfold left
    exact Nat.le_trans (List.length_filter_le _ _) (by simp)
theorem region_list {Q : Exit → Act → World → Prop} {id : Nat} {l : List Oper} {a : Act} {w : World} (bar : List Nat) (S : Nat → World → Prop) (hm : P.follows .mixedOrders = true) (ht : tidy l.toArray bar = true) (hS : S 0 w.drew)
    (h : SeqS P l.toArray bar S 0 l a (fun A => ∀ w', S bar.length w' → Q .normal A w')) : (Code.region id l.toArray true).wp P Q a w :=
  region_seq bar S hm ht hS h

/-! ### The steps of the walk -/
variable {i : Nat} {o : Oper} {rest : List Oper} {a : Act} {F : Act → Prop}
theorem SeqS.skip (hw : Region.wanted o (yielded ops a.tmps) = false) (hb : bar.contains i = false) (h : SeqS P ops bar S (i + 1) rest (a.put o.dst undef) F) : SeqS P ops bar S i (o :: rest) a F :=
  ⟨undef, by unfold Does; rw [hw, if_neg (by simp)]; exact ⟨rfl, by simpa using hb⟩, h⟩
theorem SeqS.take (v : Value) (hw : Region.wanted o (yielded ops a.tmps) = true) (hb : bar.contains i = false) (hy : ∀ p w, S p w → (execOp a.eval o).run P w = .ok (.value v) w) (h : SeqS P ops bar S (i + 1) rest (a.put o.dst v) F) : SeqS P ops bar S i (o :: rest) a F :=
  ⟨v, by
    unfold Does
    rw [if_pos hw]
    intro p w hS _
    have : ¬ i ∈ bar := by simpa using hb
    unfold Oper.wp
    rw [hy p w hS, if_neg this]
    exact ⟨rfl, hS⟩, h⟩
/-- Of an operation that does not look at the world. -/
theorem SeqS.calm (v : Value) (hw : Region.wanted o (yielded ops a.tmps) = true) (hb : bar.contains i = false) (hy : ∀ w, (execOp a.eval o).run P w = .ok (.value v) w) (h : SeqS P ops bar S (i + 1) rest (a.put o.dst v) F) : SeqS P ops bar S i (o :: rest) a F :=
  .take v hw hb (fun _ w _ => hy w) h
/-- Of one that is carried out by a law of its own: what follows stands behind K. -/
theorem SeqS.law (v : Value) (hw : Region.wanted o (yielded ops a.tmps) = true) (hb : bar.contains i = false) (hy : ∀ p w (K : Act → World → Prop) (Q : Exit → Act → World → Prop), S p w → (∀ w', S p w' → K (a.put o.dst v) w') → o.wp P a w K Q)
    (h : SeqS P ops bar S (i + 1) rest (a.put o.dst v) F) : SeqS P ops bar S i (o :: rest) a F :=
  ⟨v, by
    unfold Does
    rw [if_pos hw]
    intro p w hS _
    have : ¬ i ∈ bar := by simpa using hb
    rw [if_neg this]
    exact hy p w _ _ hS (fun w' hS' => ⟨rfl, hS'⟩), h⟩
/-- Of a call. -/
theorem SeqS.call {f : FuncId} {args : Array Value} {v : Value} (hk : ∀ p w, S p w → Calls P f args w fun e w' => e = .returned v ∧ S p w') (hw : Region.wanted o (yielded ops a.tmps) = true) (hb : bar.contains i = false) (he : ∀ w, (execOp a.eval o).run P w = .ok (.enter f args) w)
    (h : SeqS P ops bar S (i + 1) rest (a.put o.dst v) F) : SeqS P ops bar S i (o :: rest) a F :=
  .law v hw hb (fun p w K Q hS hK => by
    unfold Oper.wp
    rw [he w]
    refine Calls.mono (hk p w hS) ?_
    rintro e w' ⟨rfl, hS'⟩
    exact hK w' hS') h
theorem quiet_call {f : FuncId} {args : Array Value} {v : Value} (k : ∀ w, Calls P f args w fun e w' => e = .returned v ∧ w = w') : ∀ p w, S p w → Calls P f args w fun e w' => e = .returned v ∧ S p w' :=
  fun p w hS => (k w).mono (by rintro e w' ⟨h, rfl⟩; exact ⟨h, hS⟩)
theorem below_call {w0 : World} {B : Nat} (hB : B ≤ w0.heap.size) {f : FuncId} {args : Array Value} {v : Value} (k : ∀ w, Below B w0 w → Calls P f args w fun e w' => e = .returned v ∧ Below w.heap.size w w') :
    ∀ (p : Nat) w, Below B w0 w → Calls P f args w fun e w' => e = .returned v ∧ Below B w0 w' :=
  fun p w hS => (k w hS).mono (by rintro e w' ⟨h, hb⟩; exact ⟨h, hS.trans (hb.mono (Nat.le_trans hB hS.size))⟩)
end
end Go.Proofs.Ytcaejanfhchacaa
