/- A region that draws its order and makes memory (Seq's elder): one walk in the order of its text serves every order, where an operation may yield a value that hangs on the order (the place of a new block, a slice that a call made): such a value has a name, and what is said of it in the world stays as the world grows. The stores at its end, each waiting for all before it, are walked as ever. -/
import Derived.Test.YtcaejanfhchacaaSeq
namespace Go.Proofs.Ytcaejanfhchacaa
open Go.RowKit
set_option linter.unusedVariables false
set_option linter.unusedSimpArgs false

/-- What operations yield, by number. -/
abbrev Vals := Nat → Value
/-- What is said of what an operation yields. -/
abbrev Told := Nat → Vals → Value → World → Prop
def updT (R : Told) (i : Nat) (r : Vals → Value → World → Prop) : Told := fun j => if j = i then r else R j
theorem updT_self (R : Told) (i : Nat) (r : Vals → Value → World → Prop) : updT R i r i = r := by simp [updT]
theorem updT_ne (R : Told) {i j : Nat} (r : Vals → Value → World → Prop) (h : j ≠ i) : updT R i r j = R j := by simp [updT, h]
/-- A new block's place. -/
def NewPlace (v : Value) (w w' : World) : Prop := ∃ g, v = .pointer (some ⟨g, 0, none⟩) ∧ w.heap.size ≤ g ∧ g < w'.heap.size

/-- Operation i waits for j, by way of others. -/
def reaches (ops : Array Oper) : Nat → Nat → Nat → Bool
  | 0, _, _ => false
  | f + 1, i, j => match ops[i]? with
    | none => false
    | some o => waits o j || (List.range i).any fun k => waits o k && reaches ops f k j
/-- The first n operations are all waited for by the next one (by way of others); those behind wait for each other in order. -/
def tailOk (ops : Array Oper) (n : Nat) : Bool :=
  decide (n ≤ ops.size) && (List.range n).all (fun j => decide (ops.size ≤ n) || reaches ops 6 n j) &&
  (List.range ops.size).all fun j => decide (j ≤ n) || (match ops[j]? with | none => false | some o => waits o (j - 1))
def tidyAtV (ops : Array Oper) (n j : Nat) : Bool :=
  match ops[j]? with
  | none => true
  | some o => (o.after.all fun e => !Region.binds .any e || decide (e.on < j)) &&
    (decide (n ≤ j) || (((o.looksAt ops).all fun t => (List.range n).all fun i => !writes ops t i || waits o i) &&
    (match o.dst with | none => true | some t => (List.range n).all fun i => i == j || !writes ops t i)))
/-- What the first n look at is written, among these, only by those that they wait for. -/
def tidyV (ops : Array Oper) (n : Nat) : Bool := ((List.range ops.size).all (tidyAtV ops n) && Region.noSelect ops) && tailOk ops n
structure TidyV (ops : Array Oper) (n : Nat) : Prop where
  low : ∀ (j : Nat) (o : Oper), ops[j]? = some o → ∀ e ∈ o.after, Region.binds .any e = true → e.on < j
  looks : ∀ (j : Nat) (o : Oper), j < n → ops[j]? = some o → ∀ t ∈ o.looksAt ops, ∀ i, i < n → writes ops t i = true → waits o i = true
  once : ∀ (j : Nat) (o : Oper) (t : Tmp), j < n → ops[j]? = some o → o.dst = some t → ∀ i, i < n → writes ops t i = true → i = j
  sel : ∀ (j : Nat) (o : Oper) cs b, ops[j]? = some o → o.op ≠ .select cs b
theorem tidyV_is {ops : Array Oper} {n : Nat} (h : ((List.range ops.size).all (tidyAtV ops n) && Region.noSelect ops) = true) : TidyV ops n := by
  simp only [Bool.and_eq_true, List.all_eq_true, List.mem_range] at h
  obtain ⟨h1, h3⟩ := h
  have g : ∀ (j : Nat) (o : Oper), ops[j]? = some o → (o.after.all fun e => !Region.binds .any e || decide (e.on < j)) = true ∧ (n ≤ j ∨ (((o.looksAt ops).all fun t => (List.range n).all fun i => !writes ops t i || waits o i) = true ∧ (match o.dst with | none => true | some t => (List.range n).all fun i => i == j || !writes ops t i) = true)) := fun j o ho => by
    have := h1 j (Array.getElem?_eq_some_iff.1 ho).1
    simp only [tidyAtV, ho, Bool.and_eq_true, Bool.or_eq_true, decide_eq_true_eq] at this
    exact this
  refine ⟨fun j o ho e he hb => ?_, fun j o hj ho t ht i hin hi => ?_, fun j o t hj ho hd i hin hi => ?_, Region.noSelect_spec h3⟩
  · have := (Array.all_eq_true_iff_forall_mem.1 (g j o ho).1) e he
    simpa [hb] using this
  · rcases (g j o ho).2 with hn | hg
    · omega
    · have := List.all_eq_true.1 (List.all_eq_true.1 hg.1 t ht) i (List.mem_range.2 hin)
      simpa [hi] using this
  · rcases (g j o ho).2 with hn | hg
    · omega
    · have := hg.2
      rw [hd] at this
      have := List.all_eq_true.1 this i (List.mem_range.2 hin)
      simpa [hi] using this

section
variable {P : Program} {ops : Array Oper} {mk : List Nat} {S : World → Prop}

/-- What is asked of operation i. -/
structure DoesV (P : Program) (ops : Array Oper) (mk : List Nat) (S : World → Prop) (i : Nat) (o : Oper) (A : Vals → Act) (R : Told) (r : Vals → Value → World → Prop) (c : Vals → Value) : Prop where
  near : ∀ val val', (∀ j, waits o j = true → val j = val' j) → ∀ v w, r val v w → r val' v w
  nearC : ∀ val val', (∀ j, waits o j = true → val j = val' j) → val i = val' i → c val = c val'
  stays : ∀ val v w w', r val v w → Below w.heap.size w w' → r val v w'
  is : ∀ val w, r val (val i) w → c val = val i
  does : ∀ val w, S w → (∀ j, waits o j = true → R j val (val j) w) → if Region.wanted o (yielded ops (A val).tmps) = true then
      o.wp P (A val) w (fun a' w' => ∃ v, a' = (A val).put o.dst v ∧ r val v w' ∧ S w' ∧ Below w.heap.size w w' ∧ (mk.contains i = true → NewPlace v w w')) (fun _ _ _ => False)
    else r val undef w ∧ mk.contains i = false

def SeqV (P : Program) (ops : Array Oper) (mk : List Nat) (S : World → Prop) : Nat → List Oper → (Vals → Act) → Told → ((Vals → Act) → Told → Prop) → Prop
  | _, [], A, R, F => F A R
  | i, o :: rest, A, R, F => ∃ r c, DoesV P ops mk S i o A R r c ∧ SeqV P ops mk S (i + 1) rest (fun val => (A val).put o.dst (c val)) (updT R i r) F

/-- What the walk says of operation i, in a state that agrees with the last one on what the operation looks at. -/
def EndsV (P : Program) (ops : Array Oper) (mk : List Nat) (S : World → Prop) (A : Vals → Act) (R : Told) (i : Nat) (o : Oper) : Prop :=
  ∃ B r c, DoesV P ops mk S i o B R r c ∧ R i = r ∧ (∀ val, ∀ t ∈ o.looksAt ops, (B val).tmps[t]? = (A val).tmps[t]?) ∧ (∀ val, (B val).tmps.size = (A val).tmps.size) ∧
    (∀ val d, o.dst = some d → (A val).tmps[d]? = ((B val).put o.dst (c val)).tmps[d]?)

theorem DoesV.told {i : Nat} {o : Oper} {A : Vals → Act} {R R' : Told} {r : Vals → Value → World → Prop} {c : Vals → Value} (h : DoesV P ops mk S i o A R r c) (hR : ∀ j, waits o j = true → R' j = R j) : DoesV P ops mk S i o A R' r c :=
  ⟨h.near, h.nearC, h.stays, h.is, fun val w hS hr => h.does val w hS fun j hj => by rw [← hR j hj]; exact hr j hj⟩

theorem low_waits {n : Nat} (ht : TidyV ops n) {i j : Nat} {o : Oper} (ho : ops[i]? = some o) (h : waits o j = true) : j < i := by
  obtain ⟨e, he, hb, rfl⟩ := waits_on h
  exact ht.low i o ho e he hb

theorem least_readyV {n : Nat} (ht : TidyV ops n) {listed : Array Bool} (hz : listed.size = ops.size) (hr : Region.ready .any ops listed = []) : ∀ i, i < ops.size → listed.getD i true = true := by
  intro i
  induction i using Nat.strongRecOn with
  | ind i ih =>
    intro hi
    cases hx : listed.getD i true with
    | true => rfl
    | false =>
      exfalso
      obtain ⟨o, ho⟩ : ∃ o, ops[i]? = some o := ⟨_, Array.getElem?_eq_getElem hi⟩
      have : i ∈ Region.ready .any ops listed := mem_ready.2 ⟨hx, o, ho, fun e he hb => by
        have hlt := ht.low i o ho e he hb
        have := ih e.on hlt (by omega)
        have hs : e.on < listed.size := by omega
        rw [← this, Array.getD_eq_getD_getElem?, Array.getD_eq_getD_getElem?, Array.getElem?_eq_getElem hs]; rfl⟩
      rw [hr] at this
      cases this
theorem seqv_ends {n : Nat} (ht : TidyV ops n) : ∀ (l : List Oper) (j : Nat) (A : Vals → Act) (R : Told) (F : (Vals → Act) → Told → Prop), j + l.length ≤ n → (∀ k, k < l.length → l[k]? = ops[j + k]?) → SeqV P ops mk S j l A R F →
    ∃ A' R', F A' R' ∧ (∀ val, (A' val).defers = (A val).defers) ∧ (∀ val, (A' val).tmps.size = (A val).tmps.size) ∧ (∀ val t, (∀ i, j ≤ i → i < j + l.length → writes ops t i = false) → (A' val).tmps[t]? = (A val).tmps[t]?) ∧
      (∀ i, i < j → R' i = R i) ∧ ∀ (i : Nat) (o : Oper), j ≤ i → i < j + l.length → ops[i]? = some o → EndsV P ops mk S A' R' i o
  | [], j, A, R, F, hln, hl, h => ⟨A, R, h, fun _ => rfl, fun _ => rfl, fun _ _ _ => rfl, fun _ _ => rfl, fun i o h1 h2 _ => by simp at h2; omega⟩
  | o :: l, j, A, R, F, hln, hl, ⟨r, c, hd, h⟩ => by
    have hln : j + (l.length + 1) ≤ n := by simpa using hln
    have ho : ops[j]? = some o := by have := hl 0 (by simp); simpa using this.symm
    obtain ⟨A', R', hF, h1, h2, h3, h4, h5⟩ := seqv_ends ht l (j + 1) _ _ F (by omega) (fun k hk => by have := hl (k + 1) (by simp; omega); rw [List.getElem?_cons_succ] at this; rw [this]; congr 1; omega) h
    refine ⟨A', R', hF, fun val => by rw [h1, put_defs], fun val => by rw [h2, put_size], fun val t hw => ?_, fun i hi => by rw [h4 i (by omega), updT_ne _ _ (by omega)], fun i o' hi hi2 ho' => ?_⟩
    · rw [h3 val t (fun i hi hi2 => hw i (by omega) (by simp; omega)), put_other]
      intro e
      have := hw j (Nat.le_refl _) (by simp)
      simp [writes, ho, e] at this
    · rcases Nat.eq_or_lt_of_le hi with rfl | hlt
      · rw [ho] at ho'
        cases ho'
        refine ⟨A, r, c, hd.told fun k hk => ?_, by rw [h4 j (by omega), updT_self], fun val t ht' => ?_, fun val => by rw [h2, put_size], fun val d hdst => ?_⟩
        · have := low_waits ht ho hk
          rw [h4 k (by omega), updT_ne _ _ (by omega)]
        · have hnw : ∀ i, j ≤ i → i < n → writes ops t i = false := fun i hi hin => by
            cases hx : writes ops t i with
            | false => rfl
            | true =>
              have := low_waits ht ho (ht.looks j o (by omega) ho t ht' i hin hx)
              omega
          rw [h3 val t (fun i hi hi2 => hnw i (by omega) (by omega)), put_other]
          intro e
          have := hnw j (Nat.le_refl _) (by omega)
          simp [writes, ho, e] at this
        · refine h3 val d fun i hi hi2 => ?_
          cases hx : writes ops d i with
          | false => rfl
          | true => have := ht.once j o d (by omega) ho hdst i (by omega) hx; omega
      · exact h5 i o' hlt (by simp at hi2; omega) ho'

theorem wp_movedV {o : Oper} {a b : Act} {w : World} {T : Value → World → Prop} {Q : Exit → Act → World → Prop} (he : execOp b.eval o = execOp a.eval o)
    (h : o.wp P a w (fun a' w' => ∃ v, a' = a.put o.dst v ∧ T v w') (fun _ _ _ => False)) :
    o.wp P b w (fun b' w' => ∃ u v, b' = b.put o.dst u ∧ a.put o.dst u = a.put o.dst v ∧ T v w') Q := by
  unfold Oper.wp at *
  rw [he]
  generalize (execOp a.eval o).run P w = r at *
  cases r with
  | ok n w' =>
    cases n <;> simp only [Oper.upon] at h ⊢
    case value u => obtain ⟨v, h1, h2⟩ := h; exact ⟨u, v, rfl, h1, h2⟩
    case skip => obtain ⟨v, h1, h2⟩ := h; exact ⟨_, v, rfl, h1, h2⟩
    case defer d =>
      exfalso
      obtain ⟨v, h1, h2⟩ := h
      have := congrArg (fun x => x.defers.length) h1
      cases hd : o.dst <;> simp [Act.put, hd] at this
    case enter f args =>
      refine Calls.mono h fun e w'' he => ?_
      cases e with
      | returned u => obtain ⟨v, h1, h2⟩ := he; exact ⟨u, v, rfl, h1, h2⟩
      | panicked c => exact he.elim
      | outgrown => obtain ⟨_, _, hx⟩ := he; exact hx.elim
    case row row args => exact Rows.mono h fun u w'' ⟨v, h1, h2⟩ => ⟨u, v, rfl, h1, h2⟩
  | halt x w' =>
    cases x <;> simp only [Oper.upon] at h

/-- The state at a time: the first n operations are walked, those behind them have not come. -/
structure NowV (ops : Array Oper) (mk : List Nat) (n : Nat) (S : World → Prop) (A : Vals → Act) (R : Told) (listed : Array Bool) (val : Vals) (a : Act) (w : World) : Prop where
  defers : a.defers = (A val).defers
  size : a.tmps.size = (A val).tmps.size
  agree : ∀ t, (∀ i, i < n → writes ops t i = true → listed.getD i true = true) → a.tmps[t]? = (A val).tmps[t]?
  holds : S w
  told : ∀ i, i < n → listed.getD i true = true → R i val (val i) w
  closed : ∀ i o j, ops[i]? = some o → listed.getD i true = true → waits o j = true → listed.getD j true = true
  behind : ∀ i, n ≤ i → i < ops.size → listed.getD i true = false
  place : ∀ i, i < n → listed.getD i true = true → mk.contains i = true → ∃ g, val i = .pointer (some ⟨g, 0, none⟩) ∧ g < w.heap.size
  apart : ∀ i j, i < n → j < n → listed.getD i true = true → listed.getD j true = true → mk.contains i = true → mk.contains j = true → i ≠ j → val i ≠ val j

theorem waits_low {listed : Array Bool} {o : Oper} (hall : ∀ e ∈ o.after, Region.binds .any e = true → listed.getD e.on false = true) {j : Nat} (h : waits o j = true) : listed.getD j true = true := by
  obtain ⟨e, he, hb, rfl⟩ := waits_on h
  exact getD_low (hall e he hb)

/-- What is known of the walk as a whole. -/
structure WalkV (P : Program) (ops : Array Oper) (mk : List Nat) (n : Nat) (S : World → Prop) (a0 : Act) (A : Vals → Act) (R : Told) : Prop where
  le : n ≤ ops.size
  defers : ∀ val, (A val).defers = a0.defers
  size : ∀ val, (A val).tmps.size = a0.tmps.size
  else_ : ∀ val t, (∀ i, i < n → writes ops t i = false) → (A val).tmps[t]? = a0.tmps[t]?
  ends : ∀ (i : Nat) (o : Oper), i < n → ops[i]? = some o → EndsV P ops mk S A R i o

theorem writes_some {t i : Nat} (h : writes ops t i = true) : ∃ o, ops[i]? = some o ∧ o.dst = some t := by
  unfold writes at h
  cases ho : ops[i]? with
  | none => simp [ho] at h
  | some o => exact ⟨o, rfl, by simpa [ho] using h⟩

/-- One step. -/
theorem NowV.next {n i : Nat} {a0 : Act} {A : Vals → Act} {R : Told} {listed : Array Bool} {val : Vals} {a : Act} {w w' : World} {o : Oper} (ht : TidyV ops n) (hW : WalkV P ops mk n S a0 A R) (h : NowV ops mk n S A R listed val a w)
    (hi : i < n) (hx : listed.getD i true = false) (ho : ops[i]? = some o) (hz : listed.size = ops.size)
    (hall : ∀ e ∈ o.after, Region.binds .any e = true → listed.getD e.on false = true) {b : Act} {u v : Value} (hb : b.tmps.size = a0.tmps.size) (hu : b.put o.dst u = b.put o.dst v)
    (hr : R i val v w') (hS : S w') (hg : Below w.heap.size w w') (hp : mk.contains i = true → NewPlace v w w') :
    NowV ops mk n S A R (listed.setIfInBounds i true) (fun j => if j = i then v else val j) (a.put o.dst u) w' := by
  have hil : i < ops.size := (Array.getElem?_eq_some_iff.1 ho).1
  have hself : (listed.setIfInBounds i true).getD i true = true := by
    have : i < listed.size := by omega
    simp [this]
  have hold : ∀ j, j ≠ i → (listed.setIfInBounds i true).getD j true = listed.getD j true := fun j hj => getD_set_ne true (Ne.symm hj)
  have hnot : ∀ (k : Nat) o' , ops[k]? = some o' → listed.getD k true = true → ∀ j, waits o' j = true → j ≠ i := fun k o' ho' hl j hw e => by
    subst e
    rw [h.closed k o' j ho' hl hw] at hx; cases hx
  have hme : ∀ j, waits o j = true → j ≠ i := fun j hw => by have := low_waits ht ho hw; omega
  obtain ⟨B, r, c, hdo, hR, hag, hsz, hd⟩ := hW.ends i o hi ho
  generalize hval : (fun j => if j = i then v else val j : Vals) = val'
  have hvi : val' i = v := by rw [← hval]; simp
  have hvj : ∀ j, j ≠ i → val' j = val j := fun j hj => by rw [← hval]; simp [hj]
  have hr' : R i val' v w' := by
    rw [hR] at hr ⊢
    exact hdo.near val val' (fun j hw => (hvj j (hme j hw)).symm) v w' hr
  refine ⟨by rw [put_defs, h.defers, hW.defers, hW.defers], by rw [put_size, h.size, hW.size, hW.size], fun t hw => ?_, hS, fun j hj hl => ?_, fun k o' j ho' hl hwt => ?_, fun j hj hjs => ?_, fun j hj hl hm => ?_, fun j k hj hk hlj hlk hmj hmk hne => ?_⟩
  · by_cases e : o.dst = some t
    · rw [hd val' t e, e]
      have hc : c val' = v := by
        rw [← hvi]
        refine hdo.is val' w' ?_
        rw [hvi, ← hR]
        exact hr'
      have hs1 : (B val').tmps.size = a0.tmps.size := by rw [hsz, hW.size]
      have hs2 : a.tmps.size = a0.tmps.size := by rw [h.size, hW.size]
      rw [hc]
      simp only [Act.put, Array.getElem?_setIfInBounds, hs1, hs2]
      by_cases hlt : t < a0.tmps.size
      · simp only [if_true, if_pos hlt]
        have := congrArg (fun x => x.tmps[t]?) hu
        simp only [e, Act.put, Array.getElem?_setIfInBounds, hb, if_true, if_pos hlt] at this
        exact this
      · simp only [if_true, if_neg hlt]
    · rw [put_other e]
      have hwi : writes ops t i = false := by simp [writes, ho, e]
      rw [h.agree t fun j hj hjw => by
        have hji : j ≠ i := fun e2 => by subst e2; rw [hwi] at hjw; cases hjw
        rw [← hold j hji]; exact hw j hj hjw]
      by_cases hex : ∃ k, k < n ∧ writes ops t k = true
      · obtain ⟨k, hk, hkw⟩ := hex
        have hki : k ≠ i := fun e2 => by subst e2; rw [hwi] at hkw; cases hkw
        obtain ⟨o', ho', hdst⟩ := writes_some hkw
        obtain ⟨B', r', c', hdo', hR', hag', hsz', hd'⟩ := hW.ends k o' hk ho'
        have hlk : listed.getD k true = true := by rw [← hold k hki]; exact hw k hk hkw
        rw [hd' val t hdst, hd' val' t hdst, hdst, hdo'.nearC val val' (fun j hwt => (hvj j (hnot k o' ho' hlk j hwt)).symm) (hvj k hki).symm]
        simp only [Act.put, Array.getElem?_setIfInBounds, hsz', hW.size, if_true]
      · have hno : ∀ k, k < n → writes ops t k = false := fun k hk => by
          cases hx2 : writes ops t k with
          | false => rfl
          | true => exact absurd ⟨k, hk, hx2⟩ hex
        rw [hW.else_ val t hno, hW.else_ val' t hno]
  · by_cases e : j = i
    · subst e; rw [hvi]; exact hr'
    · rw [hold j e] at hl
      obtain ⟨o', ho'⟩ : ∃ o', ops[j]? = some o' := ⟨_, Array.getElem?_eq_getElem (Nat.lt_of_lt_of_le hj hW.le)⟩
      obtain ⟨B', r', c', hdo', hR', _⟩ := hW.ends j o' hj ho'
      have h1 := h.told j hj hl
      rw [hvj j e]
      rw [hR'] at h1 ⊢
      exact hdo'.near val val' (fun m hwt => (hvj m (hnot j o' ho' hl m hwt)).symm) _ _ (hdo'.stays _ _ _ _ h1 hg)
  · by_cases e : j = i
    · subst e; exact hself
    · rw [hold j e]
      by_cases e2 : k = i
      · subst e2
        rw [ho] at ho'
        cases ho'
        exact waits_low hall hwt
      · rw [hold k e2] at hl
        exact h.closed k o' j ho' hl hwt
  · rw [hold j (by omega)]
    exact h.behind j hj hjs
  · by_cases e : j = i
    · subst e
      obtain ⟨g, h1, h2, h3⟩ := hp hm
      exact ⟨g, by rw [hvi, h1], h3⟩
    · rw [hold j e] at hl
      obtain ⟨g, h1, h2⟩ := h.place j hj hl hm
      exact ⟨g, by rw [hvj j e, h1], Nat.lt_of_lt_of_le h2 hg.size⟩
  · by_cases e : j = i
    · subst e
      rw [hold k (Ne.symm hne)] at hlk
      obtain ⟨g, h1, h2, h3⟩ := hp hmj
      obtain ⟨g', h4, h5⟩ := h.place k hk hlk hmk
      rw [hvi, hvj k (Ne.symm hne), h1, h4]
      intro e3
      injection e3 with e3; injection e3 with e3; injection e3 with e3
      omega
    · rw [hold j e] at hlj
      by_cases e2 : k = i
      · subst e2
        obtain ⟨g, h1, h2, h3⟩ := hp hmk
        obtain ⟨g', h4, h5⟩ := h.place j hj hlj hmj
        rw [hvi, hvj j e, h1, h4]
        intro e3
        injection e3 with e3; injection e3 with e3; injection e3 with e3
        omega
      · rw [hold k e2] at hlk
        rw [hvj j e, hvj k e2]
        exact h.apart j k hj hk hlj hlk hmj hmk hne

structure TailOk (ops : Array Oper) (n : Nat) : Prop where
  le : n ≤ ops.size
  all : n < ops.size → ∀ j, j < n → reaches ops 6 n j = true
  chain : ∀ j, n < j → j < ops.size → ∃ o, ops[j]? = some o ∧ waits o (j - 1) = true
theorem tailOk_is {n : Nat} (h : tailOk ops n = true) : TailOk ops n := by
  simp only [tailOk, Bool.and_eq_true, decide_eq_true_eq] at h
  obtain ⟨⟨h1, h2⟩, h3⟩ := h
  refine ⟨h1, fun hn j hj => ?_, fun j hj hjs => ?_⟩
  · simp only [List.all_eq_true, List.mem_range, Bool.or_eq_true, decide_eq_true_eq] at h2
    rcases h2 j hj with h | h
    · omega
    · exact h
  · simp only [List.all_eq_true, List.mem_range, Bool.or_eq_true, decide_eq_true_eq] at h3
    rcases h3 j hjs with h | h
    · omega
    · cases hq : ops[j]? with
      | none => simp [hq] at h
      | some o => exact ⟨o, rfl, by simpa [hq] using h⟩
/-- Whoever is ready has all behind it that it waits for, by way of others too. -/
theorem reach_low {listed : Array Bool} (hc : ∀ i o j, ops[i]? = some o → listed.getD i true = true → waits o j = true → listed.getD j true = true) : ∀ (f i j : Nat), (∀ o k, ops[i]? = some o → waits o k = true → listed.getD k true = true) → reaches ops f i j = true → listed.getD j true = true
  | 0, i, j, _, h => by simp [reaches] at h
  | f + 1, i, j, hi, h => by
    unfold reaches at h
    cases ho : ops[i]? with
    | none => simp [ho] at h
    | some o =>
      simp only [ho, Bool.or_eq_true, List.any_eq_true, List.mem_range, Bool.and_eq_true] at h
      rcases h with h | ⟨k, _, hk, hr⟩
      · exact hi o j ho h
      · exact reach_low hc f k j (fun o2 k2 ho2 hw2 => hc k o2 k2 ho2 (hi o k ho hk) hw2) hr

/-- The operations behind the first n come one by one. -/
theorem tail_any {Q : Exit → Act → World → Prop} {n : Nat} (ht : TidyV ops n) (hto : TailOk ops n) : ∀ (rest : List Oper) (k fuel : Nat) (listed : Array Bool) (a : Act) (w : World), n ≤ k → k + rest.length = ops.size → (∀ j, rest[j]? = ops[k + j]?) →
    (∀ i, i < ops.size → listed.getD i true = decide (i < k)) → listed.size = ops.size → rest.length ≤ fuel → wpList P ops Q rest a w → wpAny P .any ops Q fuel listed a w
  | [], k, fuel, listed, a, w, hk, hs, hr, hl, hz, hf, h => by
    simp only [List.length_nil, Nat.add_zero] at hs
    have hno : ∀ i, i ∉ Region.ready .any ops listed := fun i hi => by
      obtain ⟨hx, o, ho, _⟩ := mem_ready.1 hi
      have := (Array.getElem?_eq_some_iff.1 ho).1
      rw [hl i this] at hx
      simp at hx; omega
    cases fuel with
    | zero => exact ⟨List.eq_nil_iff_forall_not_mem.2 hno, h⟩
    | succ f => exact ⟨fun _ => h, fun i hi => absurd hi (hno i)⟩
  | o :: rest, k, fuel, listed, a, w, hk, hs, hr, hl, hz, hf, h => by
    simp only [List.length_cons] at hs hf
    have hks : k < ops.size := by omega
    have ho : ops[k]? = some o := by have := hr 0; simpa using this.symm
    obtain ⟨f, rfl⟩ : ∃ f, fuel = f + 1 := ⟨fuel - 1, by omega⟩
    refine ⟨fun hn => ?_, fun i hi => ?_⟩
    · have := least_readyV ht hz hn k hks
      rw [hl k hks] at this
      simp at this
    · obtain ⟨hx, o', ho', hall⟩ := mem_ready.1 hi
      have his := (Array.getElem?_eq_some_iff.1 ho').1
      have hki : i = k := by
        rw [hl i his] at hx
        have hge : k ≤ i := by simpa using hx
        rcases Nat.eq_or_lt_of_le hge with e | hlt
        · exact e.symm
        · exfalso
          obtain ⟨o2, ho2, hw⟩ := hto.chain i (by omega) his
          rw [ho'] at ho2
          cases ho2
          have h1 := waits_low hall hw
          rw [hl (i - 1) (by omega)] at h1
          simp at h1; omega
      subst hki
      rw [ho] at ho'
      cases ho'
      have hl' : ∀ j, j < ops.size → (listed.setIfInBounds i true).getD j true = decide (j < i + 1) := fun j hj => by
        by_cases e : j = i
        · subst e
          have : j < listed.size := by omega
          simp [this]
        · rw [getD_set_ne true (Ne.symm e), hl j hj]
          have : (j < i) = (j < i + 1) := by simp only [eq_iff_iff]; omega
          simp only [this]
      have hz' : (listed.setIfInBounds i true).size = ops.size := by simpa using hz
      have ih := fun a w => tail_any (Q := Q) ht hto rest (i + 1) f (listed.setIfInBounds i true) a w (by omega) (by omega) (fun j => by have := hr (j + 1); rw [List.getElem?_cons_succ] at this; rw [this]; congr 1; omega) hl' hz' (by omega)
      unfold wpOp
      simp only [ho]
      unfold wpList at h
      split
      · rename_i hw
        rw [if_pos hw] at h
        exact h.imp (Oper.wp_mono ih) id
      · rename_i hw
        rw [if_neg hw] at h
        exact ih _ _ h

theorem any_nowV {Q : Exit → Act → World → Prop} {n : Nat} {a0 : Act} {A : Vals → Act} {R : Told} (ht : TidyV ops n) (hto : TailOk ops n) (hW : WalkV P ops mk n S a0 A R) {rest : List Oper} (hrest : ∀ j, rest[j]? = ops[n + j]?)
    (hF : ∀ val w, S w → (∀ j, j < n → R j val (val j) w) → (∀ i j, i < n → j < n → mk.contains i = true → mk.contains j = true → i ≠ j → val i ≠ val j) → wpList P ops Q rest (A val) w) :
    ∀ (fuel : Nat) (listed : Array Bool) (val : Vals) (a : Act) (w : World), NowV ops mk n S A R listed val a w → listed.size = ops.size → left ops.size listed ≤ fuel → wpAny P .any ops Q fuel listed a w := by
  have hlen : n + rest.length = ops.size := by
    have h1 := hrest rest.length
    have h2 := fun (h : 0 < rest.length) => hrest (rest.length - 1)
    rw [List.getElem?_eq_none (Nat.le_refl _)] at h1
    have h3 : ops.size ≤ n + rest.length := by
      have := h1.symm
      simpa using this
    rcases Nat.eq_zero_or_pos rest.length with e | e
    · have := hto.le; omega
    · have h4 := h2 e
      rw [List.getElem?_eq_getElem (by omega)] at h4
      have := (Array.getElem?_eq_some_iff.1 h4.symm).1
      omega
  -- all of the first n have come
  have fin : ∀ (fuel : Nat) (listed : Array Bool) (val : Vals) (a : Act) (w : World), NowV ops mk n S A R listed val a w → listed.size = ops.size → left ops.size listed ≤ fuel → (∀ i, i < n → listed.getD i true = true) → wpAny P .any ops Q fuel listed a w := by
    intro fuel listed val a w h hz hl hall
    have ha : a = A val := by
      obtain ⟨tm, df⟩ := a
      cases hA : A val with
      | mk tm' df' =>
      have h1 := h.defers
      rw [hA] at h1
      simp only at h1
      subst h1
      congr 1
      apply Array.ext_getElem?
      intro t
      have := h.agree t fun i hi _ => hall i hi
      rw [hA] at this
      exact this
    subst ha
    have hl2 : ∀ i, i < ops.size → listed.getD i true = decide (i < n) := fun i hi => by
      by_cases e : i < n
      · rw [hall i e]; simp [e]
      · rw [h.behind i (by omega) hi]; simp [e]
    have hcount : rest.length ≤ left ops.size listed := by
      unfold left
      have e : (List.range ops.size).filter (fun i => !listed.getD i true) = (List.range ops.size).filter (fun i => decide (n ≤ i)) := by
        refine List.filter_congr fun i hi => ?_
        rw [hl2 i (List.mem_range.1 hi)]
        by_cases h5 : i < n
        · have : ¬ n ≤ i := by omega
          simp [h5, this]
        · have : n ≤ i := by omega
          simp [h5, this]
      rw [e]
      have hsub : (List.range' n rest.length).Sublist ((List.range ops.size).filter (fun i => decide (n ≤ i))) := by
        rw [← hlen, List.range_eq_range', ← List.range'_append_1, List.filter_append]
        refine List.Sublist.trans ?_ (List.sublist_append_right _ _)
        rw [List.filter_eq_self.2 (by intro x hx; have := List.mem_range'_1.1 hx; simp; omega)]
        simp
      have := hsub.length_le
      simpa using this
    exact tail_any ht hto rest n fuel listed (A val) w (Nat.le_refl _) hlen hrest hl2 hz (Nat.le_trans hcount hl) (hF val w h.holds (fun j hj => h.told j hj (hall j hj)) (fun i j hi hj hmi hmj hne => h.apart i j hi hj (hall i hi) (hall j hj) hmi hmj hne))
  intro fuel
  induction fuel with
  | zero =>
    intro listed val a w h hz hl
    have hall := none_left (Nat.le_zero.1 hl)
    exact fin 0 listed val a w h hz hl (fun i hi => hall i (by have := hto.le; omega))
  | succ fuel ih =>
    intro listed val a w h hz hl
    by_cases hdone : ∀ i, i < n → listed.getD i true = true
    · exact fin _ listed val a w h hz hl hdone
    · refine ⟨fun hr => absurd (fun i hi => least_readyV ht hz hr i (by have := hto.le; omega)) hdone, fun i hi => ?_⟩
      obtain ⟨hx, o, ho, hall⟩ := mem_ready.1 hi
      have his : i < ops.size := (Array.getElem?_eq_some_iff.1 ho).1
      have hin : i < n := by
        rcases Nat.lt_or_ge i n with h1 | h1
        · exact h1
        · exfalso
          rcases Nat.eq_or_lt_of_le h1 with e | h2
          · subst e
            refine hdone fun j hj => ?_
            exact reach_low h.closed 6 n j (fun o2 k ho2 hw => by rw [ho] at ho2; cases ho2; exact waits_low hall hw) (hto.all his j hj)
          · obtain ⟨o2, ho2, hw⟩ := hto.chain i h2 his
            rw [ho] at ho2
            cases ho2
            have h3 := waits_low hall hw
            rw [h.behind (i - 1) (by omega) (by omega)] at h3
            cases h3
      obtain ⟨B, r, c, hdo, hR, hag, hsz, hd⟩ := hW.ends i o hin ho
      have hsame : ∀ t ∈ o.looksAt ops, a.tmps[t]? = (B val).tmps[t]? := fun t htm => by
        rw [hag val t htm]
        exact h.agree t fun j hj hjw => waits_low hall (ht.looks i o hin ho t htm j hj hjw)
      obtain ⟨he, hw⟩ := same_exec ht.sel ho hsame
      have hlt := left_set his (by omega : i < listed.size) hx
      have hz' : (listed.setIfInBounds i true).size = ops.size := by simpa using hz
      have hdoes := hdo.does val w h.holds fun j hj => h.told j (by have := low_waits ht ho hj; omega) (waits_low hall hj)
      have hbs : (B val).tmps.size = a0.tmps.size := by rw [hsz, hW.size]
      unfold wpOp
      simp only [ho]
      rw [← hw] at hdoes
      split
      · rename_i hwt
        rw [if_pos hwt] at hdoes
        refine .inl (Oper.wp_mono ?_ (wp_movedV (Q := Q) he hdoes))
        rintro a' w' ⟨u, v, rfl, hu, hrv, hS', hgr, hnp⟩
        exact ih _ _ _ _ (h.next ht hW hin hx ho hz hall hbs hu (by rw [hR]; exact hrv) hS' hgr hnp) hz' (by omega)
      · rename_i hwt
        rw [if_neg hwt] at hdoes
        exact ih _ _ _ _ (h.next (u := undef) ht hW hin hx ho hz hall hbs rfl (by rw [hR]; exact hdoes.1) h.holds (Below.refl _ _) (fun hm => by rw [hdoes.2] at hm; cases hm)) hz' (by omega)

/-- THE REGION: the first n operations by the walk, in whatever order they come; those behind them as they stand. -/
theorem region_vary {Q : Exit → Act → World → Prop} {id : Nat} {l : List Oper} {a : Act} {w : World} (mk : List Nat) (n : Nat) (S : World → Prop) (hm : P.follows .mixedOrders = true) (ht : tidyV l.toArray n = true) (hS : S w.drew)
    (h : SeqV P l.toArray mk S 0 (l.take n) (fun _ => a) (fun _ _ _ _ => True) (fun A R => ∀ val w', S w' → (∀ j, j < n → R j val (val j) w') → (∀ i j, i < n → j < n → mk.contains i = true → mk.contains j = true → i ≠ j → val i ≠ val j) → wpList P l.toArray Q (l.drop n) (A val) w')) :
    (Code.region id l.toArray true).wp P Q a w := by
  unfold tidyV at ht
  rw [Bool.and_eq_true] at ht
  have ht1 := tidyV_is ht.1
  have ht2 := tailOk_is ht.2
  have hn : n ≤ l.length := by have := ht2.le; simpa using this
  obtain ⟨A, R, hF, h1, h2, h3, h4, h5⟩ := seqv_ends ht1 (l.take n) 0 _ _ _ (by rw [List.length_take]; omega) (fun k hk => by
    rw [List.length_take] at hk
    rw [List.getElem?_take, if_pos (by omega)]; simp) h
  have hlen : (l.take n).length = n := by rw [List.length_take]; omega
  rw [hlen] at h3 h5
  have hW : WalkV P l.toArray mk n S a A R := ⟨ht2.le, h1, h2, fun val t hw => h3 val t fun i _ hi => hw i (by omega), fun i o hi ho => h5 i o (Nat.zero_le _) (by omega) ho⟩
  have hnone : ∀ i, i < l.toArray.size → (Array.replicate l.toArray.size false).getD i true = false := fun i hi => by
    have : i < l.length := by simpa using hi
    simp [this]
  refine wp_region_any hm (any_nowV ht1 ht2 hW (rest := l.drop n) (fun j => by simp [List.getElem?_drop]) hF _ _ (fun _ => undef) a _ ⟨(h1 _).symm, (h2 _).symm, fun t hw => ?_, hS, fun i hi hl => ?_, fun i o j ho hl _ => ?_, fun i _ hi => hnone i hi, fun i hi hl _ => ?_, fun i j hi _ hl _ _ _ _ => ?_⟩ (by simp) ?_)
  · refine (h3 _ t fun i _ hi => ?_).symm
    cases hx : writes l.toArray t i with
    | false => rfl
    | true =>
      have := hw i (by omega) hx
      rw [hnone i (writes_lt hx)] at this
      cases this
  · rw [hnone i (by simp; omega)] at hl; cases hl
  · rw [hnone i (Array.getElem?_eq_some_iff.1 ho).1] at hl; cases hl
  · rw [hnone i (by simp; omega)] at hl; cases hl
  · rw [hnone i (by simp; omega)] at hl; cases hl
  · unfold left
    exact Nat.le_trans (List.length_filter_le _ _) (by simp)

/-! ### The steps of the walk -/
variable {i : Nat} {o : Oper} {rest : List Oper} {a : Act} {A : Vals → Act} {R : Told} {F : (Vals → Act) → Told → Prop}
/-- It is not wanted. -/
theorem SeqV.skip (hw : ∀ val, Region.wanted o (yielded ops (A val).tmps) = false) (hm : mk.contains i = false) (h : SeqV P ops mk S (i + 1) rest (fun val => (A val).put o.dst undef) (updT R i fun _ v _ => v = undef) F) : SeqV P ops mk S i (o :: rest) A R F :=
  ⟨fun _ v _ => v = undef, fun _ => undef, ⟨fun _ _ _ _ _ h => h, fun _ _ _ _ => rfl, fun _ _ _ _ h _ => h, fun _ _ h => h.symm, fun val w _ _ => by rw [hw val, if_neg (by simp)]; exact ⟨rfl, hm⟩⟩, h⟩
/-- What it yields hangs on what it waits for alone, in every world of which S is said, and nothing is written. -/
theorem SeqV.take (c : Vals → Value) (hw : ∀ val, Region.wanted o (yielded ops (A val).tmps) = true) (hm : mk.contains i = false) (hn : ∀ val val', (∀ j, waits o j = true → val j = val' j) → c val = c val')
    (hy : ∀ val w, S w → (∀ j, waits o j = true → R j val (val j) w) → (execOp (A val).eval o).run P w = .ok (.value (c val)) w)
    (h : SeqV P ops mk S (i + 1) rest (fun val => (A val).put o.dst (c val)) (updT R i fun val v _ => v = c val) F) : SeqV P ops mk S i (o :: rest) A R F :=
  ⟨fun val v _ => v = c val, c, ⟨fun val val' hv v _ h => by rw [h, hn val val' hv], fun val val' hv _ => hn val val' hv, fun _ _ _ _ h _ => h, fun _ _ h => h.symm, fun val w hS hR => by
    rw [if_pos (hw val)]
    unfold Oper.wp
    rw [hy val w hS hR]
    exact ⟨_, rfl, rfl, hS, Below.refl _ _, fun hc => by rw [hm] at hc; cases hc⟩⟩, h⟩
/-- Of a call: what it hands back hangs on what it waits for alone. -/
theorem SeqV.call {f : FuncId} {args : Vals → Array Value} (c : Vals → Value) (hk : ∀ val w, S w → (∀ j, waits o j = true → R j val (val j) w) → Calls P f (args val) w fun e w' => e = .returned (c val) ∧ S w' ∧ Below w.heap.size w w')
    (hw : ∀ val, Region.wanted o (yielded ops (A val).tmps) = true) (hm : mk.contains i = false) (hn : ∀ val val', (∀ j, waits o j = true → val j = val' j) → c val = c val') (he : ∀ val w, (execOp (A val).eval o).run P w = .ok (.enter f (args val)) w)
    (h : SeqV P ops mk S (i + 1) rest (fun val => (A val).put o.dst (c val)) (updT R i fun val v _ => v = c val) F) : SeqV P ops mk S i (o :: rest) A R F :=
  ⟨fun val v _ => v = c val, c, ⟨fun val val' hv v _ h => by rw [h, hn val val' hv], fun val val' hv _ => hn val val' hv, fun _ _ _ _ h _ => h, fun _ _ h => h.symm, fun val w hS hR => by
    rw [if_pos (hw val)]
    unfold Oper.wp
    rw [he val w]
    refine Calls.mono (hk val w hS hR) ?_
    rintro e w' ⟨rfl, hS', hb⟩
    exact ⟨_, rfl, rfl, hS', hb, fun hc => by rw [hm] at hc; cases hc⟩⟩, h⟩
/-- Of a call that hands back something new, of which r is said, and stays so as the world grows. -/
theorem SeqV.make {f : FuncId} {args : Vals → Array Value} (r : Vals → Value → World → Prop) (hk : ∀ val w, S w → (∀ j, waits o j = true → R j val (val j) w) → Calls P f (args val) w fun e w' => ∃ v, e = .returned v ∧ r val v w' ∧ S w' ∧ Below w.heap.size w w')
    (hw : ∀ val, Region.wanted o (yielded ops (A val).tmps) = true) (hm : mk.contains i = false) (hn : ∀ val val', (∀ j, waits o j = true → val j = val' j) → ∀ v w, r val v w → r val' v w) (hs : ∀ val v w w', r val v w → Below w.heap.size w w' → r val v w')
    (he : ∀ val w, (execOp (A val).eval o).run P w = .ok (.enter f (args val)) w)
    (h : SeqV P ops mk S (i + 1) rest (fun val => (A val).put o.dst (val i)) (updT R i r) F) : SeqV P ops mk S i (o :: rest) A R F :=
  ⟨r, fun val => val i, ⟨hn, fun _ _ _ h => h, hs, fun _ _ _ => rfl, fun val w hS hR => by
    rw [if_pos (hw val)]
    unfold Oper.wp
    rw [he val w]
    refine Calls.mono (hk val w hS hR) ?_
    rintro e w' ⟨v, rfl, hr, hS', hb⟩
    exact ⟨_, rfl, hr, hS', hb, fun hc => by rw [hm] at hc; cases hc⟩⟩, h⟩
/-- Of a new block. -/
theorem SeqV.new (B : Nat) (ob : Obj) (hw : ∀ val, Region.wanted o (yielded ops (A val).tmps) = true) (hB : ∀ w, S w → B ≤ w.heap.size) (hSa : ∀ w, S w → S (w.alloc ob))
    (hy : ∀ val w, (execOp (A val).eval o).run P w = .ok (.value (.pointer (some ⟨w.heap.size, 0, none⟩))) (w.alloc ob))
    (h : SeqV P ops mk S (i + 1) rest (fun val => (A val).put o.dst (val i)) (updT R i fun _ v w => ∃ g, v = .pointer (some ⟨g, 0, none⟩) ∧ B ≤ g ∧ w.heap[g]? = some ob) F) : SeqV P ops mk S i (o :: rest) A R F :=
  ⟨fun _ v w => ∃ g, v = .pointer (some ⟨g, 0, none⟩) ∧ B ≤ g ∧ w.heap[g]? = some ob, fun val => val i, ⟨fun _ _ _ _ _ h => h, fun _ _ _ h => h, fun _ v w w' ⟨g, h1, h2, h3⟩ hb => ⟨g, h1, h2, by rw [hb.block g (Array.getElem?_eq_some_iff.1 h3).1]; exact h3⟩, fun _ _ _ => rfl, fun val w hS hR => by
    rw [if_pos (hw val)]
    unfold Oper.wp
    rw [hy val w]
    exact ⟨_, rfl, ⟨_, rfl, hB w hS, heap_alloc_new w ob⟩, hSa w hS, (Below.refl _ _).alloc (Nat.le_refl _) _, fun _ => ⟨_, rfl, Nat.le_refl _, by simp⟩⟩⟩, h⟩

/-! Where nothing varies so far: as Seq's steps. -/
end
end Go.Proofs.Ytcaejanfhchacaa
