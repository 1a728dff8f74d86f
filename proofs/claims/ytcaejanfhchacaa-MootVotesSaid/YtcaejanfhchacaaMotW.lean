/- Motions in memory: bytes of the call's own, lists that are there, rows of the call's own; a whole record stored into one of a row. -/
import Derived.Test.YtcaejanfhchacaaSta
import Derived.Test.YtcaejanfhchacaaRecW
import Derived.Deep.MidRow
namespace Go.Proofs.Ytcaejanfhchacaa
open Go.ChangeShapes Go.WideShapes Go.ChangeAt Go.RowKit Go.Deep
set_option linter.unusedVariables false
set_option linter.unusedSimpArgs false

theorem size_sl31 : (Try.prog.info? 38).map (·.size) = some 1 := by kernel_rfl
theorem own_sl {w : World} {base z n c b : Nat} {e : TypeId} {A : Option Addr} {xs : List Value} (h : w.ownsRow base e z (.slice A n c) n xs) (hf : n * b ≤ 140737488355328) : SlAt b w A n c xs := by
  rcases h.2 with ⟨h1, rfl⟩ | ⟨g, cap, cur, h1, h2, h3, h4, h5, h6, h7⟩
  · simp only [Value.slice.injEq] at h1
    obtain ⟨rfl, _, rfl⟩ := h1
    have : xs = [] := List.eq_nil_of_length_eq_zero (by have := h.1; simpa using this)
    subst this
    exact SlAt.nil _ _
  · simp only [Value.slice.injEq] at h1
    obtain ⟨rfl, _, rfl⟩ := h1
    exact ⟨hf, h4, h5, fun e => (by cases e), fun k v hv => ⟨_, rfl, (h.lt g rfl).2, h.cells (g := g) rfl k v hv⟩⟩
/-- Bytes of the call's own. -/
def OwnBv (w : World) (L : Nat) (b : BV) : Prop := w.ownsRow L 5 1 (.slice b.row b.bs.length b.cap) b.bs.length (u8s b.bs)
theorem mid_at {α : Type} {N l : List α} {k : Nat} (hN : N.length = k) {x : α} (hx : l[k]? = some x) : (N ++ l.drop k)[k]? = some x := by
  rw [List.getElem?_append_right (by omega), hN, Nat.sub_self, List.getElem?_drop, Nat.add_zero, hx]
theorem mid_put {α : Type} {N l : List α} {k : Nat} (hN : N.length = k) (hk : k < l.length) (y : α) : (N ++ l.drop k).set k y = (N ++ [y]) ++ l.drop (k + 1) := by
  rw [List.set_append_right _ _ (by omega), hN, Nat.sub_self, List.drop_eq_getElem_cons hk, List.set_cons_zero, List.append_assoc]
  rfl
/-- Bytes copied into a motion of a row of the call's own. -/
theorem mot_put {w : World} {base n c g k : Nat} {l : List Mot} (h : w.ownsRow base 40 33 (.slice (some ⟨g, 0, none⟩) n c) n (rows l)) {x : Mot} (hx : l[k]? = some x) (A1 A2 : Option Addr) (c1 c2 : Nat) :
    ((w.setCell ⟨g, k * 33 + 31, none⟩ (.slice A1 x.yes.bs.length c1)).setCell ⟨g, k * 33 + 32, none⟩ (.slice A2 x.no.bs.length c2)).ownsRow base 40 33 (.slice (some ⟨g, 0, none⟩) n c) n (rows (l.set k ⟨x.acct, x.what, x.p, x.dest, x.amt, x.ends, x.due, x.st, ⟨A1, x.yes.bs, c1⟩, ⟨A2, x.no.bs, c2⟩⟩)) ∧
      w.grownBy ((w.setCell ⟨g, k * 33 + 31, none⟩ (.slice A1 x.yes.bs.length c1)).setCell ⟨g, k * 33 + 32, none⟩ (.slice A2 x.no.bs.length c2)) (some g) := by
  have s1 := h.stored (k * 33 + 31) (.slice A1 x.yes.bs.length c1)
  have e1 := rows_set (l := l) (k := k) (x := x) (y := ⟨x.acct, x.what, x.p, x.dest, x.amt, x.ends, x.due, x.st, ⟨A1, x.yes.bs, c1⟩, x.no⟩) (j := 31) (v := .slice A1 x.yes.bs.length c1) hx (by decide) rfl
  have e1' : (rows l).set (k * 33 + 31) (.slice A1 x.yes.bs.length c1) = rows (l.set k ⟨x.acct, x.what, x.p, x.dest, x.amt, x.ends, x.due, x.st, ⟨A1, x.yes.bs, c1⟩, x.no⟩) := e1
  rw [e1'] at s1
  have s2 := s1.1.stored (k * 33 + 32) (.slice A2 x.no.bs.length c2)
  have hk := (List.getElem?_eq_some_iff.1 hx).1
  have e2 := rows_set (l := l.set k ⟨x.acct, x.what, x.p, x.dest, x.amt, x.ends, x.due, x.st, ⟨A1, x.yes.bs, c1⟩, x.no⟩) (k := k) (x := ⟨x.acct, x.what, x.p, x.dest, x.amt, x.ends, x.due, x.st, ⟨A1, x.yes.bs, c1⟩, x.no⟩) (y := ⟨x.acct, x.what, x.p, x.dest, x.amt, x.ends, x.due, x.st, ⟨A1, x.yes.bs, c1⟩, ⟨A2, x.no.bs, c2⟩⟩) (j := 32) (v := .slice A2 x.no.bs.length c2) (by rw [List.getElem?_set_self hk]) (by decide) rfl
  have e2' : (rows (l.set k ⟨x.acct, x.what, x.p, x.dest, x.amt, x.ends, x.due, x.st, ⟨A1, x.yes.bs, c1⟩, x.no⟩)).set (k * 33 + 32) (.slice A2 x.no.bs.length c2) = _ := e2
  rw [e2', List.set_set] at s2
  exact ⟨s2.1, grown_trans s1.2 s2.2⟩
/-- One value of a motion of a row of the call's own. -/
theorem mot_set {w : World} {base n c g k : Nat} {l : List Mot} (h : w.ownsRow base 40 33 (.slice (some ⟨g, 0, none⟩) n c) n (rows l)) {x : Mot} (hx : l[k]? = some x) (y : Mot) (j : Nat) (v : Value) (hj : j < 33) (hv : (Rec.vals x).toList.set j v = (Rec.vals y).toList) :
    (w.setCell ⟨g, k * 33 + j, none⟩ v).ownsRow base 40 33 (.slice (some ⟨g, 0, none⟩) n c) n (rows (l.set k y)) ∧ w.grownBy (w.setCell ⟨g, k * 33 + j, none⟩ v) (some g) := by
  have s1 := h.stored (k * 33 + j) v
  have e1 : (rows l).set (k * 33 + j) v = rows (l.set k y) := rows_set (l := l) (k := k) (x := x) (y := y) (j := j) (v := v) hx hj hv
  rw [e1] at s1
  exact s1

/-- Many values stored, one behind the other. -/
def putAll (xs : List Value) : Nat → List Value → List Value
  | _, [] => xs
  | o, v :: r => putAll (xs.set o v) (o + 1) r
theorem putAll_mid : ∀ (vs old pre post : List Value), old.length = vs.length → putAll (pre ++ old ++ post) pre.length vs = pre ++ vs ++ post
  | [], old, pre, post, h => by
    obtain rfl := List.eq_nil_of_length_eq_zero (by simpa using h : old.length = 0)
    rfl
  | v :: vs, [], pre, post, h => by simp at h
  | v :: vs, u :: old, pre, post, h => by
    have ih := putAll_mid vs old (pre ++ [v]) post (by simpa using h)
    unfold putAll
    have e : (pre ++ u :: old ++ post).set pre.length v = pre ++ [v] ++ old ++ post := by
      rw [List.append_assoc, List.set_append_right _ _ (Nat.le_refl _), Nat.sub_self]
      simp
    rw [e, show pre.length + 1 = (pre ++ [v]).length by simp, ih]
    simp
theorem own_storeds {base z g n c : Nat} {e : TypeId} : ∀ (vs : List Value) (o : Nat) (xs : List Value) (w : World), w.ownsRow base e z (.slice (some ⟨g, 0, none⟩) n c) n xs →
    (w.setCells g o vs).ownsRow base e z (.slice (some ⟨g, 0, none⟩) n c) n (putAll xs o vs) ∧ w.grownBy (w.setCells g o vs) (some g) ∧ (w.setCells g o vs).heap.size = w.heap.size
  | [], o, xs, w, h => ⟨h, ⟨rfl, rfl, rfl, Nat.le_refl _, fun _ _ _ => rfl⟩, rfl⟩
  | v :: vs, o, xs, w, h => by
    have s1 := h.stored o v
    obtain ⟨h1, h2, h3⟩ := own_storeds vs (o + 1) _ _ s1.1
    exact ⟨h1, grown_trans s1.2 h2, h3.trans (by simp)⟩
section
variable {α : Type} [Rec α]
theorem rows_split {l : List α} {k : Nat} {x : α} (h : l[k]? = some x) : rows l = rows (l.take k) ++ (Rec.vals x).toList ++ rows (l.drop (k + 1)) := by
  obtain ⟨hk, e⟩ := List.getElem?_eq_some_iff.1 h
  have h1 : l = l.take k ++ (x :: l.drop (k + 1)) := by
    rw [← e, List.getElem_cons_drop, List.take_append_drop]
  have h2 : rows (x :: l.drop (k + 1)) = (Rec.vals x).toList ++ rows (l.drop (k + 1)) := rfl
  rw [List.append_assoc, ← h2, ← rows_append, ← h1]
theorem rows_put {l : List α} {k : Nat} {x y : α} (h : l[k]? = some x) : putAll (rows l) (k * Rec.z α) (Rec.vals y).toList = rows (l.set k y) := by
  have hk := (List.getElem?_eq_some_iff.1 h).1
  have e1 : (rows (l.take k)).length = k * Rec.z α := by rw [rows_len, List.length_take, Nat.min_eq_left (by omega)]
  have h2 := rows_split (l := l.set k y) (k := k) (x := y) (List.getElem?_set_self hk)
  rw [rows_split h, ← e1, putAll_mid _ _ _ _ (by rw [rec_len, rec_len]), h2, List.take_set_of_le (Nat.le_refl _), List.drop_set_of_lt (Nat.lt_succ_self _)]
theorem own_there {w : World} {base n c g : Nat} {e : TypeId} {l : List α} (h : w.ownsRow base e (Rec.z α) (.slice (some ⟨g, 0, none⟩) n c) n (rows l)) {k : Nat} {x : α} (hx : l[k]? = some x) : w.there g (k * Rec.z α) (Rec.z α) := fun j hj => by
  have hj2 : j < (Rec.vals x).toList.length := by rw [rec_len]; exact hj
  have := h.cells (g := g) rfl _ _ (rows_at hx (List.getElem?_eq_getElem hj2))
  rw [Addr.add_mid, Nat.zero_add] at this
  exact ⟨by rw [this]; rfl, h.frozenAt _⟩
variable {P : Program} {ops : Array Oper} {rest : List Oper} {o : Oper} {a : Act} {w : World} {Q : Exit → Act → World → Prop}
/-- A whole record into one of a row of the call's own; the world behind it has a new name. -/
theorem store_row_rec (T : TypeId) (x y : Operand) (ho : o.op = .store T x y) (hgd : Region.wanted o (yielded ops a.tmps) = true) (g k base n c : Nat) (e : TypeId) (l : List α) (m s : α) (hx : a.eval x = .pointer (some ⟨g, k * Rec.z α, none⟩)) (hy : a.eval y = .agg (Rec.vals s))
    (hO : w.ownsRow base e (Rec.z α) (.slice (some ⟨g, 0, none⟩) n c) n (rows l)) (hk : l[k]? = some m) (hi : (P.info? T).map (·.size) = some (Rec.z α))
    (h : ∀ w', w'.ownsRow base e (Rec.z α) (.slice (some ⟨g, 0, none⟩) n c) n (rows (l.set k s)) → w.grownBy w' (some g) → w'.heap.size = w.heap.size → wpList P ops Q rest (a.put o.dst undef) w') : wpList P ops Q (o :: rest) a w :=
  wpList_step fun K hK => by
    rw [if_pos hgd]
    obtain ⟨h1, h2, h3⟩ := own_storeds (Rec.vals s).toList (k * Rec.z α) _ w hO
    rw [rows_put hk] at h1
    exact wp_store_mid T x y ho g (k * Rec.z α) (Rec.vals s) hx hy (by rw [Rec.size]; exact own_there hO hk) (by rw [Rec.size]; exact hi) (Rec.one s) (hK _ _ (h _ h1 h2 h3))
end

/-- Words of a motion. -/
structure PMot.Fine (m : PMot) : Prop where
  yes : ∀ x ∈ m.yes, x < 256
  no : ∀ x ∈ m.no, x < 256
  yesLen : m.yes.length ≤ 140737488355328
  noLen : m.no.length ≤ 140737488355328
  amt : m.amt < 18446744073709551616
  par : m.p.Fits
theorem MotAt.fine {w : World} {m : Mot} (h : MotAt w m) : m.pure.Fine :=
  ⟨h.yes.all, h.no.all, by have := h.yes.sl.fit; show m.yes.bs.length ≤ _; omega, by have := h.no.sl.fit; show m.no.bs.length ≤ _; omega, h.amt, h.par⟩
/-- A list of motions in memory that is there, all that hangs on it too. -/
structure Mots (w : World) (A : Option Addr) (c : Nat) (l : List Mot) : Prop where
  le : l.length ≤ c
  most : c ≤ maxLen
  void : A = none → c = 0
  row : Row w w.heap.size A (rows l)
  each : ∀ m ∈ l, MotAt w m
theorem Mots.up {w w' : World} {A : Option Addr} {c : Nat} {l : List Mot} (h : Mots w A c l) (hb : Below w.heap.size w w') : Mots w' A c l :=
  ⟨h.le, h.most, h.void, row_kept h.row hb, fun m hm => (h.each m hm).up hb⟩
theorem Mots.nil (w : World) : Mots w none 0 [] := ⟨Nat.le_refl _, Nat.zero_le _, fun _ => rfl, Row.nil _ _ _, fun m h => by cases h⟩
/-- The k-th of them. -/
theorem Mots.at {w : World} {A : Option Addr} {c k : Nat} {l : List Mot} {m : Mot} (h : Mots w A c l) (hk : l[k]? = some m) : ∃ a, A = some a ∧ a.block < w.heap.size ∧ LiesAt w (a.add (k * 33)) (Rec.vals m) ∧ MotAt w m := by
  obtain ⟨a, hA, hb, hat⟩ := rows_row h.row hk
  exact ⟨a, hA, hb, hat, h.each m (List.mem_of_getElem? hk)⟩
/-- An answer: motions, and an error's number. -/
def MotsOf (w0 : World) (r : List PMot × Nat) (e : Ending) (w : World) : Prop :=
  ∃ l A c, e = .returned (.tuple #[.slice A l.length c, .int .i64 (r.2 : Int)]) ∧ l.map Mot.pure = r.1 ∧ Mots w A c l ∧ Below w0.heap.size w0 w
theorem MotsOf.none {w0 w : World} (y : Nat) (h : Below w0.heap.size w0 w) : MotsOf w0 ([], y) (.returned (.tuple #[.slice .none 0 0, .int .i64 (y : Int)])) w :=
  ⟨[], _, _, rfl, rfl, Mots.nil w, h⟩
/-- Motions alone. -/
def JustMots (w0 : World) (L : List PMot) (e : Ending) (w : World) : Prop :=
  ∃ l A c, e = .returned (.slice A l.length c) ∧ l.map Mot.pure = L ∧ Mots w A c l ∧ Below w0.heap.size w0 w

/-- A motion whose bytes are the call's own. -/
structure MotOwn (w : World) (L : Nat) (m : Mot) : Prop where
  yes : OwnBv w L m.yes
  no : OwnBv w L m.no
  fine : m.pure.Fine
theorem MotOwn.up {w w' : World} {L : Nat} {m : Mot} (h : MotOwn w L m) (hb : Below w.heap.size w w') : MotOwn w' L m := ⟨own_kept h.yes hb, own_kept h.no hb, h.fine⟩
theorem MotOwn.at {w : World} {L : Nat} {m : Mot} (h : MotOwn w L m) : MotAt w m :=
  ⟨⟨own_sl h.yes (by have := h.fine.yesLen; show m.yes.bs.length * 1 ≤ _; rw [Nat.mul_one]; exact this), h.fine.yes⟩, ⟨own_sl h.no (by have := h.fine.noLen; show m.no.bs.length * 1 ≤ _; rw [Nat.mul_one]; exact this), h.fine.no⟩, h.fine.amt, h.fine.par⟩
/-- Another one of the row is written: the bytes of this one stay. -/
theorem MotOwn.apart {w w' : World} {L lo g n c : Nat} {m : Mot} {xs : List Value} (h : MotOwn w L m) (hM : w.ownsRow lo 40 33 (.slice (some ⟨g, 0, none⟩) n c) n xs) (hg : w.grownBy w' (some g)) : MotOwn w' L m :=
  ⟨own_apart h.yes hg (fun q e e2 => own_types h.yes hM (by simp only [ne_eq]; decide) q e (by rw [← e2]; rfl)), own_apart h.no hg (fun q e e2 => own_types h.no hM (by simp only [ne_eq]; decide) q e (by rw [← e2]; rfl)), h.fine⟩
/-- One of a row of the call's own, its bytes the call's own too. -/
structure MAt (u : World) (L g n c : Nat) (cur : List Mot) (k : Nat) (m : Mot) : Prop where
  hit : cur[k]? = some m
  row : u.ownsRow L 40 33 (.slice (some ⟨g, 0, none⟩) n c) n (rows cur)
  own : MotOwn u L m
/-- What a change of it leaves. -/
def Put (u u' : World) (L g n c : Nat) (cur : List Mot) (k : Nat) (q : PMot) : Prop :=
  ∃ y : Mot, y.pure = q ∧ MotOwn u' L y ∧ u'.ownsRow L 40 33 (.slice (some ⟨g, 0, none⟩) n c) n (rows (cur.set k y)) ∧ u.grownBy u' (some g)
theorem MAt.same {u u' : World} {L g n c k : Nat} {cur : List Mot} {m : Mot} (h : MAt u L g n c cur k m) (hb : Below u.heap.size u u') : Put u u' L g n c cur k m.pure :=
  ⟨m, rfl, h.own.up hb, by
    rw [show cur.set k m = cur from by
      obtain ⟨hk, e⟩ := List.getElem?_eq_some_iff.1 h.hit
      rw [← e, List.set_getElem_self]]
    exact own_kept h.row hb, grown_any hb _⟩
theorem MAt.up {u u' : World} {L g n c k : Nat} {cur : List Mot} {m : Mot} (h : MAt u L g n c cur k m) (hb : Below u.heap.size u u') : MAt u' L g n c cur k m := ⟨h.hit, own_kept h.row hb, h.own.up hb⟩
/-- What may be done to one motion, by a function that took something with it. -/
def Turns (w : World) (f : FuncId) (caps : Array Value) (q q' : PMot) : Prop :=
  ∀ (L g n c k : Nat) (cur : List Mot) (m : Mot) (u : World), Below w.heap.size w u → w.heap.size ≤ L → MAt u L g n c cur k m → m.pure = q →
    Calls Try.prog f (#[.pointer (some ⟨g, k * 33, none⟩)] ++ caps) u fun e u' => e = .returned (.tuple #[]) ∧ Put u u' L g n c cur k q'
/-- What may be done to each, by its place. -/
def TurnsAll (w : World) (f : FuncId) (caps : Array Value) (Ls : List PMot) (F : Nat → PMot → PMot) : Prop :=
  ∀ (L g n c k : Nat) (cur : List Mot) (m : Mot) (u : World), Below w.heap.size w u → w.heap.size ≤ L → MAt u L g n c cur k m → Ls[k]? = some m.pure →
    Calls Try.prog f (#[.int .i64 (k : Int), .pointer (some ⟨g, k * 33, none⟩)] ++ caps) u fun e u' => e = .returned (.tuple #[]) ∧ Put u u' L g n c cur k (F k m.pure)
theorem Turns.up {w w' : World} {f : FuncId} {caps : Array Value} {q q' : PMot} (h : Turns w f caps q q') (hb : Below w.heap.size w w') : Turns w' f caps q q' :=
  fun L g n c k cur m u hu hL hM e => h L g n c k cur m u (Below.then hb hu) (Nat.le_trans hb.size hL) hM e
end Go.Proofs.Ytcaejanfhchacaa
