/- Layer 21 (supply): motions and all of a state: as values; where they lie; how a state comes in with a law's arguments. · Records: one field stored, whatever its type; results of a record and of a record with a number. -/
import Derived.Test.YtoaeckfppoaljaaBvM
import Derived.Test.YtoaeckfppoaljaaLawB
import Derived.Test.YtoaeckfppoaljaaLawM
import Derived.Test.YtoaeckfppoaljaaLawD
import Derived.SizedLaws
import Derived.Test.YtoaeckfppoaljaaRec
import Derived.Deep.MidRow
namespace Go.Proofs.Ytoaeckfppoaljaa
open Go.ChangeShapes Go.WideShapes Go.ChangeAt Go.RowKit Go.Deep
set_option linter.unusedVariables false
set_option linter.unusedSimpArgs false

/-- A motion: its numbers, and who was for and against it. -/
structure Mot where
  acct : Int
  what : Int
  p : Par
  dest : Int
  amt : Nat
  ends : Int
  due : Int
  st : Int
  yes : BV
  no : BV
/-- A motion as plain data. -/
structure PMot where
  acct : Int
  what : Int
  p : Par
  dest : Int
  amt : Nat
  ends : Int
  due : Int
  st : Int
  yes : List Nat
  no : List Nat
/-- All that is kept: numbers, and lists that lie somewhere. -/
structure Sta where
  p : Par
  most : Nat
  gen : Nat
  mint : Nat
  burn : Nat
  treas : Nat
  epoch : Int
  calm : Int
  em : Bool
  purses : SlR Nat
  mems : SlR Mem
  entry : SlR Int
  exit : SlR Int
  pool : SlR Dep
  dues : SlR Due
  mots : SlR Mot
  marks : BV
  ring : SlR BV
/-- All that is kept, as plain data. -/
structure PSta where
  p : Par
  most : Nat
  gen : Nat
  mint : Nat
  burn : Nat
  treas : Nat
  epoch : Int
  calm : Int
  em : Bool
  purses : List Nat
  mems : List Mem
  entry : List Int
  exit : List Int
  pool : List Dep
  dues : List Due
  mots : List PMot
  marks : List Nat
  ring : List (List Nat)
def Mot.pure (m : Mot) : PMot := ⟨m.acct, m.what, m.p, m.dest, m.amt, m.ends, m.due, m.st, m.yes.bs, m.no.bs⟩
def Sta.pure (s : Sta) : PSta := ⟨s.p, s.most, s.gen, s.mint, s.burn, s.treas, s.epoch, s.calm, s.em, s.purses.l, s.mems.l, s.entry.l, s.exit.l, s.pool.l, s.dues.l, s.mots.l.map Mot.pure, s.marks.bs, s.ring.l.map BV.bs⟩

def Mot.vals (m : Mot) : Array Value := #[.int .i64 m.acct, .int .i64 m.what, .int .u64 (m.p.inc : Int), .int .u64 (m.p.maxEff : Int), .int .u64 (m.p.floor : Int), .int .u64 (m.p.cap : Int), .int .u64 (m.p.up : Int), .int .u64 (m.p.down : Int), .int .u64 (m.p.bias : Int), .int .u64 (m.p.quot : Int), .int .u64 (m.p.biasEm : Int), .int .u64 (m.p.quotEm : Int), .int .u64 (m.p.recover : Int), .int .u64 (m.p.scoreCap : Int), .int .u64 (m.p.rate : Int), .int .u64 (m.p.bond : Int), .int .i64 m.p.delay, .int .i64 m.p.streak, .int .i64 m.p.boost, .int .i64 m.p.absent, .int .i64 m.p.burn, .int .i64 m.p.churn, .int .i64 m.p.wait, .int .i64 m.p.poll, .int .i64 m.p.enact, .int .i64 m.p.quorum, .int .i64 m.dest, .int .u64 (m.amt : Int), .int .i64 m.ends, .int .i64 m.due, .int .i64 m.st, .slice m.yes.row m.yes.bs.length m.yes.cap, .slice m.no.row m.no.bs.length m.no.cap]
instance : Rec Mot := ⟨Mot.vals, 33, fun _ => rfl, by decide, fun d => by simp [Mot.vals, Value.oneCell']⟩
def Mot.zero : Mot := ⟨0, 0, Par.none, 0, 0, 0, 0, 0, ⟨none, [], 0⟩, ⟨none, [], 0⟩⟩
def Sta.vals (s : Sta) : Array Value := #[.int .u64 (s.p.inc : Int), .int .u64 (s.p.maxEff : Int), .int .u64 (s.p.floor : Int), .int .u64 (s.p.cap : Int), .int .u64 (s.p.up : Int), .int .u64 (s.p.down : Int), .int .u64 (s.p.bias : Int), .int .u64 (s.p.quot : Int), .int .u64 (s.p.biasEm : Int), .int .u64 (s.p.quotEm : Int), .int .u64 (s.p.recover : Int), .int .u64 (s.p.scoreCap : Int), .int .u64 (s.p.rate : Int), .int .u64 (s.p.bond : Int), .int .i64 s.p.delay, .int .i64 s.p.streak, .int .i64 s.p.boost, .int .i64 s.p.absent, .int .i64 s.p.burn, .int .i64 s.p.churn, .int .i64 s.p.wait, .int .i64 s.p.poll, .int .i64 s.p.enact, .int .i64 s.p.quorum, .int .u64 (s.most : Int), .int .u64 (s.gen : Int), .int .u64 (s.mint : Int), .int .u64 (s.burn : Int), .int .u64 (s.treas : Int), .int .i64 s.epoch, .int .i64 s.calm, .bool s.em, .slice s.purses.A s.purses.l.length s.purses.c, .slice s.mems.A s.mems.l.length s.mems.c, .slice s.entry.A s.entry.l.length s.entry.c, .slice s.exit.A s.exit.l.length s.exit.c, .slice s.pool.A s.pool.l.length s.pool.c, .slice s.dues.A s.dues.l.length s.dues.c, .slice s.mots.A s.mots.l.length s.mots.c, .slice s.marks.row s.marks.bs.length s.marks.cap, .slice s.ring.A s.ring.l.length s.ring.c]
instance : Rec Sta := ⟨Sta.vals, 41, fun _ => rfl, by decide, fun d => by simp [Sta.vals, Value.oneCell']⟩
def Sta.zero : Sta := ⟨Par.none, 0, 0, 0, 0, 0, 0, 0, false, ⟨[], none, 0⟩, ⟨[], none, 0⟩, ⟨[], none, 0⟩, ⟨[], none, 0⟩, ⟨[], none, 0⟩, ⟨[], none, 0⟩, ⟨[], none, 0⟩, ⟨none, [], 0⟩, ⟨[], none, 0⟩⟩

/-- A slice of so many elements (of z bytes each) and so much room: its values, in memory that is there. -/
structure SlAt (z : Nat) (w : World) (A : Option Addr) (n c : Nat) (xs : List Value) : Prop where
  fit : n * z ≤ 140737488355328
  le : n ≤ c
  most : c ≤ maxLen
  none : A = none → c = 0
  row : Row w w.heap.size A xs
theorem SlAt.up {z : Nat} {w w' : World} {A : Option Addr} {n c : Nat} {xs : List Value} (h : SlAt z w A n c xs) (hb : Below w.heap.size w w') : SlAt z w' A n c xs := ⟨h.fit, h.le, h.most, h.none, row_kept h.row hb⟩
theorem SlAt.nil (z : Nat) (w : World) : SlAt z w .none 0 0 [] := ⟨by omega, Nat.le_refl _, Nat.zero_le _, fun _ => rfl, Row.nil _ _ _⟩
/-- Bytes in memory that is there. -/
structure BvAt (w : World) (b : BV) : Prop where
  sl : SlAt 1 w b.row b.bs.length b.cap (u8s b.bs)
  all : ∀ x ∈ b.bs, x < 256
theorem BvAt.up {w w' : World} {b : BV} (h : BvAt w b) (hb : Below w.heap.size w w') : BvAt w' b := ⟨h.sl.up hb, h.all⟩
theorem BvAt.nil (w : World) : BvAt w ⟨.none, [], 0⟩ := ⟨SlAt.nil 1 w, by simp⟩
/-- A motion's fields are in memory that is there, its words are words. -/
structure MotAt (w : World) (m : Mot) : Prop where
  yes : BvAt w m.yes
  no : BvAt w m.no
  amt : m.amt < 18446744073709551616
  par : m.p.Fits
theorem MotAt.up {w w' : World} {m : Mot} (h : MotAt w m) (hb : Below w.heap.size w w') : MotAt w' m := ⟨h.yes.up hb, h.no.up hb, h.amt, h.par⟩
/-- All of a state is in memory that is there, its words are words. -/
structure StaAt (w : World) (s : Sta) : Prop where
  par : s.p.Fits
  most : s.most < 18446744073709551616
  gen : s.gen < 18446744073709551616
  mint : s.mint < 18446744073709551616
  burn : s.burn < 18446744073709551616
  treas : s.treas < 18446744073709551616
  epoch : -9223372036854775808 ≤ s.epoch ∧ s.epoch ≤ 9223372036854775807
  calm : -9223372036854775808 ≤ s.calm ∧ s.calm ≤ 9223372036854775807
  purses : SlAt 8 w s.purses.A s.purses.l.length s.purses.c (u64s s.purses.l)
  purse : ∀ x ∈ s.purses.l, x ≤ 18446744073709551615
  mems : SlAt 48 w s.mems.A s.mems.l.length s.mems.c (rows s.mems.l)
  mem : ∀ m ∈ s.mems.l, m.s.Fits
  entry : SlAt 8 w s.entry.A s.entry.l.length s.entry.c (zvals s.entry.l)
  exit : SlAt 8 w s.exit.A s.exit.l.length s.exit.c (zvals s.exit.l)
  pool : SlAt 32 w s.pool.A s.pool.l.length s.pool.c (rows s.pool.l)
  dep : ∀ d ∈ s.pool.l, d.amt ≤ 18446744073709551615
  dues : SlAt 24 w s.dues.A s.dues.l.length s.dues.c (rows s.dues.l)
  due : ∀ d ∈ s.dues.l, d.amt ≤ 18446744073709551615
  mots : SlAt 296 w s.mots.A s.mots.l.length s.mots.c (rows s.mots.l)
  mot : ∀ m ∈ s.mots.l, MotAt w m
  marks : BvAt w s.marks
  ring : SlAt 24 w s.ring.A s.ring.l.length s.ring.c (bvs s.ring.l)
  rings : ∀ b ∈ s.ring.l, BvAt w b
theorem StaAt.up {w w' : World} {s : Sta} (h : StaAt w s) (hb : Below w.heap.size w w') : StaAt w' s :=
  ⟨h.par, h.most, h.gen, h.mint, h.burn, h.treas, h.epoch, h.calm, h.purses.up hb, h.purse, h.mems.up hb, h.mem, h.entry.up hb, h.exit.up hb, h.pool.up hb, h.dep, h.dues.up hb, h.due, h.mots.up hb, fun m hm => (h.mot m hm).up hb, h.marks.up hb, h.ring.up hb, fun b hm => (h.rings b hm).up hb⟩

theorem mot_fields : ∃ fs : Array Field, Try.prog.underlying 90 = some (.struct fs) ∧ fs.map (fun f => (f.type, f.offset, Try.prog.cellsOf f.type)) = #[(3, 0, 1), (3, 1, 1), (24, 2, 24), (3, 26, 1), (22, 27, 1), (3, 28, 1), (3, 29, 1), (3, 30, 1), (31, 31, 1), (31, 32, 1)] := ⟨_, Try.underlying90, by kernel_rfl⟩
theorem mot_cells : Try.prog.cellsOf 90 = 33 := by kernel_rfl
set_option maxRecDepth 100000 in
theorem sta_fields : ∃ fs : Array Field, Try.prog.underlying 34 = some (.struct fs) ∧ fs.map (fun f => (f.type, f.offset, Try.prog.cellsOf f.type)) = #[(24, 0, 24), (22, 24, 1), (22, 25, 1), (22, 26, 1), (22, 27, 1), (22, 28, 1), (3, 29, 1), (3, 30, 1), (4, 31, 1), (25, 32, 1), (26, 33, 1), (27, 34, 1), (27, 35, 1), (28, 36, 1), (29, 37, 1), (30, 38, 1), (31, 39, 1), (32, 40, 1)] := ⟨_, Try.underlying34, by kernel_rfl⟩
theorem sta_cells : Try.prog.cellsOf 34 = 41 := by kernel_rfl
theorem info_mot : (Try.prog.info? 90).map (fun i => (i.zero, i.size, i.bytes)) = some (some (.agg (Rec.vals (Mot.zero : Mot))), Rec.z Mot, 296) := by kernel_rfl
theorem size_mot : (Try.prog.info? 90).map (·.size) = some (Rec.z Mot) := by kernel_rfl
theorem size_sta : (Try.prog.info? 34).map (·.size) = some (Rec.z Sta) := by kernel_rfl

section
variable {H : Type} {enc : TypeId × Value → H} {P : Program} {w : World} {base : Nat} {held : Bool}
/-- What is read is no more than memory holds, piece by piece. -/
def Light (P : Program) (t : TypeId) (x : DataW H × List MemPlace) : Prop := ∀ k ∈ x.1.weights P t, k ≤ reachBytes
theorem each_light : ∀ (ts : List TypeId) (xs : List (DataW H × List MemPlace)), (∀ k ∈ DataW.weightsEach P ts (xs.map (·.1)), k ≤ reachBytes) → ∀ (j : Nat) (t : TypeId) (y : DataW H × List MemPlace), ts[j]? = some t → xs[j]? = some y → Light P t y
  | ts, xs, h, j, t, y, ht, hy => fun k hk => h k (DataW.weights_mem_each ht (by rw [List.getElem?_map, hy]; rfl) k hk)
theorem all_light : ∀ (e : TypeId) (ds : List (DataW H)), (∀ k ∈ DataW.weightsAll P e ds, k ≤ reachBytes) → ∀ d ∈ ds, ∀ k ∈ d.weights P e, k ≤ reachBytes
  | e, [], _, d, hd, _, _ => by cases hd
  | e, d0 :: ds, h, d, hd, k, hk => by
    unfold DataW.weightsAll at h
    rcases List.mem_cons.1 hd with rfl | hd
    · exact h k (List.mem_append_left _ hk)
    · exact all_light e ds (fun k hk => h k (List.mem_append_right _ hk)) d hd k hk
theorem slice_light {t e : TypeId} {fuel : Nat} {A : Option Addr} {n c : Nat} {x : DataW H × List MemPlace} (ht : P.underlying t = some (.slice e)) (h : DataW.trod enc P w base (fun _ => true) held fuel t [.slice A n c] = some x) (hw : Light P t x) : n * P.bytesOf e ≤ reachBytes := by
  rcases open_slice ht h with ⟨hcs, _⟩ | ⟨a, len, cap, m, n', D, Pl, hcs, hb, hl, hm, hmm, hx, hi⟩
  · simp only [List.cons.injEq, and_true, Value.slice.injEq] at hcs
    obtain ⟨_, rfl, _⟩ := hcs
    rw [Nat.zero_mul]; exact Nat.zero_le _
  · simp only [List.cons.injEq, and_true, Value.slice.injEq] at hcs
    obtain ⟨rfl, rfl, rfl⟩ := hcs
    subst hx
    have h1 := hw ((n + (m - n)) * P.bytesOf e) (by simp [DataW.weights, ht])
    exact Nat.le_trans (Nat.mul_le_mul_right _ (by omega)) h1
/-- The fields of a struct, each by its own cells. -/
theorem fields_light {T : TypeId} {fs : Array Field} {L : Array (TypeId × Nat × Nat)} {fuel : Nat} {cs : List Value} {x : DataW H × List MemPlace} (hfs : P.underlying T = some (.struct fs)) (hty : fs.map (fun f => (f.type, f.offset, P.cellsOf f.type)) = L)
    (hf : DataW.trod enc P w base (fun _ => true) held fuel T cs = some x) (hw : Light P T x) : ∃ n2, ∀ (j : Nat) (ty : TypeId) (off k : Nat), L[j]? = some (ty, off, k) → ∃ y, DataW.trod enc P w base (fun _ => true) held n2 ty ((cs.drop off).take k) = some y ∧ Light P ty y := by
  obtain ⟨ys, n2, hn2, hy, hlen, hyl, hfd⟩ := DataW.trod_struct hfs hf
  refine ⟨n2, fun j ty off k hjt => ?_⟩
  rw [← hty, Array.getElem?_map] at hjt
  obtain ⟨f, hjf, he⟩ := Option.map_eq_some_iff.1 hjt
  simp only [Prod.mk.injEq] at he
  obtain ⟨rfl, rfl, rfl⟩ := he
  have hjl : j < ys.length := by rw [hyl]; exact (Array.getElem?_eq_some_iff.1 hjf).1
  have h1 := hfd j f hjf
  rw [List.getElem?_eq_getElem hjl] at h1
  refine ⟨_, h1, each_light (fs.toList.map (·.type)) ys ?_ j _ _ ?_ (List.getElem?_eq_getElem hjl)⟩
  · intro k hk
    apply hw
    rw [hy]
    simp only [DataW.weights, hfs]
    exact hk
  · rw [List.getElem?_map, Array.getElem?_toList, hjf]
    rfl
/-- A list of records that comes in, whatever a record is made of. -/
theorem recs_light {α : Type} [Rec α] (Fits : α → Prop) {T e : TypeId} {A : Option Addr} {n c : Nat} {fuel : Nat} {x : DataW H × List MemPlace} (ht : P.underlying T = some (.slice e)) (hcz : P.cellsOf e = Rec.z α)
    (hread : ∀ (n2 : Nat) (cs : List Value) (x : DataW H × List MemPlace), cs.length = Rec.z α → DataW.trod enc P w base (fun _ => true) held n2 e cs = some x → Light P e x → ∃ x : α, Fits x ∧ (Rec.vals x).toList = cs)
    (hf : DataW.trod enc P w base (fun _ => true) held fuel T [.slice A n c] = some x) (hw : Light P T x) : ∃ l : List α, n = l.length ∧ (∀ s ∈ l, Fits s) ∧ l.length ≤ c ∧ c ≤ maxLen ∧ (A = none → c = 0) ∧ Row w w.heap.size A (rows l) := by
  have hz : 0 < Rec.z α := Rec.pos
  rcases open_slice ht hf with ⟨hcs, _⟩ | ⟨a, len, cap, m, n', D, Pl, hcs, hb, hl, hm, hmm, hx, hi⟩
  · simp only [List.cons.injEq, and_true, Value.slice.injEq] at hcs
    obtain ⟨rfl, rfl, rfl⟩ := hcs
    exact ⟨[], rfl, by simp, Nat.le_refl _, Nat.zero_le _, fun _ => rfl, Row.nil _ _ _⟩
  · simp only [List.cons.injEq, and_true, Value.slice.injEq] at hcs
    obtain ⟨rfl, rfl, rfl⟩ := hcs
    simp only [if_true] at hmm
    rw [hcz] at hi
    have hlt : ∀ i, i < n → Light P e (D i, Pl i) := fun i hin k hk => by
      refine all_light e ((List.range n).map D) (fun k hk => hw k ?_) (D i) (List.mem_map.2 ⟨i, List.mem_range.2 hin, rfl⟩) k hk
      rw [hx]
      simp only [DataW.weights, ht, List.mem_cons, List.mem_append]
      exact .inr (.inl hk)
    have hone4 : ∀ i, i < n → ∃ s : α, Fits s ∧ a.block < w.heap.size ∧ LiesAt w (a.add (i * Rec.z α)) (Rec.vals s) := by
      intro i hin
      obtain ⟨cs, hc, ht⟩ := hi i (by omega)
      obtain ⟨_, hcl, hat⟩ := World.cells?_some hc
      have hcl' : cs.length = Rec.z α := by omega
      obtain ⟨x, hF, hv⟩ := hread _ cs _ hcl' ht (hlt i hin)
      have hLi : LiesAt w (a.add (i * Rec.z α)) (Rec.vals x) := fun j v hv2 => by
        have hj : j < Rec.z α := by
          have := (List.getElem?_eq_some_iff.1 hv2).1
          rwa [rec_len] at this
        have h2 := hat j (by omega)
        rw [hv] at hv2
        exact h2.trans hv2
      have h0 : 0 < (Rec.vals x).toList.length := by rw [rec_len]; exact hz
      have hbl := World.block_lt_of_cell? w _ (hLi 0 _ (List.getElem?_eq_getElem h0))
      rw [addr_block, addr_block] at hbl
      exact ⟨x, hF, hbl, hLi⟩
    have hch := fun i : Fin n => hone4 i.1 i.2
    refine ⟨List.ofFn fun i : Fin n => (hch i).choose, by simp, ?_, by simpa using hl, hm, fun e => by simp at e, fun k o ho => ?_⟩
    · intro x hx
      obtain ⟨i, rfl⟩ := (List.mem_ofFn).1 hx
      exact (hch i).choose_spec.1
    · obtain ⟨x, hx, hv⟩ := rows_of ho
      rw [List.getElem?_ofFn] at hx
      split at hx
      · rename_i hk
        cases hx
        have hs := (hch ⟨k / Rec.z α, hk⟩).choose_spec
        have hc := hs.2.2 _ _ hv
        rw [Addr.add_add, show k / Rec.z α * Rec.z α + k % Rec.z α = k by rw [Nat.mul_comm]; exact Nat.div_add_mod k _] at hc
        exact ⟨a, rfl, hs.2.1, hc⟩
      · cases hx
theorem bool_open {fuel : Nat} {v : Value} {y : DataW H × List MemPlace} (h : DataW.trod enc Try.prog w base (fun _ => true) held fuel 4 [v] = some y) : ∃ b : Bool, v = .bool b := by
  obtain ⟨z, q, _⟩ := DataW.trod_bool Try.underlying4 h
  simp only [List.cons.injEq, and_true] at q
  exact ⟨z, q⟩
theorem bytes_open {fuel : Nat} {v : Value} {y : DataW H × List MemPlace} (h : DataW.trod enc Try.prog w base (fun _ => true) held fuel 31 [v] = some y) (hw : Light Try.prog 31 y) : ∃ b : BV, v = .slice b.row b.bs.length b.cap ∧ BvAt w b := by
  obtain ⟨Ab, ns, cb, hv, h1, h2, h3, h4, h5⟩ := open_u8cell Try.underlying31 Try.underlying5 (by kernel_rfl) h
  subst hv
  have hr := slice_light Try.underlying31 h hw
  rw [show Try.prog.bytesOf 5 = 1 by kernel_rfl] at hr
  unfold reachBytes at hr
  exact ⟨⟨Ab, ns, cb⟩, rfl, ⟨by show ns.length * 1 ≤ _; omega, h2, h3, h5, h4⟩, h1⟩
set_option maxRecDepth 100000 in
theorem par_cells_open {fuel : Nat} {cs : List Value} {x : DataW H × List MemPlace} (hl : cs.length = 24) (hf : DataW.trod enc Try.prog w base (fun _ => true) held fuel 24 cs = some x) : ∃ p : Par, cs = p.vals.toList ∧ p.Fits := by
  obtain ⟨fs, hfs, hone, hty⟩ := par_fields
  obtain ⟨ys, n2, hn2, hy, hlen, hyl, hfd⟩ := DataW.trod_struct hfs hf
  have hfl : fs.size = 24 := by have := congrArg Array.size hty; simpa using this
  have hfield : ∀ (j : Nat) (hj : j < 24) (ty : TypeId), (fs.map (·.type))[j]? = some ty → ∃ y, DataW.trod enc Try.prog w base (fun _ => true) held n2 ty [cs[j]] = some y := by
    intro j hj ty hjt
    rw [Array.getElem?_map] at hjt
    obtain ⟨f, hjf, rfl⟩ := Option.map_eq_some_iff.1 hjt
    obtain ⟨ho, hk⟩ := hone_of hone j f hjf
    have h1 := hfd j f hjf
    have hjc : j < cs.length := by omega
    rw [ho, hk, List.drop_eq_getElem_cons hjc, List.getElem?_eq_getElem (by omega)] at h1
    exact ⟨_, h1⟩
  have hw : ∀ (j : Nat) (hj : j < 24), (fs.map (·.type))[j]? = some 22 → ∃ n : Nat, cs[j] = .int .u64 (n : Int) ∧ n < 18446744073709551616 := fun j hj hjt => by
    obtain ⟨y, hy⟩ := hfield j hj _ hjt
    exact word_open hy
  have hi : ∀ (j : Nat) (hj : j < 24), (fs.map (·.type))[j]? = some 3 → ∃ n : Int, cs[j] = .int .i64 n ∧ -9223372036854775808 ≤ n ∧ n ≤ 9223372036854775807 := fun j hj hjt => by
    obtain ⟨y, hy⟩ := hfield j hj _ hjt
    exact int_open hy
  rw [hty] at hw hi
  obtain ⟨n0, e0, l0⟩ := hw 0 (by omega) rfl
  obtain ⟨n1, e1, l1⟩ := hw 1 (by omega) rfl
  obtain ⟨n2, e2, l2⟩ := hw 2 (by omega) rfl
  obtain ⟨n3, e3, l3⟩ := hw 3 (by omega) rfl
  obtain ⟨n4, e4, l4⟩ := hw 4 (by omega) rfl
  obtain ⟨n5, e5, l5⟩ := hw 5 (by omega) rfl
  obtain ⟨n6, e6, l6⟩ := hw 6 (by omega) rfl
  obtain ⟨n7, e7, l7⟩ := hw 7 (by omega) rfl
  obtain ⟨n8, e8, l8⟩ := hw 8 (by omega) rfl
  obtain ⟨n9, e9, l9⟩ := hw 9 (by omega) rfl
  obtain ⟨n10, e10, l10⟩ := hw 10 (by omega) rfl
  obtain ⟨n11, e11, l11⟩ := hw 11 (by omega) rfl
  obtain ⟨n12, e12, l12⟩ := hw 12 (by omega) rfl
  obtain ⟨n13, e13, l13⟩ := hw 13 (by omega) rfl
  obtain ⟨n14, e14, l14⟩ := hi 14 (by omega) rfl
  obtain ⟨n15, e15, l15⟩ := hi 15 (by omega) rfl
  obtain ⟨n16, e16, l16⟩ := hi 16 (by omega) rfl
  obtain ⟨n17, e17, l17⟩ := hi 17 (by omega) rfl
  obtain ⟨n18, e18, l18⟩ := hi 18 (by omega) rfl
  obtain ⟨n19, e19, l19⟩ := hi 19 (by omega) rfl
  obtain ⟨n20, e20, l20⟩ := hi 20 (by omega) rfl
  obtain ⟨n21, e21, l21⟩ := hi 21 (by omega) rfl
  obtain ⟨n22, e22, l22⟩ := hi 22 (by omega) rfl
  obtain ⟨n23, e23, l23⟩ := hi 23 (by omega) rfl
  refine ⟨⟨n0, n1, n2, n3, n4, n5, n6, n7, n8, n9, n10, n11, n12, n13, n14, n15, n16, n17, n18, n19, n20, n21, n22, n23⟩, ?_, ⟨?_, ?_⟩⟩
  · have h24 := array24 (cs := cs.toArray) (by simpa using hl)
    simp only [List.getElem_toArray, e0, e1, e2, e3, e4, e5, e6, e7, e8, e9, e10, e11, e12, e13, e14, e15, e16, e17, e18, e19, e20, e21, e22, e23] at h24
    calc cs = cs.toArray.toList := by simp
      _ = _ := by rw [h24]; rfl
  · intro x hx
    simp only [Par.us, List.mem_cons, List.mem_nil_iff, or_false] at hx
    rcases hx with rfl | rfl | rfl | rfl | rfl | rfl | rfl | rfl | rfl | rfl | rfl | rfl | rfl | rfl <;> assumption
  · intro x hx
    simp only [Par.is, List.mem_cons, List.mem_nil_iff, or_false] at hx
    rcases hx with rfl | rfl | rfl | rfl | rfl | rfl | rfl | rfl | rfl | rfl <;> assumption
theorem cons_of {cs : List Value} {n : Nat} (h : cs.length = n + 1) : ∃ c r, cs = c :: r ∧ r.length = n := by
  cases cs with
  | nil => cases h
  | cons c r => exact ⟨c, r, rfl, by simpa using h⟩
theorem list_of {cs : List Value} {n : Nat} (h : cs.length = n) (k : Nat) (hk : k < n) : (cs.drop k).take 1 = [cs[k]] := by
  rw [List.drop_eq_getElem_cons (by omega)]
  rfl
set_option maxRecDepth 100000 in
theorem mot_cells_open {fuel : Nat} {cs : List Value} {x : DataW H × List MemPlace} (hl : cs.length = 33) (hf : DataW.trod enc Try.prog w base (fun _ => true) held fuel 90 cs = some x) (hw : Light Try.prog 90 x) : ∃ m : Mot, MotAt w m ∧ (Rec.vals m).toList = cs := by
  obtain ⟨fs, hfs, hty⟩ := mot_fields
  obtain ⟨n2, h⟩ := fields_light hfs hty hf hw

  obtain ⟨c0, r0, rfl, k0⟩ := cons_of hl
  obtain ⟨c1, r1, rfl, k1⟩ := cons_of k0
  obtain ⟨c2, r2, rfl, k2⟩ := cons_of k1
  obtain ⟨c3, r3, rfl, k3⟩ := cons_of k2
  obtain ⟨c4, r4, rfl, k4⟩ := cons_of k3
  obtain ⟨c5, r5, rfl, k5⟩ := cons_of k4
  obtain ⟨c6, r6, rfl, k6⟩ := cons_of k5
  obtain ⟨c7, r7, rfl, k7⟩ := cons_of k6
  obtain ⟨c8, r8, rfl, k8⟩ := cons_of k7
  obtain ⟨c9, r9, rfl, k9⟩ := cons_of k8
  obtain ⟨c10, r10, rfl, k10⟩ := cons_of k9
  obtain ⟨c11, r11, rfl, k11⟩ := cons_of k10
  obtain ⟨c12, r12, rfl, k12⟩ := cons_of k11
  obtain ⟨c13, r13, rfl, k13⟩ := cons_of k12
  obtain ⟨c14, r14, rfl, k14⟩ := cons_of k13
  obtain ⟨c15, r15, rfl, k15⟩ := cons_of k14
  obtain ⟨c16, r16, rfl, k16⟩ := cons_of k15
  obtain ⟨c17, r17, rfl, k17⟩ := cons_of k16
  obtain ⟨c18, r18, rfl, k18⟩ := cons_of k17
  obtain ⟨c19, r19, rfl, k19⟩ := cons_of k18
  obtain ⟨c20, r20, rfl, k20⟩ := cons_of k19
  obtain ⟨c21, r21, rfl, k21⟩ := cons_of k20
  obtain ⟨c22, r22, rfl, k22⟩ := cons_of k21
  obtain ⟨c23, r23, rfl, k23⟩ := cons_of k22
  obtain ⟨c24, r24, rfl, k24⟩ := cons_of k23
  obtain ⟨c25, r25, rfl, k25⟩ := cons_of k24
  obtain ⟨c26, r26, rfl, k26⟩ := cons_of k25
  obtain ⟨c27, r27, rfl, k27⟩ := cons_of k26
  obtain ⟨c28, r28, rfl, k28⟩ := cons_of k27
  obtain ⟨c29, r29, rfl, k29⟩ := cons_of k28
  obtain ⟨c30, r30, rfl, k30⟩ := cons_of k29
  obtain ⟨c31, r31, rfl, k31⟩ := cons_of k30
  obtain ⟨c32, r32, rfl, k32⟩ := cons_of k31
  obtain rfl := List.eq_nil_of_length_eq_zero k32
  clear hl k0 k1 k2 k3 k4 k5 k6 k7 k8 k9 k10 k11 k12 k13 k14 k15 k16 k17 k18 k19 k20 k21 k22 k23 k24 k25 k26 k27 k28 k29 k30 k31 k32
  obtain ⟨y0, h0, w0⟩ := h 0 _ _ _ rfl
  obtain ⟨y1, h1, w1⟩ := h 1 _ _ _ rfl
  obtain ⟨y2, h2, w2⟩ := h 2 _ _ _ rfl
  obtain ⟨y3, h3, w3⟩ := h 3 _ _ _ rfl
  obtain ⟨y4, h4, w4⟩ := h 4 _ _ _ rfl
  obtain ⟨y5, h5, w5⟩ := h 5 _ _ _ rfl
  obtain ⟨y6, h6, w6⟩ := h 6 _ _ _ rfl
  obtain ⟨y7, h7, w7⟩ := h 7 _ _ _ rfl
  obtain ⟨y8, h8, w8⟩ := h 8 _ _ _ rfl
  obtain ⟨y9, h9, w9⟩ := h 9 _ _ _ rfl
  obtain ⟨a0, rfl, b0, d0⟩ := int_open h0
  obtain ⟨a1, rfl, b1, d1⟩ := int_open h1
  obtain ⟨a2, e2, b2⟩ := par_cells_open rfl h2
  have e2' : [c2, c3, c4, c5, c6, c7, c8, c9, c10, c11, c12, c13, c14, c15, c16, c17, c18, c19, c20, c21, c22, c23, c24, c25] = a2.vals.toList := e2
  unfold Par.vals at e2'
  simp only [List.cons.injEq, and_true] at e2'
  obtain ⟨rfl, rfl, rfl, rfl, rfl, rfl, rfl, rfl, rfl, rfl, rfl, rfl, rfl, rfl, rfl, rfl, rfl, rfl, rfl, rfl, rfl, rfl, rfl, rfl⟩ := e2'
  obtain ⟨a3, rfl, b3, d3⟩ := int_open h3
  obtain ⟨a4, rfl, b4⟩ := word_open h4
  obtain ⟨a5, rfl, b5, d5⟩ := int_open h5
  obtain ⟨a6, rfl, b6, d6⟩ := int_open h6
  obtain ⟨a7, rfl, b7, d7⟩ := int_open h7
  obtain ⟨a8, rfl, b8⟩ := bytes_open h8 w8
  obtain ⟨a9, rfl, b9⟩ := bytes_open h9 w9
  exact ⟨⟨a0, a1, a2, a3, a4, a5, a6, a7, a8, a9⟩, ⟨b8, b9, b4, b2⟩, rfl⟩
theorem slice_cell {T e : TypeId} {fuel : Nat} {v : Value} {y : DataW H × List MemPlace} (ht : Try.prog.underlying T = some (.slice e)) (h : DataW.trod enc Try.prog w base (fun _ => true) held fuel T [v] = some y) : ∃ A n c, v = .slice A n c := by
  rcases open_slice ht h with ⟨hcs, _⟩ | ⟨a, len, cap, m, n', D, Pl, hcs, _⟩
  · simp only [List.cons.injEq, and_true] at hcs
    exact ⟨_, _, _, hcs⟩
  · simp only [List.cons.injEq, and_true] at hcs
    exact ⟨_, _, _, hcs⟩
theorem purses_open {fuel : Nat} {v : Value} {y : DataW H × List MemPlace} (h : DataW.trod enc Try.prog w base (fun _ => true) held fuel 25 [v] = some y) (hw : Light Try.prog 25 y) :
    ∃ s : SlR Nat, v = .slice s.A s.l.length s.c ∧ SlAt 8 w s.A s.l.length s.c (u64s s.l) ∧ ∀ x ∈ s.l, x ≤ 18446744073709551615 := by
  obtain ⟨A, n, c, rfl⟩ := slice_cell Try.underlying25 h
  have hr := slice_light Try.underlying25 h hw
  rw [show Try.prog.bytesOf 22 = 8 by kernel_rfl] at hr
  unfold reachBytes at hr
  obtain ⟨l, rfl, h1, h2, h3, h4, h5⟩ := open_words Try.underlying25 Try.underlying22 (by kernel_rfl) (show DataW.Trod enc Try.prog w base (fun _ => true) held _ (.slice A n c) y.1 y.2 from ⟨_, h⟩)
  exact ⟨⟨l, A, c⟩, rfl, ⟨by show l.length * _ ≤ _; omega, h2, h3, h4, h5⟩, h1⟩
theorem mems_open {fuel : Nat} {v : Value} {y : DataW H × List MemPlace} (h : DataW.trod enc Try.prog w base (fun _ => true) held fuel 26 [v] = some y) (hw : Light Try.prog 26 y) :
    ∃ s : SlR Mem, v = .slice s.A s.l.length s.c ∧ SlAt 48 w s.A s.l.length s.c (rows s.l) ∧ ∀ m ∈ s.l, m.s.Fits := by
  obtain ⟨A, n, c, rfl⟩ := slice_cell Try.underlying26 h
  have hr := slice_light Try.underlying26 h hw
  rw [show Try.prog.bytesOf 60 = 48 by kernel_rfl] at hr
  unfold reachBytes at hr
  obtain ⟨l, rfl, h1, h2, h3, h4, h5⟩ := open_mems (show DataW.Trod enc Try.prog w base (fun _ => true) held _ (.slice A n c) y.1 y.2 from ⟨_, h⟩)
  exact ⟨⟨l, A, c⟩, rfl, ⟨by show l.length * _ ≤ _; omega, h2, h3, h4, h5⟩, h1⟩
theorem ints_open {fuel : Nat} {v : Value} {y : DataW H × List MemPlace} (h : DataW.trod enc Try.prog w base (fun _ => true) held fuel 27 [v] = some y) (hw : Light Try.prog 27 y) :
    ∃ s : SlR Int, v = .slice s.A s.l.length s.c ∧ SlAt 8 w s.A s.l.length s.c (zvals s.l) ∧ ∀ x ∈ s.l, -9223372036854775808 ≤ x ∧ x ≤ 9223372036854775807 := by
  obtain ⟨A, n, c, rfl⟩ := slice_cell Try.underlying27 h
  have hr := slice_light Try.underlying27 h hw
  rw [show Try.prog.bytesOf 3 = 8 by kernel_rfl] at hr
  unfold reachBytes at hr
  obtain ⟨l, rfl, h1, h2, h3, h4, h5⟩ := open_i64s Try.underlying27 Try.underlying3 (by kernel_rfl) (show DataW.Trod enc Try.prog w base (fun _ => true) held _ (.slice A n c) y.1 y.2 from ⟨_, h⟩)
  exact ⟨⟨l, A, c⟩, rfl, ⟨by show l.length * _ ≤ _; omega, h2, h3, h4, h5⟩, h1⟩
theorem pool_open {fuel : Nat} {v : Value} {y : DataW H × List MemPlace} (h : DataW.trod enc Try.prog w base (fun _ => true) held fuel 28 [v] = some y) (hw : Light Try.prog 28 y) :
    ∃ s : SlR Dep, v = .slice s.A s.l.length s.c ∧ SlAt 32 w s.A s.l.length s.c (rows s.l) ∧ ∀ d ∈ s.l, d.amt ≤ 18446744073709551615 := by
  obtain ⟨A, n, c, rfl⟩ := slice_cell Try.underlying28 h
  have hr := slice_light Try.underlying28 h hw
  rw [show Try.prog.bytesOf 62 = 32 by kernel_rfl] at hr
  unfold reachBytes at hr
  obtain ⟨l, rfl, h1, h2, h3, h4, h5⟩ := open_deps (show DataW.Trod enc Try.prog w base (fun _ => true) held _ (.slice A n c) y.1 y.2 from ⟨_, h⟩)
  exact ⟨⟨l, A, c⟩, rfl, ⟨by show l.length * _ ≤ _; omega, h2, h3, h4, h5⟩, h1⟩
theorem dues_open {fuel : Nat} {v : Value} {y : DataW H × List MemPlace} (h : DataW.trod enc Try.prog w base (fun _ => true) held fuel 29 [v] = some y) (hw : Light Try.prog 29 y) :
    ∃ s : SlR Due, v = .slice s.A s.l.length s.c ∧ SlAt 24 w s.A s.l.length s.c (rows s.l) ∧ ∀ d ∈ s.l, d.amt ≤ 18446744073709551615 := by
  obtain ⟨A, n, c, rfl⟩ := slice_cell Try.underlying29 h
  have hr := slice_light Try.underlying29 h hw
  rw [show Try.prog.bytesOf 64 = 24 by kernel_rfl] at hr
  unfold reachBytes at hr
  obtain ⟨l, rfl, h1, h2, h3, h4, h5⟩ := open_dues (show DataW.Trod enc Try.prog w base (fun _ => true) held _ (.slice A n c) y.1 y.2 from ⟨_, h⟩)
  exact ⟨⟨l, A, c⟩, rfl, ⟨by show l.length * _ ≤ _; omega, h2, h3, h4, h5⟩, h1⟩
theorem mots_open {fuel : Nat} {v : Value} {y : DataW H × List MemPlace} (h : DataW.trod enc Try.prog w base (fun _ => true) held fuel 30 [v] = some y) (hw : Light Try.prog 30 y) :
    ∃ s : SlR Mot, v = .slice s.A s.l.length s.c ∧ SlAt 296 w s.A s.l.length s.c (rows s.l) ∧ ∀ m ∈ s.l, MotAt w m := by
  obtain ⟨A, n, c, rfl⟩ := slice_cell Try.underlying30 h
  have hr := slice_light Try.underlying30 h hw
  rw [show Try.prog.bytesOf 90 = 296 by kernel_rfl] at hr
  unfold reachBytes at hr
  obtain ⟨l, rfl, h1, h2, h3, h4, h5⟩ := recs_light (α := Mot) (fun m => MotAt w m) Try.underlying30 mot_cells (fun n2 cs x hl hf hw => mot_cells_open hl hf hw) h hw
  exact ⟨⟨l, A, c⟩, rfl, ⟨by show l.length * _ ≤ _; omega, h2, h3, h4, h5⟩, h1⟩
/-- A list of lists of bytes that comes in: each of them whole. -/
theorem open_rings {fuel : Nat} {A : Option Addr} {n c : Nat} {x : DataW H × List MemPlace} (hf : DataW.trod enc Try.prog w base (fun _ => true) held fuel 32 [.slice A n c] = some x) (hw : Light Try.prog 32 x) :
    ∃ l : List BV, n = l.length ∧ (∀ b ∈ l, BvAt w b) ∧ l.length ≤ c ∧ c ≤ maxLen ∧ (A = none → c = 0) ∧ Row w w.heap.size A (bvs l) := by
  rcases open_slice1 Try.underlying32 (by kernel_rfl) hf with ⟨hcs, _⟩ | ⟨a, len, cap, m, n2, V, D, Pl, hcs, hb, hl, hm, hmm, hx, hi⟩
  · simp [Value.cells] at hcs
    obtain ⟨rfl, rfl, rfl⟩ := hcs
    exact ⟨[], rfl, by simp, Nat.le_refl _, Nat.zero_le _, fun _ => rfl, Row.nil _ _ _⟩
  · simp [Value.cells] at hcs
    obtain ⟨rfl, rfl, rfl⟩ := hcs
    simp only [if_true] at hmm
    have hlt : ∀ i, i < n → Light Try.prog 31 (D i, Pl i) := fun i hin k hk => by
      refine all_light 31 ((List.range n).map D) (fun k hk => hw k ?_) (D i) (List.mem_map.2 ⟨i, List.mem_range.2 hin, rfl⟩) k hk
      rw [hx]
      simp only [DataW.weights, Try.underlying32, List.mem_cons, List.mem_append]
      exact .inr (.inl hk)
    have hone : ∀ i, i < n → ∃ b : BV, w.cell? (a.add i) = some b.val ∧ BvAt w b := by
      intro i hin
      obtain ⟨hc, ht⟩ := hi i (by omega)
      obtain ⟨b, hv, hB⟩ := bytes_open ht (hlt i hin)
      exact ⟨b, by rw [hc, hv]; rfl, hB⟩
    have hch := fun i : Fin n => hone i.1 i.2
    refine ⟨List.ofFn fun i : Fin n => (hch i).choose, by simp, ?_, by simpa using hl, hm, fun e => by simp at e, fun k v hv => ?_⟩
    · intro b hb
      obtain ⟨i, rfl⟩ := (List.mem_ofFn).1 hb
      exact (hch i).choose_spec.2
    · obtain ⟨b, hb, rfl⟩ := bvs_of hv
      rw [List.getElem?_ofFn] at hb
      split at hb
      · rename_i hk
        cases hb
        have hs := (hch ⟨k, hk⟩).choose_spec
        have hbl := World.block_lt_of_cell? w _ hs.1
        rw [addr_block] at hbl
        exact ⟨a, rfl, hbl, hs.1⟩
      · cases hb
theorem ring_open {fuel : Nat} {v : Value} {y : DataW H × List MemPlace} (h : DataW.trod enc Try.prog w base (fun _ => true) held fuel 32 [v] = some y) (hw : Light Try.prog 32 y) :
    ∃ s : SlR BV, v = .slice s.A s.l.length s.c ∧ SlAt 24 w s.A s.l.length s.c (bvs s.l) ∧ ∀ b ∈ s.l, BvAt w b := by
  obtain ⟨A, n, c, rfl⟩ := slice_cell Try.underlying32 h
  have hr := slice_light Try.underlying32 h hw
  rw [show Try.prog.bytesOf 31 = 24 by kernel_rfl] at hr
  unfold reachBytes at hr
  obtain ⟨l, rfl, h1, h2, h3, h4, h5⟩ := open_rings h hw
  exact ⟨⟨l, A, c⟩, rfl, ⟨by show l.length * _ ≤ _; omega, h2, h3, h4, h5⟩, h1⟩
set_option maxRecDepth 100000 in
set_option maxHeartbeats 2000000 in
theorem sta_cells_open {fuel : Nat} {cs : List Value} {x : DataW H × List MemPlace} (hl : cs.length = 41) (hf : DataW.trod enc Try.prog w base (fun _ => true) held fuel 34 cs = some x) (hw : Light Try.prog 34 x) : ∃ s : Sta, StaAt w s ∧ (Rec.vals s).toList = cs := by
  obtain ⟨fs, hfs, hty⟩ := sta_fields
  obtain ⟨n2, h⟩ := fields_light hfs hty hf hw

  obtain ⟨c0, r0, rfl, k0⟩ := cons_of hl
  obtain ⟨c1, r1, rfl, k1⟩ := cons_of k0
  obtain ⟨c2, r2, rfl, k2⟩ := cons_of k1
  obtain ⟨c3, r3, rfl, k3⟩ := cons_of k2
  obtain ⟨c4, r4, rfl, k4⟩ := cons_of k3
  obtain ⟨c5, r5, rfl, k5⟩ := cons_of k4
  obtain ⟨c6, r6, rfl, k6⟩ := cons_of k5
  obtain ⟨c7, r7, rfl, k7⟩ := cons_of k6
  obtain ⟨c8, r8, rfl, k8⟩ := cons_of k7
  obtain ⟨c9, r9, rfl, k9⟩ := cons_of k8
  obtain ⟨c10, r10, rfl, k10⟩ := cons_of k9
  obtain ⟨c11, r11, rfl, k11⟩ := cons_of k10
  obtain ⟨c12, r12, rfl, k12⟩ := cons_of k11
  obtain ⟨c13, r13, rfl, k13⟩ := cons_of k12
  obtain ⟨c14, r14, rfl, k14⟩ := cons_of k13
  obtain ⟨c15, r15, rfl, k15⟩ := cons_of k14
  obtain ⟨c16, r16, rfl, k16⟩ := cons_of k15
  obtain ⟨c17, r17, rfl, k17⟩ := cons_of k16
  obtain ⟨c18, r18, rfl, k18⟩ := cons_of k17
  obtain ⟨c19, r19, rfl, k19⟩ := cons_of k18
  obtain ⟨c20, r20, rfl, k20⟩ := cons_of k19
  obtain ⟨c21, r21, rfl, k21⟩ := cons_of k20
  obtain ⟨c22, r22, rfl, k22⟩ := cons_of k21
  obtain ⟨c23, r23, rfl, k23⟩ := cons_of k22
  obtain ⟨c24, r24, rfl, k24⟩ := cons_of k23
  obtain ⟨c25, r25, rfl, k25⟩ := cons_of k24
  obtain ⟨c26, r26, rfl, k26⟩ := cons_of k25
  obtain ⟨c27, r27, rfl, k27⟩ := cons_of k26
  obtain ⟨c28, r28, rfl, k28⟩ := cons_of k27
  obtain ⟨c29, r29, rfl, k29⟩ := cons_of k28
  obtain ⟨c30, r30, rfl, k30⟩ := cons_of k29
  obtain ⟨c31, r31, rfl, k31⟩ := cons_of k30
  obtain ⟨c32, r32, rfl, k32⟩ := cons_of k31
  obtain ⟨c33, r33, rfl, k33⟩ := cons_of k32
  obtain ⟨c34, r34, rfl, k34⟩ := cons_of k33
  obtain ⟨c35, r35, rfl, k35⟩ := cons_of k34
  obtain ⟨c36, r36, rfl, k36⟩ := cons_of k35
  obtain ⟨c37, r37, rfl, k37⟩ := cons_of k36
  obtain ⟨c38, r38, rfl, k38⟩ := cons_of k37
  obtain ⟨c39, r39, rfl, k39⟩ := cons_of k38
  obtain ⟨c40, r40, rfl, k40⟩ := cons_of k39
  obtain rfl := List.eq_nil_of_length_eq_zero k40
  clear hl k0 k1 k2 k3 k4 k5 k6 k7 k8 k9 k10 k11 k12 k13 k14 k15 k16 k17 k18 k19 k20 k21 k22 k23 k24 k25 k26 k27 k28 k29 k30 k31 k32 k33 k34 k35 k36 k37 k38 k39 k40
  obtain ⟨y0, h0, w0⟩ := h 0 _ _ _ rfl
  obtain ⟨y1, h1, w1⟩ := h 1 _ _ _ rfl
  obtain ⟨y2, h2, w2⟩ := h 2 _ _ _ rfl
  obtain ⟨y3, h3, w3⟩ := h 3 _ _ _ rfl
  obtain ⟨y4, h4, w4⟩ := h 4 _ _ _ rfl
  obtain ⟨y5, h5, w5⟩ := h 5 _ _ _ rfl
  obtain ⟨y6, h6, w6⟩ := h 6 _ _ _ rfl
  obtain ⟨y7, h7, w7⟩ := h 7 _ _ _ rfl
  obtain ⟨y8, h8, w8⟩ := h 8 _ _ _ rfl
  obtain ⟨y9, h9, w9⟩ := h 9 _ _ _ rfl
  obtain ⟨y10, h10, w10⟩ := h 10 _ _ _ rfl
  obtain ⟨y11, h11, w11⟩ := h 11 _ _ _ rfl
  obtain ⟨y12, h12, w12⟩ := h 12 _ _ _ rfl
  obtain ⟨y13, h13, w13⟩ := h 13 _ _ _ rfl
  obtain ⟨y14, h14, w14⟩ := h 14 _ _ _ rfl
  obtain ⟨y15, h15, w15⟩ := h 15 _ _ _ rfl
  obtain ⟨y16, h16, w16⟩ := h 16 _ _ _ rfl
  obtain ⟨y17, h17, w17⟩ := h 17 _ _ _ rfl
  obtain ⟨a0, e0, b0⟩ := par_cells_open rfl h0
  have e0' : [c0, c1, c2, c3, c4, c5, c6, c7, c8, c9, c10, c11, c12, c13, c14, c15, c16, c17, c18, c19, c20, c21, c22, c23] = a0.vals.toList := e0
  unfold Par.vals at e0'
  simp only [List.cons.injEq, and_true] at e0'
  obtain ⟨rfl, rfl, rfl, rfl, rfl, rfl, rfl, rfl, rfl, rfl, rfl, rfl, rfl, rfl, rfl, rfl, rfl, rfl, rfl, rfl, rfl, rfl, rfl, rfl⟩ := e0'
  obtain ⟨a1, rfl, b1⟩ := word_open h1
  obtain ⟨a2, rfl, b2⟩ := word_open h2
  obtain ⟨a3, rfl, b3⟩ := word_open h3
  obtain ⟨a4, rfl, b4⟩ := word_open h4
  obtain ⟨a5, rfl, b5⟩ := word_open h5
  obtain ⟨a6, rfl, b6, d6⟩ := int_open h6
  obtain ⟨a7, rfl, b7, d7⟩ := int_open h7
  obtain ⟨a8, rfl⟩ := bool_open h8
  obtain ⟨a9, rfl, b9, d9⟩ := purses_open h9 w9
  obtain ⟨a10, rfl, b10, d10⟩ := mems_open h10 w10
  obtain ⟨a11, rfl, b11, d11⟩ := ints_open h11 w11
  obtain ⟨a12, rfl, b12, d12⟩ := ints_open h12 w12
  obtain ⟨a13, rfl, b13, d13⟩ := pool_open h13 w13
  obtain ⟨a14, rfl, b14, d14⟩ := dues_open h14 w14
  obtain ⟨a15, rfl, b15, d15⟩ := mots_open h15 w15
  obtain ⟨a16, rfl, b16⟩ := bytes_open h16 w16
  obtain ⟨a17, rfl, b17, d17⟩ := ring_open h17 w17
  exact ⟨⟨a0, a1, a2, a3, a4, a5, a6, a7, a8, a9, a10, a11, a12, a13, a14, a15, a16, a17⟩, ⟨b0, b1, b2, b3, b4, b5, ⟨b6, d6⟩, ⟨b7, d7⟩, b9, d9, b10, d10, b11, b12, b13, d13, b14, d14, b15, d15, b16, b17, d17⟩, rfl⟩
set_option maxRecDepth 100000 in
/-- A state that comes in. -/
theorem open_sta {r : Reach} {b0 : Nat} {v : Value} {d : DataW H} {pl : List MemPlace}
    (hv : Value.okWide Try.prog w r b0 34 v) (h : DataW.Trod enc Try.prog w base (fun _ => true) held 34 v d pl) (hw : ∀ k ∈ d.weights Try.prog 34, k ≤ reachBytes) : ∃ s : Sta, v = .agg (Rec.vals s) ∧ StaAt w s := by
  obtain ⟨fs, hfs, hty⟩ := sta_fields
  obtain ⟨cs, rfl, hsz0⟩ := okWide_struct hfs hv
  obtain ⟨fuel, hf⟩ := h
  obtain ⟨s, hF, e⟩ := sta_cells_open (cs := cs.toList) (by rw [Array.length_toList, hsz0, sta_cells]) hf hw
  exact ⟨s, by rw [Array.toList_inj.1 e], hF⟩
end
end Go.Proofs.Ytoaeckfppoaljaa
namespace Go.Proofs.Ytoaeckfppoaljaa
open Go.ChangeShapes Go.WideShapes Go.ChangeAt Go.RowKit Go.Deep
set_option linter.unusedVariables false
set_option linter.unusedSimpArgs false

theorem RecAt.frozen {w : World} {b : Nat} {cs : Array Value} {T : TypeId} (h : RecAt w b cs T) (k : Nat) : w.frozen? ⟨b, k, none⟩ = false := frozen_of_row w b k cs T h
section
variable {P : Program} {ops : Array Oper} {rest : List Oper} {o : Oper} {a : Act} {w : World} {Q : Exit → Act → World → Prop}
theorem run_store_slot (T : TypeId) (g k : Nat) (cs : Array Value) (T0 : TypeId) (v : Value) (hS : RecAt w g cs T0) (hk : k < cs.size) (hv : v.cells = #[v]) (h1 : v.oneCell' = true) (hi : (P.info? T).map (·.size) = some 1) :
    (storeVar T ⟨g, k, none⟩ v).run P w = .ok () (w.setCell ⟨g, k, none⟩ v) := by
  have h := run_storeCells_cells (P := P) g k [v] 0 w (fun j hj => by
    have : j = 0 := by simpa using hj
    subst this
    rw [hS.cell]; show (cs[k]?).isSome = true; rw [Array.getElem?_eq_getElem hk]; rfl) (fun j _ => hS.frozen _) (fun u hu => by
    have : u = v := by simpa using hu
    rw [this]; exact h1)
  cases hq : P.info? T with
  | none => simp [hq] at hi
  | some i =>
    have hs : i.size = 1 := by simpa [hq] using hi
    simp only [Nat.add_zero, World.setCells] at h
    simp [storeVar, sizeOf, typeInfo, hq, hv, hs, h]
/-- One value into its field; the world behind it has a new name. -/
theorem store_slot (T : TypeId) (x y : Operand) (ho : o.op = .store T x y) (hgd : Region.wanted o (yielded ops a.tmps) = true) (g k : Nat) (cs ds : Array Value) (T0 : TypeId) (v : Value) (hx : a.eval x = .pointer (some ⟨g, k, none⟩)) (hy : a.eval y = v) (hS : RecAt w g cs T0)
    (hk : k < cs.size) (hv : v.cells = #[v]) (h1 : v.oneCell' = true) (hi : (P.info? T).map (·.size) = some 1) (hd : cs.setIfInBounds k v = ds)
    (h : ∀ w', RecAt w' g ds T0 → Below g w w' → w'.heap.size = w.heap.size → (∀ j, j ≠ g → w'.heap[j]? = w.heap[j]?) → wpList P ops Q rest (a.put o.dst undef) w') : wpList P ops Q (o :: rest) a w :=
  wpList_step fun K hK => by
    rw [if_pos hgd]
    subst hd
    have hK' : K (a.put o.dst undef) (w.setCell ⟨g, k, none⟩ v) := by
      refine hK _ _ (h _ ?_ (Below.setCell (p := ⟨g, k, none⟩) (Below.refl g w) (Nat.le_refl _) _) (by simp) (fun j hj => heap_setCell_other _ _ _ _ hj))
      exact heap_setCell_same w g k _ _ _ hS
    unfold Oper.wp execOp
    simp only [ho, hx, hy, Instr.storeAt, Instr.sureAddr, Sem.run_bind, Sem.run_pure, Result.andThen_ok, run_store_slot T g k cs T0 v hS hk hv h1 hi]
    exact hK'
variable {fn : Func} {tmps : Array Value} {s k g : Nat} {T T0 : TypeId}
theorem res_rec1 (cs : Array Value) (h : fn.results = #[.cell s T]) (hp : tmps.getD s undef = .pointer (some ⟨g, 0, none⟩)) (hS : RecAt w g cs T0) {fs : Array Field} (hu : P.underlying T = some (.struct fs)) (hi : (P.info? T).map (·.size) = some cs.size) : (results fn tmps).run P w = .ok (.agg cs) w := by
  have hp' : tmps[s]?.getD undef = .pointer (some ⟨g, 0, none⟩) := by simpa using hp
  simp [results, h, hp', asAddr, run_loadVar_row w g T0 T cs (0, 0) _ hS hu rfl hi]
theorem res_rec2 (cs : Array Value) (h : fn.results = #[.cell s T, .tmp k]) (hp : tmps.getD s undef = .pointer (some ⟨g, 0, none⟩)) (hS : RecAt w g cs T0) {fs : Array Field} (hu : P.underlying T = some (.struct fs)) (hi : (P.info? T).map (·.size) = some cs.size) : (results fn tmps).run P w = .ok (.tuple #[.agg cs, tmps.getD k undef]) w := by
  have hp' : tmps[s]?.getD undef = .pointer (some ⟨g, 0, none⟩) := by simpa using hp
  simp [results, h, hp', asAddr, run_loadVar_row w g T0 T cs (0, 0) _ hS hu rfl hi]
end
end Go.Proofs.Ytoaeckfppoaljaa
