/- Layer 21 (supply): motions and all of a state: as values; where they lie; how a state comes in with a law's arguments. · Records: one field stored, whatever its type; results of a record and of a record with a number. -/
import Derived.Test.YtcaejanfhchacaaLawB
import Derived.Test.YtcaejanfhchacaaLawM
import Derived.Test.YtcaejanfhchacaaScoS
import Derived.Lib.SmallJoins
namespace Go.Proofs.Ytcaejanfhchacaa
open Go.ChangeShapes Go.WideShapes Go.ChangeAt Go.RowKit Go.Deep
set_option linter.unusedVariables false
set_option linter.unusedSimpArgs false

/-- A motion: its numbers, and who was for and against it. -/
structure Mot where
  acct : Int
  what : Int
  p : Par
  dest : Int
  amt : Nat
  ends : Int
  due : Int
  st : Int
  yes : BV
  no : BV
/-- A motion as plain data. -/
structure PMot where
  acct : Int
  what : Int
  p : Par
  dest : Int
  amt : Nat
  ends : Int
  due : Int
  st : Int
  yes : List Nat
  no : List Nat
/-- All that is kept: numbers, and lists that lie somewhere. -/
structure Sta where
  p : Par
  most : Nat
  gen : Nat
  mint : Nat
  burn : Nat
  treas : Nat
  epoch : Int
  calm : Int
  em : Bool
  purses : SlR Nat
  mems : SlR Mem
  entry : SlR Int
  exit : SlR Int
  pool : SlR Dep
  dues : SlR Due
  mots : SlR Mot
  marks : BV
  ring : SlR BV
/-- All that is kept, as plain data. -/
structure PSta where
  p : Par
  most : Nat
  gen : Nat
  mint : Nat
  burn : Nat
  treas : Nat
  epoch : Int
  calm : Int
  em : Bool
  purses : List Nat
  mems : List Mem
  entry : List Int
  exit : List Int
  pool : List Dep
  dues : List Due
  mots : List PMot
  marks : List Nat
  ring : List (List Nat)
def Mot.pure (m : Mot) : PMot := ⟨m.acct, m.what, m.p, m.dest, m.amt, m.ends, m.due, m.st, m.yes.bs, m.no.bs⟩
def Sta.pure (s : Sta) : PSta := ⟨s.p, s.most, s.gen, s.mint, s.burn, s.treas, s.epoch, s.calm, s.em, s.purses.l, s.mems.l, s.entry.l, s.exit.l, s.pool.l, s.dues.l, s.mots.l.map Mot.pure, s.marks.bs, s.ring.l.map BV.bs⟩

def Mot.vals (m : Mot) : Array Value := #[.int .i64 m.acct, .int .i64 m.what, .int .u64 (m.p.inc : Int), .int .u64 (m.p.maxEff : Int), .int .u64 (m.p.floor : Int), .int .u64 (m.p.cap : Int), .int .u64 (m.p.up : Int), .int .u64 (m.p.down : Int), .int .u64 (m.p.bias : Int), .int .u64 (m.p.quot : Int), .int .u64 (m.p.biasEm : Int), .int .u64 (m.p.quotEm : Int), .int .u64 (m.p.recover : Int), .int .u64 (m.p.scoreCap : Int), .int .u64 (m.p.rate : Int), .int .u64 (m.p.bond : Int), .int .i64 m.p.delay, .int .i64 m.p.streak, .int .i64 m.p.boost, .int .i64 m.p.absent, .int .i64 m.p.burn, .int .i64 m.p.churn, .int .i64 m.p.wait, .int .i64 m.p.poll, .int .i64 m.p.enact, .int .i64 m.p.quorum, .int .i64 m.dest, .int .u64 (m.amt : Int), .int .i64 m.ends, .int .i64 m.due, .int .i64 m.st, .slice m.yes.row m.yes.bs.length m.yes.cap, .slice m.no.row m.no.bs.length m.no.cap]
instance : Rec Mot := ⟨Mot.vals, 33, fun _ => rfl, by decide, fun d => by simp [Mot.vals, Value.oneCell']⟩
def Mot.zero : Mot := ⟨0, 0, Par.none, 0, 0, 0, 0, 0, ⟨none, [], 0⟩, ⟨none, [], 0⟩⟩
def Sta.vals (s : Sta) : Array Value := #[.int .u64 (s.p.inc : Int), .int .u64 (s.p.maxEff : Int), .int .u64 (s.p.floor : Int), .int .u64 (s.p.cap : Int), .int .u64 (s.p.up : Int), .int .u64 (s.p.down : Int), .int .u64 (s.p.bias : Int), .int .u64 (s.p.quot : Int), .int .u64 (s.p.biasEm : Int), .int .u64 (s.p.quotEm : Int), .int .u64 (s.p.recover : Int), .int .u64 (s.p.scoreCap : Int), .int .u64 (s.p.rate : Int), .int .u64 (s.p.bond : Int), .int .i64 s.p.delay, .int .i64 s.p.streak, .int .i64 s.p.boost, .int .i64 s.p.absent, .int .i64 s.p.burn, .int .i64 s.p.churn, .int .i64 s.p.wait, .int .i64 s.p.poll, .int .i64 s.p.enact, .int .i64 s.p.quorum, .int .u64 (s.most : Int), .int .u64 (s.gen : Int), .int .u64 (s.mint : Int), .int .u64 (s.burn : Int), .int .u64 (s.treas : Int), .int .i64 s.epoch, .int .i64 s.calm, .bool s.em, .slice s.purses.A s.purses.l.length s.purses.c, .slice s.mems.A s.mems.l.length s.mems.c, .slice s.entry.A s.entry.l.length s.entry.c, .slice s.exit.A s.exit.l.length s.exit.c, .slice s.pool.A s.pool.l.length s.pool.c, .slice s.dues.A s.dues.l.length s.dues.c, .slice s.mots.A s.mots.l.length s.mots.c, .slice s.marks.row s.marks.bs.length s.marks.cap, .slice s.ring.A s.ring.l.length s.ring.c]
instance : Rec Sta := ⟨Sta.vals, 41, fun _ => rfl, by decide, fun d => by simp [Sta.vals, Value.oneCell']⟩
def Sta.zero : Sta := ⟨Par.none, 0, 0, 0, 0, 0, 0, 0, false, ⟨[], none, 0⟩, ⟨[], none, 0⟩, ⟨[], none, 0⟩, ⟨[], none, 0⟩, ⟨[], none, 0⟩, ⟨[], none, 0⟩, ⟨[], none, 0⟩, ⟨none, [], 0⟩, ⟨[], none, 0⟩⟩

/-- A slice of so many elements (of z bytes each) and so much room: its values, in memory that is there. -/
structure SlAt (z : Nat) (w : World) (A : Option Addr) (n c : Nat) (xs : List Value) : Prop where
  fit : n * z ≤ 140737488355328
  le : n ≤ c
  most : c ≤ maxLen
  none : A = none → c = 0
  row : Row w w.heap.size A xs
theorem SlAt.up {z : Nat} {w w' : World} {A : Option Addr} {n c : Nat} {xs : List Value} (h : SlAt z w A n c xs) (hb : Below w.heap.size w w') : SlAt z w' A n c xs := ⟨h.fit, h.le, h.most, h.none, row_kept h.row hb⟩
theorem SlAt.nil (z : Nat) (w : World) : SlAt z w .none 0 0 [] := ⟨by omega, Nat.le_refl _, Nat.zero_le _, fun _ => rfl, Row.nil _ _ _⟩
/-- Bytes in memory that is there. -/
structure BvAt (w : World) (b : BV) : Prop where
  sl : SlAt 1 w b.row b.bs.length b.cap (u8s b.bs)
  all : ∀ x ∈ b.bs, x < 256
theorem BvAt.up {w w' : World} {b : BV} (h : BvAt w b) (hb : Below w.heap.size w w') : BvAt w' b := ⟨h.sl.up hb, h.all⟩
theorem BvAt.nil (w : World) : BvAt w ⟨.none, [], 0⟩ := ⟨SlAt.nil 1 w, by simp⟩
/-- A motion's fields are in memory that is there, its words are words. -/
structure MotAt (w : World) (m : Mot) : Prop where
  yes : BvAt w m.yes
  no : BvAt w m.no
  amt : m.amt < 18446744073709551616
  par : m.p.Fits
theorem MotAt.up {w w' : World} {m : Mot} (h : MotAt w m) (hb : Below w.heap.size w w') : MotAt w' m := ⟨h.yes.up hb, h.no.up hb, h.amt, h.par⟩
/-- All of a state is in memory that is there, its words are words. -/
structure StaAt (w : World) (s : Sta) : Prop where
  par : s.p.Fits
  most : s.most < 18446744073709551616
  gen : s.gen < 18446744073709551616
  mint : s.mint < 18446744073709551616
  burn : s.burn < 18446744073709551616
  treas : s.treas < 18446744073709551616
  epoch : -9223372036854775808 ≤ s.epoch ∧ s.epoch ≤ 9223372036854775807
  calm : -9223372036854775808 ≤ s.calm ∧ s.calm ≤ 9223372036854775807
  purses : SlAt 8 w s.purses.A s.purses.l.length s.purses.c (u64s s.purses.l)
  purse : ∀ x ∈ s.purses.l, x ≤ 18446744073709551615
  mems : SlAt 48 w s.mems.A s.mems.l.length s.mems.c (rows s.mems.l)
  mem : ∀ m ∈ s.mems.l, m.s.Fits
  entry : SlAt 8 w s.entry.A s.entry.l.length s.entry.c (zvals s.entry.l)
  exit : SlAt 8 w s.exit.A s.exit.l.length s.exit.c (zvals s.exit.l)
  pool : SlAt 32 w s.pool.A s.pool.l.length s.pool.c (rows s.pool.l)
  dep : ∀ d ∈ s.pool.l, d.amt ≤ 18446744073709551615
  dues : SlAt 24 w s.dues.A s.dues.l.length s.dues.c (rows s.dues.l)
  due : ∀ d ∈ s.dues.l, d.amt ≤ 18446744073709551615
  mots : SlAt 296 w s.mots.A s.mots.l.length s.mots.c (rows s.mots.l)
  mot : ∀ m ∈ s.mots.l, MotAt w m
  marks : BvAt w s.marks
  ring : SlAt 24 w s.ring.A s.ring.l.length s.ring.c (bvs s.ring.l)
  rings : ∀ b ∈ s.ring.l, BvAt w b
theorem StaAt.up {w w' : World} {s : Sta} (h : StaAt w s) (hb : Below w.heap.size w w') : StaAt w' s :=
  ⟨h.par, h.most, h.gen, h.mint, h.burn, h.treas, h.epoch, h.calm, h.purses.up hb, h.purse, h.mems.up hb, h.mem, h.entry.up hb, h.exit.up hb, h.pool.up hb, h.dep, h.dues.up hb, h.due, h.mots.up hb, fun m hm => (h.mot m hm).up hb, h.marks.up hb, h.ring.up hb, fun b hm => (h.rings b hm).up hb⟩

theorem mot_fields : ∃ fs : Array Field, Try.prog.underlying 40 = some (.struct fs) ∧ fs.map (fun f => (f.type, f.offset, Try.prog.cellsOf f.type)) = #[(3, 0, 1), (3, 1, 1), (37, 2, 24), (3, 26, 1), (35, 27, 1), (3, 28, 1), (3, 29, 1), (3, 30, 1), (38, 31, 1), (38, 32, 1)] := ⟨_, Try.underlying40, by kernel_rfl⟩
theorem mot_cells : Try.prog.cellsOf 40 = 33 := by kernel_rfl
theorem info_mot : (Try.prog.info? 40).map (fun i => (i.zero, i.size, i.bytes)) = some (some (.agg (Rec.vals (Mot.zero : Mot))), Rec.z Mot, 296) := by kernel_rfl
theorem size_mot : (Try.prog.info? 40).map (·.size) = some (Rec.z Mot) := by kernel_rfl
section
variable {H : Type} {enc : TypeId × Value → H} {P : Program} {w : World} {base : Nat} {held : Bool}
theorem bool_open {fuel : Nat} {v : Value} {y : DataW H × List MemPlace} (h : DataW.trod enc Try.prog w base (fun _ => true) held fuel 4 [v] = some y) : ∃ b : Bool, v = .bool b := by
  obtain ⟨z, q, _⟩ := DataW.trod_bool Try.underlying4 h
  simp only [List.cons.injEq, and_true] at q
  exact ⟨z, q⟩
theorem bytes_open {fuel : Nat} {v : Value} {y : DataW H × List MemPlace} (h : DataW.trod enc Try.prog w base (fun _ => true) held fuel 38 [v] = some y) (hw : Light Try.prog 38 y) : ∃ b : BV, v = .slice b.row b.bs.length b.cap ∧ BvAt w b := by
  obtain ⟨Ab, ns, cb, hv, h1, h2, h3, h4, h5⟩ := open_u8cell Try.underlying38 Try.underlying5 (by kernel_rfl) h
  subst hv
  have hr := slice_light Try.underlying38 h hw
  rw [show Try.prog.bytesOf 5 = 1 by kernel_rfl] at hr
  unfold reachBytes at hr
  exact ⟨⟨Ab, ns, cb⟩, rfl, ⟨by show ns.length * 1 ≤ _; omega, h2, h3, h5, h4⟩, h1⟩
set_option maxRecDepth 100000 in
theorem par_cells_open {fuel : Nat} {cs : List Value} {x : DataW H × List MemPlace} (hl : cs.length = 24) (hf : DataW.trod enc Try.prog w base (fun _ => true) held fuel 37 cs = some x) : ∃ p : Par, cs = p.vals.toList ∧ p.Fits := by
  obtain ⟨fs, hfs, hone, hty⟩ := par_fields
  obtain ⟨ys, n2, hn2, hy, hlen, hyl, hfd⟩ := DataW.trod_struct hfs hf
  have hfl : fs.size = 24 := by have := congrArg Array.size hty; simpa using this
  have hfield : ∀ (j : Nat) (hj : j < 24) (ty : TypeId), (fs.map (·.type))[j]? = some ty → ∃ y, DataW.trod enc Try.prog w base (fun _ => true) held n2 ty [cs[j]] = some y := by
    intro j hj ty hjt
    rw [Array.getElem?_map] at hjt
    obtain ⟨f, hjf, rfl⟩ := Option.map_eq_some_iff.1 hjt
    obtain ⟨ho, hk⟩ := hone_of hone j f hjf
    have h1 := hfd j f hjf
    have hjc : j < cs.length := by omega
    rw [ho, hk, List.drop_eq_getElem_cons hjc, List.getElem?_eq_getElem (by omega)] at h1
    exact ⟨_, h1⟩
  have hw : ∀ (j : Nat) (hj : j < 24), (fs.map (·.type))[j]? = some 35 → ∃ n : Nat, cs[j] = .int .u64 (n : Int) ∧ n < 18446744073709551616 := fun j hj hjt => by
    obtain ⟨y, hy⟩ := hfield j hj _ hjt
    exact word_open hy
  have hi : ∀ (j : Nat) (hj : j < 24), (fs.map (·.type))[j]? = some 3 → ∃ n : Int, cs[j] = .int .i64 n ∧ -9223372036854775808 ≤ n ∧ n ≤ 9223372036854775807 := fun j hj hjt => by
    obtain ⟨y, hy⟩ := hfield j hj _ hjt
    exact int_open hy
  rw [hty] at hw hi
  obtain ⟨n0, e0, l0⟩ := hw 0 (by omega) rfl
  obtain ⟨n1, e1, l1⟩ := hw 1 (by omega) rfl
  obtain ⟨n2, e2, l2⟩ := hw 2 (by omega) rfl
  obtain ⟨n3, e3, l3⟩ := hw 3 (by omega) rfl
  obtain ⟨n4, e4, l4⟩ := hw 4 (by omega) rfl
  obtain ⟨n5, e5, l5⟩ := hw 5 (by omega) rfl
  obtain ⟨n6, e6, l6⟩ := hw 6 (by omega) rfl
  obtain ⟨n7, e7, l7⟩ := hw 7 (by omega) rfl
  obtain ⟨n8, e8, l8⟩ := hw 8 (by omega) rfl
  obtain ⟨n9, e9, l9⟩ := hw 9 (by omega) rfl
  obtain ⟨n10, e10, l10⟩ := hw 10 (by omega) rfl
  obtain ⟨n11, e11, l11⟩ := hw 11 (by omega) rfl
  obtain ⟨n12, e12, l12⟩ := hw 12 (by omega) rfl
  obtain ⟨n13, e13, l13⟩ := hw 13 (by omega) rfl
  obtain ⟨n14, e14, l14⟩ := hi 14 (by omega) rfl
  obtain ⟨n15, e15, l15⟩ := hi 15 (by omega) rfl
  obtain ⟨n16, e16, l16⟩ := hi 16 (by omega) rfl
  obtain ⟨n17, e17, l17⟩ := hi 17 (by omega) rfl
  obtain ⟨n18, e18, l18⟩ := hi 18 (by omega) rfl
  obtain ⟨n19, e19, l19⟩ := hi 19 (by omega) rfl
  obtain ⟨n20, e20, l20⟩ := hi 20 (by omega) rfl
  obtain ⟨n21, e21, l21⟩ := hi 21 (by omega) rfl
  obtain ⟨n22, e22, l22⟩ := hi 22 (by omega) rfl
  obtain ⟨n23, e23, l23⟩ := hi 23 (by omega) rfl
  refine ⟨⟨n0, n1, n2, n3, n4, n5, n6, n7, n8, n9, n10, n11, n12, n13, n14, n15, n16, n17, n18, n19, n20, n21, n22, n23⟩, ?_, ⟨?_, ?_⟩⟩
  · have h24 := array24 (cs := cs.toArray) (by simpa using hl)
    simp only [List.getElem_toArray, e0, e1, e2, e3, e4, e5, e6, e7, e8, e9, e10, e11, e12, e13, e14, e15, e16, e17, e18, e19, e20, e21, e22, e23] at h24
    calc cs = cs.toArray.toList := by simp
      _ = _ := by rw [h24]; rfl
  · intro x hx
    simp only [Par.us, List.mem_cons, List.mem_nil_iff, or_false] at hx
    rcases hx with rfl | rfl | rfl | rfl | rfl | rfl | rfl | rfl | rfl | rfl | rfl | rfl | rfl | rfl <;> assumption
  · intro x hx
    simp only [Par.is, List.mem_cons, List.mem_nil_iff, or_false] at hx
    rcases hx with rfl | rfl | rfl | rfl | rfl | rfl | rfl | rfl | rfl | rfl <;> assumption
theorem cons_of {cs : List Value} {n : Nat} (h : cs.length = n + 1) : ∃ c r, cs = c :: r ∧ r.length = n := by
  cases cs with
  | nil => cases h
  | cons c r => exact ⟨c, r, rfl, by simpa using h⟩
set_option maxRecDepth 100000 in
theorem mot_cells_open {fuel : Nat} {cs : List Value} {x : DataW H × List MemPlace} (hl : cs.length = 33) (hf : DataW.trod enc Try.prog w base (fun _ => true) held fuel 40 cs = some x) (hw : Light Try.prog 40 x) : ∃ m : Mot, MotAt w m ∧ (Rec.vals m).toList = cs := by
  obtain ⟨fs, hfs, hty⟩ := mot_fields
  obtain ⟨n2, h⟩ := fields_light hfs hty hf hw

  obtain ⟨c0, r0, rfl, k0⟩ := cons_of hl
  obtain ⟨c1, r1, rfl, k1⟩ := cons_of k0
  obtain ⟨c2, r2, rfl, k2⟩ := cons_of k1
  obtain ⟨c3, r3, rfl, k3⟩ := cons_of k2
  obtain ⟨c4, r4, rfl, k4⟩ := cons_of k3
  obtain ⟨c5, r5, rfl, k5⟩ := cons_of k4
  obtain ⟨c6, r6, rfl, k6⟩ := cons_of k5
  obtain ⟨c7, r7, rfl, k7⟩ := cons_of k6
  obtain ⟨c8, r8, rfl, k8⟩ := cons_of k7
  obtain ⟨c9, r9, rfl, k9⟩ := cons_of k8
  obtain ⟨c10, r10, rfl, k10⟩ := cons_of k9
  obtain ⟨c11, r11, rfl, k11⟩ := cons_of k10
  obtain ⟨c12, r12, rfl, k12⟩ := cons_of k11
  obtain ⟨c13, r13, rfl, k13⟩ := cons_of k12
  obtain ⟨c14, r14, rfl, k14⟩ := cons_of k13
  obtain ⟨c15, r15, rfl, k15⟩ := cons_of k14
  obtain ⟨c16, r16, rfl, k16⟩ := cons_of k15
  obtain ⟨c17, r17, rfl, k17⟩ := cons_of k16
  obtain ⟨c18, r18, rfl, k18⟩ := cons_of k17
  obtain ⟨c19, r19, rfl, k19⟩ := cons_of k18
  obtain ⟨c20, r20, rfl, k20⟩ := cons_of k19
  obtain ⟨c21, r21, rfl, k21⟩ := cons_of k20
  obtain ⟨c22, r22, rfl, k22⟩ := cons_of k21
  obtain ⟨c23, r23, rfl, k23⟩ := cons_of k22
  obtain ⟨c24, r24, rfl, k24⟩ := cons_of k23
  obtain ⟨c25, r25, rfl, k25⟩ := cons_of k24
  obtain ⟨c26, r26, rfl, k26⟩ := cons_of k25
  obtain ⟨c27, r27, rfl, k27⟩ := cons_of k26
  obtain ⟨c28, r28, rfl, k28⟩ := cons_of k27
  obtain ⟨c29, r29, rfl, k29⟩ := cons_of k28
  obtain ⟨c30, r30, rfl, k30⟩ := cons_of k29
  obtain ⟨c31, r31, rfl, k31⟩ := cons_of k30
  obtain ⟨c32, r32, rfl, k32⟩ := cons_of k31
  obtain rfl := List.eq_nil_of_length_eq_zero k32
  clear hl k0 k1 k2 k3 k4 k5 k6 k7 k8 k9 k10 k11 k12 k13 k14 k15 k16 k17 k18 k19 k20 k21 k22 k23 k24 k25 k26 k27 k28 k29 k30 k31 k32
  obtain ⟨y0, h0, w0⟩ := h 0 _ _ _ rfl
  obtain ⟨y1, h1, w1⟩ := h 1 _ _ _ rfl
  obtain ⟨y2, h2, w2⟩ := h 2 _ _ _ rfl
  obtain ⟨y3, h3, w3⟩ := h 3 _ _ _ rfl
  obtain ⟨y4, h4, w4⟩ := h 4 _ _ _ rfl
  obtain ⟨y5, h5, w5⟩ := h 5 _ _ _ rfl
  obtain ⟨y6, h6, w6⟩ := h 6 _ _ _ rfl
  obtain ⟨y7, h7, w7⟩ := h 7 _ _ _ rfl
  obtain ⟨y8, h8, w8⟩ := h 8 _ _ _ rfl
  obtain ⟨y9, h9, w9⟩ := h 9 _ _ _ rfl
  obtain ⟨a0, rfl, b0, d0⟩ := int_open h0
  obtain ⟨a1, rfl, b1, d1⟩ := int_open h1
  obtain ⟨a2, e2, b2⟩ := par_cells_open rfl h2
  have e2' : [c2, c3, c4, c5, c6, c7, c8, c9, c10, c11, c12, c13, c14, c15, c16, c17, c18, c19, c20, c21, c22, c23, c24, c25] = a2.vals.toList := e2
  unfold Par.vals at e2'
  simp only [List.cons.injEq, and_true] at e2'
  obtain ⟨rfl, rfl, rfl, rfl, rfl, rfl, rfl, rfl, rfl, rfl, rfl, rfl, rfl, rfl, rfl, rfl, rfl, rfl, rfl, rfl, rfl, rfl, rfl, rfl⟩ := e2'
  obtain ⟨a3, rfl, b3, d3⟩ := int_open h3
  obtain ⟨a4, rfl, b4⟩ := word_open h4
  obtain ⟨a5, rfl, b5, d5⟩ := int_open h5
  obtain ⟨a6, rfl, b6, d6⟩ := int_open h6
  obtain ⟨a7, rfl, b7, d7⟩ := int_open h7
  obtain ⟨a8, rfl, b8⟩ := bytes_open h8 w8
  obtain ⟨a9, rfl, b9⟩ := bytes_open h9 w9
  exact ⟨⟨a0, a1, a2, a3, a4, a5, a6, a7, a8, a9⟩, ⟨b8, b9, b4, b2⟩, rfl⟩
theorem slice_cell {T e : TypeId} {fuel : Nat} {v : Value} {y : DataW H × List MemPlace} (ht : Try.prog.underlying T = some (.slice e)) (h : DataW.trod enc Try.prog w base (fun _ => true) held fuel T [v] = some y) : ∃ A n c, v = .slice A n c := by
  rcases open_slice ht h with ⟨hcs, _⟩ | ⟨a, len, cap, m, n', D, Pl, hcs, _⟩
  · simp only [List.cons.injEq, and_true] at hcs
    exact ⟨_, _, _, hcs⟩
  · simp only [List.cons.injEq, and_true] at hcs
    exact ⟨_, _, _, hcs⟩
theorem mems_open {fuel : Nat} {v : Value} {y : DataW H × List MemPlace} (h : DataW.trod enc Try.prog w base (fun _ => true) held fuel 60 [v] = some y) (hw : Light Try.prog 60 y) :
    ∃ s : SlR Mem, v = .slice s.A s.l.length s.c ∧ SlAt 48 w s.A s.l.length s.c (rows s.l) ∧ ∀ m ∈ s.l, m.s.Fits := by
  obtain ⟨A, n, c, rfl⟩ := slice_cell Try.underlying60 h
  have hr := slice_light Try.underlying60 h hw
  rw [show Try.prog.bytesOf 116 = 48 by kernel_rfl] at hr
  unfold reachBytes at hr
  obtain ⟨l, rfl, h1, h2, h3, h4, h5⟩ := open_mems (show DataW.Trod enc Try.prog w base (fun _ => true) held _ (.slice A n c) y.1 y.2 from ⟨_, h⟩)
  exact ⟨⟨l, A, c⟩, rfl, ⟨by show l.length * _ ≤ _; omega, h2, h3, h4, h5⟩, h1⟩
theorem mots_open {fuel : Nat} {v : Value} {y : DataW H × List MemPlace} (h : DataW.trod enc Try.prog w base (fun _ => true) held fuel 22 [v] = some y) (hw : Light Try.prog 22 y) :
    ∃ s : SlR Mot, v = .slice s.A s.l.length s.c ∧ SlAt 296 w s.A s.l.length s.c (rows s.l) ∧ ∀ m ∈ s.l, MotAt w m := by
  obtain ⟨A, n, c, rfl⟩ := slice_cell Try.underlying22 h
  have hr := slice_light Try.underlying22 h hw
  rw [show Try.prog.bytesOf 40 = 296 by kernel_rfl] at hr
  unfold reachBytes at hr
  obtain ⟨l, rfl, h1, h2, h3, h4, h5⟩ := recs_light (α := Mot) (fun m => MotAt w m) Try.underlying22 mot_cells (fun n2 cs x hl hf hw => mot_cells_open hl hf hw) h hw
  exact ⟨⟨l, A, c⟩, rfl, ⟨by show l.length * _ ≤ _; omega, h2, h3, h4, h5⟩, h1⟩
end
end Go.Proofs.Ytcaejanfhchacaa
