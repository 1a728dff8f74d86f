/- From a walk to a row: where the call returns true and only memory of its own has turned, the law's row holds. · Parameters that come in with a law's arguments. · Bytes that come in with a law's arguments. · Layer 8 (deed), the law's own: a deed as the document has it; two deeds held against each other. By contracts. · Deeds that come in with a law's arguments. -/
import Derived.Test.YtokaclacejhppaaCore
import Derived.OpenShut
import Derived.ChangeSlices
import Derived.ChangeSame
import Derived.Carry
import Derived.Test.YtokaclacejhppaaParA
import Derived.Deep.Fields
import Derived.Deep.Slices
import Derived.Lib.SmallJoins
import Derived.Test.YtokaclacejhppaaBytes
import Derived.Test.YtokaclacejhppaaDeedA
import Derived.Test.YtokaclacejhppaaBytesV
namespace Go.Proofs.Ytokaclacejhppaa
open Go.ChangeShapes Go.WideShapes Go.ChangeAt Go.RowKit
set_option linter.unusedVariables false

section
variable {H : Type} {enc : TypeId × Value → H} {P : Program}

theorem args_stay (hl : laidOutB P = true) {W W' : World} (hb : Below W.heap.size W W') :
    ∀ (ts : List TypeId) (vs : List Value) (ds : List (DataW H)) (ps : List MemPlace), DataW.TrodAll enc P W 0 (fun _ => true) true ts vs ds ps →
      (∀ t ∈ ts, P.readableRec t = true ∧ t < P.types.size) → (∀ x ∈ ps, x.block < W.heap.size) →
      DataW.TrodAll enc P W' 0 (fun b => decide (b < W.heap.size)) true ts vs ds ps
  | [], [], [], _, h, _, _ => h
  | t :: ts, v :: vs, d :: ds, ps, h, hr, hlt => by
    obtain ⟨p, q, h1, h2, rfl⟩ := h
    refine ⟨p, q, Below.trod hl (hr t List.mem_cons_self).1 (hr t List.mem_cons_self).2 h1 hb (fun x hx => hlt x (List.mem_append_left _ hx)), ?_, rfl⟩
    exact args_stay hl hb ts vs ds q h2 (fun u hu => hr u (List.mem_cons_of_mem _ hu)) (fun x hx => hlt x (List.mem_append_right _ hx))
  | [], [], _ :: _, _, h, _, _ => h.elim
  | [], _ :: _, _, _, h, _, _ => h.elim
  | _ :: _, [], _, _, h, _, _ => h.elim
  | _ :: _, _ :: _, [], _, h, _, _ => h.elim

/-- The row's last step, for a law over plain data. -/
theorem law_post {f : Func} {s : ChangeSpec} {tb : TypeId} {W W' : World} {args : Array Value} {ds gs : List (DataW H)} {before : List MemPlace}
    (hl : laidOutB P = true) (hts : (f.params.toList.all fun t => P.readableRec t && decide (t < P.types.size)) = true) (hv : s.vars = []) (hr : f.resultTypes = #[tb]) (htb : P.underlying tb = some .bool)
    (hs : s.fn H (ds ++ gs) = { results := [.lit (.bool true)], args := ds })
    (hW : DataW.Whole enc P f.params.toList s.vars false W args.toList ds gs before) (hb : Below W.heap.size W W') :
    s.post enc P f false true false false W args (.bool true) W' := by
  have hW0 := hW
  obtain ⟨p, q, hA, hV, rfl, hfz, hnd⟩ := hW
  have hlt : ∀ x ∈ p ++ q, x.block < W.heap.size := fun x hx => hW0.lt x hx
  rw [hv] at hV
  have hq : q = [] ∧ gs = [] := by
    cases gs with
    | nil => exact ⟨hV, rfl⟩
    | cons g gs => exact hV.elim
  obtain ⟨rfl, rfl⟩ := hq
  refine ⟨ds, [], p ++ [], [], p, [], hW0, ?_, ?_, ?_, ?_, fun h => by cases h⟩
  · rw [hs, hr]
    exact trodAll_mk1 (shut_bool htb _)
  · rw [hs]
    exact args_stay hl hb _ _ _ _ hA (fun t ht => by simpa using List.all_eq_true.1 hts t ht) (fun x hx => hlt x (List.mem_append_left _ hx))
  · rw [hs, hv]
    exact rfl
  · exact World.keptBut_mono (fun x hx => ⟨hx, Or.inr (Or.inl (by simpa using hx))⟩) (hb.frame _)

theorem u64_fits {a : Int} (h : (Lit.int .u64 a).wf = true) : 0 ≤ a ∧ a ≤ 18446744073709551615 := by
  simp only [Lit.wf, Bool.and_eq_true, decide_eq_true_eq] at h
  have e0 : IntKind.u64.min = 0 := by decide
  have e1 : IntKind.u64.max = 18446744073709551615 := by decide
  rw [e0, e1] at h
  exact h

theorem u32_fits {a : Int} (h : (Lit.int .u32 a).wf = true) : 0 ≤ a ∧ a ≤ 4294967295 := by
  simp only [Lit.wf, Bool.and_eq_true, decide_eq_true_eq] at h
  have e0 : IntKind.u32.min = 0 := by decide
  have e1 : IntKind.u32.max = 4294967295 := by decide
  rw [e0, e1] at h
  exact h

/-- A list of numbers of 64 bits that comes in: its numbers, and where they lie. -/
theorem open_u64s {w : World} {base : Nat} {held : Bool} {t e : TypeId} {A : Option Addr} {n c : Nat} {d : DataW H} {p : List MemPlace} (ht : P.underlying t = some (.slice e)) (he : P.underlying e = some (.int .u64)) (hC : P.cellsOf e = 1)
    (h : DataW.Trod enc P w base (fun _ => true) held t (.slice A n c) d p) :
    ∃ ns : List Nat, n = ns.length ∧ (∀ x ∈ ns, x ≤ 18446744073709551615) ∧ ns.length ≤ c ∧ c ≤ maxLen ∧ Row w w.heap.size A (ns.map fun (x : Nat) => Value.int .u64 (x : Int)) := by
  obtain ⟨fuel, hf⟩ := h
  rcases open_ints ht he hC hf with ⟨hcs, hx⟩ | ⟨a, len, cap, zs, hcs, _, hl, hm, hz, hx, hcell, hwz⟩
  · simp [Value.cells] at hcs
    obtain ⟨rfl, rfl, rfl⟩ := hcs
    exact ⟨[], rfl, by simp, Nat.le_refl _, Nat.zero_le _, Row.nil _ _ _⟩
  · simp [Value.cells] at hcs
    obtain ⟨rfl, rfl, rfl⟩ := hcs
    simp only [if_true] at hz
    have hfit : ∀ z ∈ zs, ∃ x : Nat, z = (x : Int) ∧ x ≤ 18446744073709551615 := fun z hz' => by
      have := u64_fits (hwz z hz')
      exact ⟨z.toNat, by omega, by omega⟩
    refine ⟨(zs.take n).map Int.toNat, by simp [hz]; omega, ?_, by simp [hz]; omega, hm, ?_⟩
    · intro x hx'
      obtain ⟨z, hz', rfl⟩ := List.mem_map.1 hx'
      obtain ⟨y, rfl, hy⟩ := hfit z (List.mem_of_mem_take hz')
      simpa using hy
    · intro k v hv
      simp only [List.map_map, List.getElem?_map, Option.map_eq_some_iff] at hv
      obtain ⟨z, hz', rfl⟩ := hv
      rw [List.getElem?_take] at hz'
      by_cases hk : k < n
      · rw [if_pos hk] at hz'
        have hkl : k < zs.length := by omega
        have hc := hcell k hkl
        obtain ⟨y, rfl, hy⟩ := hfit z (List.mem_of_getElem? hz')
        have hg : zs.getD k 0 = (y : Int) := by simp [List.getD, hz']
        rw [hg] at hc
        refine ⟨a, rfl, ?_, by simpa using hc⟩
        have := World.block_lt_of_cell? w _ hc
        rwa [addr_block] at this
      · rw [if_neg hk] at hz'; cases hz'
end
end Go.Proofs.Ytokaclacejhppaa
namespace Go.Proofs.Ytokaclacejhppaa
open Go.ChangeShapes Go.WideShapes Go.ChangeAt Go.RowKit Go.Deep
set_option linter.unusedVariables false

theorem par_fields : ∃ fs : Array Field, Try.prog.underlying 37 = some (.struct fs) ∧ oneCellFields Try.prog fs = true ∧ fs.map (·.type) = #[35, 35, 35, 35, 35, 35, 35, 35, 35, 35, 35, 35, 35, 35, 3, 3, 3, 3, 3, 3, 3, 3, 3, 3] := ⟨_, Try.underlying37, by kernel_rfl, by kernel_rfl⟩

theorem par_cells : Try.prog.cellsOf 37 = 24 := by kernel_rfl
theorem i64_bounds {a : Int} (h : (Lit.int .i64 a).wf = true) : -9223372036854775808 ≤ a ∧ a ≤ 9223372036854775807 := by
  simp only [Lit.wf, Bool.and_eq_true, decide_eq_true_eq] at h
  have e0 : IntKind.i64.min = -9223372036854775808 := by decide
  have e1 : IntKind.i64.max = 9223372036854775807 := by decide
  rw [e0, e1] at h
  exact h

theorem array24 {α : Type} {cs : Array α} (h : cs.size = 24) : cs = #[cs[0], cs[1], cs[2], cs[3], cs[4], cs[5], cs[6], cs[7], cs[8], cs[9], cs[10], cs[11], cs[12], cs[13], cs[14], cs[15], cs[16], cs[17], cs[18], cs[19], cs[20], cs[21], cs[22], cs[23]] := by
  apply Array.ext
  · simp [h]
  · intro i h1 h2
    rw [h] at h1
    match i, h1 with
    | 0, _ => rfl
    | 1, _ => rfl
    | 2, _ => rfl
    | 3, _ => rfl
    | 4, _ => rfl
    | 5, _ => rfl
    | 6, _ => rfl
    | 7, _ => rfl
    | 8, _ => rfl
    | 9, _ => rfl
    | 10, _ => rfl
    | 11, _ => rfl
    | 12, _ => rfl
    | 13, _ => rfl
    | 14, _ => rfl
    | 15, _ => rfl
    | 16, _ => rfl
    | 17, _ => rfl
    | 18, _ => rfl
    | 19, _ => rfl
    | 20, _ => rfl
    | 21, _ => rfl
    | 22, _ => rfl
    | 23, _ => rfl
    | k + 24, hk => omega

set_option maxRecDepth 100000 in
theorem open_par {H : Type} {enc : TypeId × Value → H} {w : World} {base : Nat} {held : Bool} {r : Reach} {b0 : Nat} {v : Value} {d : DataW H} {pl : List MemPlace}
    (hv : Value.okWide Try.prog w r b0 37 v) (h : DataW.Trod enc Try.prog w base (fun _ => true) held 37 v d pl) : ∃ p : Par, v = .agg p.vals ∧ p.Fits := by
  obtain ⟨fs, hfs, hone, hty⟩ := par_fields
  obtain ⟨cs, rfl, hsz0⟩ := okWide_struct hfs hv
  have hsz : cs.size = 24 := hsz0.trans par_cells
  obtain ⟨fuel, hf⟩ := h
  obtain ⟨ys, n2, hn2, hy, hlen, hyl, hfd⟩ := DataW.trod_struct hfs hf
  have hfl : fs.size = 24 := by have := congrArg Array.size hty; simpa using this
  have hfield : ∀ (j : Nat) (hj : j < 24) (ty : TypeId), (fs.map (·.type))[j]? = some ty → ∃ y, DataW.trod enc Try.prog w base (fun _ => true) held n2 ty [cs[j]] = some y := by
    intro j hj ty hjt
    rw [Array.getElem?_map] at hjt
    obtain ⟨f, hjf, rfl⟩ := Option.map_eq_some_iff.1 hjt
    obtain ⟨ho, hk⟩ := hone_of hone j f hjf
    have h1 := hfd j f hjf
    have hjc : j < (Value.agg cs).cells.toList.length := by simp [Value.cells]; omega
    rw [ho, hk, List.drop_eq_getElem_cons hjc, List.getElem?_eq_getElem (by omega)] at h1
    exact ⟨_, by simpa [Value.cells] using h1⟩
  have hw : ∀ (j : Nat) (hj : j < 24), (fs.map (·.type))[j]? = some 35 → ∃ n : Nat, cs[j] = .int .u64 (n : Int) ∧ n < 18446744073709551616 := by
    intro j hj hjt
    obtain ⟨y, hy⟩ := hfield j hj _ hjt
    obtain ⟨z, q, _, u⟩ := DataW.trod_int Try.underlying35 hy
    simp only [List.cons.injEq, and_true] at q
    have b := u64_fits u
    exact ⟨z.toNat, by rw [q, Int.toNat_of_nonneg b.1], by omega⟩
  have hi : ∀ (j : Nat) (hj : j < 24), (fs.map (·.type))[j]? = some 3 → ∃ n : Int, cs[j] = .int .i64 n ∧ -9223372036854775808 ≤ n ∧ n ≤ 9223372036854775807 := by
    intro j hj hjt
    obtain ⟨y, hy⟩ := hfield j hj _ hjt
    obtain ⟨z, q, _, u⟩ := DataW.trod_int Try.underlying3 hy
    simp only [List.cons.injEq, and_true] at q
    have b := i64_bounds u
    exact ⟨z, q, b.1, b.2⟩
  rw [hty] at hw hi
  obtain ⟨n0, e0, l0⟩ := hw 0 (by omega) rfl
  obtain ⟨n1, e1, l1⟩ := hw 1 (by omega) rfl
  obtain ⟨n2, e2, l2⟩ := hw 2 (by omega) rfl
  obtain ⟨n3, e3, l3⟩ := hw 3 (by omega) rfl
  obtain ⟨n4, e4, l4⟩ := hw 4 (by omega) rfl
  obtain ⟨n5, e5, l5⟩ := hw 5 (by omega) rfl
  obtain ⟨n6, e6, l6⟩ := hw 6 (by omega) rfl
  obtain ⟨n7, e7, l7⟩ := hw 7 (by omega) rfl
  obtain ⟨n8, e8, l8⟩ := hw 8 (by omega) rfl
  obtain ⟨n9, e9, l9⟩ := hw 9 (by omega) rfl
  obtain ⟨n10, e10, l10⟩ := hw 10 (by omega) rfl
  obtain ⟨n11, e11, l11⟩ := hw 11 (by omega) rfl
  obtain ⟨n12, e12, l12⟩ := hw 12 (by omega) rfl
  obtain ⟨n13, e13, l13⟩ := hw 13 (by omega) rfl
  obtain ⟨n14, e14, l14⟩ := hi 14 (by omega) rfl
  obtain ⟨n15, e15, l15⟩ := hi 15 (by omega) rfl
  obtain ⟨n16, e16, l16⟩ := hi 16 (by omega) rfl
  obtain ⟨n17, e17, l17⟩ := hi 17 (by omega) rfl
  obtain ⟨n18, e18, l18⟩ := hi 18 (by omega) rfl
  obtain ⟨n19, e19, l19⟩ := hi 19 (by omega) rfl
  obtain ⟨n20, e20, l20⟩ := hi 20 (by omega) rfl
  obtain ⟨n21, e21, l21⟩ := hi 21 (by omega) rfl
  obtain ⟨n22, e22, l22⟩ := hi 22 (by omega) rfl
  obtain ⟨n23, e23, l23⟩ := hi 23 (by omega) rfl
  refine ⟨⟨n0, n1, n2, n3, n4, n5, n6, n7, n8, n9, n10, n11, n12, n13, n14, n15, n16, n17, n18, n19, n20, n21, n22, n23⟩, ?_, ⟨?_, ?_⟩⟩
  · rw [array24 hsz, e0, e1, e2, e3, e4, e5, e6, e7, e8, e9, e10, e11, e12, e13, e14, e15, e16, e17, e18, e19, e20, e21, e22, e23]
    rfl
  · intro x hx
    simp only [Par.us, List.mem_cons, List.mem_nil_iff, or_false] at hx
    rcases hx with rfl | rfl | rfl | rfl | rfl | rfl | rfl | rfl | rfl | rfl | rfl | rfl | rfl | rfl <;> assumption
  · intro x hx
    simp only [Par.is, List.mem_cons, List.mem_nil_iff, or_false] at hx
    rcases hx with rfl | rfl | rfl | rfl | rfl | rfl | rfl | rfl | rfl | rfl <;> assumption
end Go.Proofs.Ytokaclacejhppaa
namespace Go.Proofs.Ytokaclacejhppaa
open Go.ChangeShapes Go.WideShapes Go.ChangeAt Go.RowKit Go.Deep
set_option linter.unusedVariables false
set_option linter.unusedSimpArgs false

theorem i64_fits {a : Int} (h : (Lit.int .i64 a).wf = true) : -9223372036854775808 ≤ a ∧ a ≤ 9223372036854775807 := by
  simp only [Lit.wf, Bool.and_eq_true, decide_eq_true_eq] at h
  have e0 : IntKind.i64.min = -9223372036854775808 := by decide
  have e1 : IntKind.i64.max = 9223372036854775807 := by decide
  rw [e0, e1] at h
  exact h

section
variable {H : Type} {enc : TypeId × Value → H} {P : Program}
theorem u8_fits {a : Int} (h : (Lit.int .u8 a).wf = true) : 0 ≤ a ∧ a ≤ 255 := by
  simp only [Lit.wf, Bool.and_eq_true, decide_eq_true_eq] at h
  have e0 : IntKind.u8.min = 0 := by decide
  have e1 : IntKind.u8.max = 255 := by decide
  rw [e0, e1] at h
  exact h

/-- A list of bytes that comes in: its numbers, and where they lie. -/
theorem open_u8s {w : World} {base : Nat} {held : Bool} {t e : TypeId} {A : Option Addr} {n c : Nat} {d : DataW H} {p : List MemPlace} (ht : P.underlying t = some (.slice e)) (he : P.underlying e = some (.int .u8)) (hC : P.cellsOf e = 1)
    (h : DataW.Trod enc P w base (fun _ => true) held t (.slice A n c) d p) :
    ∃ ns : List Nat, n = ns.length ∧ (∀ x ∈ ns, x < 256) ∧ ns.length ≤ c ∧ c ≤ maxLen ∧ Row w w.heap.size A (ns.map fun (x : Nat) => Value.int .u8 (x : Int)) ∧ (A = none → c = 0) := by
  obtain ⟨fuel, hf⟩ := h
  rcases open_ints ht he hC hf with ⟨hcs, hx⟩ | ⟨a, len, cap, zs, hcs, _, hl, hm, hz, hx, hcell, hwz⟩
  · simp [Value.cells] at hcs
    obtain ⟨rfl, rfl, rfl⟩ := hcs
    exact ⟨[], rfl, by simp, Nat.le_refl _, Nat.zero_le _, Row.nil _ _ _, fun _ => rfl⟩
  · simp [Value.cells] at hcs
    obtain ⟨rfl, rfl, rfl⟩ := hcs
    simp only [if_true] at hz
    have hfit : ∀ z ∈ zs, ∃ x : Nat, z = (x : Int) ∧ x < 256 := fun z hz' => by
      have := u8_fits (hwz z hz')
      exact ⟨z.toNat, by omega, by omega⟩
    refine ⟨(zs.take n).map Int.toNat, by simp [hz]; omega, ?_, by simp [hz]; omega, hm, ?_, fun e => by cases e⟩
    · intro x hx'
      obtain ⟨z, hz', rfl⟩ := List.mem_map.1 hx'
      obtain ⟨y, rfl, hy⟩ := hfit z (List.mem_of_mem_take hz')
      simpa using hy
    · intro k v hv
      simp only [List.map_map, List.getElem?_map, Option.map_eq_some_iff] at hv
      obtain ⟨z, hz', rfl⟩ := hv
      rw [List.getElem?_take] at hz'
      by_cases hk : k < n
      · rw [if_pos hk] at hz'
        have hkl : k < zs.length := by omega
        have hc := hcell k hkl
        obtain ⟨y, rfl, hy⟩ := hfit z (List.mem_of_getElem? hz')
        have hg : zs.getD k 0 = (y : Int) := by simp [List.getD, hz']
        rw [hg] at hc
        refine ⟨a, rfl, ?_, by simpa using hc⟩
        have := World.block_lt_of_cell? w _ hc
        rwa [addr_block] at this
      · rw [if_neg hk] at hz'; cases hz'

/-- Bytes that come in, in a cell: which they are, and where they lie. -/
theorem open_u8cell {w : World} {base fuel : Nat} {held : Bool} {t e : TypeId} {v : Value} {x : DataW H × List MemPlace} (ht : P.underlying t = some (.slice e)) (he : P.underlying e = some (.int .u8)) (hC : P.cellsOf e = 1)
    (hf : DataW.trod enc P w base (fun _ => true) held fuel t [v] = some x) :
    ∃ (A : Option Addr) (ns : List Nat) (c : Nat), v = .slice A ns.length c ∧ (∀ x ∈ ns, x < 256) ∧ ns.length ≤ c ∧ c ≤ maxLen ∧ Row w w.heap.size A (ns.map fun (x : Nat) => Value.int .u8 (x : Int)) ∧ (A = none → c = 0) := by
  rcases open_ints ht he hC hf with ⟨hcs, hx⟩ | ⟨a, len, cap, zs, hcs, _, hl, hm, hz, hx, hcell, hwz⟩
  · simp at hcs
    subst hcs
    exact ⟨none, [], 0, rfl, by simp, Nat.le_refl _, Nat.zero_le _, Row.nil _ _ _, fun _ => rfl⟩
  · simp at hcs
    subst hcs
    have hT : DataW.Trod enc P w base (fun _ => true) held t (.slice (some a) len cap) x.1 x.2 := ⟨fuel, by simpa [Value.cells] using hf⟩
    obtain ⟨ns, hn, h1, h2, h3, h4, h5⟩ := open_u8s ht he hC hT
    subst hn
    exact ⟨some a, ns, cap, rfl, h1, h2, h3, h4, h5⟩
end

end Go.Proofs.Ytokaclacejhppaa
namespace Go.Proofs.Ytokaclacejhppaa
open Go.RowKit
set_option linter.unusedVariables false
set_option linter.unusedSimpArgs false

theorem rdeed_size : (Try.prog.info? 60).map (·.size) = some 34 := by kernel_rfl
theorem zero_rdeed (V : World) : (zeroValue 60).run Try.prog V = .ok (.agg (Dd.none.vals none 0)) V := by
  have h : (Try.prog.info? 60).map (fun i => i.zero) = some (some (.agg (Dd.none.vals none 0))) := by kernel_rfl
  cases hq : Try.prog.info? 60 with
  | none => simp [hq] at h
  | some i =>
    simp [hq] at h
    simp [zeroValue, typeInfo, Sem.run_bind, hq, h]
section
variable {ops : Array Oper} {rest : List Oper} {o : Oper} {a : Act} {w : World} {Q : Exit → Act → World → Prop}
theorem load_rpars (x : Operand) (ho : o.op = .load 58 x) (hgd : Region.wanted o (yielded ops a.tmps) = true) (g : Nat) (d : Dd) (A : Option Addr) (c : Nat) (T : TypeId) (hx : a.eval x = .pointer (some ⟨g, 8, none⟩)) (hD : DeedAt w g d A c T)
    (h : wpList Try.prog ops Q rest (a.put o.dst (.agg d.par.vals)) w) : wpList Try.prog ops Q (o :: rest) a w :=
  wpList_step fun K hK => by
    rw [if_pos hgd]
    refine wp_load_mid 58 x ho g 8 hx d.par.vals.toList _ hD.pars Try.underlying58 rfl (by rw [Array.length_toList, vals_size]; kernel_rfl) ?_
    rw [Array.toArray_toList]
    exact hK _ _ h
theorem store_rdeed (x y : Operand) (ho : o.op = .store 60 x y) (hgd : Region.wanted o (yielded ops a.tmps) = true) (g : Nat) (d old : Dd) (A B : Option Addr) (c e : Nat) (T : TypeId) (hx : a.eval x = .pointer (some ⟨g, 0, none⟩)) (hy : a.eval y = .agg (d.vals A c)) (hD : DeedAt w g old B e T)
    (h : wpList Try.prog ops Q rest (a.put o.dst undef) (w.setRow g (d.vals A c))) : wpList Try.prog ops Q (o :: rest) a w :=
  wpList_step fun K hK => by
    rw [if_pos hgd]
    exact wp_store_row 60 x y ho g (d.vals A c) hx hy T (old.vals B e) hD rdeed_size rfl (dvals_one d A c) (hK _ _ h)
theorem build_rdeed (parts : Array (Nat × Operand)) (ho : o.op = .build 60 parts) (hgd : Region.wanted o (yielded ops a.tmps) = true) (d : Dd) (A : Option Addr) (c : Nat) (hb : Try.prog.built 60 (parts.map fun (i, x) => (i, a.eval x)).toList = some (d.vals A c))
    (h : wpList Try.prog ops Q rest (a.put o.dst (.agg (d.vals A c))) w) : wpList Try.prog ops Q (o :: rest) a w :=
  wpList_step fun K hK => by
    rw [if_pos hgd]
    refine wp_build 60 parts ho (by rw [hb]; rfl) ?_
    rw [hb]
    exact hK _ _ h
end
theorem load_rdeed {ops : Array Oper} {rest : List Oper} {o : Oper} {a : Act} {w : World} {Q : Exit → Act → World → Prop} (x : Operand) (ho : o.op = .load 60 x) (hgd : Region.wanted o (yielded ops a.tmps) = true) (g : Nat) (d : Dd) (A : Option Addr) (c : Nat) (T : TypeId) (hx : a.eval x = .pointer (some ⟨g, 0, none⟩)) (hD : DeedAt w g d A c T)
    (h : wpList Try.prog ops Q rest (a.put o.dst (.agg (d.vals A c))) w) : wpList Try.prog ops Q (o :: rest) a w :=
  wpList_step fun K hK => by
    rw [if_pos hgd]
    exact wp_load_row 60 x ho g hx T (d.vals A c) (0, 0) _ hD Try.underlying60 rfl rdeed_size (hK _ _ h)
theorem res_rdeed {fn : Func} {s : Nat} {T : TypeId} {d : Dd} {A : Option Addr} {c g : Nat} {tmps : Array Value} {w : World} (h : fn.results = #[.cell s 60]) (hp : tmps.getD s undef = .pointer (some ⟨g, 0, none⟩)) (hD : DeedAt w g d A c T) : (results fn tmps).run Try.prog w = .ok (.agg (d.vals A c)) w :=
  results_cell_row h tmps w g T (d.vals A c) (0, 0) _ hp hD Try.underlying60 rfl rdeed_size

/-- The pieces of a deed, put together. -/
theorem built_rdeed (d : Dd) (A : Option Addr) (c : Nat) : Try.prog.built 60 [(0, .int .i64 d.kind), (1, .int .i64 d.account), (2, .int .i64 d.member), (3, .int .i64 d.dest), (4, .int .u64 (d.amount : Int)), (5, .int .i64 d.epoch), (6, .slice A d.bits.length c), (7, .int .i64 d.what), (8, .agg d.par.vals), (9, .int .i64 d.motion), (10, .bool d.yes)] = some (d.vals A c) := by kernel_rfl

set_option maxRecDepth 100000 in
set_option maxHeartbeats 2000000 in
theorem dplain_is (d : Dd) (A : Option Addr) (c : Nat) (w : World) :
    Calls Try.prog 19 #[.agg (d.vals A c)] w fun e w' => e = .returned (.agg (d.vals A c)) ∧ Below w.heap.size w w' := by
  have hz := zero_rdeed
  have hs : (w.alloc (.cells (d.vals A c) 39)).heap.size = w.heap.size + 1 := by simp
  have hD := (DeedAt.new w d A c 39).next ((Below.refl _ _).alloc (Nat.le_refl _) (.cells (Dd.none.vals none 0) 60))
  have hN := DeedAt.new (w.alloc (.cells (d.vals A c) 39)) Dd.none none 0 60
  rw [hs] at hN
  have hB : Below w.heap.size w ((w.alloc (.cells (d.vals A c) 39)).alloc (.cells (Dd.none.vals none 0) 60)) := ((Below.refl _ _).alloc (Nat.le_refl _) _).alloc (by simp) _
  obtain ⟨c0, c1, c2, c3, c4, c5, c6, c7, c32, c33⟩ := hD.cells
  go_enter Try.func19, Try.ntmps19
  go_wp2_with (first
    | (refine load_pars _ rfl rfl _ d A c _ rfl (by assumption) ?_)
    | (refine build_rdeed _ rfl rfl d A c (by kernel_rfl) ?_)
    | (refine store_rdeed _ _ rfl rfl _ d Dd.none A none c 0 _ rfl rfl hN ?_))
  refine bodyPost_ret (res_rdeed Try.results19 rfl (DeedAt.set hN)) rfl ⟨rfl, below_setRow hB (Nat.le_succ _) _⟩

set_option maxRecDepth 100000 in
set_option maxHeartbeats 4000000 in
theorem dsame_is (d : Dd) (S S' : Nat → Prop) (A A' : Option Addr) (c c' : Nat) (w : World) (hx : Lies w S A d.bits) (hx' : Lies w S' A' d.bits) (hl : d.bits.length ≤ maxLen) :
    Calls Try.prog 26 #[.agg (d.vals A c), .agg (d.vals A' c')] w fun e w' => e = .returned (.bool true) ∧ Below w.heap.size w w' := by
  have hs : (w.alloc (.cells (d.vals A c) 60)).heap.size = w.heap.size + 1 := by simp
  have hD := (DeedAt.new w d A c 60).next ((Below.refl _ _).alloc (Nat.le_refl _) (.cells (d.vals A' c') 60))
  have hN := DeedAt.new (w.alloc (.cells (d.vals A c) 60)) d A' c' 60
  rw [hs] at hN
  have hB : Below w.heap.size w ((w.alloc (.cells (d.vals A c) 60)).alloc (.cells (d.vals A' c') 60)) := ((Below.refl _ _).alloc (Nat.le_refl _) _).alloc (by simp) _
  have ks := fun w hr hr' => same_true d.bits S S' A A' c c' w hr hr' hl
  have x1 := hx.grown (grown_below hB none) (by simp)
  have x2 := hx'.grown (grown_below hB none) (by simp)
  obtain ⟨c0, c1, c2, c3, c4, c5, c6, c7, c32, c33⟩ := hD.cells
  obtain ⟨b0, b1, b2, b3, b4, b5, b6, b7, b32, b33⟩ := hN.cells
  clear hx hx' hl hs
  go_enter Try.func26, Try.ntmps26
  go_wp2_with (first
    | (refine load_rpars _ rfl rfl w.heap.size d A c _ rfl (by assumption) ?_)
    | (refine load_rpars _ rfl rfl (w.heap.size + 1) d A' c' _ rfl (by assumption) ?_)
    | (refine op_eqr _ _ _ rfl rfl d.par rfl rfl ?_)
    | (go_at_call 10; refine (ks _ x1 x2).mono ?_; clear ks; rintro e w1 ⟨rfl, hb1⟩; have hD1 := hD.next hb1; have hN1 := hN.next hb1; have hB1 := Below.then hB hb1; clear c0 c1 c2 c3 c4 c5 c6 c7 c32 c33 b0 b1 b2 b3 b4 b5 b6 b7 b32 b33; obtain ⟨c0, c1, c2, c3, c4, c5, c6, c7, c32, c33⟩ := hD1.cells; obtain ⟨b0, b1, b2, b3, b4, b5, b6, b7, b32, b33⟩ := hN1.cells))
  go_ret
  exact ⟨rfl, hB1⟩
end Go.Proofs.Ytokaclacejhppaa
namespace Go.Proofs.Ytokaclacejhppaa
open Go.ChangeShapes Go.WideShapes Go.ChangeAt Go.RowKit Go.Deep
set_option linter.unusedVariables false

theorem deed_fields : ∃ fs : Array Field, Try.prog.underlying 39 = some (.struct fs) ∧ fs.map (fun f => (f.type, f.offset, Try.prog.cellsOf f.type)) = #[(3, 0, 1), (3, 1, 1), (3, 2, 1), (3, 3, 1), (35, 4, 1), (3, 5, 1), (25, 6, 1), (3, 7, 1), (37, 8, 24), (3, 32, 1), (4, 33, 1)] := ⟨_, Try.underlying39, by kernel_rfl⟩
theorem deed_cells : Try.prog.cellsOf 39 = 34 := by kernel_rfl

/-- Parameters in the midst of others. -/
theorem par_cells_open {H : Type} {enc : TypeId × Value → H} {w : World} {base : Nat} {held : Bool} {fuel : Nat} {cs : List Value} {x : DataW H × List MemPlace}
    (hsz0 : cs.length = 24) (hf : DataW.trod enc Try.prog w base (fun _ => true) held fuel 37 cs = some x) : ∃ p : Par, cs = p.vals.toList ∧ p.Fits := by
  obtain ⟨fs, hfs, hone, hty⟩ := par_fields
  obtain ⟨ys, nf, hn2, hy, hlen, hyl, hfd⟩ := DataW.trod_struct hfs hf
  have hfl : fs.size = 24 := by have := congrArg Array.size hty; simpa using this
  have hfield : ∀ (j : Nat) (hj : j < 24) (ty : TypeId), (fs.map (·.type))[j]? = some ty → ∃ y, DataW.trod enc Try.prog w base (fun _ => true) held nf ty [cs[j]] = some y := by
    intro j hj ty hjt
    rw [Array.getElem?_map] at hjt
    obtain ⟨f, hjf, rfl⟩ := Option.map_eq_some_iff.1 hjt
    obtain ⟨ho, hk⟩ := hone_of hone j f hjf
    have h1 := hfd j f hjf
    rw [ho, hk, List.drop_eq_getElem_cons (by omega), List.getElem?_eq_getElem (by omega)] at h1
    simp only [List.take_succ_cons, List.take_zero] at h1
    exact ⟨_, h1⟩
  have hw : ∀ (j : Nat) (hj : j < 24), (fs.map (·.type))[j]? = some 35 → ∃ n : Nat, cs[j] = .int .u64 (n : Int) ∧ n < 18446744073709551616 := by
    intro j hj hjt
    obtain ⟨y, hy⟩ := hfield j hj _ hjt
    obtain ⟨z, q, _, u⟩ := DataW.trod_int Try.underlying35 hy
    simp only [List.cons.injEq, and_true] at q
    have b := u64_fits u
    exact ⟨z.toNat, by rw [q, Int.toNat_of_nonneg b.1], by omega⟩
  have hi : ∀ (j : Nat) (hj : j < 24), (fs.map (·.type))[j]? = some 3 → ∃ n : Int, cs[j] = .int .i64 n ∧ -9223372036854775808 ≤ n ∧ n ≤ 9223372036854775807 := by
    intro j hj hjt
    obtain ⟨y, hy⟩ := hfield j hj _ hjt
    obtain ⟨z, q, _, u⟩ := DataW.trod_int Try.underlying3 hy
    simp only [List.cons.injEq, and_true] at q
    have b := i64_bounds u
    exact ⟨z, q, b.1, b.2⟩
  rw [hty] at hw hi
  obtain ⟨n0, e0, l0⟩ := hw 0 (by omega) rfl
  obtain ⟨n1, e1, l1⟩ := hw 1 (by omega) rfl
  obtain ⟨n2, e2, l2⟩ := hw 2 (by omega) rfl
  obtain ⟨n3, e3, l3⟩ := hw 3 (by omega) rfl
  obtain ⟨n4, e4, l4⟩ := hw 4 (by omega) rfl
  obtain ⟨n5, e5, l5⟩ := hw 5 (by omega) rfl
  obtain ⟨n6, e6, l6⟩ := hw 6 (by omega) rfl
  obtain ⟨n7, e7, l7⟩ := hw 7 (by omega) rfl
  obtain ⟨n8, e8, l8⟩ := hw 8 (by omega) rfl
  obtain ⟨n9, e9, l9⟩ := hw 9 (by omega) rfl
  obtain ⟨n10, e10, l10⟩ := hw 10 (by omega) rfl
  obtain ⟨n11, e11, l11⟩ := hw 11 (by omega) rfl
  obtain ⟨n12, e12, l12⟩ := hw 12 (by omega) rfl
  obtain ⟨n13, e13, l13⟩ := hw 13 (by omega) rfl
  obtain ⟨n14, e14, l14⟩ := hi 14 (by omega) rfl
  obtain ⟨n15, e15, l15⟩ := hi 15 (by omega) rfl
  obtain ⟨n16, e16, l16⟩ := hi 16 (by omega) rfl
  obtain ⟨n17, e17, l17⟩ := hi 17 (by omega) rfl
  obtain ⟨n18, e18, l18⟩ := hi 18 (by omega) rfl
  obtain ⟨n19, e19, l19⟩ := hi 19 (by omega) rfl
  obtain ⟨n20, e20, l20⟩ := hi 20 (by omega) rfl
  obtain ⟨n21, e21, l21⟩ := hi 21 (by omega) rfl
  obtain ⟨n22, e22, l22⟩ := hi 22 (by omega) rfl
  obtain ⟨n23, e23, l23⟩ := hi 23 (by omega) rfl
  refine ⟨⟨n0, n1, n2, n3, n4, n5, n6, n7, n8, n9, n10, n11, n12, n13, n14, n15, n16, n17, n18, n19, n20, n21, n22, n23⟩, ?_, ⟨?_, ?_⟩⟩
  · have e := congrArg Array.toList (array24 (cs := cs.toArray) (by simpa using hsz0))
    simp only [List.getElem_toArray] at e
    rw [e, e0, e1, e2, e3, e4, e5, e6, e7, e8, e9, e10, e11, e12, e13, e14, e15, e16, e17, e18, e19, e20, e21, e22, e23]
    rfl
  · intro x hx
    simp only [Par.us, List.mem_cons, List.mem_nil_iff, or_false] at hx
    rcases hx with rfl | rfl | rfl | rfl | rfl | rfl | rfl | rfl | rfl | rfl | rfl | rfl | rfl | rfl <;> assumption
  · intro x hx
    simp only [Par.is, List.mem_cons, List.mem_nil_iff, or_false] at hx
    rcases hx with rfl | rfl | rfl | rfl | rfl | rfl | rfl | rfl | rfl | rfl <;> assumption

set_option maxRecDepth 100000 in
/-- The cells of a deed. -/
theorem deed_cells_open {H : Type} {enc : TypeId × Value → H} {w : World} {base : Nat} {held : Bool} {fuel : Nat} {cs : Array Value} {x : DataW H × List MemPlace}
    (hsz : cs.size = 34) (hf : DataW.trod enc Try.prog w base (fun _ => true) held fuel 39 cs.toList = some x) :
    ∃ (d : Dd) (A : Option Addr) (c : Nat), cs = d.vals A c ∧ d.Fits ∧ d.bits.length ≤ c ∧ c ≤ maxLen ∧ Lies w (· < w.heap.size) A d.bits ∧ (A = none → c = 0) := by
  obtain ⟨fs, hfs, hty⟩ := deed_fields
  obtain ⟨ys, n2, hn2, hy, hlen, hyl, hfd⟩ := DataW.trod_struct hfs hf
  have hfield : ∀ (j : Nat) (ty : TypeId) (off k : Nat), (fs.map (fun f => (f.type, f.offset, Try.prog.cellsOf f.type)))[j]? = some (ty, off, k) → ∃ y, DataW.trod enc Try.prog w base (fun _ => true) held n2 ty ((cs.toList.drop off).take k) = some y := by
    intro j ty off k hjt
    rw [Array.getElem?_map] at hjt
    obtain ⟨f, hjf, he⟩ := Option.map_eq_some_iff.1 hjt
    simp only [Prod.mk.injEq] at he
    obtain ⟨rfl, rfl, rfl⟩ := he
    have hjl : j < ys.length := by rw [hyl]; exact (Array.getElem?_eq_some_iff.1 hjf).1
    have h1 := hfd j f hjf
    rw [List.getElem?_eq_getElem hjl] at h1
    exact ⟨_, by simpa [Value.cells] using h1⟩
  rw [hty] at hfield
  have hone : ∀ (off : Nat) (ho : off < 34), (cs.toList.drop off).take 1 = [cs[off]] := by
    intro off ho
    rw [List.drop_eq_getElem_cons (by simpa using (by omega : off < cs.size))]
    simp
  have hi : ∀ (j : Nat) (off : Nat) (ho : off < 34), (#[(3, 0, 1), (3, 1, 1), (3, 2, 1), (3, 3, 1), (35, 4, 1), (3, 5, 1), (25, 6, 1), (3, 7, 1), (37, 8, 24), (3, 32, 1), (4, 33, 1)] : Array (TypeId × Nat × Nat))[j]? = some (3, off, 1) → ∃ n : Int, cs[off] = .int .i64 n ∧ -9223372036854775808 ≤ n ∧ n ≤ 9223372036854775807 := by
    intro j off ho hjt
    obtain ⟨y, hy⟩ := hfield j _ _ _ hjt
    rw [hone off ho] at hy
    obtain ⟨z, q, _, u⟩ := DataW.trod_int Try.underlying3 hy
    simp only [List.cons.injEq, and_true] at q
    have b := i64_bounds u
    exact ⟨z, q, b.1, b.2⟩
  obtain ⟨z0, e0, l0⟩ := hi 0 0 (by omega) rfl
  obtain ⟨z1, e1, l1⟩ := hi 1 1 (by omega) rfl
  obtain ⟨z2, e2, l2⟩ := hi 2 2 (by omega) rfl
  obtain ⟨z3, e3, l3⟩ := hi 3 3 (by omega) rfl
  obtain ⟨z5, e5, l5⟩ := hi 5 5 (by omega) rfl
  obtain ⟨z7, e7, l7⟩ := hi 7 7 (by omega) rfl
  obtain ⟨z32, e32, l32⟩ := hi 9 32 (by omega) rfl
  obtain ⟨n4, e4, l4⟩ : ∃ n : Nat, cs[4] = .int .u64 (n : Int) ∧ n < 18446744073709551616 := by
    obtain ⟨y, hy⟩ := hfield 4 _ _ _ rfl
    rw [hone 4 (by omega)] at hy
    obtain ⟨z, q, _, u⟩ := DataW.trod_int Try.underlying35 hy
    simp only [List.cons.injEq, and_true] at q
    have b := u64_fits u
    exact ⟨z.toNat, by rw [q, Int.toNat_of_nonneg b.1], by omega⟩
  obtain ⟨b33, e33⟩ : ∃ b : Bool, cs[33] = .bool b := by
    obtain ⟨y, hy⟩ := hfield 10 _ _ _ rfl
    rw [hone 33 (by omega)] at hy
    obtain ⟨b, q, _⟩ := DataW.trod_bool Try.underlying4 hy
    simp only [List.cons.injEq, and_true] at q
    exact ⟨b, q⟩
  obtain ⟨p, ep, lp⟩ : ∃ p : Par, (cs.toList.drop 8).take 24 = p.vals.toList ∧ p.Fits := by
    obtain ⟨y, hy⟩ := hfield 8 _ _ _ rfl
    exact par_cells_open (by simp; omega) hy
  obtain ⟨A, xs, c, e6, hx, hc, hm, hr, hAc⟩ : ∃ (A : Option Addr) (xs : List Nat) (c : Nat), cs[6] = .slice A xs.length c ∧ (∀ x ∈ xs, x < 256) ∧ xs.length ≤ c ∧ c ≤ maxLen ∧ Row w w.heap.size A (u8s xs) ∧ (A = none → c = 0) := by
    obtain ⟨y, hy⟩ := hfield 6 _ _ _ rfl
    rw [hone 6 (by omega)] at hy
    obtain ⟨A, l, c, q⟩ := Joins.slice_form Try.underlying25 hy
    simp only [List.cons.injEq, and_true] at q
    rw [q] at hy
    obtain ⟨ns, rfl, h1, h2, h3, h4, h5⟩ := open_u8s Try.underlying25 Try.underlying5 (by kernel_rfl) ⟨n2, (by simpa [Value.cells] using hy : DataW.trod enc Try.prog w base (fun _ => true) held n2 25 (Value.slice A l c).cells.toList = some (y.1, y.2))⟩
    exact ⟨A, ns, c, q, h1, h2, h3, h4, h5⟩
  refine ⟨⟨z0, z1, z2, z3, n4, z5, xs, z7, p, z32, b33⟩, A, c, ?_, ⟨?_, l4, hx, lp⟩, hc, hm, Lies.ofRow hr, hAc⟩
  · apply Array.ext_getElem?
    intro k
    have hat : ∀ (j : Nat) (hj : j < 34), cs[j]? = some cs[j] := fun j hj => Array.getElem?_eq_getElem (by omega)
    by_cases hk : 8 ≤ k ∧ k < 32
    · obtain ⟨j, rfl⟩ : ∃ j, k = 8 + j := ⟨k - 8, by omega⟩
      have hj : j < 24 := by omega
      have h1 := congrArg (fun l => l[j]?) ep
      simp only [List.getElem?_take, List.getElem?_drop, if_pos hj, Array.getElem?_toList] at h1
      rw [h1]
      clear hk h1
      match j, hj with
      | 0, _ | 1, _ | 2, _ | 3, _ | 4, _ | 5, _ | 6, _ | 7, _ | 8, _ | 9, _ | 10, _ | 11, _ | 12, _ | 13, _ | 14, _ | 15, _ | 16, _ | 17, _ | 18, _ | 19, _ | 20, _ | 21, _ | 22, _ | 23, _ => rfl
      | n + 24, hj => exact absurd hj (by omega)
    · by_cases hk2 : k < 34
      · have : k = 0 ∨ k = 1 ∨ k = 2 ∨ k = 3 ∨ k = 4 ∨ k = 5 ∨ k = 6 ∨ k = 7 ∨ k = 32 ∨ k = 33 := by omega
        rcases this with rfl | rfl | rfl | rfl | rfl | rfl | rfl | rfl | rfl | rfl
        · rw [hat 0 (by omega), e0]; rfl
        · rw [hat 1 (by omega), e1]; rfl
        · rw [hat 2 (by omega), e2]; rfl
        · rw [hat 3 (by omega), e3]; rfl
        · rw [hat 4 (by omega), e4]; rfl
        · rw [hat 5 (by omega), e5]; rfl
        · rw [hat 6 (by omega), e6]; rfl
        · rw [hat 7 (by omega), e7]; rfl
        · rw [hat 32 (by omega), e32]; rfl
        · rw [hat 33 (by omega), e33]; rfl
      · rw [Array.getElem?_eq_none (by omega), Array.getElem?_eq_none (by rw [dvals_size]; omega)]
  · intro x hx
    simp only [List.mem_cons, List.mem_nil_iff, or_false] at hx
    rcases hx with rfl | rfl | rfl | rfl | rfl | rfl | rfl <;> assumption
set_option maxRecDepth 100000 in
theorem open_deed {H : Type} {enc : TypeId × Value → H} {w : World} {base : Nat} {held : Bool} {r : Reach} {b0 : Nat} {v : Value} {d : DataW H} {pl : List MemPlace}
    (hv : Value.okWide Try.prog w r b0 39 v) (h : DataW.Trod enc Try.prog w base (fun _ => true) held 39 v d pl) :
    ∃ (d : Dd) (A : Option Addr) (c : Nat), v = .agg (d.vals A c) ∧ d.Fits ∧ d.bits.length ≤ c ∧ c ≤ maxLen ∧ Lies w (· < w.heap.size) A d.bits := by
  obtain ⟨fs, hfs, hty⟩ := deed_fields
  obtain ⟨cs, rfl, hsz0⟩ := okWide_struct hfs hv
  obtain ⟨fuel, hf⟩ := h
  obtain ⟨d, A, c, rfl, h1, h2, h3, h4, _⟩ := deed_cells_open (hsz0.trans deed_cells) hf
  exact ⟨d, A, c, rfl, h1, h2, h3, h4⟩
end Go.Proofs.Ytokaclacejhppaa
