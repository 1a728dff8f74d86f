/- From a walk to a row: where the call returns true and only memory of its own has turned, the law's row holds. · Parameters that come in with a law's arguments. · Bytes that come in with a law's arguments. -/
import Derived.Test.YtjgbpgdnmghcpaaCore
import Derived.OpenShut
import Derived.ChangeSlices
import Derived.ChangeSame
import Derived.Carry
import Derived.Test.YtjgbpgdnmghcpaaParA
import Derived.Deep.Fields
import Derived.Deep.Slices
import Derived.Lib.SmallJoins
import Derived.Test.YtjgbpgdnmghcpaaBytes
namespace Go.Proofs.Ytjgbpgdnmghcpaa
open Go.ChangeShapes Go.WideShapes Go.ChangeAt Go.RowKit
set_option linter.unusedVariables false

section
variable {H : Type} {enc : TypeId × Value → H} {P : Program}

theorem args_stay (hl : laidOutB P = true) {W W' : World} (hb : Below W.heap.size W W') :
    ∀ (ts : List TypeId) (vs : List Value) (ds : List (DataW H)) (ps : List MemPlace), DataW.TrodAll enc P W 0 (fun _ => true) true ts vs ds ps →
      (∀ t ∈ ts, P.readableRec t = true ∧ t < P.types.size) → (∀ x ∈ ps, x.block < W.heap.size) →
      DataW.TrodAll enc P W' 0 (fun b => decide (b < W.heap.size)) true ts vs ds ps
  | [], [], [], _, h, _, _ => h
  | t :: ts, v :: vs, d :: ds, ps, h, hr, hlt => by
    obtain ⟨p, q, h1, h2, rfl⟩ := h
    refine ⟨p, q, Below.trod hl (hr t List.mem_cons_self).1 (hr t List.mem_cons_self).2 h1 hb (fun x hx => hlt x (List.mem_append_left _ hx)), ?_, rfl⟩
    exact args_stay hl hb ts vs ds q h2 (fun u hu => hr u (List.mem_cons_of_mem _ hu)) (fun x hx => hlt x (List.mem_append_right _ hx))
  | [], [], _ :: _, _, h, _, _ => h.elim
  | [], _ :: _, _, _, h, _, _ => h.elim
  | _ :: _, [], _, _, h, _, _ => h.elim
  | _ :: _, _ :: _, [], _, h, _, _ => h.elim

/-- The row's last step, for a law over plain data. -/
theorem law_post {f : Func} {s : ChangeSpec} {tb : TypeId} {W W' : World} {args : Array Value} {ds gs : List (DataW H)} {before : List MemPlace}
    (hl : laidOutB P = true) (hts : (f.params.toList.all fun t => P.readableRec t && decide (t < P.types.size)) = true) (hv : s.vars = []) (hr : f.resultTypes = #[tb]) (htb : P.underlying tb = some .bool)
    (hs : s.fn H (ds ++ gs) = { results := [.lit (.bool true)], args := ds })
    (hW : DataW.Whole enc P f.params.toList s.vars false W args.toList ds gs before) (hb : Below W.heap.size W W') :
    s.post enc P f false true false false W args (.bool true) W' := by
  have hW0 := hW
  obtain ⟨p, q, hA, hV, rfl, hfz, hnd⟩ := hW
  have hlt : ∀ x ∈ p ++ q, x.block < W.heap.size := fun x hx => hW0.lt x hx
  rw [hv] at hV
  have hq : q = [] ∧ gs = [] := by
    cases gs with
    | nil => exact ⟨hV, rfl⟩
    | cons g gs => exact hV.elim
  obtain ⟨rfl, rfl⟩ := hq
  refine ⟨ds, [], p ++ [], [], p, [], hW0, ?_, ?_, ?_, ?_, fun h => by cases h⟩
  · rw [hs, hr]
    exact trodAll_mk1 (shut_bool htb _)
  · rw [hs]
    exact args_stay hl hb _ _ _ _ hA (fun t ht => by simpa using List.all_eq_true.1 hts t ht) (fun x hx => hlt x (List.mem_append_left _ hx))
  · rw [hs, hv]
    exact rfl
  · exact World.keptBut_mono (fun x hx => ⟨hx, Or.inr (Or.inl (by simpa using hx))⟩) (hb.frame _)

theorem u64_fits {a : Int} (h : (Lit.int .u64 a).wf = true) : 0 ≤ a ∧ a ≤ 18446744073709551615 := by
  simp only [Lit.wf, Bool.and_eq_true, decide_eq_true_eq] at h
  have e0 : IntKind.u64.min = 0 := by decide
  have e1 : IntKind.u64.max = 18446744073709551615 := by decide
  rw [e0, e1] at h
  exact h

theorem u32_fits {a : Int} (h : (Lit.int .u32 a).wf = true) : 0 ≤ a ∧ a ≤ 4294967295 := by
  simp only [Lit.wf, Bool.and_eq_true, decide_eq_true_eq] at h
  have e0 : IntKind.u32.min = 0 := by decide
  have e1 : IntKind.u32.max = 4294967295 := by decide
  rw [e0, e1] at h
  exact h

/-- A list of numbers of 64 bits that comes in: its numbers, and where they lie. -/
theorem open_u64s {w : World} {base : Nat} {held : Bool} {t e : TypeId} {A : Option Addr} {n c : Nat} {d : DataW H} {p : List MemPlace} (ht : P.underlying t = some (.slice e)) (he : P.underlying e = some (.int .u64)) (hC : P.cellsOf e = 1)
    (h : DataW.Trod enc P w base (fun _ => true) held t (.slice A n c) d p) :
    ∃ ns : List Nat, n = ns.length ∧ (∀ x ∈ ns, x ≤ 18446744073709551615) ∧ ns.length ≤ c ∧ c ≤ maxLen ∧ Row w w.heap.size A (ns.map fun (x : Nat) => Value.int .u64 (x : Int)) := by
  obtain ⟨fuel, hf⟩ := h
  rcases open_ints ht he hC hf with ⟨hcs, hx⟩ | ⟨a, len, cap, zs, hcs, _, hl, hm, hz, hx, hcell, hwz⟩
  · simp [Value.cells] at hcs
    obtain ⟨rfl, rfl, rfl⟩ := hcs
    exact ⟨[], rfl, by simp, Nat.le_refl _, Nat.zero_le _, Row.nil _ _ _⟩
  · simp [Value.cells] at hcs
    obtain ⟨rfl, rfl, rfl⟩ := hcs
    simp only [if_true] at hz
    have hfit : ∀ z ∈ zs, ∃ x : Nat, z = (x : Int) ∧ x ≤ 18446744073709551615 := fun z hz' => by
      have := u64_fits (hwz z hz')
      exact ⟨z.toNat, by omega, by omega⟩
    refine ⟨(zs.take n).map Int.toNat, by simp [hz]; omega, ?_, by simp [hz]; omega, hm, ?_⟩
    · intro x hx'
      obtain ⟨z, hz', rfl⟩ := List.mem_map.1 hx'
      obtain ⟨y, rfl, hy⟩ := hfit z (List.mem_of_mem_take hz')
      simpa using hy
    · intro k v hv
      simp only [List.map_map, List.getElem?_map, Option.map_eq_some_iff] at hv
      obtain ⟨z, hz', rfl⟩ := hv
      rw [List.getElem?_take] at hz'
      by_cases hk : k < n
      · rw [if_pos hk] at hz'
        have hkl : k < zs.length := by omega
        have hc := hcell k hkl
        obtain ⟨y, rfl, hy⟩ := hfit z (List.mem_of_getElem? hz')
        have hg : zs.getD k 0 = (y : Int) := by simp [List.getD, hz']
        rw [hg] at hc
        refine ⟨a, rfl, ?_, by simpa using hc⟩
        have := World.block_lt_of_cell? w _ hc
        rwa [addr_block] at this
      · rw [if_neg hk] at hz'; cases hz'
end
end Go.Proofs.Ytjgbpgdnmghcpaa
namespace Go.Proofs.Ytjgbpgdnmghcpaa
open Go.ChangeShapes Go.WideShapes Go.ChangeAt Go.RowKit Go.Deep
set_option linter.unusedVariables false

theorem par_fields : ∃ fs : Array Field, Try.prog.underlying 24 = some (.struct fs) ∧ oneCellFields Try.prog fs = true ∧ fs.map (·.type) = #[22, 22, 22, 22, 22, 22, 22, 22, 22, 22, 22, 22, 22, 22, 3, 3, 3, 3, 3, 3, 3, 3, 3, 3] := ⟨_, Try.underlying24, by kernel_rfl, by kernel_rfl⟩

theorem par_cells : Try.prog.cellsOf 24 = 24 := by kernel_rfl
theorem i64_bounds {a : Int} (h : (Lit.int .i64 a).wf = true) : -9223372036854775808 ≤ a ∧ a ≤ 9223372036854775807 := by
  simp only [Lit.wf, Bool.and_eq_true, decide_eq_true_eq] at h
  have e0 : IntKind.i64.min = -9223372036854775808 := by decide
  have e1 : IntKind.i64.max = 9223372036854775807 := by decide
  rw [e0, e1] at h
  exact h

theorem array24 {α : Type} {cs : Array α} (h : cs.size = 24) : cs = #[cs[0], cs[1], cs[2], cs[3], cs[4], cs[5], cs[6], cs[7], cs[8], cs[9], cs[10], cs[11], cs[12], cs[13], cs[14], cs[15], cs[16], cs[17], cs[18], cs[19], cs[20], cs[21], cs[22], cs[23]] := by
  apply Array.ext
  · simp [h]
  · intro i h1 h2
    rw [h] at h1
    match i, h1 with
    | 0, _ => rfl
    | 1, _ => rfl
    | 2, _ => rfl
    | 3, _ => rfl
    | 4, _ => rfl
    | 5, _ => rfl
    | 6, _ => rfl
    | 7, _ => rfl
    | 8, _ => rfl
    | 9, _ => rfl
    | 10, _ => rfl
    | 11, _ => rfl
    | 12, _ => rfl
    | 13, _ => rfl
    | 14, _ => rfl
    | 15, _ => rfl
    | 16, _ => rfl
    | 17, _ => rfl
    | 18, _ => rfl
    | 19, _ => rfl
    | 20, _ => rfl
    | 21, _ => rfl
    | 22, _ => rfl
    | 23, _ => rfl
    | k + 24, hk => omega

set_option maxRecDepth 100000 in
theorem open_par {H : Type} {enc : TypeId × Value → H} {w : World} {base : Nat} {held : Bool} {r : Reach} {b0 : Nat} {v : Value} {d : DataW H} {pl : List MemPlace}
    (hv : Value.okWide Try.prog w r b0 24 v) (h : DataW.Trod enc Try.prog w base (fun _ => true) held 24 v d pl) : ∃ p : Par, v = .agg p.vals ∧ p.Fits := by
  obtain ⟨fs, hfs, hone, hty⟩ := par_fields
  obtain ⟨cs, rfl, hsz0⟩ := okWide_struct hfs hv
  have hsz : cs.size = 24 := hsz0.trans par_cells
  obtain ⟨fuel, hf⟩ := h
  obtain ⟨ys, n2, hn2, hy, hlen, hyl, hfd⟩ := DataW.trod_struct hfs hf
  have hfl : fs.size = 24 := by have := congrArg Array.size hty; simpa using this
  have hfield : ∀ (j : Nat) (hj : j < 24) (ty : TypeId), (fs.map (·.type))[j]? = some ty → ∃ y, DataW.trod enc Try.prog w base (fun _ => true) held n2 ty [cs[j]] = some y := by
    intro j hj ty hjt
    rw [Array.getElem?_map] at hjt
    obtain ⟨f, hjf, rfl⟩ := Option.map_eq_some_iff.1 hjt
    obtain ⟨ho, hk⟩ := hone_of hone j f hjf
    have h1 := hfd j f hjf
    have hjc : j < (Value.agg cs).cells.toList.length := by simp [Value.cells]; omega
    rw [ho, hk, List.drop_eq_getElem_cons hjc, List.getElem?_eq_getElem (by omega)] at h1
    exact ⟨_, by simpa [Value.cells] using h1⟩
  have hw : ∀ (j : Nat) (hj : j < 24), (fs.map (·.type))[j]? = some 22 → ∃ n : Nat, cs[j] = .int .u64 (n : Int) ∧ n < 18446744073709551616 := by
    intro j hj hjt
    obtain ⟨y, hy⟩ := hfield j hj _ hjt
    obtain ⟨z, q, _, u⟩ := DataW.trod_int Try.underlying22 hy
    simp only [List.cons.injEq, and_true] at q
    have b := u64_fits u
    exact ⟨z.toNat, by rw [q, Int.toNat_of_nonneg b.1], by omega⟩
  have hi : ∀ (j : Nat) (hj : j < 24), (fs.map (·.type))[j]? = some 3 → ∃ n : Int, cs[j] = .int .i64 n ∧ -9223372036854775808 ≤ n ∧ n ≤ 9223372036854775807 := by
    intro j hj hjt
    obtain ⟨y, hy⟩ := hfield j hj _ hjt
    obtain ⟨z, q, _, u⟩ := DataW.trod_int Try.underlying3 hy
    simp only [List.cons.injEq, and_true] at q
    have b := i64_bounds u
    exact ⟨z, q, b.1, b.2⟩
  rw [hty] at hw hi
  obtain ⟨n0, e0, l0⟩ := hw 0 (by omega) rfl
  obtain ⟨n1, e1, l1⟩ := hw 1 (by omega) rfl
  obtain ⟨n2, e2, l2⟩ := hw 2 (by omega) rfl
  obtain ⟨n3, e3, l3⟩ := hw 3 (by omega) rfl
  obtain ⟨n4, e4, l4⟩ := hw 4 (by omega) rfl
  obtain ⟨n5, e5, l5⟩ := hw 5 (by omega) rfl
  obtain ⟨n6, e6, l6⟩ := hw 6 (by omega) rfl
  obtain ⟨n7, e7, l7⟩ := hw 7 (by omega) rfl
  obtain ⟨n8, e8, l8⟩ := hw 8 (by omega) rfl
  obtain ⟨n9, e9, l9⟩ := hw 9 (by omega) rfl
  obtain ⟨n10, e10, l10⟩ := hw 10 (by omega) rfl
  obtain ⟨n11, e11, l11⟩ := hw 11 (by omega) rfl
  obtain ⟨n12, e12, l12⟩ := hw 12 (by omega) rfl
  obtain ⟨n13, e13, l13⟩ := hw 13 (by omega) rfl
  obtain ⟨n14, e14, l14⟩ := hi 14 (by omega) rfl
  obtain ⟨n15, e15, l15⟩ := hi 15 (by omega) rfl
  obtain ⟨n16, e16, l16⟩ := hi 16 (by omega) rfl
  obtain ⟨n17, e17, l17⟩ := hi 17 (by omega) rfl
  obtain ⟨n18, e18, l18⟩ := hi 18 (by omega) rfl
  obtain ⟨n19, e19, l19⟩ := hi 19 (by omega) rfl
  obtain ⟨n20, e20, l20⟩ := hi 20 (by omega) rfl
  obtain ⟨n21, e21, l21⟩ := hi 21 (by omega) rfl
  obtain ⟨n22, e22, l22⟩ := hi 22 (by omega) rfl
  obtain ⟨n23, e23, l23⟩ := hi 23 (by omega) rfl
  refine ⟨⟨n0, n1, n2, n3, n4, n5, n6, n7, n8, n9, n10, n11, n12, n13, n14, n15, n16, n17, n18, n19, n20, n21, n22, n23⟩, ?_, ⟨?_, ?_⟩⟩
  · rw [array24 hsz, e0, e1, e2, e3, e4, e5, e6, e7, e8, e9, e10, e11, e12, e13, e14, e15, e16, e17, e18, e19, e20, e21, e22, e23]
    rfl
  · intro x hx
    simp only [Par.us, List.mem_cons, List.mem_nil_iff, or_false] at hx
    rcases hx with rfl | rfl | rfl | rfl | rfl | rfl | rfl | rfl | rfl | rfl | rfl | rfl | rfl | rfl <;> assumption
  · intro x hx
    simp only [Par.is, List.mem_cons, List.mem_nil_iff, or_false] at hx
    rcases hx with rfl | rfl | rfl | rfl | rfl | rfl | rfl | rfl | rfl | rfl <;> assumption
end Go.Proofs.Ytjgbpgdnmghcpaa
namespace Go.Proofs.Ytjgbpgdnmghcpaa
open Go.ChangeShapes Go.WideShapes Go.ChangeAt Go.RowKit Go.Deep
set_option linter.unusedVariables false
set_option linter.unusedSimpArgs false

theorem i64_fits {a : Int} (h : (Lit.int .i64 a).wf = true) : -9223372036854775808 ≤ a ∧ a ≤ 9223372036854775807 := by
  simp only [Lit.wf, Bool.and_eq_true, decide_eq_true_eq] at h
  have e0 : IntKind.i64.min = -9223372036854775808 := by decide
  have e1 : IntKind.i64.max = 9223372036854775807 := by decide
  rw [e0, e1] at h
  exact h

section
variable {H : Type} {enc : TypeId × Value → H} {P : Program}
theorem u8_fits {a : Int} (h : (Lit.int .u8 a).wf = true) : 0 ≤ a ∧ a ≤ 255 := by
  simp only [Lit.wf, Bool.and_eq_true, decide_eq_true_eq] at h
  have e0 : IntKind.u8.min = 0 := by decide
  have e1 : IntKind.u8.max = 255 := by decide
  rw [e0, e1] at h
  exact h

/-- A list of bytes that comes in: its numbers, and where they lie. -/
theorem open_u8s {w : World} {base : Nat} {held : Bool} {t e : TypeId} {A : Option Addr} {n c : Nat} {d : DataW H} {p : List MemPlace} (ht : P.underlying t = some (.slice e)) (he : P.underlying e = some (.int .u8)) (hC : P.cellsOf e = 1)
    (h : DataW.Trod enc P w base (fun _ => true) held t (.slice A n c) d p) :
    ∃ ns : List Nat, n = ns.length ∧ (∀ x ∈ ns, x < 256) ∧ ns.length ≤ c ∧ c ≤ maxLen ∧ Row w w.heap.size A (ns.map fun (x : Nat) => Value.int .u8 (x : Int)) ∧ (A = none → c = 0) := by
  obtain ⟨fuel, hf⟩ := h
  rcases open_ints ht he hC hf with ⟨hcs, hx⟩ | ⟨a, len, cap, zs, hcs, _, hl, hm, hz, hx, hcell, hwz⟩
  · simp [Value.cells] at hcs
    obtain ⟨rfl, rfl, rfl⟩ := hcs
    exact ⟨[], rfl, by simp, Nat.le_refl _, Nat.zero_le _, Row.nil _ _ _, fun _ => rfl⟩
  · simp [Value.cells] at hcs
    obtain ⟨rfl, rfl, rfl⟩ := hcs
    simp only [if_true] at hz
    have hfit : ∀ z ∈ zs, ∃ x : Nat, z = (x : Int) ∧ x < 256 := fun z hz' => by
      have := u8_fits (hwz z hz')
      exact ⟨z.toNat, by omega, by omega⟩
    refine ⟨(zs.take n).map Int.toNat, by simp [hz]; omega, ?_, by simp [hz]; omega, hm, ?_, fun e => by cases e⟩
    · intro x hx'
      obtain ⟨z, hz', rfl⟩ := List.mem_map.1 hx'
      obtain ⟨y, rfl, hy⟩ := hfit z (List.mem_of_mem_take hz')
      simpa using hy
    · intro k v hv
      simp only [List.map_map, List.getElem?_map, Option.map_eq_some_iff] at hv
      obtain ⟨z, hz', rfl⟩ := hv
      rw [List.getElem?_take] at hz'
      by_cases hk : k < n
      · rw [if_pos hk] at hz'
        have hkl : k < zs.length := by omega
        have hc := hcell k hkl
        obtain ⟨y, rfl, hy⟩ := hfit z (List.mem_of_getElem? hz')
        have hg : zs.getD k 0 = (y : Int) := by simp [List.getD, hz']
        rw [hg] at hc
        refine ⟨a, rfl, ?_, by simpa using hc⟩
        have := World.block_lt_of_cell? w _ hc
        rwa [addr_block] at this
      · rw [if_neg hk] at hz'; cases hz'

/-- Bytes that come in, in a cell: which they are, and where they lie. -/
theorem open_u8cell {w : World} {base fuel : Nat} {held : Bool} {t e : TypeId} {v : Value} {x : DataW H × List MemPlace} (ht : P.underlying t = some (.slice e)) (he : P.underlying e = some (.int .u8)) (hC : P.cellsOf e = 1)
    (hf : DataW.trod enc P w base (fun _ => true) held fuel t [v] = some x) :
    ∃ (A : Option Addr) (ns : List Nat) (c : Nat), v = .slice A ns.length c ∧ (∀ x ∈ ns, x < 256) ∧ ns.length ≤ c ∧ c ≤ maxLen ∧ Row w w.heap.size A (ns.map fun (x : Nat) => Value.int .u8 (x : Int)) ∧ (A = none → c = 0) := by
  rcases open_ints ht he hC hf with ⟨hcs, hx⟩ | ⟨a, len, cap, zs, hcs, _, hl, hm, hz, hx, hcell, hwz⟩
  · simp at hcs
    subst hcs
    exact ⟨none, [], 0, rfl, by simp, Nat.le_refl _, Nat.zero_le _, Row.nil _ _ _, fun _ => rfl⟩
  · simp at hcs
    subst hcs
    have hT : DataW.Trod enc P w base (fun _ => true) held t (.slice (some a) len cap) x.1 x.2 := ⟨fuel, by simpa [Value.cells] using hf⟩
    obtain ⟨ns, hn, h1, h2, h3, h4, h5⟩ := open_u8s ht he hC hT
    subst hn
    exact ⟨some a, ns, cap, rfl, h1, h2, h3, h4, h5⟩
end

end Go.Proofs.Ytjgbpgdnmghcpaa
