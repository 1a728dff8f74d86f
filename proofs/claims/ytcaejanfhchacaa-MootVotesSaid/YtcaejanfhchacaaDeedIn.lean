/- Layer 8 (deed), the law's own: a deed as the document has it; two deeds held against each other. By contracts. · Deeds that come in with a law's arguments. -/
import Derived.Test.YtcaejanfhchacaaDeedA
import Derived.Test.YtcaejanfhchacaaBytesV
import Derived.Test.YtcaejanfhchacaaScoS
import Derived.Test.YtcaejanfhchacaaLawB
namespace Go.Proofs.Ytcaejanfhchacaa
open Go.RowKit
set_option linter.unusedVariables false
set_option linter.unusedSimpArgs false

theorem rdeed_size : (Try.prog.info? 57).map (·.size) = some 34 := by kernel_rfl
theorem zero_rdeed (V : World) : (zeroValue 57).run Try.prog V = .ok (.agg (Dd.none.vals none 0)) V := by
  have h : (Try.prog.info? 57).map (fun i => i.zero) = some (some (.agg (Dd.none.vals none 0))) := by kernel_rfl
  cases hq : Try.prog.info? 57 with
  | none => simp [hq] at h
  | some i =>
    simp [hq] at h
    simp [zeroValue, typeInfo, Sem.run_bind, hq, h]
section
variable {ops : Array Oper} {rest : List Oper} {o : Oper} {a : Act} {w : World} {Q : Exit → Act → World → Prop}
theorem load_rpars (x : Operand) (ho : o.op = .load 43 x) (hgd : Region.wanted o (yielded ops a.tmps) = true) (g : Nat) (d : Dd) (A : Option Addr) (c : Nat) (T : TypeId) (hx : a.eval x = .pointer (some ⟨g, 8, none⟩)) (hD : DeedAt w g d A c T)
    (h : wpList Try.prog ops Q rest (a.put o.dst (.agg d.par.vals)) w) : wpList Try.prog ops Q (o :: rest) a w :=
  wpList_step fun K hK => by
    rw [if_pos hgd]
    refine wp_load_mid 43 x ho g 8 hx d.par.vals.toList _ hD.pars Try.underlying43 rfl (by rw [Array.length_toList, vals_size]; kernel_rfl) ?_
    rw [Array.toArray_toList]
    exact hK _ _ h
theorem store_rdeed (x y : Operand) (ho : o.op = .store 57 x y) (hgd : Region.wanted o (yielded ops a.tmps) = true) (g : Nat) (d old : Dd) (A B : Option Addr) (c e : Nat) (T : TypeId) (hx : a.eval x = .pointer (some ⟨g, 0, none⟩)) (hy : a.eval y = .agg (d.vals A c)) (hD : DeedAt w g old B e T)
    (h : wpList Try.prog ops Q rest (a.put o.dst undef) (w.setRow g (d.vals A c))) : wpList Try.prog ops Q (o :: rest) a w :=
  wpList_step fun K hK => by
    rw [if_pos hgd]
    exact wp_store_row 57 x y ho g (d.vals A c) hx hy T (old.vals B e) hD rdeed_size rfl (dvals_one d A c) (hK _ _ h)
theorem build_rdeed (parts : Array (Nat × Operand)) (ho : o.op = .build 57 parts) (hgd : Region.wanted o (yielded ops a.tmps) = true) (d : Dd) (A : Option Addr) (c : Nat) (hb : Try.prog.built 57 (parts.map fun (i, x) => (i, a.eval x)).toList = some (d.vals A c))
    (h : wpList Try.prog ops Q rest (a.put o.dst (.agg (d.vals A c))) w) : wpList Try.prog ops Q (o :: rest) a w :=
  wpList_step fun K hK => by
    rw [if_pos hgd]
    refine wp_build 57 parts ho (by rw [hb]; rfl) ?_
    rw [hb]
    exact hK _ _ h
end
theorem load_rdeed {ops : Array Oper} {rest : List Oper} {o : Oper} {a : Act} {w : World} {Q : Exit → Act → World → Prop} (x : Operand) (ho : o.op = .load 57 x) (hgd : Region.wanted o (yielded ops a.tmps) = true) (g : Nat) (d : Dd) (A : Option Addr) (c : Nat) (T : TypeId) (hx : a.eval x = .pointer (some ⟨g, 0, none⟩)) (hD : DeedAt w g d A c T)
    (h : wpList Try.prog ops Q rest (a.put o.dst (.agg (d.vals A c))) w) : wpList Try.prog ops Q (o :: rest) a w :=
  wpList_step fun K hK => by
    rw [if_pos hgd]
    exact wp_load_row 57 x ho g hx T (d.vals A c) (0, 0) _ hD Try.underlying57 rfl rdeed_size (hK _ _ h)
theorem res_rdeed {fn : Func} {s : Nat} {T : TypeId} {d : Dd} {A : Option Addr} {c g : Nat} {tmps : Array Value} {w : World} (h : fn.results = #[.cell s 57]) (hp : tmps.getD s undef = .pointer (some ⟨g, 0, none⟩)) (hD : DeedAt w g d A c T) : (results fn tmps).run Try.prog w = .ok (.agg (d.vals A c)) w :=
  results_cell_row h tmps w g T (d.vals A c) (0, 0) _ hp hD Try.underlying57 rfl rdeed_size

set_option maxRecDepth 100000 in
set_option maxHeartbeats 2000000 in
theorem dplain_is (d : Dd) (A : Option Addr) (c : Nat) (w : World) :
    Calls Try.prog 18 #[.agg (d.vals A c)] w fun e w' => e = .returned (.agg (d.vals A c)) ∧ Below w.heap.size w w' := by
  have hz := zero_rdeed
  have hs : (w.alloc (.cells (d.vals A c) 48)).heap.size = w.heap.size + 1 := by simp
  have hD := (DeedAt.new w d A c 48).next ((Below.refl _ _).alloc (Nat.le_refl _) (.cells (Dd.none.vals none 0) 57))
  have hN := DeedAt.new (w.alloc (.cells (d.vals A c) 48)) Dd.none none 0 57
  rw [hs] at hN
  have hB : Below w.heap.size w ((w.alloc (.cells (d.vals A c) 48)).alloc (.cells (Dd.none.vals none 0) 57)) := ((Below.refl _ _).alloc (Nat.le_refl _) _).alloc (by simp) _
  obtain ⟨c0, c1, c2, c3, c4, c5, c6, c7, c32, c33⟩ := hD.cells
  go_enter Try.func18, Try.ntmps18
  go_wp2_with (first
    | (refine load_pars _ rfl rfl _ d A c _ rfl (by assumption) ?_)
    | (refine build_rdeed _ rfl rfl d A c (by kernel_rfl) ?_)
    | (refine store_rdeed _ _ rfl rfl _ d Dd.none A none c 0 _ rfl rfl hN ?_))
  refine bodyPost_ret (res_rdeed Try.results18 rfl (DeedAt.set hN)) rfl ⟨rfl, below_setRow hB (Nat.le_succ _) _⟩

end Go.Proofs.Ytcaejanfhchacaa
namespace Go.Proofs.Ytcaejanfhchacaa
open Go.ChangeShapes Go.WideShapes Go.ChangeAt Go.RowKit Go.Deep
set_option linter.unusedVariables false

theorem deed_fields : ∃ fs : Array Field, Try.prog.underlying 48 = some (.struct fs) ∧ fs.map (fun f => (f.type, f.offset, Try.prog.cellsOf f.type)) = #[(3, 0, 1), (3, 1, 1), (3, 2, 1), (3, 3, 1), (35, 4, 1), (3, 5, 1), (38, 6, 1), (3, 7, 1), (37, 8, 24), (3, 32, 1), (4, 33, 1)] := ⟨_, Try.underlying48, by kernel_rfl⟩
/-- Parameters in the midst of others. -/
theorem dpar_cells_open {H : Type} {enc : TypeId × Value → H} {w : World} {base : Nat} {held : Bool} {fuel : Nat} {cs : List Value} {x : DataW H × List MemPlace}
    (hsz0 : cs.length = 24) (hf : DataW.trod enc Try.prog w base (fun _ => true) held fuel 37 cs = some x) : ∃ p : Par, cs = p.vals.toList ∧ p.Fits := by
  obtain ⟨fs, hfs, hone, hty⟩ := par_fields
  obtain ⟨ys, nf, hn2, hy, hlen, hyl, hfd⟩ := DataW.trod_struct hfs hf
  have hfl : fs.size = 24 := by have := congrArg Array.size hty; simpa using this
  have hfield : ∀ (j : Nat) (hj : j < 24) (ty : TypeId), (fs.map (·.type))[j]? = some ty → ∃ y, DataW.trod enc Try.prog w base (fun _ => true) held nf ty [cs[j]] = some y := by
    intro j hj ty hjt
    rw [Array.getElem?_map] at hjt
    obtain ⟨f, hjf, rfl⟩ := Option.map_eq_some_iff.1 hjt
    obtain ⟨ho, hk⟩ := hone_of hone j f hjf
    have h1 := hfd j f hjf
    rw [ho, hk, List.drop_eq_getElem_cons (by omega), List.getElem?_eq_getElem (by omega)] at h1
    simp only [List.take_succ_cons, List.take_zero] at h1
    exact ⟨_, h1⟩
  have hw : ∀ (j : Nat) (hj : j < 24), (fs.map (·.type))[j]? = some 35 → ∃ n : Nat, cs[j] = .int .u64 (n : Int) ∧ n < 18446744073709551616 := by
    intro j hj hjt
    obtain ⟨y, hy⟩ := hfield j hj _ hjt
    obtain ⟨z, q, _, u⟩ := DataW.trod_int Try.underlying35 hy
    simp only [List.cons.injEq, and_true] at q
    have b := u64_fits u
    exact ⟨z.toNat, by rw [q, Int.toNat_of_nonneg b.1], by omega⟩
  have hi : ∀ (j : Nat) (hj : j < 24), (fs.map (·.type))[j]? = some 3 → ∃ n : Int, cs[j] = .int .i64 n ∧ -9223372036854775808 ≤ n ∧ n ≤ 9223372036854775807 := by
    intro j hj hjt
    obtain ⟨y, hy⟩ := hfield j hj _ hjt
    obtain ⟨z, q, _, u⟩ := DataW.trod_int Try.underlying3 hy
    simp only [List.cons.injEq, and_true] at q
    have b := i64_bounds u
    exact ⟨z, q, b.1, b.2⟩
  rw [hty] at hw hi
  obtain ⟨n0, e0, l0⟩ := hw 0 (by omega) rfl
  obtain ⟨n1, e1, l1⟩ := hw 1 (by omega) rfl
  obtain ⟨n2, e2, l2⟩ := hw 2 (by omega) rfl
  obtain ⟨n3, e3, l3⟩ := hw 3 (by omega) rfl
  obtain ⟨n4, e4, l4⟩ := hw 4 (by omega) rfl
  obtain ⟨n5, e5, l5⟩ := hw 5 (by omega) rfl
  obtain ⟨n6, e6, l6⟩ := hw 6 (by omega) rfl
  obtain ⟨n7, e7, l7⟩ := hw 7 (by omega) rfl
  obtain ⟨n8, e8, l8⟩ := hw 8 (by omega) rfl
  obtain ⟨n9, e9, l9⟩ := hw 9 (by omega) rfl
  obtain ⟨n10, e10, l10⟩ := hw 10 (by omega) rfl
  obtain ⟨n11, e11, l11⟩ := hw 11 (by omega) rfl
  obtain ⟨n12, e12, l12⟩ := hw 12 (by omega) rfl
  obtain ⟨n13, e13, l13⟩ := hw 13 (by omega) rfl
  obtain ⟨n14, e14, l14⟩ := hi 14 (by omega) rfl
  obtain ⟨n15, e15, l15⟩ := hi 15 (by omega) rfl
  obtain ⟨n16, e16, l16⟩ := hi 16 (by omega) rfl
  obtain ⟨n17, e17, l17⟩ := hi 17 (by omega) rfl
  obtain ⟨n18, e18, l18⟩ := hi 18 (by omega) rfl
  obtain ⟨n19, e19, l19⟩ := hi 19 (by omega) rfl
  obtain ⟨n20, e20, l20⟩ := hi 20 (by omega) rfl
  obtain ⟨n21, e21, l21⟩ := hi 21 (by omega) rfl
  obtain ⟨n22, e22, l22⟩ := hi 22 (by omega) rfl
  obtain ⟨n23, e23, l23⟩ := hi 23 (by omega) rfl
  refine ⟨⟨n0, n1, n2, n3, n4, n5, n6, n7, n8, n9, n10, n11, n12, n13, n14, n15, n16, n17, n18, n19, n20, n21, n22, n23⟩, ?_, ⟨?_, ?_⟩⟩
  · have e := congrArg Array.toList (array24 (cs := cs.toArray) (by simpa using hsz0))
    simp only [List.getElem_toArray] at e
    rw [e, e0, e1, e2, e3, e4, e5, e6, e7, e8, e9, e10, e11, e12, e13, e14, e15, e16, e17, e18, e19, e20, e21, e22, e23]
    rfl
  · intro x hx
    simp only [Par.us, List.mem_cons, List.mem_nil_iff, or_false] at hx
    rcases hx with rfl | rfl | rfl | rfl | rfl | rfl | rfl | rfl | rfl | rfl | rfl | rfl | rfl | rfl <;> assumption
  · intro x hx
    simp only [Par.is, List.mem_cons, List.mem_nil_iff, or_false] at hx
    rcases hx with rfl | rfl | rfl | rfl | rfl | rfl | rfl | rfl | rfl | rfl <;> assumption

set_option maxRecDepth 100000 in
/-- The cells of a deed. -/
theorem deed_cells_open {H : Type} {enc : TypeId × Value → H} {w : World} {base : Nat} {held : Bool} {fuel : Nat} {cs : Array Value} {x : DataW H × List MemPlace}
    (hsz : cs.size = 34) (hf : DataW.trod enc Try.prog w base (fun _ => true) held fuel 48 cs.toList = some x) :
    ∃ (d : Dd) (A : Option Addr) (c : Nat), cs = d.vals A c ∧ d.Fits ∧ d.bits.length ≤ c ∧ c ≤ maxLen ∧ Lies w (· < w.heap.size) A d.bits ∧ (A = none → c = 0) := by
  obtain ⟨fs, hfs, hty⟩ := deed_fields
  obtain ⟨ys, n2, hn2, hy, hlen, hyl, hfd⟩ := DataW.trod_struct hfs hf
  have hfield : ∀ (j : Nat) (ty : TypeId) (off k : Nat), (fs.map (fun f => (f.type, f.offset, Try.prog.cellsOf f.type)))[j]? = some (ty, off, k) → ∃ y, DataW.trod enc Try.prog w base (fun _ => true) held n2 ty ((cs.toList.drop off).take k) = some y := by
    intro j ty off k hjt
    rw [Array.getElem?_map] at hjt
    obtain ⟨f, hjf, he⟩ := Option.map_eq_some_iff.1 hjt
    simp only [Prod.mk.injEq] at he
    obtain ⟨rfl, rfl, rfl⟩ := he
    have hjl : j < ys.length := by rw [hyl]; exact (Array.getElem?_eq_some_iff.1 hjf).1
    have h1 := hfd j f hjf
    rw [List.getElem?_eq_getElem hjl] at h1
    exact ⟨_, by simpa [Value.cells] using h1⟩
  rw [hty] at hfield
  have hone : ∀ (off : Nat) (ho : off < 34), (cs.toList.drop off).take 1 = [cs[off]] := by
    intro off ho
    rw [List.drop_eq_getElem_cons (by simpa using (by omega : off < cs.size))]
    simp
  have hi : ∀ (j : Nat) (off : Nat) (ho : off < 34), (#[(3, 0, 1), (3, 1, 1), (3, 2, 1), (3, 3, 1), (35, 4, 1), (3, 5, 1), (38, 6, 1), (3, 7, 1), (37, 8, 24), (3, 32, 1), (4, 33, 1)] : Array (TypeId × Nat × Nat))[j]? = some (3, off, 1) → ∃ n : Int, cs[off] = .int .i64 n ∧ -9223372036854775808 ≤ n ∧ n ≤ 9223372036854775807 := by
    intro j off ho hjt
    obtain ⟨y, hy⟩ := hfield j _ _ _ hjt
    rw [hone off ho] at hy
    obtain ⟨z, q, _, u⟩ := DataW.trod_int Try.underlying3 hy
    simp only [List.cons.injEq, and_true] at q
    have b := i64_bounds u
    exact ⟨z, q, b.1, b.2⟩
  obtain ⟨z0, e0, l0⟩ := hi 0 0 (by omega) rfl
  obtain ⟨z1, e1, l1⟩ := hi 1 1 (by omega) rfl
  obtain ⟨z2, e2, l2⟩ := hi 2 2 (by omega) rfl
  obtain ⟨z3, e3, l3⟩ := hi 3 3 (by omega) rfl
  obtain ⟨z5, e5, l5⟩ := hi 5 5 (by omega) rfl
  obtain ⟨z7, e7, l7⟩ := hi 7 7 (by omega) rfl
  obtain ⟨z32, e32, l32⟩ := hi 9 32 (by omega) rfl
  obtain ⟨n4, e4, l4⟩ : ∃ n : Nat, cs[4] = .int .u64 (n : Int) ∧ n < 18446744073709551616 := by
    obtain ⟨y, hy⟩ := hfield 4 _ _ _ rfl
    rw [hone 4 (by omega)] at hy
    obtain ⟨z, q, _, u⟩ := DataW.trod_int Try.underlying35 hy
    simp only [List.cons.injEq, and_true] at q
    have b := u64_fits u
    exact ⟨z.toNat, by rw [q, Int.toNat_of_nonneg b.1], by omega⟩
  obtain ⟨b33, e33⟩ : ∃ b : Bool, cs[33] = .bool b := by
    obtain ⟨y, hy⟩ := hfield 10 _ _ _ rfl
    rw [hone 33 (by omega)] at hy
    obtain ⟨b, q, _⟩ := DataW.trod_bool Try.underlying4 hy
    simp only [List.cons.injEq, and_true] at q
    exact ⟨b, q⟩
  obtain ⟨p, ep, lp⟩ : ∃ p : Par, (cs.toList.drop 8).take 24 = p.vals.toList ∧ p.Fits := by
    obtain ⟨y, hy⟩ := hfield 8 _ _ _ rfl
    exact dpar_cells_open (by simp; omega) hy
  obtain ⟨A, xs, c, e6, hx, hc, hm, hr, hAc⟩ : ∃ (A : Option Addr) (xs : List Nat) (c : Nat), cs[6] = .slice A xs.length c ∧ (∀ x ∈ xs, x < 256) ∧ xs.length ≤ c ∧ c ≤ maxLen ∧ Row w w.heap.size A (u8s xs) ∧ (A = none → c = 0) := by
    obtain ⟨y, hy⟩ := hfield 6 _ _ _ rfl
    rw [hone 6 (by omega)] at hy
    obtain ⟨A, l, c, q⟩ := Joins.slice_form Try.underlying38 hy
    simp only [List.cons.injEq, and_true] at q
    rw [q] at hy
    obtain ⟨ns, rfl, h1, h2, h3, h4, h5⟩ := open_u8s Try.underlying38 Try.underlying5 (by kernel_rfl) ⟨n2, (by simpa [Value.cells] using hy : DataW.trod enc Try.prog w base (fun _ => true) held n2 38 (Value.slice A l c).cells.toList = some (y.1, y.2))⟩
    exact ⟨A, ns, c, q, h1, h2, h3, h4, h5⟩
  refine ⟨⟨z0, z1, z2, z3, n4, z5, xs, z7, p, z32, b33⟩, A, c, ?_, ⟨?_, l4, hx, lp⟩, hc, hm, Lies.ofRow hr, hAc⟩
  · apply Array.ext_getElem?
    intro k
    have hat : ∀ (j : Nat) (hj : j < 34), cs[j]? = some cs[j] := fun j hj => Array.getElem?_eq_getElem (by omega)
    by_cases hk : 8 ≤ k ∧ k < 32
    · obtain ⟨j, rfl⟩ : ∃ j, k = 8 + j := ⟨k - 8, by omega⟩
      have hj : j < 24 := by omega
      have h1 := congrArg (fun l => l[j]?) ep
      simp only [List.getElem?_take, List.getElem?_drop, if_pos hj, Array.getElem?_toList] at h1
      rw [h1]
      clear hk h1
      match j, hj with
      | 0, _ | 1, _ | 2, _ | 3, _ | 4, _ | 5, _ | 6, _ | 7, _ | 8, _ | 9, _ | 10, _ | 11, _ | 12, _ | 13, _ | 14, _ | 15, _ | 16, _ | 17, _ | 18, _ | 19, _ | 20, _ | 21, _ | 22, _ | 23, _ => rfl
      | n + 24, hj => exact absurd hj (by omega)
    · by_cases hk2 : k < 34
      · have : k = 0 ∨ k = 1 ∨ k = 2 ∨ k = 3 ∨ k = 4 ∨ k = 5 ∨ k = 6 ∨ k = 7 ∨ k = 32 ∨ k = 33 := by omega
        rcases this with rfl | rfl | rfl | rfl | rfl | rfl | rfl | rfl | rfl | rfl
        · rw [hat 0 (by omega), e0]; rfl
        · rw [hat 1 (by omega), e1]; rfl
        · rw [hat 2 (by omega), e2]; rfl
        · rw [hat 3 (by omega), e3]; rfl
        · rw [hat 4 (by omega), e4]; rfl
        · rw [hat 5 (by omega), e5]; rfl
        · rw [hat 6 (by omega), e6]; rfl
        · rw [hat 7 (by omega), e7]; rfl
        · rw [hat 32 (by omega), e32]; rfl
        · rw [hat 33 (by omega), e33]; rfl
      · rw [Array.getElem?_eq_none (by omega), Array.getElem?_eq_none (by rw [dvals_size]; omega)]
  · intro x hx
    simp only [List.mem_cons, List.mem_nil_iff, or_false] at hx
    rcases hx with rfl | rfl | rfl | rfl | rfl | rfl | rfl <;> assumption
end Go.Proofs.Ytcaejanfhchacaa
