/- Layer 18 (pool): lists of deposits and of dues that come in with a law's arguments; the chapter's example. -/
import Derived.Test.YtaaildlopknbjaaPoolE
import Derived.Test.YtaaildlopknbjaaRecQ
import Derived.Test.YtaaildlopknbjaaLawP
import Derived.Lib.SmallJoins
namespace Go.Proofs.Ytaaildlopknbjaa
open Go.ChangeShapes Go.WideShapes Go.ChangeAt Go.RowKit Go.Shelf Go.Deep
set_option linter.unusedVariables false
set_option linter.unusedSimpArgs false

theorem adue_fields : ∃ fs, Try.prog.underlying 50 = some (.struct fs) ∧ ∀ d : Due, ∀ f ∈ fs.toList, OneField Try.prog (Rec.vals d) f := ⟨_, Try.underlying50, fun d f hf => by
  simp at hf
  rcases hf with rfl | rfl | rfl
  · exact .inl ⟨_, _, _, Try.underlying3, rfl⟩
  · exact .inl ⟨_, _, _, Try.underlying3, rfl⟩
  · exact .inl ⟨_, _, _, Try.underlying23, rfl⟩⟩

section
variable {H : Type} {enc : TypeId × Value → H} {w : World} {base : Nat} {held : Bool}
set_option maxRecDepth 100000 in
theorem open_dep {r : Reach} {b0 : Nat} {v : Value} {d : DataW H} {pl : List MemPlace}
    (hv : Value.okWide Try.prog w r b0 25 v) (h : DataW.Trod enc Try.prog w base (fun _ => true) held 25 v d pl) : ∃ s : Dep, v = .agg (Rec.vals s) ∧ s.amt ≤ 18446744073709551615 := by
  obtain ⟨x0, x1, x2, x3, y0, y1, y2, y3, m, rfl, rfl, rfl, h0, h1, h2, h3⟩ := Joins.open_agg4 Try.underlying25 (by kernel_rfl) (by kernel_rfl) hv h
  obtain ⟨a0, e0, -, u0⟩ := DataW.trod_int Try.underlying3 h0
  obtain ⟨a1, e1, -, u1⟩ := DataW.trod_int Try.underlying3 h1
  obtain ⟨a2, e2, -, u2⟩ := DataW.trod_int Try.underlying23 h2
  obtain ⟨a3, e3, -⟩ := DataW.trod_bool Try.underlying4 h3
  simp only [List.cons.injEq, and_true] at e0 e1 e2 e3
  have b2 := u64_fits u2
  obtain ⟨n2, rfl⟩ := Int.eq_ofNat_of_zero_le b2.1
  subst e0 e1 e2 e3
  exact ⟨⟨a0, a1, n2, a3⟩, rfl, by show n2 ≤ _; omega⟩
theorem four_of {cs : List Value} (h : cs.length = 4) : ∃ c0 c1 c2 c3, cs = [c0, c1, c2, c3] := by
  match cs, h with
  | [c0, c1, c2, c3], _ => exact ⟨_, _, _, _, rfl⟩
theorem three_of {cs : List Value} (h : cs.length = 3) : ∃ c0 c1 c2, cs = [c0, c1, c2] := by
  match cs, h with
  | [c0, c1, c2], _ => exact ⟨_, _, _, rfl⟩
theorem open_deps {A : Option Addr} {n c : Nat} {d : DataW H} {p : List MemPlace}
    (h : DataW.Trod enc Try.prog w base (fun _ => true) held 22 (.slice A n c) d p) : ∃ l : List Dep, n = l.length ∧ (∀ s ∈ l, s.amt ≤ 18446744073709551615) ∧ l.length ≤ c ∧ c ≤ maxLen ∧ (A = none → c = 0) ∧ Row w w.heap.size A (rows l) := by
  refine open_recs (α := Dep) (fun s => s.amt ≤ 18446744073709551615) Try.underlying22 Try.underlying25 (by kernel_rfl) (by kernel_rfl) rfl ?_ h
  intro n2 cs hcl hfd
  obtain ⟨c0, c1, c2, c3, rfl⟩ := four_of hcl
  obtain ⟨y0, g0⟩ := hfd 0 _ rfl
  obtain ⟨y1, g1⟩ := hfd 1 _ rfl
  obtain ⟨y2, g2⟩ := hfd 2 _ rfl
  obtain ⟨y3, g3⟩ := hfd 3 _ rfl
  obtain ⟨a0, e0, -, u0⟩ := DataW.trod_int Try.underlying3 g0
  obtain ⟨a1, e1, -, u1⟩ := DataW.trod_int Try.underlying3 g1
  obtain ⟨a2, e2, -, u2⟩ := DataW.trod_int Try.underlying23 g2
  obtain ⟨a3, e3, -⟩ := DataW.trod_bool Try.underlying4 g3
  have f0 : c0 = .int .i64 a0 := (List.cons.inj e0).1
  have f1 : c1 = .int .i64 a1 := (List.cons.inj e1).1
  have f2 : c2 = .int .u64 a2 := (List.cons.inj e2).1
  have f3 : c3 = .bool a3 := (List.cons.inj e3).1
  have b2 := u64_fits u2
  obtain ⟨m2, rfl⟩ := Int.eq_ofNat_of_zero_le b2.1
  subst f0 f1 f2 f3
  exact ⟨⟨a0, a1, m2, a3⟩, by show m2 ≤ _; omega, rfl⟩
theorem open_dues {A : Option Addr} {n c : Nat} {d : DataW H} {p : List MemPlace}
    (h : DataW.Trod enc Try.prog w base (fun _ => true) held 37 (.slice A n c) d p) : ∃ l : List Due, n = l.length ∧ (∀ s ∈ l, s.amt ≤ 18446744073709551615) ∧ l.length ≤ c ∧ c ≤ maxLen ∧ (A = none → c = 0) ∧ Row w w.heap.size A (rows l) := by
  refine open_recs (α := Due) (fun s => s.amt ≤ 18446744073709551615) Try.underlying37 Try.underlying50 (by kernel_rfl) (by kernel_rfl) rfl ?_ h
  intro n2 cs hcl hfd
  obtain ⟨c0, c1, c2, rfl⟩ := three_of hcl
  obtain ⟨y0, g0⟩ := hfd 0 _ rfl
  obtain ⟨y1, g1⟩ := hfd 1 _ rfl
  obtain ⟨y2, g2⟩ := hfd 2 _ rfl
  obtain ⟨a0, e0, -, u0⟩ := DataW.trod_int Try.underlying3 g0
  obtain ⟨a1, e1, -, u1⟩ := DataW.trod_int Try.underlying3 g1
  obtain ⟨a2, e2, -, u2⟩ := DataW.trod_int Try.underlying23 g2
  have f0 : c0 = .int .i64 a0 := (List.cons.inj e0).1
  have f1 : c1 = .int .i64 a1 := (List.cons.inj e1).1
  have f2 : c2 = .int .u64 a2 := (List.cons.inj e2).1
  have b2 := u64_fits u2
  obtain ⟨m2, rfl⟩ := Int.eq_ofNat_of_zero_le b2.1
  subst f0 f1 f2
  exact ⟨⟨a0, a1, m2⟩, by show m2 ≤ _; omega, rfl⟩
end

theorem owed_one : powed [] ⟨1, 5, 3⟩ = ([⟨1, 5, 3⟩], 0) := by kernel_rfl
theorem owed_two : powed [⟨1, 5, 3⟩] ⟨1, 5, 4⟩ = ([⟨1, 5, 7⟩], 0) := by kernel_rfl
theorem LiesAt.first {α : Type} [Rec α] {w : World} {B : Nat} {A : Option Addr} {x : α} {l : List α} (h : Row w B A (rows (x :: l))) : ∃ a, A = some a ∧ LiesAt w a (Rec.vals x) := by
  obtain ⟨a, h1, _, h2⟩ := rows_row h (k := 0) (x := x) rfl
  rw [Nat.zero_mul] at h2
  refine ⟨a, h1, fun j v hv => ?_⟩
  have := h2 j v hv
  rwa [Addr.add_add, Nat.zero_add] at this

set_option maxRecDepth 100000 in
set_option maxHeartbeats 2000000 in
theorem pool_awake (w : World) : Calls Try.prog 6 #[] w fun e w' => e = .returned (.bool true) ∧ Below w.heap.size w w' := by
  have k1 := powe_is [] ⟨1, 5, 3⟩ none 0 w (Row.nil _ _ _) (by simp) (Nat.le_refl _) (fun _ => rfl) (by simp)
  rw [owed_one] at k1
  have k2 := fun (A : Option Addr) (c : Nat) (w : World) h1 h2 h3 => powe_is [⟨1, 5, 3⟩] ⟨1, 5, 4⟩ A c w h1 (by simp) h2 h3 (by simp)
  rw [owed_two] at k2
  obtain ⟨fs, hfu, hff⟩ := adue_fields
  have K1 := Lib.hid k1
  have K2 := Lib.hid k2
  have HFF := Lib.hid hff
  clear k1 k2 hff
  go_enter Try.func6, Try.ntmps6
  go_wp2_with (first
    | (refine build_rec 50 #[(0, .const (.int .i64 1)), (1, .const (.int .i64 5)), (2, .const (.int .u64 3))] rfl rfl (Rec.vals (⟨1, 5, 3⟩ : Due)) ?_ ?_; · kernel_rfl)
    | (refine build_rec 50 #[(0, .const (.int .i64 1)), (1, .const (.int .i64 5)), (2, .const (.int .u64 4))] rfl rfl (Rec.vals (⟨1, 5, 4⟩ : Due)) ?_ ?_; · kernel_rfl)
    | (refine build_rec 50 #[(0, .const (.int .i64 1)), (1, .const (.int .i64 5)), (2, .const (.int .u64 7))] rfl rfl (Rec.vals (⟨1, 5, 7⟩ : Due)) ?_ ?_; · kernel_rfl)
    | (go_at_call 15; refine K1.out.mono ?_; clear K1; rintro e w1 ⟨A1, c1, rfl, hc1, hm1, hz1, hr1, hb1⟩; have HC1 := Lib.hid hc1; have HZ1 := Lib.hid hz1; have HR1 := Lib.hid hr1; clear hc1 hm1 hz1 hr1)
    | (go_at_call 15; refine (K2.out A1 c1 w1 HR1.out HC1.out HZ1.out).mono ?_; clear K2; rintro e w2 ⟨A2, c2, rfl, hc2, hm2, hz2, hr2, hb2⟩; obtain ⟨a2, rfl, hat⟩ := LiesAt.first hr2; clear hc2 hm2 hz2 hr2)
    | (refine load_rec 50 _ rfl rfl _ (Rec.vals (⟨1, 5, 7⟩ : Due)) rfl hat Try.underlying50 size_due ?_)
    | (refine op_eql_rec _ _ _ rfl rfl (Rec.vals (⟨1, 5, 7⟩ : Due)) rfl rfl (by kernel_rfl) hfu (by kernel_rfl) (HFF.out _) ?_))
  go_ret
  exact ⟨by first | rfl | simp, Below.then hb1 hb2⟩
end Go.Proofs.Ytaaildlopknbjaa
