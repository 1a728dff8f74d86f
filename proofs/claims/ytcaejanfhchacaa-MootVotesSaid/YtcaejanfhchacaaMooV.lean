/- Layer 23 (moot): which motions fit. By contracts. -/
import Derived.Test.YtcaejanfhchacaaMooC
import Derived.Test.YtcaejanfhchacaaMooS
import Derived.Test.YtcaejanfhchacaaParE
import Derived.Test.YtcaejanfhchacaaParSb
import Derived.Test.YtcaejanfhchacaaDeedB
import Derived.Test.YtcaejanfhchacaaDeedW0
namespace Go.Proofs.Ytcaejanfhchacaa
open Go.RowKit
open Classical
set_option linter.unusedVariables false
set_option linter.unusedSimpArgs false

/-- Whether a motion has the parameters that it has to have. -/
noncomputable def PMot.parB (m : PMot) : Bool := if m.what = 1 then decide (∃ T, Par.Right m.p T) else decide (m.p = Par.none)
/-- Whether a motion fits. -/
noncomputable def PMot.fitsB (m : PMot) : Bool :=
  inB m.acct 0 63 && (inB m.dest 0 63 && (inB m.what 1 4 && (inB m.st 1 4 && (inB m.ends 0 2147483647 && (inB m.due 0 2147483647 && (decide (m.amt ≤ 4611686018427387904) && (decide (FieldI m.yes 128) && (decide (FieldI m.no 128) && m.parB))))))))

set_option maxRecDepth 100000 in
set_option maxHeartbeats 1000000 in
theorem mparams_is (m : Mot) (w : World) (hf : m.p.Fits) : Calls Try.prog 42 #[.agg (Rec.vals m)] w fun e w' => e = .returned (.bool m.pure.parB) ∧ Below w.heap.size w w' := by
  have hB : Below w.heap.size w (w.alloc (.cells (Rec.vals m) 40)) := (Below.refl _ _).alloc (Nat.le_refl _) _
  have hO := RecAt.new w (Rec.vals m) 40
  have hP := hO.sub 2 (mot_par m)
  have c1 : (w.alloc (.cells (Rec.vals m) 40)).cell? ⟨w.heap.size, 1, none⟩ = some (.int .i64 m.what) := hO.cell 1
  unfold PMot.parB
  show Calls _ _ _ _ fun e w' => e = .returned (.bool (if m.what = 1 then decide (∃ T, Par.Right m.p T) else decide (m.p = Par.none))) ∧ Below w.heap.size w w'
  by_cases h1 : m.what = 1
  · rw [if_pos h1]
    rw [h1] at c1
    by_cases h2 : ∃ T, Par.Right m.p T
    · rw [decide_eq_true h2]
      obtain ⟨T, hT⟩ := h2
      have kc := fun W => check_ok m.p T W hT
      clear hT h1 hO
      go_enter Try.func42, Try.ntmps42
      go_wp2_with (first
        | ((with_reducible refine slot_is 7 rfl ?_); refine load_rec 37 _ rfl rfl ⟨_, 2, none⟩ m.p.vals rfl hP Try.underlying37 apar_size ?_)
        | (go_at_call 44; refine (kc _).mono ?_; clear kc; rintro e w1 ⟨rfl, hb⟩; have hB := Below.then hB hb; clear hb))
      go_ret
      exact ⟨by first | rfl | simp, hB⟩
    · rw [decide_eq_false h2]
      have kc := fun W => check_no m.p W hf h2
      clear h2 h1 hO
      go_enter Try.func42, Try.ntmps42
      go_wp2_with (first
        | ((with_reducible refine slot_is 7 rfl ?_); refine load_rec 37 _ rfl rfl ⟨_, 2, none⟩ m.p.vals rfl hP Try.underlying37 apar_size ?_)
        | (go_at_call 44; refine (kc _).mono ?_; clear kc; rintro e w1 ⟨rfl, hb⟩; have hB := Below.then hB hb; clear hb))
      go_ret
      exact ⟨by first | rfl | simp, hB⟩
  · rw [if_neg h1]
    have b1 : (m.what == 1) = false := by simp [h1]
    by_cases h2 : m.p = Par.none
    · rw [decide_eq_true h2]
      rw [h2] at hP
      clear h2 h1 hO
      go_enter Try.func42, Try.ntmps42
      go_wp2_with (first
        | ((with_reducible refine slot_is 11 rfl ?_); refine load_rec 37 _ rfl rfl ⟨_, 2, none⟩ Par.none.vals rfl hP Try.underlying37 apar_size ?_)
        | ((with_reducible refine slot_is 12 rfl ?_); refine build_par _ rfl rfl Par.none (by kernel_rfl) ?_)
        | ((with_reducible refine slot_is 13 rfl ?_); refine op_eql _ _ _ rfl rfl Par.none rfl rfl ?_))
      go_ret
      exact ⟨by first | rfl | simp, hB⟩
    · rw [decide_eq_false h2]
      clear h1 hO
      go_enter Try.func42, Try.ntmps42
      go_wp2_with (first
        | ((with_reducible refine slot_is 11 rfl ?_); refine load_rec 37 _ rfl rfl ⟨_, 2, none⟩ m.p.vals rfl hP Try.underlying37 apar_size ?_)
        | ((with_reducible refine slot_is 12 rfl ?_); refine build_par _ rfl rfl Par.none (by kernel_rfl) ?_)
        | ((with_reducible refine slot_is 13 rfl ?_); refine op_eql_no _ _ _ rfl rfl m.p Par.none h2 rfl rfl ?_))
      go_ret
      exact ⟨by first | rfl | simp, hB⟩

set_option maxRecDepth 100000 in
set_option maxHeartbeats 2000000 in
theorem fits_p0 (m : Mot) (w : World) (hm : MotAt w m) (h0 : inB m.acct 0 63 = false) : Calls Try.prog 13 #[.agg (Rec.vals m)] w fun e w' => e = .returned (.bool false) ∧ Below w.heap.size w w' := by
  have K0 := fun W => mwithin_is m.acct 0 63 W
  rw [h0] at K0
  have hB : Below w.heap.size w (w.alloc (.cells (Rec.vals m) 40)) := (Below.refl _ _).alloc (Nat.le_refl _) _
  have hO : RecAt (w.alloc (.cells (Rec.vals m) 40)) w.heap.size (Rec.vals m) 40 := RecAt.new w (Rec.vals m) 40
  have c_acct : (w.alloc (.cells (Rec.vals m) 40)).cell? ⟨w.heap.size, 0, none⟩ = some (.int .i64 m.acct) := hO.cell 0; have c_dest : (w.alloc (.cells (Rec.vals m) 40)).cell? ⟨w.heap.size, 26, none⟩ = some (.int .i64 m.dest) := hO.cell 26; have c_what : (w.alloc (.cells (Rec.vals m) 40)).cell? ⟨w.heap.size, 1, none⟩ = some (.int .i64 m.what) := hO.cell 1; have c_st : (w.alloc (.cells (Rec.vals m) 40)).cell? ⟨w.heap.size, 30, none⟩ = some (.int .i64 m.st) := hO.cell 30; have c_ends : (w.alloc (.cells (Rec.vals m) 40)).cell? ⟨w.heap.size, 28, none⟩ = some (.int .i64 m.ends) := hO.cell 28; have c_due : (w.alloc (.cells (Rec.vals m) 40)).cell? ⟨w.heap.size, 29, none⟩ = some (.int .i64 m.due) := hO.cell 29; have c_amt : (w.alloc (.cells (Rec.vals m) 40)).cell? ⟨w.heap.size, 27, none⟩ = some (.int .u64 (m.amt : Int)) := hO.cell 27; have c_yes : (w.alloc (.cells (Rec.vals m) 40)).cell? ⟨w.heap.size, 31, none⟩ = some (.slice m.yes.row m.yes.bs.length m.yes.cap) := hO.cell 31
  clear hm h0
  go_enter Try.func13, Try.ntmps13
  go_wp2_with (first
    | (go_at_call 30; refine (K0 _).mono ?_; clear K0; rintro e w' ⟨rfl, rfl⟩))
  go_ret
  exact ⟨by first | rfl | simp, hB⟩

set_option maxRecDepth 100000 in
set_option maxHeartbeats 2000000 in
theorem fits_p1 (m : Mot) (w : World) (hm : MotAt w m) (h0 : inB m.acct 0 63 = true) (h1 : inB m.dest 0 63 = false) : Calls Try.prog 13 #[.agg (Rec.vals m)] w fun e w' => e = .returned (.bool false) ∧ Below w.heap.size w w' := by
  have K0 := fun W => mwithin_is m.acct 0 63 W
  rw [h0] at K0
  have K1 := fun W => mwithin_is m.dest 0 63 W
  rw [h1] at K1
  have hB : Below w.heap.size w (w.alloc (.cells (Rec.vals m) 40)) := (Below.refl _ _).alloc (Nat.le_refl _) _
  have hO : RecAt (w.alloc (.cells (Rec.vals m) 40)) w.heap.size (Rec.vals m) 40 := RecAt.new w (Rec.vals m) 40
  have c_acct : (w.alloc (.cells (Rec.vals m) 40)).cell? ⟨w.heap.size, 0, none⟩ = some (.int .i64 m.acct) := hO.cell 0; have c_dest : (w.alloc (.cells (Rec.vals m) 40)).cell? ⟨w.heap.size, 26, none⟩ = some (.int .i64 m.dest) := hO.cell 26; have c_what : (w.alloc (.cells (Rec.vals m) 40)).cell? ⟨w.heap.size, 1, none⟩ = some (.int .i64 m.what) := hO.cell 1; have c_st : (w.alloc (.cells (Rec.vals m) 40)).cell? ⟨w.heap.size, 30, none⟩ = some (.int .i64 m.st) := hO.cell 30; have c_ends : (w.alloc (.cells (Rec.vals m) 40)).cell? ⟨w.heap.size, 28, none⟩ = some (.int .i64 m.ends) := hO.cell 28; have c_due : (w.alloc (.cells (Rec.vals m) 40)).cell? ⟨w.heap.size, 29, none⟩ = some (.int .i64 m.due) := hO.cell 29; have c_amt : (w.alloc (.cells (Rec.vals m) 40)).cell? ⟨w.heap.size, 27, none⟩ = some (.int .u64 (m.amt : Int)) := hO.cell 27; have c_yes : (w.alloc (.cells (Rec.vals m) 40)).cell? ⟨w.heap.size, 31, none⟩ = some (.slice m.yes.row m.yes.bs.length m.yes.cap) := hO.cell 31
  clear hm h0 h1
  go_enter Try.func13, Try.ntmps13
  go_wp2_with (first
    | (go_at_call 30; refine (K0 _).mono ?_; clear K0; rintro e w' ⟨rfl, rfl⟩)
    | (go_at_call 30; refine (K1 _).mono ?_; clear K1; rintro e w' ⟨rfl, rfl⟩))
  go_ret
  exact ⟨by first | rfl | simp, hB⟩

set_option maxRecDepth 100000 in
set_option maxHeartbeats 2000000 in
theorem fits_p2 (m : Mot) (w : World) (hm : MotAt w m) (h0 : inB m.acct 0 63 = true) (h1 : inB m.dest 0 63 = true) (h2 : inB m.what 1 4 = false) : Calls Try.prog 13 #[.agg (Rec.vals m)] w fun e w' => e = .returned (.bool false) ∧ Below w.heap.size w w' := by
  have K0 := fun W => mwithin_is m.acct 0 63 W
  rw [h0] at K0
  have K1 := fun W => mwithin_is m.dest 0 63 W
  rw [h1] at K1
  have K2 := fun W => mwithin_is m.what 1 4 W
  rw [h2] at K2
  have hB : Below w.heap.size w (w.alloc (.cells (Rec.vals m) 40)) := (Below.refl _ _).alloc (Nat.le_refl _) _
  have hO : RecAt (w.alloc (.cells (Rec.vals m) 40)) w.heap.size (Rec.vals m) 40 := RecAt.new w (Rec.vals m) 40
  have c_acct : (w.alloc (.cells (Rec.vals m) 40)).cell? ⟨w.heap.size, 0, none⟩ = some (.int .i64 m.acct) := hO.cell 0; have c_dest : (w.alloc (.cells (Rec.vals m) 40)).cell? ⟨w.heap.size, 26, none⟩ = some (.int .i64 m.dest) := hO.cell 26; have c_what : (w.alloc (.cells (Rec.vals m) 40)).cell? ⟨w.heap.size, 1, none⟩ = some (.int .i64 m.what) := hO.cell 1; have c_st : (w.alloc (.cells (Rec.vals m) 40)).cell? ⟨w.heap.size, 30, none⟩ = some (.int .i64 m.st) := hO.cell 30; have c_ends : (w.alloc (.cells (Rec.vals m) 40)).cell? ⟨w.heap.size, 28, none⟩ = some (.int .i64 m.ends) := hO.cell 28; have c_due : (w.alloc (.cells (Rec.vals m) 40)).cell? ⟨w.heap.size, 29, none⟩ = some (.int .i64 m.due) := hO.cell 29; have c_amt : (w.alloc (.cells (Rec.vals m) 40)).cell? ⟨w.heap.size, 27, none⟩ = some (.int .u64 (m.amt : Int)) := hO.cell 27; have c_yes : (w.alloc (.cells (Rec.vals m) 40)).cell? ⟨w.heap.size, 31, none⟩ = some (.slice m.yes.row m.yes.bs.length m.yes.cap) := hO.cell 31
  clear hm h0 h1 h2
  go_enter Try.func13, Try.ntmps13
  go_wp2_with (first
    | (go_at_call 30; refine (K0 _).mono ?_; clear K0; rintro e w' ⟨rfl, rfl⟩)
    | (go_at_call 30; refine (K1 _).mono ?_; clear K1; rintro e w' ⟨rfl, rfl⟩)
    | (go_at_call 30; refine (K2 _).mono ?_; clear K2; rintro e w' ⟨rfl, rfl⟩))
  go_ret
  exact ⟨by first | rfl | simp, hB⟩

set_option maxRecDepth 100000 in
set_option maxHeartbeats 2000000 in
theorem fits_p3 (m : Mot) (w : World) (hm : MotAt w m) (h0 : inB m.acct 0 63 = true) (h1 : inB m.dest 0 63 = true) (h2 : inB m.what 1 4 = true) (h3 : inB m.st 1 4 = false) : Calls Try.prog 13 #[.agg (Rec.vals m)] w fun e w' => e = .returned (.bool false) ∧ Below w.heap.size w w' := by
  have K0 := fun W => mwithin_is m.acct 0 63 W
  rw [h0] at K0
  have K1 := fun W => mwithin_is m.dest 0 63 W
  rw [h1] at K1
  have K2 := fun W => mwithin_is m.what 1 4 W
  rw [h2] at K2
  have K3 := fun W => mwithin_is m.st 1 4 W
  rw [h3] at K3
  have hB : Below w.heap.size w (w.alloc (.cells (Rec.vals m) 40)) := (Below.refl _ _).alloc (Nat.le_refl _) _
  have hO : RecAt (w.alloc (.cells (Rec.vals m) 40)) w.heap.size (Rec.vals m) 40 := RecAt.new w (Rec.vals m) 40
  have c_acct : (w.alloc (.cells (Rec.vals m) 40)).cell? ⟨w.heap.size, 0, none⟩ = some (.int .i64 m.acct) := hO.cell 0; have c_dest : (w.alloc (.cells (Rec.vals m) 40)).cell? ⟨w.heap.size, 26, none⟩ = some (.int .i64 m.dest) := hO.cell 26; have c_what : (w.alloc (.cells (Rec.vals m) 40)).cell? ⟨w.heap.size, 1, none⟩ = some (.int .i64 m.what) := hO.cell 1; have c_st : (w.alloc (.cells (Rec.vals m) 40)).cell? ⟨w.heap.size, 30, none⟩ = some (.int .i64 m.st) := hO.cell 30; have c_ends : (w.alloc (.cells (Rec.vals m) 40)).cell? ⟨w.heap.size, 28, none⟩ = some (.int .i64 m.ends) := hO.cell 28; have c_due : (w.alloc (.cells (Rec.vals m) 40)).cell? ⟨w.heap.size, 29, none⟩ = some (.int .i64 m.due) := hO.cell 29; have c_amt : (w.alloc (.cells (Rec.vals m) 40)).cell? ⟨w.heap.size, 27, none⟩ = some (.int .u64 (m.amt : Int)) := hO.cell 27; have c_yes : (w.alloc (.cells (Rec.vals m) 40)).cell? ⟨w.heap.size, 31, none⟩ = some (.slice m.yes.row m.yes.bs.length m.yes.cap) := hO.cell 31
  clear hm h0 h1 h2 h3
  go_enter Try.func13, Try.ntmps13
  go_wp2_with (first
    | (go_at_call 30; refine (K0 _).mono ?_; clear K0; rintro e w' ⟨rfl, rfl⟩)
    | (go_at_call 30; refine (K1 _).mono ?_; clear K1; rintro e w' ⟨rfl, rfl⟩)
    | (go_at_call 30; refine (K2 _).mono ?_; clear K2; rintro e w' ⟨rfl, rfl⟩)
    | (go_at_call 30; refine (K3 _).mono ?_; clear K3; rintro e w' ⟨rfl, rfl⟩))
  go_ret
  exact ⟨by first | rfl | simp, hB⟩

set_option maxRecDepth 100000 in
set_option maxHeartbeats 2000000 in
theorem fits_p4 (m : Mot) (w : World) (hm : MotAt w m) (h0 : inB m.acct 0 63 = true) (h1 : inB m.dest 0 63 = true) (h2 : inB m.what 1 4 = true) (h3 : inB m.st 1 4 = true) (h4 : inB m.ends 0 2147483647 = false) : Calls Try.prog 13 #[.agg (Rec.vals m)] w fun e w' => e = .returned (.bool false) ∧ Below w.heap.size w w' := by
  have K0 := fun W => mwithin_is m.acct 0 63 W
  rw [h0] at K0
  have K1 := fun W => mwithin_is m.dest 0 63 W
  rw [h1] at K1
  have K2 := fun W => mwithin_is m.what 1 4 W
  rw [h2] at K2
  have K3 := fun W => mwithin_is m.st 1 4 W
  rw [h3] at K3
  have K4 := fun W => mwithin_is m.ends 0 2147483647 W
  rw [h4] at K4
  have hB : Below w.heap.size w (w.alloc (.cells (Rec.vals m) 40)) := (Below.refl _ _).alloc (Nat.le_refl _) _
  have hO : RecAt (w.alloc (.cells (Rec.vals m) 40)) w.heap.size (Rec.vals m) 40 := RecAt.new w (Rec.vals m) 40
  have c_acct : (w.alloc (.cells (Rec.vals m) 40)).cell? ⟨w.heap.size, 0, none⟩ = some (.int .i64 m.acct) := hO.cell 0; have c_dest : (w.alloc (.cells (Rec.vals m) 40)).cell? ⟨w.heap.size, 26, none⟩ = some (.int .i64 m.dest) := hO.cell 26; have c_what : (w.alloc (.cells (Rec.vals m) 40)).cell? ⟨w.heap.size, 1, none⟩ = some (.int .i64 m.what) := hO.cell 1; have c_st : (w.alloc (.cells (Rec.vals m) 40)).cell? ⟨w.heap.size, 30, none⟩ = some (.int .i64 m.st) := hO.cell 30; have c_ends : (w.alloc (.cells (Rec.vals m) 40)).cell? ⟨w.heap.size, 28, none⟩ = some (.int .i64 m.ends) := hO.cell 28; have c_due : (w.alloc (.cells (Rec.vals m) 40)).cell? ⟨w.heap.size, 29, none⟩ = some (.int .i64 m.due) := hO.cell 29; have c_amt : (w.alloc (.cells (Rec.vals m) 40)).cell? ⟨w.heap.size, 27, none⟩ = some (.int .u64 (m.amt : Int)) := hO.cell 27; have c_yes : (w.alloc (.cells (Rec.vals m) 40)).cell? ⟨w.heap.size, 31, none⟩ = some (.slice m.yes.row m.yes.bs.length m.yes.cap) := hO.cell 31
  clear hm h0 h1 h2 h3 h4
  go_enter Try.func13, Try.ntmps13
  go_wp2_with (first
    | (go_at_call 30; refine (K0 _).mono ?_; clear K0; rintro e w' ⟨rfl, rfl⟩)
    | (go_at_call 30; refine (K1 _).mono ?_; clear K1; rintro e w' ⟨rfl, rfl⟩)
    | (go_at_call 30; refine (K2 _).mono ?_; clear K2; rintro e w' ⟨rfl, rfl⟩)
    | (go_at_call 30; refine (K3 _).mono ?_; clear K3; rintro e w' ⟨rfl, rfl⟩)
    | (go_at_call 30; refine (K4 _).mono ?_; clear K4; rintro e w' ⟨rfl, rfl⟩))
  go_ret
  exact ⟨by first | rfl | simp, hB⟩

set_option maxRecDepth 100000 in
set_option maxHeartbeats 2000000 in
theorem fits_p5 (m : Mot) (w : World) (hm : MotAt w m) (h0 : inB m.acct 0 63 = true) (h1 : inB m.dest 0 63 = true) (h2 : inB m.what 1 4 = true) (h3 : inB m.st 1 4 = true) (h4 : inB m.ends 0 2147483647 = true) (h5 : inB m.due 0 2147483647 = false) : Calls Try.prog 13 #[.agg (Rec.vals m)] w fun e w' => e = .returned (.bool false) ∧ Below w.heap.size w w' := by
  have K0 := fun W => mwithin_is m.acct 0 63 W
  rw [h0] at K0
  have K1 := fun W => mwithin_is m.dest 0 63 W
  rw [h1] at K1
  have K2 := fun W => mwithin_is m.what 1 4 W
  rw [h2] at K2
  have K3 := fun W => mwithin_is m.st 1 4 W
  rw [h3] at K3
  have K4 := fun W => mwithin_is m.ends 0 2147483647 W
  rw [h4] at K4
  have K5 := fun W => mwithin_is m.due 0 2147483647 W
  rw [h5] at K5
  have hB : Below w.heap.size w (w.alloc (.cells (Rec.vals m) 40)) := (Below.refl _ _).alloc (Nat.le_refl _) _
  have hO : RecAt (w.alloc (.cells (Rec.vals m) 40)) w.heap.size (Rec.vals m) 40 := RecAt.new w (Rec.vals m) 40
  have c_acct : (w.alloc (.cells (Rec.vals m) 40)).cell? ⟨w.heap.size, 0, none⟩ = some (.int .i64 m.acct) := hO.cell 0; have c_dest : (w.alloc (.cells (Rec.vals m) 40)).cell? ⟨w.heap.size, 26, none⟩ = some (.int .i64 m.dest) := hO.cell 26; have c_what : (w.alloc (.cells (Rec.vals m) 40)).cell? ⟨w.heap.size, 1, none⟩ = some (.int .i64 m.what) := hO.cell 1; have c_st : (w.alloc (.cells (Rec.vals m) 40)).cell? ⟨w.heap.size, 30, none⟩ = some (.int .i64 m.st) := hO.cell 30; have c_ends : (w.alloc (.cells (Rec.vals m) 40)).cell? ⟨w.heap.size, 28, none⟩ = some (.int .i64 m.ends) := hO.cell 28; have c_due : (w.alloc (.cells (Rec.vals m) 40)).cell? ⟨w.heap.size, 29, none⟩ = some (.int .i64 m.due) := hO.cell 29; have c_amt : (w.alloc (.cells (Rec.vals m) 40)).cell? ⟨w.heap.size, 27, none⟩ = some (.int .u64 (m.amt : Int)) := hO.cell 27; have c_yes : (w.alloc (.cells (Rec.vals m) 40)).cell? ⟨w.heap.size, 31, none⟩ = some (.slice m.yes.row m.yes.bs.length m.yes.cap) := hO.cell 31
  clear hm h0 h1 h2 h3 h4 h5
  go_enter Try.func13, Try.ntmps13
  go_wp2_with (first
    | (go_at_call 30; refine (K0 _).mono ?_; clear K0; rintro e w' ⟨rfl, rfl⟩)
    | (go_at_call 30; refine (K1 _).mono ?_; clear K1; rintro e w' ⟨rfl, rfl⟩)
    | (go_at_call 30; refine (K2 _).mono ?_; clear K2; rintro e w' ⟨rfl, rfl⟩)
    | (go_at_call 30; refine (K3 _).mono ?_; clear K3; rintro e w' ⟨rfl, rfl⟩)
    | (go_at_call 30; refine (K4 _).mono ?_; clear K4; rintro e w' ⟨rfl, rfl⟩)
    | (go_at_call 30; refine (K5 _).mono ?_; clear K5; rintro e w' ⟨rfl, rfl⟩))
  go_ret
  exact ⟨by first | rfl | simp, hB⟩

set_option maxRecDepth 100000 in
set_option maxHeartbeats 2000000 in
theorem fits_p6 (m : Mot) (w : World) (hm : MotAt w m) (h0 : inB m.acct 0 63 = true) (h1 : inB m.dest 0 63 = true) (h2 : inB m.what 1 4 = true) (h3 : inB m.st 1 4 = true) (h4 : inB m.ends 0 2147483647 = true) (h5 : inB m.due 0 2147483647 = true) (h6 : ¬ m.amt ≤ 4611686018427387904) : Calls Try.prog 13 #[.agg (Rec.vals m)] w fun e w' => e = .returned (.bool false) ∧ Below w.heap.size w w' := by
  have K0 := fun W => mwithin_is m.acct 0 63 W
  rw [h0] at K0
  have K1 := fun W => mwithin_is m.dest 0 63 W
  rw [h1] at K1
  have K2 := fun W => mwithin_is m.what 1 4 W
  rw [h2] at K2
  have K3 := fun W => mwithin_is m.st 1 4 W
  rw [h3] at K3
  have K4 := fun W => mwithin_is m.ends 0 2147483647 W
  rw [h4] at K4
  have K5 := fun W => mwithin_is m.due 0 2147483647 W
  rw [h5] at K5
  have d6 : decide ((m.amt : Int) ≤ 4611686018427387904) = false := decide_eq_false (by omega)
  have n6 : decide (m.amt ≤ 4611686018427387904) = false := decide_eq_false (by omega)
  have hB : Below w.heap.size w (w.alloc (.cells (Rec.vals m) 40)) := (Below.refl _ _).alloc (Nat.le_refl _) _
  have hO : RecAt (w.alloc (.cells (Rec.vals m) 40)) w.heap.size (Rec.vals m) 40 := RecAt.new w (Rec.vals m) 40
  have c_acct : (w.alloc (.cells (Rec.vals m) 40)).cell? ⟨w.heap.size, 0, none⟩ = some (.int .i64 m.acct) := hO.cell 0; have c_dest : (w.alloc (.cells (Rec.vals m) 40)).cell? ⟨w.heap.size, 26, none⟩ = some (.int .i64 m.dest) := hO.cell 26; have c_what : (w.alloc (.cells (Rec.vals m) 40)).cell? ⟨w.heap.size, 1, none⟩ = some (.int .i64 m.what) := hO.cell 1; have c_st : (w.alloc (.cells (Rec.vals m) 40)).cell? ⟨w.heap.size, 30, none⟩ = some (.int .i64 m.st) := hO.cell 30; have c_ends : (w.alloc (.cells (Rec.vals m) 40)).cell? ⟨w.heap.size, 28, none⟩ = some (.int .i64 m.ends) := hO.cell 28; have c_due : (w.alloc (.cells (Rec.vals m) 40)).cell? ⟨w.heap.size, 29, none⟩ = some (.int .i64 m.due) := hO.cell 29; have c_amt : (w.alloc (.cells (Rec.vals m) 40)).cell? ⟨w.heap.size, 27, none⟩ = some (.int .u64 (m.amt : Int)) := hO.cell 27; have c_yes : (w.alloc (.cells (Rec.vals m) 40)).cell? ⟨w.heap.size, 31, none⟩ = some (.slice m.yes.row m.yes.bs.length m.yes.cap) := hO.cell 31
  clear hm h0 h1 h2 h3 h4 h5 h6
  go_enter Try.func13, Try.ntmps13
  go_wp2_with (first
    | (go_at_call 30; refine (K0 _).mono ?_; clear K0; rintro e w' ⟨rfl, rfl⟩)
    | (go_at_call 30; refine (K1 _).mono ?_; clear K1; rintro e w' ⟨rfl, rfl⟩)
    | (go_at_call 30; refine (K2 _).mono ?_; clear K2; rintro e w' ⟨rfl, rfl⟩)
    | (go_at_call 30; refine (K3 _).mono ?_; clear K3; rintro e w' ⟨rfl, rfl⟩)
    | (go_at_call 30; refine (K4 _).mono ?_; clear K4; rintro e w' ⟨rfl, rfl⟩)
    | (go_at_call 30; refine (K5 _).mono ?_; clear K5; rintro e w' ⟨rfl, rfl⟩))
  go_ret
  exact ⟨by first | rfl | simp, hB⟩

set_option maxRecDepth 100000 in
set_option maxHeartbeats 2000000 in
theorem fits_p7 (m : Mot) (w : World) (hm : MotAt w m) (h0 : inB m.acct 0 63 = true) (h1 : inB m.dest 0 63 = true) (h2 : inB m.what 1 4 = true) (h3 : inB m.st 1 4 = true) (h4 : inB m.ends 0 2147483647 = true) (h5 : inB m.due 0 2147483647 = true) (h6 : m.amt ≤ 4611686018427387904) (h7 : ¬ FieldI m.yes.bs 128) : Calls Try.prog 13 #[.agg (Rec.vals m)] w fun e w' => e = .returned (.bool false) ∧ Below w.heap.size w w' := by
  have K0 := fun W => mwithin_is m.acct 0 63 W
  rw [h0] at K0
  have K1 := fun W => mwithin_is m.dest 0 63 W
  rw [h1] at K1
  have K2 := fun W => mwithin_is m.what 1 4 W
  rw [h2] at K2
  have K3 := fun W => mwithin_is m.st 1 4 W
  rw [h3] at K3
  have K4 := fun W => mwithin_is m.ends 0 2147483647 W
  rw [h4] at K4
  have K5 := fun W => mwithin_is m.due 0 2147483647 W
  rw [h5] at K5
  have d6 : decide ((m.amt : Int) ≤ 4611686018427387904) = true := decide_eq_true (by omega)
  have n6 : decide (m.amt ≤ 4611686018427387904) = true := decide_eq_true (by omega)
  have K7 := Lib.hid (fun (W : World) (hB : Below w.heap.size w W) => bcheck_no m.yes.bs _ m.yes.row m.yes.cap 128 W (Lies.ofRow (hm.yes.up hB).sl.row) hm.yes.all h7)
  have hB : Below w.heap.size w (w.alloc (.cells (Rec.vals m) 40)) := (Below.refl _ _).alloc (Nat.le_refl _) _
  have hO : RecAt (w.alloc (.cells (Rec.vals m) 40)) w.heap.size (Rec.vals m) 40 := RecAt.new w (Rec.vals m) 40
  have c_acct : (w.alloc (.cells (Rec.vals m) 40)).cell? ⟨w.heap.size, 0, none⟩ = some (.int .i64 m.acct) := hO.cell 0; have c_dest : (w.alloc (.cells (Rec.vals m) 40)).cell? ⟨w.heap.size, 26, none⟩ = some (.int .i64 m.dest) := hO.cell 26; have c_what : (w.alloc (.cells (Rec.vals m) 40)).cell? ⟨w.heap.size, 1, none⟩ = some (.int .i64 m.what) := hO.cell 1; have c_st : (w.alloc (.cells (Rec.vals m) 40)).cell? ⟨w.heap.size, 30, none⟩ = some (.int .i64 m.st) := hO.cell 30; have c_ends : (w.alloc (.cells (Rec.vals m) 40)).cell? ⟨w.heap.size, 28, none⟩ = some (.int .i64 m.ends) := hO.cell 28; have c_due : (w.alloc (.cells (Rec.vals m) 40)).cell? ⟨w.heap.size, 29, none⟩ = some (.int .i64 m.due) := hO.cell 29; have c_amt : (w.alloc (.cells (Rec.vals m) 40)).cell? ⟨w.heap.size, 27, none⟩ = some (.int .u64 (m.amt : Int)) := hO.cell 27; have c_yes : (w.alloc (.cells (Rec.vals m) 40)).cell? ⟨w.heap.size, 31, none⟩ = some (.slice m.yes.row m.yes.bs.length m.yes.cap) := hO.cell 31
  clear hm h0 h1 h2 h3 h4 h5 h6 h7
  go_enter Try.func13, Try.ntmps13
  go_wp2_with (first
    | (go_at_call 30; refine (K0 _).mono ?_; clear K0; rintro e w' ⟨rfl, rfl⟩)
    | (go_at_call 30; refine (K1 _).mono ?_; clear K1; rintro e w' ⟨rfl, rfl⟩)
    | (go_at_call 30; refine (K2 _).mono ?_; clear K2; rintro e w' ⟨rfl, rfl⟩)
    | (go_at_call 30; refine (K3 _).mono ?_; clear K3; rintro e w' ⟨rfl, rfl⟩)
    | (go_at_call 30; refine (K4 _).mono ?_; clear K4; rintro e w' ⟨rfl, rfl⟩)
    | (go_at_call 30; refine (K5 _).mono ?_; clear K5; rintro e w' ⟨rfl, rfl⟩)
    | (go_at_call 41; refine (K7.out _ hB).mono ?_; clear K7; rintro e w1 ⟨rfl, hb⟩; have hO := hO.up hb; have hB := Below.then hB hb; clear hb c_yes; have c_no : w1.cell? ⟨w.heap.size, 32, none⟩ = some (.slice m.no.row m.no.bs.length m.no.cap) := hO.cell 32))
  go_ret
  exact ⟨by first | rfl | simp, hB⟩

set_option maxRecDepth 100000 in
set_option maxHeartbeats 2000000 in
theorem fits_p8 (m : Mot) (w : World) (hm : MotAt w m) (h0 : inB m.acct 0 63 = true) (h1 : inB m.dest 0 63 = true) (h2 : inB m.what 1 4 = true) (h3 : inB m.st 1 4 = true) (h4 : inB m.ends 0 2147483647 = true) (h5 : inB m.due 0 2147483647 = true) (h6 : m.amt ≤ 4611686018427387904) (h7 : FieldI m.yes.bs 128) (h8 : ¬ FieldI m.no.bs 128) : Calls Try.prog 13 #[.agg (Rec.vals m)] w fun e w' => e = .returned (.bool false) ∧ Below w.heap.size w w' := by
  have K0 := fun W => mwithin_is m.acct 0 63 W
  rw [h0] at K0
  have K1 := fun W => mwithin_is m.dest 0 63 W
  rw [h1] at K1
  have K2 := fun W => mwithin_is m.what 1 4 W
  rw [h2] at K2
  have K3 := fun W => mwithin_is m.st 1 4 W
  rw [h3] at K3
  have K4 := fun W => mwithin_is m.ends 0 2147483647 W
  rw [h4] at K4
  have K5 := fun W => mwithin_is m.due 0 2147483647 W
  rw [h5] at K5
  have d6 : decide ((m.amt : Int) ≤ 4611686018427387904) = true := decide_eq_true (by omega)
  have n6 : decide (m.amt ≤ 4611686018427387904) = true := decide_eq_true (by omega)
  have K7 := Lib.hid (fun (W : World) (hB : Below w.heap.size w W) => check_yes m.yes.bs _ m.yes.row m.yes.cap 128 W (Lies.ofRow (hm.yes.up hB).sl.row) hm.yes.all h7)
  have K8 := Lib.hid (fun (W : World) (hB : Below w.heap.size w W) => bcheck_no m.no.bs _ m.no.row m.no.cap 128 W (Lies.ofRow (hm.no.up hB).sl.row) hm.no.all h8)
  have hB : Below w.heap.size w (w.alloc (.cells (Rec.vals m) 40)) := (Below.refl _ _).alloc (Nat.le_refl _) _
  have hO : RecAt (w.alloc (.cells (Rec.vals m) 40)) w.heap.size (Rec.vals m) 40 := RecAt.new w (Rec.vals m) 40
  have c_acct : (w.alloc (.cells (Rec.vals m) 40)).cell? ⟨w.heap.size, 0, none⟩ = some (.int .i64 m.acct) := hO.cell 0; have c_dest : (w.alloc (.cells (Rec.vals m) 40)).cell? ⟨w.heap.size, 26, none⟩ = some (.int .i64 m.dest) := hO.cell 26; have c_what : (w.alloc (.cells (Rec.vals m) 40)).cell? ⟨w.heap.size, 1, none⟩ = some (.int .i64 m.what) := hO.cell 1; have c_st : (w.alloc (.cells (Rec.vals m) 40)).cell? ⟨w.heap.size, 30, none⟩ = some (.int .i64 m.st) := hO.cell 30; have c_ends : (w.alloc (.cells (Rec.vals m) 40)).cell? ⟨w.heap.size, 28, none⟩ = some (.int .i64 m.ends) := hO.cell 28; have c_due : (w.alloc (.cells (Rec.vals m) 40)).cell? ⟨w.heap.size, 29, none⟩ = some (.int .i64 m.due) := hO.cell 29; have c_amt : (w.alloc (.cells (Rec.vals m) 40)).cell? ⟨w.heap.size, 27, none⟩ = some (.int .u64 (m.amt : Int)) := hO.cell 27; have c_yes : (w.alloc (.cells (Rec.vals m) 40)).cell? ⟨w.heap.size, 31, none⟩ = some (.slice m.yes.row m.yes.bs.length m.yes.cap) := hO.cell 31
  clear hm h0 h1 h2 h3 h4 h5 h6 h7 h8
  go_enter Try.func13, Try.ntmps13
  go_wp2_with (first
    | (go_at_call 30; refine (K0 _).mono ?_; clear K0; rintro e w' ⟨rfl, rfl⟩)
    | (go_at_call 30; refine (K1 _).mono ?_; clear K1; rintro e w' ⟨rfl, rfl⟩)
    | (go_at_call 30; refine (K2 _).mono ?_; clear K2; rintro e w' ⟨rfl, rfl⟩)
    | (go_at_call 30; refine (K3 _).mono ?_; clear K3; rintro e w' ⟨rfl, rfl⟩)
    | (go_at_call 30; refine (K4 _).mono ?_; clear K4; rintro e w' ⟨rfl, rfl⟩)
    | (go_at_call 30; refine (K5 _).mono ?_; clear K5; rintro e w' ⟨rfl, rfl⟩)
    | (go_at_call 41; refine (K7.out _ hB).mono ?_; clear K7; rintro e w1 ⟨rfl, hb⟩; have hO := hO.up hb; have hB := Below.then hB hb; clear hb c_yes; have c_no : w1.cell? ⟨w.heap.size, 32, none⟩ = some (.slice m.no.row m.no.bs.length m.no.cap) := hO.cell 32)
    | (go_at_call 41; refine (K8.out _ hB).mono ?_; clear K8; rintro e w2 ⟨rfl, hb⟩; have hO := hO.up hb; have hB := Below.then hB hb; clear hb c_no))
  go_ret
  exact ⟨by first | rfl | simp, hB⟩

set_option maxRecDepth 100000 in
set_option maxHeartbeats 2000000 in
theorem fits_p9 (m : Mot) (w : World) (hm : MotAt w m) (h0 : inB m.acct 0 63 = true) (h1 : inB m.dest 0 63 = true) (h2 : inB m.what 1 4 = true) (h3 : inB m.st 1 4 = true) (h4 : inB m.ends 0 2147483647 = true) (h5 : inB m.due 0 2147483647 = true) (h6 : m.amt ≤ 4611686018427387904) (h7 : FieldI m.yes.bs 128) (h8 : FieldI m.no.bs 128)  : Calls Try.prog 13 #[.agg (Rec.vals m)] w fun e w' => e = .returned (.bool m.pure.parB) ∧ Below w.heap.size w w' := by
  have K0 := fun W => mwithin_is m.acct 0 63 W
  rw [h0] at K0
  have K1 := fun W => mwithin_is m.dest 0 63 W
  rw [h1] at K1
  have K2 := fun W => mwithin_is m.what 1 4 W
  rw [h2] at K2
  have K3 := fun W => mwithin_is m.st 1 4 W
  rw [h3] at K3
  have K4 := fun W => mwithin_is m.ends 0 2147483647 W
  rw [h4] at K4
  have K5 := fun W => mwithin_is m.due 0 2147483647 W
  rw [h5] at K5
  have d6 : decide ((m.amt : Int) ≤ 4611686018427387904) = true := decide_eq_true (by omega)
  have n6 : decide (m.amt ≤ 4611686018427387904) = true := decide_eq_true (by omega)
  have K7 := Lib.hid (fun (W : World) (hB : Below w.heap.size w W) => check_yes m.yes.bs _ m.yes.row m.yes.cap 128 W (Lies.ofRow (hm.yes.up hB).sl.row) hm.yes.all h7)
  have K8 := Lib.hid (fun (W : World) (hB : Below w.heap.size w W) => check_yes m.no.bs _ m.no.row m.no.cap 128 W (Lies.ofRow (hm.no.up hB).sl.row) hm.no.all h8)
  have K9 := Lib.hid (fun (W : World) => mparams_is m W hm.par)
  obtain ⟨pb, hpb⟩ : ∃ pb, m.pure.parB = pb := ⟨_, rfl⟩
  rw [hpb] at K9 ⊢
  have hB : Below w.heap.size w (w.alloc (.cells (Rec.vals m) 40)) := (Below.refl _ _).alloc (Nat.le_refl _) _
  have hO : RecAt (w.alloc (.cells (Rec.vals m) 40)) w.heap.size (Rec.vals m) 40 := RecAt.new w (Rec.vals m) 40
  have c_acct : (w.alloc (.cells (Rec.vals m) 40)).cell? ⟨w.heap.size, 0, none⟩ = some (.int .i64 m.acct) := hO.cell 0; have c_dest : (w.alloc (.cells (Rec.vals m) 40)).cell? ⟨w.heap.size, 26, none⟩ = some (.int .i64 m.dest) := hO.cell 26; have c_what : (w.alloc (.cells (Rec.vals m) 40)).cell? ⟨w.heap.size, 1, none⟩ = some (.int .i64 m.what) := hO.cell 1; have c_st : (w.alloc (.cells (Rec.vals m) 40)).cell? ⟨w.heap.size, 30, none⟩ = some (.int .i64 m.st) := hO.cell 30; have c_ends : (w.alloc (.cells (Rec.vals m) 40)).cell? ⟨w.heap.size, 28, none⟩ = some (.int .i64 m.ends) := hO.cell 28; have c_due : (w.alloc (.cells (Rec.vals m) 40)).cell? ⟨w.heap.size, 29, none⟩ = some (.int .i64 m.due) := hO.cell 29; have c_amt : (w.alloc (.cells (Rec.vals m) 40)).cell? ⟨w.heap.size, 27, none⟩ = some (.int .u64 (m.amt : Int)) := hO.cell 27; have c_yes : (w.alloc (.cells (Rec.vals m) 40)).cell? ⟨w.heap.size, 31, none⟩ = some (.slice m.yes.row m.yes.bs.length m.yes.cap) := hO.cell 31
  clear hm h0 h1 h2 h3 h4 h5 h6 h7 h8 hpb
  go_enter Try.func13, Try.ntmps13
  go_wp2_with (first
    | (go_at_call 30; refine (K0 _).mono ?_; clear K0; rintro e w' ⟨rfl, rfl⟩)
    | (go_at_call 30; refine (K1 _).mono ?_; clear K1; rintro e w' ⟨rfl, rfl⟩)
    | (go_at_call 30; refine (K2 _).mono ?_; clear K2; rintro e w' ⟨rfl, rfl⟩)
    | (go_at_call 30; refine (K3 _).mono ?_; clear K3; rintro e w' ⟨rfl, rfl⟩)
    | (go_at_call 30; refine (K4 _).mono ?_; clear K4; rintro e w' ⟨rfl, rfl⟩)
    | (go_at_call 30; refine (K5 _).mono ?_; clear K5; rintro e w' ⟨rfl, rfl⟩)
    | (go_at_call 41; refine (K7.out _ hB).mono ?_; clear K7; rintro e w1 ⟨rfl, hb⟩; have hO := hO.up hb; have hB := Below.then hB hb; clear hb c_yes; have c_no : w1.cell? ⟨w.heap.size, 32, none⟩ = some (.slice m.no.row m.no.bs.length m.no.cap) := hO.cell 32)
    | (go_at_call 41; refine (K8.out _ hB).mono ?_; clear K8; rintro e w2 ⟨rfl, hb⟩; have hO := hO.up hb; have hB := Below.then hB hb; clear hb c_no)
    | ((with_reducible refine slot_is 49 rfl ?_); refine load_rec 40 _ rfl rfl _ (Rec.vals m) rfl hO.lies Try.underlying40 size_mot ?_)
    | (go_at_call 42; refine (K9.out _).mono ?_; clear K9; rintro e w3 ⟨rfl, hb⟩; have hB := Below.then hB hb; clear hb))
  go_ret
  exact ⟨by first | rfl | simp, hB⟩

theorem motfits_is (m : Mot) (w : World) (hm : MotAt w m) : Calls Try.prog 13 #[.agg (Rec.vals m)] w fun e w' => e = .returned (.bool m.pure.fitsB) ∧ Below w.heap.size w w' := by
  unfold PMot.fitsB
  show Calls _ _ _ _ fun e w' => e = .returned (.bool (inB m.acct 0 63 && (inB m.dest 0 63 && (inB m.what 1 4 && (inB m.st 1 4 && (inB m.ends 0 2147483647 && (inB m.due 0 2147483647 && (decide (m.amt ≤ 4611686018427387904) && (decide (FieldI m.yes.bs 128) && (decide (FieldI m.no.bs 128) && m.pure.parB)))))))))) ∧ Below w.heap.size w w'
  cases h0 : inB m.acct 0 63 with
  | false => rw [Bool.false_and]; exact fits_p0 m w hm h0
  | true =>
    rw [Bool.true_and]
    cases h1 : inB m.dest 0 63 with
    | false => rw [Bool.false_and]; exact fits_p1 m w hm h0 h1
    | true =>
      rw [Bool.true_and]
      cases h2 : inB m.what 1 4 with
      | false => rw [Bool.false_and]; exact fits_p2 m w hm h0 h1 h2
      | true =>
        rw [Bool.true_and]
        cases h3 : inB m.st 1 4 with
        | false => rw [Bool.false_and]; exact fits_p3 m w hm h0 h1 h2 h3
        | true =>
          rw [Bool.true_and]
          cases h4 : inB m.ends 0 2147483647 with
          | false => rw [Bool.false_and]; exact fits_p4 m w hm h0 h1 h2 h3 h4
          | true =>
            rw [Bool.true_and]
            cases h5 : inB m.due 0 2147483647 with
            | false => rw [Bool.false_and]; exact fits_p5 m w hm h0 h1 h2 h3 h4 h5
            | true =>
              rw [Bool.true_and]
              by_cases h6 : m.amt ≤ 4611686018427387904
              · rw [decide_eq_true h6, Bool.true_and]
                by_cases h7 : FieldI m.yes.bs 128
                · rw [decide_eq_true h7, Bool.true_and]
                  by_cases h8 : FieldI m.no.bs 128
                  · rw [decide_eq_true h8, Bool.true_and]
                    exact fits_p9 m w hm h0 h1 h2 h3 h4 h5 h6 h7 h8
                  · rw [decide_eq_false h8, Bool.false_and]; exact fits_p8 m w hm h0 h1 h2 h3 h4 h5 h6 h7 h8
                · rw [decide_eq_false h7, Bool.false_and]; exact fits_p7 m w hm h0 h1 h2 h3 h4 h5 h6 h7
              · rw [decide_eq_false h6, Bool.false_and]; exact fits_p6 m w hm h0 h1 h2 h3 h4 h5 h6

theorem marks_is (b : BV) (w : World) (r : Bool) (hb : BvAt w b) (hl : b.bs.length ≤ 100000) (hr : r = true ↔ FieldI b.bs 128) :
    Calls Try.prog 43 #[.slice b.row b.bs.length b.cap] w fun e w' => e = .returned (.bool r) ∧ w = w' :=
  (ring_right_is b.bs _ b.row b.cap w (Lies.ofRow hb.sl.row) hb.all hl).mono (by
    rintro e w' ⟨⟨r2, rfl, h2⟩, rfl⟩
    refine ⟨?_, rfl⟩
    have h3 : IsMarks b.bs ↔ FieldI b.bs 128 := Iff.rfl
    cases r <;> cases r2 <;> simp_all)

theorem build_rpar23 {ops : Array Oper} {rest : List Oper} {o : Oper} {a : Act} {w : World} {Q : Exit → Act → World → Prop} (ho : o.op = .build 43 #[]) (hgd : Region.wanted o (yielded ops a.tmps) = true)
    (h : wpList Try.prog ops Q rest (a.put o.dst (.agg Par.none.vals)) w) : wpList Try.prog ops Q (o :: rest) a w :=
  build_rec 43 #[] ho hgd Par.none.vals (by kernel_rfl) h

set_option maxRecDepth 100000 in
set_option maxHeartbeats 2000000 in
theorem fits_r0 (m : Mot) (w : World) (hm : MotAt w m) (hs : m.yes.bs.length ≤ 100000 ∧ m.no.bs.length ≤ 100000) (h0 : inB m.acct 0 63 = false)  : Calls Try.prog 14 #[.agg (Rec.vals m)] w fun e w' => e = .returned (.bool false) ∧ Below w.heap.size w w' := by
  have K0 := fun W => rin23_is m.acct 0 63 W
  rw [h0] at K0
  have hB : Below w.heap.size w (w.alloc (.cells (Rec.vals m) 45)) := (Below.refl _ _).alloc (Nat.le_refl _) _
  have hO : RecAt (w.alloc (.cells (Rec.vals m) 45)) w.heap.size (Rec.vals m) 45 := RecAt.new w (Rec.vals m) 45
  have c_acct : (w.alloc (.cells (Rec.vals m) 45)).cell? ⟨w.heap.size, 0, none⟩ = some (.int .i64 m.acct) := hO.cell 0; have c_dest : (w.alloc (.cells (Rec.vals m) 45)).cell? ⟨w.heap.size, 26, none⟩ = some (.int .i64 m.dest) := hO.cell 26; have c_what : (w.alloc (.cells (Rec.vals m) 45)).cell? ⟨w.heap.size, 1, none⟩ = some (.int .i64 m.what) := hO.cell 1; have c_st : (w.alloc (.cells (Rec.vals m) 45)).cell? ⟨w.heap.size, 30, none⟩ = some (.int .i64 m.st) := hO.cell 30; have c_ends : (w.alloc (.cells (Rec.vals m) 45)).cell? ⟨w.heap.size, 28, none⟩ = some (.int .i64 m.ends) := hO.cell 28; have c_due : (w.alloc (.cells (Rec.vals m) 45)).cell? ⟨w.heap.size, 29, none⟩ = some (.int .i64 m.due) := hO.cell 29; have c_amt : (w.alloc (.cells (Rec.vals m) 45)).cell? ⟨w.heap.size, 27, none⟩ = some (.int .u64 (m.amt : Int)) := hO.cell 27; have c_yes : (w.alloc (.cells (Rec.vals m) 45)).cell? ⟨w.heap.size, 31, none⟩ = some (.slice m.yes.row m.yes.bs.length m.yes.cap) := hO.cell 31; have c_no : (w.alloc (.cells (Rec.vals m) 45)).cell? ⟨w.heap.size, 32, none⟩ = some (.slice m.no.row m.no.bs.length m.no.cap) := hO.cell 32
  clear hm hs h0 hO
  go_enter Try.func14, Try.ntmps14
  go_wp2_with (first
    | (go_at_call 36; refine (K0 _).mono ?_; clear K0; rintro e w' ⟨rfl, rfl⟩))
  go_ret
  exact ⟨by first | rfl | simp, hB⟩

set_option maxRecDepth 100000 in
set_option maxHeartbeats 2000000 in
theorem fits_r1 (m : Mot) (w : World) (hm : MotAt w m) (hs : m.yes.bs.length ≤ 100000 ∧ m.no.bs.length ≤ 100000) (h0 : inB m.acct 0 63 = true) (h1 : inB m.dest 0 63 = false)  : Calls Try.prog 14 #[.agg (Rec.vals m)] w fun e w' => e = .returned (.bool false) ∧ Below w.heap.size w w' := by
  have K0 := fun W => rin23_is m.acct 0 63 W
  rw [h0] at K0
  have K1 := fun W => rin23_is m.dest 0 63 W
  rw [h1] at K1
  have hB : Below w.heap.size w (w.alloc (.cells (Rec.vals m) 45)) := (Below.refl _ _).alloc (Nat.le_refl _) _
  have hO : RecAt (w.alloc (.cells (Rec.vals m) 45)) w.heap.size (Rec.vals m) 45 := RecAt.new w (Rec.vals m) 45
  have c_acct : (w.alloc (.cells (Rec.vals m) 45)).cell? ⟨w.heap.size, 0, none⟩ = some (.int .i64 m.acct) := hO.cell 0; have c_dest : (w.alloc (.cells (Rec.vals m) 45)).cell? ⟨w.heap.size, 26, none⟩ = some (.int .i64 m.dest) := hO.cell 26; have c_what : (w.alloc (.cells (Rec.vals m) 45)).cell? ⟨w.heap.size, 1, none⟩ = some (.int .i64 m.what) := hO.cell 1; have c_st : (w.alloc (.cells (Rec.vals m) 45)).cell? ⟨w.heap.size, 30, none⟩ = some (.int .i64 m.st) := hO.cell 30; have c_ends : (w.alloc (.cells (Rec.vals m) 45)).cell? ⟨w.heap.size, 28, none⟩ = some (.int .i64 m.ends) := hO.cell 28; have c_due : (w.alloc (.cells (Rec.vals m) 45)).cell? ⟨w.heap.size, 29, none⟩ = some (.int .i64 m.due) := hO.cell 29; have c_amt : (w.alloc (.cells (Rec.vals m) 45)).cell? ⟨w.heap.size, 27, none⟩ = some (.int .u64 (m.amt : Int)) := hO.cell 27; have c_yes : (w.alloc (.cells (Rec.vals m) 45)).cell? ⟨w.heap.size, 31, none⟩ = some (.slice m.yes.row m.yes.bs.length m.yes.cap) := hO.cell 31; have c_no : (w.alloc (.cells (Rec.vals m) 45)).cell? ⟨w.heap.size, 32, none⟩ = some (.slice m.no.row m.no.bs.length m.no.cap) := hO.cell 32
  clear hm hs h0 h1 hO
  go_enter Try.func14, Try.ntmps14
  go_wp2_with (first
    | (go_at_call 36; refine (K0 _).mono ?_; clear K0; rintro e w' ⟨rfl, rfl⟩)
    | (go_at_call 36; refine (K1 _).mono ?_; clear K1; rintro e w' ⟨rfl, rfl⟩))
  go_ret
  exact ⟨by first | rfl | simp, hB⟩

set_option maxRecDepth 100000 in
set_option maxHeartbeats 2000000 in
theorem fits_r2 (m : Mot) (w : World) (hm : MotAt w m) (hs : m.yes.bs.length ≤ 100000 ∧ m.no.bs.length ≤ 100000) (h0 : inB m.acct 0 63 = true) (h1 : inB m.dest 0 63 = true) (h2 : inB m.what 1 4 = false)  : Calls Try.prog 14 #[.agg (Rec.vals m)] w fun e w' => e = .returned (.bool false) ∧ Below w.heap.size w w' := by
  have K0 := fun W => rin23_is m.acct 0 63 W
  rw [h0] at K0
  have K1 := fun W => rin23_is m.dest 0 63 W
  rw [h1] at K1
  have K2 := fun W => rin23_is m.what 1 4 W
  rw [h2] at K2
  have hB : Below w.heap.size w (w.alloc (.cells (Rec.vals m) 45)) := (Below.refl _ _).alloc (Nat.le_refl _) _
  have hO : RecAt (w.alloc (.cells (Rec.vals m) 45)) w.heap.size (Rec.vals m) 45 := RecAt.new w (Rec.vals m) 45
  have c_acct : (w.alloc (.cells (Rec.vals m) 45)).cell? ⟨w.heap.size, 0, none⟩ = some (.int .i64 m.acct) := hO.cell 0; have c_dest : (w.alloc (.cells (Rec.vals m) 45)).cell? ⟨w.heap.size, 26, none⟩ = some (.int .i64 m.dest) := hO.cell 26; have c_what : (w.alloc (.cells (Rec.vals m) 45)).cell? ⟨w.heap.size, 1, none⟩ = some (.int .i64 m.what) := hO.cell 1; have c_st : (w.alloc (.cells (Rec.vals m) 45)).cell? ⟨w.heap.size, 30, none⟩ = some (.int .i64 m.st) := hO.cell 30; have c_ends : (w.alloc (.cells (Rec.vals m) 45)).cell? ⟨w.heap.size, 28, none⟩ = some (.int .i64 m.ends) := hO.cell 28; have c_due : (w.alloc (.cells (Rec.vals m) 45)).cell? ⟨w.heap.size, 29, none⟩ = some (.int .i64 m.due) := hO.cell 29; have c_amt : (w.alloc (.cells (Rec.vals m) 45)).cell? ⟨w.heap.size, 27, none⟩ = some (.int .u64 (m.amt : Int)) := hO.cell 27; have c_yes : (w.alloc (.cells (Rec.vals m) 45)).cell? ⟨w.heap.size, 31, none⟩ = some (.slice m.yes.row m.yes.bs.length m.yes.cap) := hO.cell 31; have c_no : (w.alloc (.cells (Rec.vals m) 45)).cell? ⟨w.heap.size, 32, none⟩ = some (.slice m.no.row m.no.bs.length m.no.cap) := hO.cell 32
  clear hm hs h0 h1 h2 hO
  go_enter Try.func14, Try.ntmps14
  go_wp2_with (first
    | (go_at_call 36; refine (K0 _).mono ?_; clear K0; rintro e w' ⟨rfl, rfl⟩)
    | (go_at_call 36; refine (K1 _).mono ?_; clear K1; rintro e w' ⟨rfl, rfl⟩)
    | (go_at_call 36; refine (K2 _).mono ?_; clear K2; rintro e w' ⟨rfl, rfl⟩))
  go_ret
  exact ⟨by first | rfl | simp, hB⟩

set_option maxRecDepth 100000 in
set_option maxHeartbeats 2000000 in
theorem fits_r3 (m : Mot) (w : World) (hm : MotAt w m) (hs : m.yes.bs.length ≤ 100000 ∧ m.no.bs.length ≤ 100000) (h0 : inB m.acct 0 63 = true) (h1 : inB m.dest 0 63 = true) (h2 : inB m.what 1 4 = true) (h3 : inB m.st 1 4 = false)  : Calls Try.prog 14 #[.agg (Rec.vals m)] w fun e w' => e = .returned (.bool false) ∧ Below w.heap.size w w' := by
  have K0 := fun W => rin23_is m.acct 0 63 W
  rw [h0] at K0
  have K1 := fun W => rin23_is m.dest 0 63 W
  rw [h1] at K1
  have K2 := fun W => rin23_is m.what 1 4 W
  rw [h2] at K2
  have K3 := fun W => rin23_is m.st 1 4 W
  rw [h3] at K3
  have hB : Below w.heap.size w (w.alloc (.cells (Rec.vals m) 45)) := (Below.refl _ _).alloc (Nat.le_refl _) _
  have hO : RecAt (w.alloc (.cells (Rec.vals m) 45)) w.heap.size (Rec.vals m) 45 := RecAt.new w (Rec.vals m) 45
  have c_acct : (w.alloc (.cells (Rec.vals m) 45)).cell? ⟨w.heap.size, 0, none⟩ = some (.int .i64 m.acct) := hO.cell 0; have c_dest : (w.alloc (.cells (Rec.vals m) 45)).cell? ⟨w.heap.size, 26, none⟩ = some (.int .i64 m.dest) := hO.cell 26; have c_what : (w.alloc (.cells (Rec.vals m) 45)).cell? ⟨w.heap.size, 1, none⟩ = some (.int .i64 m.what) := hO.cell 1; have c_st : (w.alloc (.cells (Rec.vals m) 45)).cell? ⟨w.heap.size, 30, none⟩ = some (.int .i64 m.st) := hO.cell 30; have c_ends : (w.alloc (.cells (Rec.vals m) 45)).cell? ⟨w.heap.size, 28, none⟩ = some (.int .i64 m.ends) := hO.cell 28; have c_due : (w.alloc (.cells (Rec.vals m) 45)).cell? ⟨w.heap.size, 29, none⟩ = some (.int .i64 m.due) := hO.cell 29; have c_amt : (w.alloc (.cells (Rec.vals m) 45)).cell? ⟨w.heap.size, 27, none⟩ = some (.int .u64 (m.amt : Int)) := hO.cell 27; have c_yes : (w.alloc (.cells (Rec.vals m) 45)).cell? ⟨w.heap.size, 31, none⟩ = some (.slice m.yes.row m.yes.bs.length m.yes.cap) := hO.cell 31; have c_no : (w.alloc (.cells (Rec.vals m) 45)).cell? ⟨w.heap.size, 32, none⟩ = some (.slice m.no.row m.no.bs.length m.no.cap) := hO.cell 32
  clear hm hs h0 h1 h2 h3 hO
  go_enter Try.func14, Try.ntmps14
  go_wp2_with (first
    | (go_at_call 36; refine (K0 _).mono ?_; clear K0; rintro e w' ⟨rfl, rfl⟩)
    | (go_at_call 36; refine (K1 _).mono ?_; clear K1; rintro e w' ⟨rfl, rfl⟩)
    | (go_at_call 36; refine (K2 _).mono ?_; clear K2; rintro e w' ⟨rfl, rfl⟩)
    | (go_at_call 36; refine (K3 _).mono ?_; clear K3; rintro e w' ⟨rfl, rfl⟩))
  go_ret
  exact ⟨by first | rfl | simp, hB⟩

set_option maxRecDepth 100000 in
set_option maxHeartbeats 2000000 in
theorem fits_r4 (m : Mot) (w : World) (hm : MotAt w m) (hs : m.yes.bs.length ≤ 100000 ∧ m.no.bs.length ≤ 100000) (h0 : inB m.acct 0 63 = true) (h1 : inB m.dest 0 63 = true) (h2 : inB m.what 1 4 = true) (h3 : inB m.st 1 4 = true) (h4 : inB m.ends 0 2147483647 = false)  : Calls Try.prog 14 #[.agg (Rec.vals m)] w fun e w' => e = .returned (.bool false) ∧ Below w.heap.size w w' := by
  have K0 := fun W => rin23_is m.acct 0 63 W
  rw [h0] at K0
  have K1 := fun W => rin23_is m.dest 0 63 W
  rw [h1] at K1
  have K2 := fun W => rin23_is m.what 1 4 W
  rw [h2] at K2
  have K3 := fun W => rin23_is m.st 1 4 W
  rw [h3] at K3
  have K4 := fun W => rin23_is m.ends 0 2147483647 W
  rw [h4] at K4
  have hB : Below w.heap.size w (w.alloc (.cells (Rec.vals m) 45)) := (Below.refl _ _).alloc (Nat.le_refl _) _
  have hO : RecAt (w.alloc (.cells (Rec.vals m) 45)) w.heap.size (Rec.vals m) 45 := RecAt.new w (Rec.vals m) 45
  have c_acct : (w.alloc (.cells (Rec.vals m) 45)).cell? ⟨w.heap.size, 0, none⟩ = some (.int .i64 m.acct) := hO.cell 0; have c_dest : (w.alloc (.cells (Rec.vals m) 45)).cell? ⟨w.heap.size, 26, none⟩ = some (.int .i64 m.dest) := hO.cell 26; have c_what : (w.alloc (.cells (Rec.vals m) 45)).cell? ⟨w.heap.size, 1, none⟩ = some (.int .i64 m.what) := hO.cell 1; have c_st : (w.alloc (.cells (Rec.vals m) 45)).cell? ⟨w.heap.size, 30, none⟩ = some (.int .i64 m.st) := hO.cell 30; have c_ends : (w.alloc (.cells (Rec.vals m) 45)).cell? ⟨w.heap.size, 28, none⟩ = some (.int .i64 m.ends) := hO.cell 28; have c_due : (w.alloc (.cells (Rec.vals m) 45)).cell? ⟨w.heap.size, 29, none⟩ = some (.int .i64 m.due) := hO.cell 29; have c_amt : (w.alloc (.cells (Rec.vals m) 45)).cell? ⟨w.heap.size, 27, none⟩ = some (.int .u64 (m.amt : Int)) := hO.cell 27; have c_yes : (w.alloc (.cells (Rec.vals m) 45)).cell? ⟨w.heap.size, 31, none⟩ = some (.slice m.yes.row m.yes.bs.length m.yes.cap) := hO.cell 31; have c_no : (w.alloc (.cells (Rec.vals m) 45)).cell? ⟨w.heap.size, 32, none⟩ = some (.slice m.no.row m.no.bs.length m.no.cap) := hO.cell 32
  clear hm hs h0 h1 h2 h3 h4 hO
  go_enter Try.func14, Try.ntmps14
  go_wp2_with (first
    | (go_at_call 36; refine (K0 _).mono ?_; clear K0; rintro e w' ⟨rfl, rfl⟩)
    | (go_at_call 36; refine (K1 _).mono ?_; clear K1; rintro e w' ⟨rfl, rfl⟩)
    | (go_at_call 36; refine (K2 _).mono ?_; clear K2; rintro e w' ⟨rfl, rfl⟩)
    | (go_at_call 36; refine (K3 _).mono ?_; clear K3; rintro e w' ⟨rfl, rfl⟩)
    | (go_at_call 36; refine (K4 _).mono ?_; clear K4; rintro e w' ⟨rfl, rfl⟩))
  go_ret
  exact ⟨by first | rfl | simp, hB⟩

set_option maxRecDepth 100000 in
set_option maxHeartbeats 2000000 in
theorem fits_r5 (m : Mot) (w : World) (hm : MotAt w m) (hs : m.yes.bs.length ≤ 100000 ∧ m.no.bs.length ≤ 100000) (h0 : inB m.acct 0 63 = true) (h1 : inB m.dest 0 63 = true) (h2 : inB m.what 1 4 = true) (h3 : inB m.st 1 4 = true) (h4 : inB m.ends 0 2147483647 = true) (h5 : inB m.due 0 2147483647 = false)  : Calls Try.prog 14 #[.agg (Rec.vals m)] w fun e w' => e = .returned (.bool false) ∧ Below w.heap.size w w' := by
  have K0 := fun W => rin23_is m.acct 0 63 W
  rw [h0] at K0
  have K1 := fun W => rin23_is m.dest 0 63 W
  rw [h1] at K1
  have K2 := fun W => rin23_is m.what 1 4 W
  rw [h2] at K2
  have K3 := fun W => rin23_is m.st 1 4 W
  rw [h3] at K3
  have K4 := fun W => rin23_is m.ends 0 2147483647 W
  rw [h4] at K4
  have K5 := fun W => rin23_is m.due 0 2147483647 W
  rw [h5] at K5
  have hB : Below w.heap.size w (w.alloc (.cells (Rec.vals m) 45)) := (Below.refl _ _).alloc (Nat.le_refl _) _
  have hO : RecAt (w.alloc (.cells (Rec.vals m) 45)) w.heap.size (Rec.vals m) 45 := RecAt.new w (Rec.vals m) 45
  have c_acct : (w.alloc (.cells (Rec.vals m) 45)).cell? ⟨w.heap.size, 0, none⟩ = some (.int .i64 m.acct) := hO.cell 0; have c_dest : (w.alloc (.cells (Rec.vals m) 45)).cell? ⟨w.heap.size, 26, none⟩ = some (.int .i64 m.dest) := hO.cell 26; have c_what : (w.alloc (.cells (Rec.vals m) 45)).cell? ⟨w.heap.size, 1, none⟩ = some (.int .i64 m.what) := hO.cell 1; have c_st : (w.alloc (.cells (Rec.vals m) 45)).cell? ⟨w.heap.size, 30, none⟩ = some (.int .i64 m.st) := hO.cell 30; have c_ends : (w.alloc (.cells (Rec.vals m) 45)).cell? ⟨w.heap.size, 28, none⟩ = some (.int .i64 m.ends) := hO.cell 28; have c_due : (w.alloc (.cells (Rec.vals m) 45)).cell? ⟨w.heap.size, 29, none⟩ = some (.int .i64 m.due) := hO.cell 29; have c_amt : (w.alloc (.cells (Rec.vals m) 45)).cell? ⟨w.heap.size, 27, none⟩ = some (.int .u64 (m.amt : Int)) := hO.cell 27; have c_yes : (w.alloc (.cells (Rec.vals m) 45)).cell? ⟨w.heap.size, 31, none⟩ = some (.slice m.yes.row m.yes.bs.length m.yes.cap) := hO.cell 31; have c_no : (w.alloc (.cells (Rec.vals m) 45)).cell? ⟨w.heap.size, 32, none⟩ = some (.slice m.no.row m.no.bs.length m.no.cap) := hO.cell 32
  clear hm hs h0 h1 h2 h3 h4 h5 hO
  go_enter Try.func14, Try.ntmps14
  go_wp2_with (first
    | (go_at_call 36; refine (K0 _).mono ?_; clear K0; rintro e w' ⟨rfl, rfl⟩)
    | (go_at_call 36; refine (K1 _).mono ?_; clear K1; rintro e w' ⟨rfl, rfl⟩)
    | (go_at_call 36; refine (K2 _).mono ?_; clear K2; rintro e w' ⟨rfl, rfl⟩)
    | (go_at_call 36; refine (K3 _).mono ?_; clear K3; rintro e w' ⟨rfl, rfl⟩)
    | (go_at_call 36; refine (K4 _).mono ?_; clear K4; rintro e w' ⟨rfl, rfl⟩)
    | (go_at_call 36; refine (K5 _).mono ?_; clear K5; rintro e w' ⟨rfl, rfl⟩))
  go_ret
  exact ⟨by first | rfl | simp, hB⟩

set_option maxRecDepth 100000 in
set_option maxHeartbeats 2000000 in
theorem fits_r6 (m : Mot) (w : World) (hm : MotAt w m) (hs : m.yes.bs.length ≤ 100000 ∧ m.no.bs.length ≤ 100000) (h0 : inB m.acct 0 63 = true) (h1 : inB m.dest 0 63 = true) (h2 : inB m.what 1 4 = true) (h3 : inB m.st 1 4 = true) (h4 : inB m.ends 0 2147483647 = true) (h5 : inB m.due 0 2147483647 = true) (h6 : ¬ m.amt ≤ 4611686018427387904)  : Calls Try.prog 14 #[.agg (Rec.vals m)] w fun e w' => e = .returned (.bool false) ∧ Below w.heap.size w w' := by
  have K0 := fun W => rin23_is m.acct 0 63 W
  rw [h0] at K0
  have K1 := fun W => rin23_is m.dest 0 63 W
  rw [h1] at K1
  have K2 := fun W => rin23_is m.what 1 4 W
  rw [h2] at K2
  have K3 := fun W => rin23_is m.st 1 4 W
  rw [h3] at K3
  have K4 := fun W => rin23_is m.ends 0 2147483647 W
  rw [h4] at K4
  have K5 := fun W => rin23_is m.due 0 2147483647 W
  rw [h5] at K5
  have d6 : decide ((4611686018427387904 : Int) < (m.amt : Int)) = true := decide_eq_true (by omega)
  have n6 : decide (4611686018427387904 < m.amt) = true := decide_eq_true (by omega)
  have hB : Below w.heap.size w (w.alloc (.cells (Rec.vals m) 45)) := (Below.refl _ _).alloc (Nat.le_refl _) _
  have hO : RecAt (w.alloc (.cells (Rec.vals m) 45)) w.heap.size (Rec.vals m) 45 := RecAt.new w (Rec.vals m) 45
  have c_acct : (w.alloc (.cells (Rec.vals m) 45)).cell? ⟨w.heap.size, 0, none⟩ = some (.int .i64 m.acct) := hO.cell 0; have c_dest : (w.alloc (.cells (Rec.vals m) 45)).cell? ⟨w.heap.size, 26, none⟩ = some (.int .i64 m.dest) := hO.cell 26; have c_what : (w.alloc (.cells (Rec.vals m) 45)).cell? ⟨w.heap.size, 1, none⟩ = some (.int .i64 m.what) := hO.cell 1; have c_st : (w.alloc (.cells (Rec.vals m) 45)).cell? ⟨w.heap.size, 30, none⟩ = some (.int .i64 m.st) := hO.cell 30; have c_ends : (w.alloc (.cells (Rec.vals m) 45)).cell? ⟨w.heap.size, 28, none⟩ = some (.int .i64 m.ends) := hO.cell 28; have c_due : (w.alloc (.cells (Rec.vals m) 45)).cell? ⟨w.heap.size, 29, none⟩ = some (.int .i64 m.due) := hO.cell 29; have c_amt : (w.alloc (.cells (Rec.vals m) 45)).cell? ⟨w.heap.size, 27, none⟩ = some (.int .u64 (m.amt : Int)) := hO.cell 27; have c_yes : (w.alloc (.cells (Rec.vals m) 45)).cell? ⟨w.heap.size, 31, none⟩ = some (.slice m.yes.row m.yes.bs.length m.yes.cap) := hO.cell 31; have c_no : (w.alloc (.cells (Rec.vals m) 45)).cell? ⟨w.heap.size, 32, none⟩ = some (.slice m.no.row m.no.bs.length m.no.cap) := hO.cell 32
  clear hm hs h0 h1 h2 h3 h4 h5 h6 hO
  go_enter Try.func14, Try.ntmps14
  go_wp2_with (first
    | (go_at_call 36; refine (K0 _).mono ?_; clear K0; rintro e w' ⟨rfl, rfl⟩)
    | (go_at_call 36; refine (K1 _).mono ?_; clear K1; rintro e w' ⟨rfl, rfl⟩)
    | (go_at_call 36; refine (K2 _).mono ?_; clear K2; rintro e w' ⟨rfl, rfl⟩)
    | (go_at_call 36; refine (K3 _).mono ?_; clear K3; rintro e w' ⟨rfl, rfl⟩)
    | (go_at_call 36; refine (K4 _).mono ?_; clear K4; rintro e w' ⟨rfl, rfl⟩)
    | (go_at_call 36; refine (K5 _).mono ?_; clear K5; rintro e w' ⟨rfl, rfl⟩))
  go_ret
  exact ⟨by first | rfl | simp, hB⟩

set_option maxRecDepth 100000 in
set_option maxHeartbeats 2000000 in
theorem fits_r7 (m : Mot) (w : World) (hm : MotAt w m) (hs : m.yes.bs.length ≤ 100000 ∧ m.no.bs.length ≤ 100000) (h0 : inB m.acct 0 63 = true) (h1 : inB m.dest 0 63 = true) (h2 : inB m.what 1 4 = true) (h3 : inB m.st 1 4 = true) (h4 : inB m.ends 0 2147483647 = true) (h5 : inB m.due 0 2147483647 = true) (h6 : m.amt ≤ 4611686018427387904) (h7 : ¬ FieldI m.yes.bs 128)  : Calls Try.prog 14 #[.agg (Rec.vals m)] w fun e w' => e = .returned (.bool false) ∧ Below w.heap.size w w' := by
  have K0 := fun W => rin23_is m.acct 0 63 W
  rw [h0] at K0
  have K1 := fun W => rin23_is m.dest 0 63 W
  rw [h1] at K1
  have K2 := fun W => rin23_is m.what 1 4 W
  rw [h2] at K2
  have K3 := fun W => rin23_is m.st 1 4 W
  rw [h3] at K3
  have K4 := fun W => rin23_is m.ends 0 2147483647 W
  rw [h4] at K4
  have K5 := fun W => rin23_is m.due 0 2147483647 W
  rw [h5] at K5
  have d6 : decide ((4611686018427387904 : Int) < (m.amt : Int)) = false := decide_eq_false (by omega)
  have n6 : decide (4611686018427387904 < m.amt) = false := decide_eq_false (by omega)
  have K7 := Lib.hid (fun (W : World) (hB : Below w.heap.size w W) => marks_is m.yes W false (hm.yes.up hB) (hs.1) (by simp [h7]))
  have hB : Below w.heap.size w (w.alloc (.cells (Rec.vals m) 45)) := (Below.refl _ _).alloc (Nat.le_refl _) _
  have hO : RecAt (w.alloc (.cells (Rec.vals m) 45)) w.heap.size (Rec.vals m) 45 := RecAt.new w (Rec.vals m) 45
  have c_acct : (w.alloc (.cells (Rec.vals m) 45)).cell? ⟨w.heap.size, 0, none⟩ = some (.int .i64 m.acct) := hO.cell 0; have c_dest : (w.alloc (.cells (Rec.vals m) 45)).cell? ⟨w.heap.size, 26, none⟩ = some (.int .i64 m.dest) := hO.cell 26; have c_what : (w.alloc (.cells (Rec.vals m) 45)).cell? ⟨w.heap.size, 1, none⟩ = some (.int .i64 m.what) := hO.cell 1; have c_st : (w.alloc (.cells (Rec.vals m) 45)).cell? ⟨w.heap.size, 30, none⟩ = some (.int .i64 m.st) := hO.cell 30; have c_ends : (w.alloc (.cells (Rec.vals m) 45)).cell? ⟨w.heap.size, 28, none⟩ = some (.int .i64 m.ends) := hO.cell 28; have c_due : (w.alloc (.cells (Rec.vals m) 45)).cell? ⟨w.heap.size, 29, none⟩ = some (.int .i64 m.due) := hO.cell 29; have c_amt : (w.alloc (.cells (Rec.vals m) 45)).cell? ⟨w.heap.size, 27, none⟩ = some (.int .u64 (m.amt : Int)) := hO.cell 27; have c_yes : (w.alloc (.cells (Rec.vals m) 45)).cell? ⟨w.heap.size, 31, none⟩ = some (.slice m.yes.row m.yes.bs.length m.yes.cap) := hO.cell 31; have c_no : (w.alloc (.cells (Rec.vals m) 45)).cell? ⟨w.heap.size, 32, none⟩ = some (.slice m.no.row m.no.bs.length m.no.cap) := hO.cell 32
  clear hm hs h0 h1 h2 h3 h4 h5 h6 h7 hO
  go_enter Try.func14, Try.ntmps14
  go_wp2_with (first
    | (go_at_call 36; refine (K0 _).mono ?_; clear K0; rintro e w' ⟨rfl, rfl⟩)
    | (go_at_call 36; refine (K1 _).mono ?_; clear K1; rintro e w' ⟨rfl, rfl⟩)
    | (go_at_call 36; refine (K2 _).mono ?_; clear K2; rintro e w' ⟨rfl, rfl⟩)
    | (go_at_call 36; refine (K3 _).mono ?_; clear K3; rintro e w' ⟨rfl, rfl⟩)
    | (go_at_call 36; refine (K4 _).mono ?_; clear K4; rintro e w' ⟨rfl, rfl⟩)
    | (go_at_call 36; refine (K5 _).mono ?_; clear K5; rintro e w' ⟨rfl, rfl⟩)
    | (go_at_call 43; refine (K7.out _ hB).mono ?_; clear K7; rintro e w' ⟨rfl, rfl⟩))
  go_ret
  exact ⟨by first | rfl | simp, hB⟩

set_option maxRecDepth 100000 in
set_option maxHeartbeats 2000000 in
theorem fits_r8 (m : Mot) (w : World) (hm : MotAt w m) (hs : m.yes.bs.length ≤ 100000 ∧ m.no.bs.length ≤ 100000) (h0 : inB m.acct 0 63 = true) (h1 : inB m.dest 0 63 = true) (h2 : inB m.what 1 4 = true) (h3 : inB m.st 1 4 = true) (h4 : inB m.ends 0 2147483647 = true) (h5 : inB m.due 0 2147483647 = true) (h6 : m.amt ≤ 4611686018427387904) (h7 : FieldI m.yes.bs 128) (h8 : ¬ FieldI m.no.bs 128)  : Calls Try.prog 14 #[.agg (Rec.vals m)] w fun e w' => e = .returned (.bool false) ∧ Below w.heap.size w w' := by
  have K0 := fun W => rin23_is m.acct 0 63 W
  rw [h0] at K0
  have K1 := fun W => rin23_is m.dest 0 63 W
  rw [h1] at K1
  have K2 := fun W => rin23_is m.what 1 4 W
  rw [h2] at K2
  have K3 := fun W => rin23_is m.st 1 4 W
  rw [h3] at K3
  have K4 := fun W => rin23_is m.ends 0 2147483647 W
  rw [h4] at K4
  have K5 := fun W => rin23_is m.due 0 2147483647 W
  rw [h5] at K5
  have d6 : decide ((4611686018427387904 : Int) < (m.amt : Int)) = false := decide_eq_false (by omega)
  have n6 : decide (4611686018427387904 < m.amt) = false := decide_eq_false (by omega)
  have K7 := Lib.hid (fun (W : World) (hB : Below w.heap.size w W) => marks_is m.yes W true (hm.yes.up hB) (hs.1) (by simp [h7]))
  have K8 := Lib.hid (fun (W : World) (hB : Below w.heap.size w W) => marks_is m.no W false (hm.no.up hB) (hs.2) (by simp [h8]))
  have hB : Below w.heap.size w (w.alloc (.cells (Rec.vals m) 45)) := (Below.refl _ _).alloc (Nat.le_refl _) _
  have hO : RecAt (w.alloc (.cells (Rec.vals m) 45)) w.heap.size (Rec.vals m) 45 := RecAt.new w (Rec.vals m) 45
  have c_acct : (w.alloc (.cells (Rec.vals m) 45)).cell? ⟨w.heap.size, 0, none⟩ = some (.int .i64 m.acct) := hO.cell 0; have c_dest : (w.alloc (.cells (Rec.vals m) 45)).cell? ⟨w.heap.size, 26, none⟩ = some (.int .i64 m.dest) := hO.cell 26; have c_what : (w.alloc (.cells (Rec.vals m) 45)).cell? ⟨w.heap.size, 1, none⟩ = some (.int .i64 m.what) := hO.cell 1; have c_st : (w.alloc (.cells (Rec.vals m) 45)).cell? ⟨w.heap.size, 30, none⟩ = some (.int .i64 m.st) := hO.cell 30; have c_ends : (w.alloc (.cells (Rec.vals m) 45)).cell? ⟨w.heap.size, 28, none⟩ = some (.int .i64 m.ends) := hO.cell 28; have c_due : (w.alloc (.cells (Rec.vals m) 45)).cell? ⟨w.heap.size, 29, none⟩ = some (.int .i64 m.due) := hO.cell 29; have c_amt : (w.alloc (.cells (Rec.vals m) 45)).cell? ⟨w.heap.size, 27, none⟩ = some (.int .u64 (m.amt : Int)) := hO.cell 27; have c_yes : (w.alloc (.cells (Rec.vals m) 45)).cell? ⟨w.heap.size, 31, none⟩ = some (.slice m.yes.row m.yes.bs.length m.yes.cap) := hO.cell 31; have c_no : (w.alloc (.cells (Rec.vals m) 45)).cell? ⟨w.heap.size, 32, none⟩ = some (.slice m.no.row m.no.bs.length m.no.cap) := hO.cell 32
  clear hm hs h0 h1 h2 h3 h4 h5 h6 h7 h8 hO
  go_enter Try.func14, Try.ntmps14
  go_wp2_with (first
    | (go_at_call 36; refine (K0 _).mono ?_; clear K0; rintro e w' ⟨rfl, rfl⟩)
    | (go_at_call 36; refine (K1 _).mono ?_; clear K1; rintro e w' ⟨rfl, rfl⟩)
    | (go_at_call 36; refine (K2 _).mono ?_; clear K2; rintro e w' ⟨rfl, rfl⟩)
    | (go_at_call 36; refine (K3 _).mono ?_; clear K3; rintro e w' ⟨rfl, rfl⟩)
    | (go_at_call 36; refine (K4 _).mono ?_; clear K4; rintro e w' ⟨rfl, rfl⟩)
    | (go_at_call 36; refine (K5 _).mono ?_; clear K5; rintro e w' ⟨rfl, rfl⟩)
    | (go_at_call 43; refine (K7.out _ hB).mono ?_; clear K7; rintro e w' ⟨rfl, rfl⟩)
    | (go_at_call 43; refine (K8.out _ hB).mono ?_; clear K8; rintro e w' ⟨rfl, rfl⟩))
  go_ret
  exact ⟨by first | rfl | simp, hB⟩

set_option maxRecDepth 100000 in
set_option maxHeartbeats 2000000 in
theorem fits_r9_rok (m : Mot) (w : World) (hm : MotAt w m) (hs : m.yes.bs.length ≤ 100000 ∧ m.no.bs.length ≤ 100000) (h0 : inB m.acct 0 63 = true) (h1 : inB m.dest 0 63 = true) (h2 : inB m.what 1 4 = true) (h3 : inB m.st 1 4 = true) (h4 : inB m.ends 0 2147483647 = true) (h5 : inB m.due 0 2147483647 = true) (h6 : m.amt ≤ 4611686018427387904) (h7 : FieldI m.yes.bs 128) (h8 : FieldI m.no.bs 128)  (hw : m.what = 1) (T : Nat) (hT : Par.Right m.p T) : Calls Try.prog 14 #[.agg (Rec.vals m)] w fun e w' => e = .returned (.bool true) ∧ Below w.heap.size w w' := by
  have K0 := fun W => rin23_is m.acct 0 63 W
  rw [h0] at K0
  have K1 := fun W => rin23_is m.dest 0 63 W
  rw [h1] at K1
  have K2 := fun W => rin23_is m.what 1 4 W
  rw [h2] at K2
  have K3 := fun W => rin23_is m.st 1 4 W
  rw [h3] at K3
  have K4 := fun W => rin23_is m.ends 0 2147483647 W
  rw [h4] at K4
  have K5 := fun W => rin23_is m.due 0 2147483647 W
  rw [h5] at K5
  have d6 : decide ((4611686018427387904 : Int) < (m.amt : Int)) = false := decide_eq_false (by omega)
  have n6 : decide (4611686018427387904 < m.amt) = false := decide_eq_false (by omega)
  have K7 := Lib.hid (fun (W : World) (hB : Below w.heap.size w W) => marks_is m.yes W true (hm.yes.up hB) (hs.1) (by simp [h7]))
  have K8 := Lib.hid (fun (W : World) (hB : Below w.heap.size w W) => marks_is m.no W true (hm.no.up hB) (hs.2) (by simp [h8]))
  have hB : Below w.heap.size w (w.alloc (.cells (Rec.vals m) 45)) := (Below.refl _ _).alloc (Nat.le_refl _) _
  have hO : RecAt (w.alloc (.cells (Rec.vals m) 45)) w.heap.size (Rec.vals m) 45 := RecAt.new w (Rec.vals m) 45
  have c_acct : (w.alloc (.cells (Rec.vals m) 45)).cell? ⟨w.heap.size, 0, none⟩ = some (.int .i64 m.acct) := hO.cell 0; have c_dest : (w.alloc (.cells (Rec.vals m) 45)).cell? ⟨w.heap.size, 26, none⟩ = some (.int .i64 m.dest) := hO.cell 26; have c_st : (w.alloc (.cells (Rec.vals m) 45)).cell? ⟨w.heap.size, 30, none⟩ = some (.int .i64 m.st) := hO.cell 30; have c_ends : (w.alloc (.cells (Rec.vals m) 45)).cell? ⟨w.heap.size, 28, none⟩ = some (.int .i64 m.ends) := hO.cell 28; have c_due : (w.alloc (.cells (Rec.vals m) 45)).cell? ⟨w.heap.size, 29, none⟩ = some (.int .i64 m.due) := hO.cell 29; have c_amt : (w.alloc (.cells (Rec.vals m) 45)).cell? ⟨w.heap.size, 27, none⟩ = some (.int .u64 (m.amt : Int)) := hO.cell 27; have c_yes : (w.alloc (.cells (Rec.vals m) 45)).cell? ⟨w.heap.size, 31, none⟩ = some (.slice m.yes.row m.yes.bs.length m.yes.cap) := hO.cell 31; have c_no : (w.alloc (.cells (Rec.vals m) 45)).cell? ⟨w.heap.size, 32, none⟩ = some (.slice m.no.row m.no.bs.length m.no.cap) := hO.cell 32
  have c_what : (w.alloc (.cells (Rec.vals m) 45)).cell? ⟨w.heap.size, 1, none⟩ = some (.int .i64 1) := (hO.cell 1).trans (by show some (Value.int .i64 m.what) = _; rw [hw])
  rw [hw] at K2
  have hP := hO.sub 2 (mot_par m)
  have KR := fun W => refright_ok m.p T W hT
  clear hm hs h0 h1 h2 h3 h4 h5 h6 h7 h8 hw hT hO
  go_enter Try.func14, Try.ntmps14
  go_wp2_with (first
    | (go_at_call 36; refine (K0 _).mono ?_; clear K0; rintro e w' ⟨rfl, rfl⟩)
    | (go_at_call 36; refine (K1 _).mono ?_; clear K1; rintro e w' ⟨rfl, rfl⟩)
    | (go_at_call 36; refine (K2 _).mono ?_; clear K2; rintro e w' ⟨rfl, rfl⟩)
    | (go_at_call 36; refine (K3 _).mono ?_; clear K3; rintro e w' ⟨rfl, rfl⟩)
    | (go_at_call 36; refine (K4 _).mono ?_; clear K4; rintro e w' ⟨rfl, rfl⟩)
    | (go_at_call 36; refine (K5 _).mono ?_; clear K5; rintro e w' ⟨rfl, rfl⟩)
    | (go_at_call 43; refine (K7.out _ hB).mono ?_; clear K7; rintro e w' ⟨rfl, rfl⟩)
    | (go_at_call 43; refine (K8.out _ hB).mono ?_; clear K8; rintro e w' ⟨rfl, rfl⟩)
    | ((with_reducible refine slot_is 56 rfl ?_); refine load_rec 43 _ rfl rfl ⟨_, 2, none⟩ m.p.vals rfl hP Try.underlying43 rpar_size ?_)
    | (go_at_call 19; refine (KR _).mono ?_; clear KR; rintro e w1 ⟨rfl, hb⟩; have hB := Below.then hB hb; clear hb))
  go_ret
  exact ⟨by first | rfl | simp, hB⟩

set_option maxRecDepth 100000 in
set_option maxHeartbeats 2000000 in
theorem fits_r9_rno (m : Mot) (w : World) (hm : MotAt w m) (hs : m.yes.bs.length ≤ 100000 ∧ m.no.bs.length ≤ 100000) (h0 : inB m.acct 0 63 = true) (h1 : inB m.dest 0 63 = true) (h2 : inB m.what 1 4 = true) (h3 : inB m.st 1 4 = true) (h4 : inB m.ends 0 2147483647 = true) (h5 : inB m.due 0 2147483647 = true) (h6 : m.amt ≤ 4611686018427387904) (h7 : FieldI m.yes.bs 128) (h8 : FieldI m.no.bs 128)  (hw : m.what = 1) (hT : ¬ ∃ T, Par.Right m.p T) : Calls Try.prog 14 #[.agg (Rec.vals m)] w fun e w' => e = .returned (.bool false) ∧ Below w.heap.size w w' := by
  have K0 := fun W => rin23_is m.acct 0 63 W
  rw [h0] at K0
  have K1 := fun W => rin23_is m.dest 0 63 W
  rw [h1] at K1
  have K2 := fun W => rin23_is m.what 1 4 W
  rw [h2] at K2
  have K3 := fun W => rin23_is m.st 1 4 W
  rw [h3] at K3
  have K4 := fun W => rin23_is m.ends 0 2147483647 W
  rw [h4] at K4
  have K5 := fun W => rin23_is m.due 0 2147483647 W
  rw [h5] at K5
  have d6 : decide ((4611686018427387904 : Int) < (m.amt : Int)) = false := decide_eq_false (by omega)
  have n6 : decide (4611686018427387904 < m.amt) = false := decide_eq_false (by omega)
  have K7 := Lib.hid (fun (W : World) (hB : Below w.heap.size w W) => marks_is m.yes W true (hm.yes.up hB) (hs.1) (by simp [h7]))
  have K8 := Lib.hid (fun (W : World) (hB : Below w.heap.size w W) => marks_is m.no W true (hm.no.up hB) (hs.2) (by simp [h8]))
  have hB : Below w.heap.size w (w.alloc (.cells (Rec.vals m) 45)) := (Below.refl _ _).alloc (Nat.le_refl _) _
  have hO : RecAt (w.alloc (.cells (Rec.vals m) 45)) w.heap.size (Rec.vals m) 45 := RecAt.new w (Rec.vals m) 45
  have c_acct : (w.alloc (.cells (Rec.vals m) 45)).cell? ⟨w.heap.size, 0, none⟩ = some (.int .i64 m.acct) := hO.cell 0; have c_dest : (w.alloc (.cells (Rec.vals m) 45)).cell? ⟨w.heap.size, 26, none⟩ = some (.int .i64 m.dest) := hO.cell 26; have c_st : (w.alloc (.cells (Rec.vals m) 45)).cell? ⟨w.heap.size, 30, none⟩ = some (.int .i64 m.st) := hO.cell 30; have c_ends : (w.alloc (.cells (Rec.vals m) 45)).cell? ⟨w.heap.size, 28, none⟩ = some (.int .i64 m.ends) := hO.cell 28; have c_due : (w.alloc (.cells (Rec.vals m) 45)).cell? ⟨w.heap.size, 29, none⟩ = some (.int .i64 m.due) := hO.cell 29; have c_amt : (w.alloc (.cells (Rec.vals m) 45)).cell? ⟨w.heap.size, 27, none⟩ = some (.int .u64 (m.amt : Int)) := hO.cell 27; have c_yes : (w.alloc (.cells (Rec.vals m) 45)).cell? ⟨w.heap.size, 31, none⟩ = some (.slice m.yes.row m.yes.bs.length m.yes.cap) := hO.cell 31; have c_no : (w.alloc (.cells (Rec.vals m) 45)).cell? ⟨w.heap.size, 32, none⟩ = some (.slice m.no.row m.no.bs.length m.no.cap) := hO.cell 32
  have c_what : (w.alloc (.cells (Rec.vals m) 45)).cell? ⟨w.heap.size, 1, none⟩ = some (.int .i64 1) := (hO.cell 1).trans (by show some (Value.int .i64 m.what) = _; rw [hw])
  rw [hw] at K2
  have hP := hO.sub 2 (mot_par m)
  have KR := fun W => refright_no m.p W hT
  clear hm hs h0 h1 h2 h3 h4 h5 h6 h7 h8 hw hT hO
  go_enter Try.func14, Try.ntmps14
  go_wp2_with (first
    | (go_at_call 36; refine (K0 _).mono ?_; clear K0; rintro e w' ⟨rfl, rfl⟩)
    | (go_at_call 36; refine (K1 _).mono ?_; clear K1; rintro e w' ⟨rfl, rfl⟩)
    | (go_at_call 36; refine (K2 _).mono ?_; clear K2; rintro e w' ⟨rfl, rfl⟩)
    | (go_at_call 36; refine (K3 _).mono ?_; clear K3; rintro e w' ⟨rfl, rfl⟩)
    | (go_at_call 36; refine (K4 _).mono ?_; clear K4; rintro e w' ⟨rfl, rfl⟩)
    | (go_at_call 36; refine (K5 _).mono ?_; clear K5; rintro e w' ⟨rfl, rfl⟩)
    | (go_at_call 43; refine (K7.out _ hB).mono ?_; clear K7; rintro e w' ⟨rfl, rfl⟩)
    | (go_at_call 43; refine (K8.out _ hB).mono ?_; clear K8; rintro e w' ⟨rfl, rfl⟩)
    | ((with_reducible refine slot_is 56 rfl ?_); refine load_rec 43 _ rfl rfl ⟨_, 2, none⟩ m.p.vals rfl hP Try.underlying43 rpar_size ?_)
    | (go_at_call 19; refine (KR _).mono ?_; clear KR; rintro e w1 ⟨rfl, hb⟩; have hB := Below.then hB hb; clear hb))
  go_ret
  exact ⟨by first | rfl | simp, hB⟩

set_option maxRecDepth 100000 in
set_option maxHeartbeats 2000000 in
theorem fits_r9_zok (m : Mot) (w : World) (hm : MotAt w m) (hs : m.yes.bs.length ≤ 100000 ∧ m.no.bs.length ≤ 100000) (h0 : inB m.acct 0 63 = true) (h1 : inB m.dest 0 63 = true) (h2 : inB m.what 1 4 = true) (h3 : inB m.st 1 4 = true) (h4 : inB m.ends 0 2147483647 = true) (h5 : inB m.due 0 2147483647 = true) (h6 : m.amt ≤ 4611686018427387904) (h7 : FieldI m.yes.bs 128) (h8 : FieldI m.no.bs 128)  (hw : ¬ m.what = 1) (hT : m.p = Par.none) : Calls Try.prog 14 #[.agg (Rec.vals m)] w fun e w' => e = .returned (.bool true) ∧ Below w.heap.size w w' := by
  have K0 := fun W => rin23_is m.acct 0 63 W
  rw [h0] at K0
  have K1 := fun W => rin23_is m.dest 0 63 W
  rw [h1] at K1
  have K2 := fun W => rin23_is m.what 1 4 W
  rw [h2] at K2
  have K3 := fun W => rin23_is m.st 1 4 W
  rw [h3] at K3
  have K4 := fun W => rin23_is m.ends 0 2147483647 W
  rw [h4] at K4
  have K5 := fun W => rin23_is m.due 0 2147483647 W
  rw [h5] at K5
  have d6 : decide ((4611686018427387904 : Int) < (m.amt : Int)) = false := decide_eq_false (by omega)
  have n6 : decide (4611686018427387904 < m.amt) = false := decide_eq_false (by omega)
  have K7 := Lib.hid (fun (W : World) (hB : Below w.heap.size w W) => marks_is m.yes W true (hm.yes.up hB) (hs.1) (by simp [h7]))
  have K8 := Lib.hid (fun (W : World) (hB : Below w.heap.size w W) => marks_is m.no W true (hm.no.up hB) (hs.2) (by simp [h8]))
  have hB : Below w.heap.size w (w.alloc (.cells (Rec.vals m) 45)) := (Below.refl _ _).alloc (Nat.le_refl _) _
  have hO : RecAt (w.alloc (.cells (Rec.vals m) 45)) w.heap.size (Rec.vals m) 45 := RecAt.new w (Rec.vals m) 45
  have c_acct : (w.alloc (.cells (Rec.vals m) 45)).cell? ⟨w.heap.size, 0, none⟩ = some (.int .i64 m.acct) := hO.cell 0; have c_dest : (w.alloc (.cells (Rec.vals m) 45)).cell? ⟨w.heap.size, 26, none⟩ = some (.int .i64 m.dest) := hO.cell 26; have c_what : (w.alloc (.cells (Rec.vals m) 45)).cell? ⟨w.heap.size, 1, none⟩ = some (.int .i64 m.what) := hO.cell 1; have c_st : (w.alloc (.cells (Rec.vals m) 45)).cell? ⟨w.heap.size, 30, none⟩ = some (.int .i64 m.st) := hO.cell 30; have c_ends : (w.alloc (.cells (Rec.vals m) 45)).cell? ⟨w.heap.size, 28, none⟩ = some (.int .i64 m.ends) := hO.cell 28; have c_due : (w.alloc (.cells (Rec.vals m) 45)).cell? ⟨w.heap.size, 29, none⟩ = some (.int .i64 m.due) := hO.cell 29; have c_amt : (w.alloc (.cells (Rec.vals m) 45)).cell? ⟨w.heap.size, 27, none⟩ = some (.int .u64 (m.amt : Int)) := hO.cell 27; have c_yes : (w.alloc (.cells (Rec.vals m) 45)).cell? ⟨w.heap.size, 31, none⟩ = some (.slice m.yes.row m.yes.bs.length m.yes.cap) := hO.cell 31; have c_no : (w.alloc (.cells (Rec.vals m) 45)).cell? ⟨w.heap.size, 32, none⟩ = some (.slice m.no.row m.no.bs.length m.no.cap) := hO.cell 32
  have b1 : (m.what == 1) = false := by simp [hw]
  have hP := hO.sub 2 (mot_par m)
  rw [hT] at hP
  clear hm hs h0 h1 h2 h3 h4 h5 h6 h7 h8 hw hT hO
  go_enter Try.func14, Try.ntmps14
  go_wp2_with (first
    | (go_at_call 36; refine (K0 _).mono ?_; clear K0; rintro e w' ⟨rfl, rfl⟩)
    | (go_at_call 36; refine (K1 _).mono ?_; clear K1; rintro e w' ⟨rfl, rfl⟩)
    | (go_at_call 36; refine (K2 _).mono ?_; clear K2; rintro e w' ⟨rfl, rfl⟩)
    | (go_at_call 36; refine (K3 _).mono ?_; clear K3; rintro e w' ⟨rfl, rfl⟩)
    | (go_at_call 36; refine (K4 _).mono ?_; clear K4; rintro e w' ⟨rfl, rfl⟩)
    | (go_at_call 36; refine (K5 _).mono ?_; clear K5; rintro e w' ⟨rfl, rfl⟩)
    | (go_at_call 43; refine (K7.out _ hB).mono ?_; clear K7; rintro e w' ⟨rfl, rfl⟩)
    | (go_at_call 43; refine (K8.out _ hB).mono ?_; clear K8; rintro e w' ⟨rfl, rfl⟩)
    | ((with_reducible refine slot_is 59 rfl ?_); refine load_rec 43 _ rfl rfl ⟨_, 2, none⟩ Par.none.vals rfl hP Try.underlying43 rpar_size ?_)
    | ((with_reducible refine slot_is 60 rfl ?_); refine build_rpar23 rfl rfl ?_)
    | ((with_reducible refine slot_is 61 rfl ?_); refine op_eqr _ _ _ rfl rfl Par.none rfl rfl ?_))
  go_ret
  exact ⟨by first | rfl | simp, hB⟩

set_option maxRecDepth 100000 in
set_option maxHeartbeats 2000000 in
theorem fits_r9_zno (m : Mot) (w : World) (hm : MotAt w m) (hs : m.yes.bs.length ≤ 100000 ∧ m.no.bs.length ≤ 100000) (h0 : inB m.acct 0 63 = true) (h1 : inB m.dest 0 63 = true) (h2 : inB m.what 1 4 = true) (h3 : inB m.st 1 4 = true) (h4 : inB m.ends 0 2147483647 = true) (h5 : inB m.due 0 2147483647 = true) (h6 : m.amt ≤ 4611686018427387904) (h7 : FieldI m.yes.bs 128) (h8 : FieldI m.no.bs 128)  (hw : ¬ m.what = 1) (hT : m.p ≠ Par.none) : Calls Try.prog 14 #[.agg (Rec.vals m)] w fun e w' => e = .returned (.bool false) ∧ Below w.heap.size w w' := by
  have K0 := fun W => rin23_is m.acct 0 63 W
  rw [h0] at K0
  have K1 := fun W => rin23_is m.dest 0 63 W
  rw [h1] at K1
  have K2 := fun W => rin23_is m.what 1 4 W
  rw [h2] at K2
  have K3 := fun W => rin23_is m.st 1 4 W
  rw [h3] at K3
  have K4 := fun W => rin23_is m.ends 0 2147483647 W
  rw [h4] at K4
  have K5 := fun W => rin23_is m.due 0 2147483647 W
  rw [h5] at K5
  have d6 : decide ((4611686018427387904 : Int) < (m.amt : Int)) = false := decide_eq_false (by omega)
  have n6 : decide (4611686018427387904 < m.amt) = false := decide_eq_false (by omega)
  have K7 := Lib.hid (fun (W : World) (hB : Below w.heap.size w W) => marks_is m.yes W true (hm.yes.up hB) (hs.1) (by simp [h7]))
  have K8 := Lib.hid (fun (W : World) (hB : Below w.heap.size w W) => marks_is m.no W true (hm.no.up hB) (hs.2) (by simp [h8]))
  have hB : Below w.heap.size w (w.alloc (.cells (Rec.vals m) 45)) := (Below.refl _ _).alloc (Nat.le_refl _) _
  have hO : RecAt (w.alloc (.cells (Rec.vals m) 45)) w.heap.size (Rec.vals m) 45 := RecAt.new w (Rec.vals m) 45
  have c_acct : (w.alloc (.cells (Rec.vals m) 45)).cell? ⟨w.heap.size, 0, none⟩ = some (.int .i64 m.acct) := hO.cell 0; have c_dest : (w.alloc (.cells (Rec.vals m) 45)).cell? ⟨w.heap.size, 26, none⟩ = some (.int .i64 m.dest) := hO.cell 26; have c_what : (w.alloc (.cells (Rec.vals m) 45)).cell? ⟨w.heap.size, 1, none⟩ = some (.int .i64 m.what) := hO.cell 1; have c_st : (w.alloc (.cells (Rec.vals m) 45)).cell? ⟨w.heap.size, 30, none⟩ = some (.int .i64 m.st) := hO.cell 30; have c_ends : (w.alloc (.cells (Rec.vals m) 45)).cell? ⟨w.heap.size, 28, none⟩ = some (.int .i64 m.ends) := hO.cell 28; have c_due : (w.alloc (.cells (Rec.vals m) 45)).cell? ⟨w.heap.size, 29, none⟩ = some (.int .i64 m.due) := hO.cell 29; have c_amt : (w.alloc (.cells (Rec.vals m) 45)).cell? ⟨w.heap.size, 27, none⟩ = some (.int .u64 (m.amt : Int)) := hO.cell 27; have c_yes : (w.alloc (.cells (Rec.vals m) 45)).cell? ⟨w.heap.size, 31, none⟩ = some (.slice m.yes.row m.yes.bs.length m.yes.cap) := hO.cell 31; have c_no : (w.alloc (.cells (Rec.vals m) 45)).cell? ⟨w.heap.size, 32, none⟩ = some (.slice m.no.row m.no.bs.length m.no.cap) := hO.cell 32
  have b1 : (m.what == 1) = false := by simp [hw]
  have hP := hO.sub 2 (mot_par m)
  clear hm hs h0 h1 h2 h3 h4 h5 h6 h7 h8 hw hO
  go_enter Try.func14, Try.ntmps14
  go_wp2_with (first
    | (go_at_call 36; refine (K0 _).mono ?_; clear K0; rintro e w' ⟨rfl, rfl⟩)
    | (go_at_call 36; refine (K1 _).mono ?_; clear K1; rintro e w' ⟨rfl, rfl⟩)
    | (go_at_call 36; refine (K2 _).mono ?_; clear K2; rintro e w' ⟨rfl, rfl⟩)
    | (go_at_call 36; refine (K3 _).mono ?_; clear K3; rintro e w' ⟨rfl, rfl⟩)
    | (go_at_call 36; refine (K4 _).mono ?_; clear K4; rintro e w' ⟨rfl, rfl⟩)
    | (go_at_call 36; refine (K5 _).mono ?_; clear K5; rintro e w' ⟨rfl, rfl⟩)
    | (go_at_call 43; refine (K7.out _ hB).mono ?_; clear K7; rintro e w' ⟨rfl, rfl⟩)
    | (go_at_call 43; refine (K8.out _ hB).mono ?_; clear K8; rintro e w' ⟨rfl, rfl⟩)
    | ((with_reducible refine slot_is 59 rfl ?_); refine load_rec 43 _ rfl rfl ⟨_, 2, none⟩ m.p.vals rfl hP Try.underlying43 rpar_size ?_)
    | ((with_reducible refine slot_is 60 rfl ?_); refine build_rpar23 rfl rfl ?_)
    | ((with_reducible refine slot_is 61 rfl ?_); refine op_eqr_no _ _ _ rfl rfl m.p Par.none hT rfl rfl ?_))
  go_ret
  exact ⟨by first | rfl | simp, hB⟩

theorem fits_r9 (m : Mot) (w : World) (hm : MotAt w m) (hs : m.yes.bs.length ≤ 100000 ∧ m.no.bs.length ≤ 100000) (h0 : inB m.acct 0 63 = true) (h1 : inB m.dest 0 63 = true) (h2 : inB m.what 1 4 = true) (h3 : inB m.st 1 4 = true) (h4 : inB m.ends 0 2147483647 = true) (h5 : inB m.due 0 2147483647 = true) (h6 : m.amt ≤ 4611686018427387904) (h7 : FieldI m.yes.bs 128) (h8 : FieldI m.no.bs 128) : Calls Try.prog 14 #[.agg (Rec.vals m)] w fun e w' => e = .returned (.bool m.pure.parB) ∧ Below w.heap.size w w' := by
  unfold PMot.parB
  show Calls _ _ _ _ fun e w' => e = .returned (.bool (if m.what = 1 then decide (∃ T, Par.Right m.p T) else decide (m.p = Par.none))) ∧ Below w.heap.size w w'
  by_cases hw : m.what = 1
  · rw [if_pos hw]
    by_cases hT : ∃ T, Par.Right m.p T
    · rw [decide_eq_true hT]
      obtain ⟨T, hT⟩ := hT
      exact fits_r9_rok m w hm hs h0 h1 h2 h3 h4 h5 h6 h7 h8 hw T hT
    · rw [decide_eq_false hT]
      exact fits_r9_rno m w hm hs h0 h1 h2 h3 h4 h5 h6 h7 h8 hw hT
  · rw [if_neg hw]
    by_cases hT : m.p = Par.none
    · rw [decide_eq_true hT]
      exact fits_r9_zok m w hm hs h0 h1 h2 h3 h4 h5 h6 h7 h8 hw hT
    · rw [decide_eq_false hT]
      exact fits_r9_zno m w hm hs h0 h1 h2 h3 h4 h5 h6 h7 h8 hw hT

theorem rmotfits_is (m : Mot) (w : World) (hm : MotAt w m) (hs : m.yes.bs.length ≤ 100000 ∧ m.no.bs.length ≤ 100000) : Calls Try.prog 14 #[.agg (Rec.vals m)] w fun e w' => e = .returned (.bool m.pure.fitsB) ∧ Below w.heap.size w w' := by
  unfold PMot.fitsB
  show Calls _ _ _ _ fun e w' => e = .returned (.bool (inB m.acct 0 63 && (inB m.dest 0 63 && (inB m.what 1 4 && (inB m.st 1 4 && (inB m.ends 0 2147483647 && (inB m.due 0 2147483647 && (decide (m.amt ≤ 4611686018427387904) && (decide (FieldI m.yes.bs 128) && (decide (FieldI m.no.bs 128) && m.pure.parB)))))))))) ∧ Below w.heap.size w w'
  cases h0 : inB m.acct 0 63 with
  | false => rw [Bool.false_and]; exact fits_r0 m w hm hs h0
  | true =>
    rw [Bool.true_and]
    cases h1 : inB m.dest 0 63 with
    | false => rw [Bool.false_and]; exact fits_r1 m w hm hs h0 h1
    | true =>
      rw [Bool.true_and]
      cases h2 : inB m.what 1 4 with
      | false => rw [Bool.false_and]; exact fits_r2 m w hm hs h0 h1 h2
      | true =>
        rw [Bool.true_and]
        cases h3 : inB m.st 1 4 with
        | false => rw [Bool.false_and]; exact fits_r3 m w hm hs h0 h1 h2 h3
        | true =>
          rw [Bool.true_and]
          cases h4 : inB m.ends 0 2147483647 with
          | false => rw [Bool.false_and]; exact fits_r4 m w hm hs h0 h1 h2 h3 h4
          | true =>
            rw [Bool.true_and]
            cases h5 : inB m.due 0 2147483647 with
            | false => rw [Bool.false_and]; exact fits_r5 m w hm hs h0 h1 h2 h3 h4 h5
            | true =>
              rw [Bool.true_and]
              by_cases h6 : m.amt ≤ 4611686018427387904
              · rw [decide_eq_true h6, Bool.true_and]
                by_cases h7 : FieldI m.yes.bs 128
                · rw [decide_eq_true h7, Bool.true_and]
                  by_cases h8 : FieldI m.no.bs 128
                  · rw [decide_eq_true h8, Bool.true_and]
                    exact fits_r9 m w hm hs h0 h1 h2 h3 h4 h5 h6 h7 h8
                  · rw [decide_eq_false h8, Bool.false_and]; exact fits_r8 m w hm hs h0 h1 h2 h3 h4 h5 h6 h7 h8
                · rw [decide_eq_false h7, Bool.false_and]; exact fits_r7 m w hm hs h0 h1 h2 h3 h4 h5 h6 h7
              · rw [decide_eq_false h6, Bool.false_and]; exact fits_r6 m w hm hs h0 h1 h2 h3 h4 h5 h6
end Go.Proofs.Ytcaejanfhchacaa
