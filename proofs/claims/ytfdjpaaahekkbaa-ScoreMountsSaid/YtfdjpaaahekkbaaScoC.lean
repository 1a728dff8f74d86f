/- Layer 11 (score): After, Trim. By contracts. -/
import Derived.Test.YtfdjpaaahekkbaaScoB
import Derived.Test.YtfdjpaaahekkbaaScoS
import Derived.Test.YtfdjpaaahekkbaaCheck
namespace Go.Proofs.Ytfdjpaaahekkbaa
open Go.RowKit
set_option linter.unusedVariables false
set_option linter.unusedSimpArgs false


set_option maxRecDepth 100000 in
set_option maxHeartbeats 1000000 in
theorem trim_no (s : Std) (p : Par) (w : World) (hc : CheckIs p 70) :
    Calls Try.prog 8 #[.agg p.vals, .agg s.vals] w fun e w' => e = .returned (.agg (s).vals) ∧ Below w.heap.size w w' := by
  have kc := hc
  clear hc
  go_enter Try.func8, Try.ntmps8
  go_upto_region 1 with fail
  generalize hw0 : World.alloc _ _ = w0
  have hP : ParAt w0 w.heap.size p 24 := by rw [← hw0]; exact ((ParAt.new w p _).up ((Below.refl _ _).alloc (Nat.le_refl _) _)).up ((Below.refl _ _).alloc (Nat.le_refl _) _)
  have hS : StdAt w0 (w.heap.size + 1) s 26 := by rw [← hw0]; exact (StdAt.new _ s _ (by simp)).up ((Below.refl _ _).alloc (Nat.le_refl _) _)
  have hN : StdAt w0 (w.heap.size + 1 + 1) Std.none 26 := by rw [← hw0]; exact StdAt.new _ Std.none _ (by simp)
  have hB : Below w.heap.size w w0 := by rw [← hw0]; exact (((Below.refl _ _).alloc (Nat.le_refl _) _).alloc (by simp) _).alloc (by simp; omega) _
  clear hw0
  go_wp2_with (first
    | (refine load_par _ rfl rfl _ p _ rfl (by assumption) ?_)
    | (refine load_std _ rfl rfl _ s _ rfl (by assumption) ?_)
    | (go_at_call 17; refine (kc _).mono ?_; rintro e w1 ⟨rfl, hb1⟩; have hP := hP.up hb1; have hS := hS.up hb1; have hN := hN.up hb1; have hB := Below.then hB hb1)
    | (refine store_std _ _ rfl rfl _ s Std.none 26 rfl rfl (by assumption) ?_; intro w4 hR hb4; have hB := hB.trans (hb4.mono (Nat.le_trans (Nat.le_succ _) (Nat.le_succ _)))))
  refine bodyPost_ret (res_std Try.results8 rfl hR) rfl ⟨rfl, hB⟩

set_option maxRecDepth 100000 in
set_option maxHeartbeats 1000000 in
theorem trim_ok (s : Std) (p : Par) (w : World) (hc : CheckIs p 0) :
    Calls Try.prog 8 #[.agg p.vals, .agg s.vals] w fun e w' => e = .returned (.agg (Std.trim p s).vals) ∧ Below w.heap.size w w' := by
  have kc := hc
  clear hc
  have kt := fun b w h => strim_is s p b w h
  generalize Std.trim p s = r at *
  go_enter Try.func8, Try.ntmps8
  go_upto_region 1 with fail
  generalize hw0 : World.alloc _ _ = w0
  have hP : ParAt w0 w.heap.size p 24 := by rw [← hw0]; exact ((ParAt.new w p _).up ((Below.refl _ _).alloc (Nat.le_refl _) _)).up ((Below.refl _ _).alloc (Nat.le_refl _) _)
  have hS : StdAt w0 (w.heap.size + 1) s 26 := by rw [← hw0]; exact (StdAt.new _ s _ (by simp)).up ((Below.refl _ _).alloc (Nat.le_refl _) _)
  have hN : StdAt w0 (w.heap.size + 1 + 1) Std.none 26 := by rw [← hw0]; exact StdAt.new _ Std.none _ (by simp)
  have hB : Below w.heap.size w w0 := by rw [← hw0]; exact (((Below.refl _ _).alloc (Nat.le_refl _) _).alloc (by simp) _).alloc (by simp; omega) _
  clear hw0
  go_wp2_with (first
    | (refine load_par _ rfl rfl _ p _ rfl (by assumption) ?_)
    | (refine load_std _ rfl rfl _ s _ rfl (by assumption) ?_)
    | (go_at_call 17; refine (kc _).mono ?_; rintro e w1 ⟨rfl, hb1⟩; have hP := hP.up hb1; have hS := hS.up hb1; have hN := hN.up hb1; have hB := Below.then hB hb1)
    | (refine build_work _ _ rfl rfl s p rfl rfl ?_)
    | (refine store_work _ _ rfl rfl _ s Std.none p Par.none 48 rfl rfl (WorkAt.new _ Std.none Par.none _) ?_; intro w2 hW hb2; have hlt := hN.lt; have hle := hB.size; have hN := hN.up (below_made (Below.refl _ _) hb2); have hB := below_made hB hb2; clear hb2)
    | (go_at_call 20; refine (kt _ _ (by exact hW)).mono ?_; rintro e w3 ⟨rfl, hW, hb3⟩; have hN := hN.below hb3 hlt; have hB := hB.trans (hb3.mono hle); clear hb3)
    | (refine load_wstd _ rfl rfl _ r p _ rfl (by assumption) ?_)
    | (refine store_std _ _ rfl rfl _ r Std.none 26 rfl rfl (by assumption) ?_; intro w4 hR hb4; have hB := hB.trans (hb4.mono (Nat.le_trans (Nat.le_succ _) (Nat.le_succ _)))))
  refine bodyPost_ret (res_std Try.results8 rfl hR) rfl ⟨rfl, hB⟩

set_option maxRecDepth 100000 in
set_option maxHeartbeats 1000000 in
theorem after_no (s : Std) (p : Par) (x : Bool) (m : Int) (w : World) (hc : CheckIs p 70) :
    Calls Try.prog 7 #[.agg p.vals, .agg s.vals, .bool x, .int .i64 m] w fun e w' => e = .returned (.agg (s).vals) ∧ Below w.heap.size w w' := by
  have kc := hc
  clear hc
  go_enter Try.func7, Try.ntmps7
  go_upto_region 1 with fail
  generalize hw0 : World.alloc _ _ = w0
  have hP : ParAt w0 w.heap.size p 24 := by rw [← hw0]; exact ((ParAt.new w p _).up ((Below.refl _ _).alloc (Nat.le_refl _) _)).up ((Below.refl _ _).alloc (Nat.le_refl _) _)
  have hS : StdAt w0 (w.heap.size + 1) s 26 := by rw [← hw0]; exact (StdAt.new _ s _ (by simp)).up ((Below.refl _ _).alloc (Nat.le_refl _) _)
  have hN : StdAt w0 (w.heap.size + 1 + 1) Std.none 26 := by rw [← hw0]; exact StdAt.new _ Std.none _ (by simp)
  have hB : Below w.heap.size w w0 := by rw [← hw0]; exact (((Below.refl _ _).alloc (Nat.le_refl _) _).alloc (by simp) _).alloc (by simp; omega) _
  clear hw0
  go_wp2_with (first
    | (refine load_par _ rfl rfl _ p _ rfl (by assumption) ?_)
    | (refine load_std _ rfl rfl _ s _ rfl (by assumption) ?_)
    | (go_at_call 17; refine (kc _).mono ?_; rintro e w1 ⟨rfl, hb1⟩; have hP := hP.up hb1; have hS := hS.up hb1; have hN := hN.up hb1; have hB := Below.then hB hb1)
    | (refine store_std _ _ rfl rfl _ s Std.none 26 rfl rfl (by assumption) ?_; intro w4 hR hb4; have hB := hB.trans (hb4.mono (Nat.le_trans (Nat.le_succ _) (Nat.le_succ _)))))
  refine bodyPost_ret (res_std Try.results7 rfl hR) rfl ⟨rfl, hB⟩

set_option maxRecDepth 100000 in
set_option maxHeartbeats 1000000 in
theorem after_ok (s : Std) (p : Par) (x : Bool) (m : Int) (w : World) (hc : CheckIs p 0) (hs : Par.Spans p) (hf : s.Fits) :
    Calls Try.prog 7 #[.agg p.vals, .agg s.vals, .bool x, .int .i64 m] w fun e w' => e = .returned (.agg (Std.after p (x, m) s).vals) ∧ Below w.heap.size w w' := by
  have kc := hc
  clear hc
  cases x with
  | true =>
    have kt := fun b w h => there_is s p b w h hf hs.streak0 hs.streak1 (by have := hs.recover1; omega)
    rw [show Std.after p (true, m) s = Std.there p s from rfl]
    clear hs hf
    generalize Std.there p s = r at *
    go_enter Try.func7, Try.ntmps7
    go_upto_region 1 with fail
    generalize hw0 : World.alloc _ _ = w0
    have hP : ParAt w0 w.heap.size p 24 := by rw [← hw0]; exact ((ParAt.new w p _).up ((Below.refl _ _).alloc (Nat.le_refl _) _)).up ((Below.refl _ _).alloc (Nat.le_refl _) _)
    have hS : StdAt w0 (w.heap.size + 1) s 26 := by rw [← hw0]; exact (StdAt.new _ s _ (by simp)).up ((Below.refl _ _).alloc (Nat.le_refl _) _)
    have hN : StdAt w0 (w.heap.size + 1 + 1) Std.none 26 := by rw [← hw0]; exact StdAt.new _ Std.none _ (by simp)
    have hB : Below w.heap.size w w0 := by rw [← hw0]; exact (((Below.refl _ _).alloc (Nat.le_refl _) _).alloc (by simp) _).alloc (by simp; omega) _
    clear hw0
    go_wp2_with (first
      | (refine load_par _ rfl rfl _ p _ rfl (by assumption) ?_)
      | (refine load_std _ rfl rfl _ s _ rfl (by assumption) ?_)
      | (go_at_call 17; refine (kc _).mono ?_; rintro e w1 ⟨rfl, hb1⟩; have hP := hP.up hb1; have hS := hS.up hb1; have hN := hN.up hb1; have hB := Below.then hB hb1)
      | (refine build_work _ _ rfl rfl s p rfl rfl ?_)
      | (refine store_work _ _ rfl rfl _ s Std.none p Par.none 48 rfl rfl (WorkAt.new _ Std.none Par.none _) ?_; intro w2 hW hb2; have hlt := hN.lt; have hle := hB.size; have hN := hN.up (below_made (Below.refl _ _) hb2); have hB := below_made hB hb2; clear hb2)
      | (go_at_call 18; refine (kt _ _ (by exact hW)).mono ?_; rintro e w3 ⟨rfl, hW, hb3⟩; have hN := hN.below hb3 hlt; have hB := hB.trans (hb3.mono hle); clear hb3)
      | (refine load_wstd _ rfl rfl _ r p _ rfl (by assumption) ?_)
      | (refine store_std _ _ rfl rfl _ r Std.none 26 rfl rfl (by assumption) ?_; intro w4 hR hb4; have hB := hB.trans (hb4.mono (Nat.le_trans (Nat.le_succ _) (Nat.le_succ _)))))
    refine bodyPost_ret (res_std Try.results7 rfl hR) rfl ⟨rfl, hB⟩
  | false =>
    have kt := fun b w h => away_is s p b m w h hf (by have := (Std.gain_le hs m).2; omega) (by have := hs.score1; omega)
    rw [show Std.after p (false, m) s = Std.away p m s from rfl]
    clear hs hf
    generalize Std.away p m s = r at *
    go_enter Try.func7, Try.ntmps7
    go_upto_region 1 with fail
    generalize hw0 : World.alloc _ _ = w0
    have hP : ParAt w0 w.heap.size p 24 := by rw [← hw0]; exact ((ParAt.new w p _).up ((Below.refl _ _).alloc (Nat.le_refl _) _)).up ((Below.refl _ _).alloc (Nat.le_refl _) _)
    have hS : StdAt w0 (w.heap.size + 1) s 26 := by rw [← hw0]; exact (StdAt.new _ s _ (by simp)).up ((Below.refl _ _).alloc (Nat.le_refl _) _)
    have hN : StdAt w0 (w.heap.size + 1 + 1) Std.none 26 := by rw [← hw0]; exact StdAt.new _ Std.none _ (by simp)
    have hB : Below w.heap.size w w0 := by rw [← hw0]; exact (((Below.refl _ _).alloc (Nat.le_refl _) _).alloc (by simp) _).alloc (by simp; omega) _
    clear hw0
    go_wp2_with (first
      | (refine load_par _ rfl rfl _ p _ rfl (by assumption) ?_)
      | (refine load_std _ rfl rfl _ s _ rfl (by assumption) ?_)
      | (go_at_call 17; refine (kc _).mono ?_; rintro e w1 ⟨rfl, hb1⟩; have hP := hP.up hb1; have hS := hS.up hb1; have hN := hN.up hb1; have hB := Below.then hB hb1)
      | (refine build_work _ _ rfl rfl s p rfl rfl ?_)
      | (refine store_work _ _ rfl rfl _ s Std.none p Par.none 48 rfl rfl (WorkAt.new _ Std.none Par.none _) ?_; intro w2 hW hb2; have hlt := hN.lt; have hle := hB.size; have hN := hN.up (below_made (Below.refl _ _) hb2); have hB := below_made hB hb2; clear hb2)
      | (go_at_call 19; refine (kt _ _ (by exact hW)).mono ?_; rintro e w3 ⟨rfl, hW, hb3⟩; have hN := hN.below hb3 hlt; have hB := hB.trans (hb3.mono hle); clear hb3)
      | (refine load_wstd _ rfl rfl _ r p _ rfl (by assumption) ?_)
      | (refine store_std _ _ rfl rfl _ r Std.none 26 rfl rfl (by assumption) ?_; intro w4 hR hb4; have hB := hB.trans (hb4.mono (Nat.le_trans (Nat.le_succ _) (Nat.le_succ _)))))
    refine bodyPost_ret (res_std Try.results7 rfl hR) rfl ⟨rfl, hB⟩
end Go.Proofs.Ytfdjpaaahekkbaa
