/- Layer 11 (score): After, Trim. By contracts. -/
import Derived.Test.YtfmmcklggnflkaaScoB
import Derived.Test.YtfmmcklggnflkaaScoS
import Derived.Test.YtfmmcklggnflkaaCheck
namespace Go.Proofs.Ytfmmcklggnflkaa
open Go.RowKit
set_option linter.unusedVariables false
set_option linter.unusedSimpArgs false


set_option maxRecDepth 100000 in
set_option maxHeartbeats 1000000 in
theorem trim_no (s : Std) (p : Par) (w : World) (hc : CheckIs p 70) :
    Calls Try.prog 27 #[.agg p.vals, .agg s.vals] w fun e w' => e = .returned (.agg (s).vals) ∧ Below w.heap.size w w' := by
  have kc := hc
  clear hc
  go_enter Try.func27, Try.ntmps27
  go_upto_region 1 with fail
  generalize hw0 : World.alloc _ _ = w0
  have hP : ParAt w0 w.heap.size p 42 := by rw [← hw0]; exact ((ParAt.new w p _).up ((Below.refl _ _).alloc (Nat.le_refl _) _)).up ((Below.refl _ _).alloc (Nat.le_refl _) _)
  have hS : StdAt w0 (w.heap.size + 1) s 31 := by rw [← hw0]; exact (StdAt.new _ s _ (by simp)).up ((Below.refl _ _).alloc (Nat.le_refl _) _)
  have hN : StdAt w0 (w.heap.size + 1 + 1) Std.none 31 := by rw [← hw0]; exact StdAt.new _ Std.none _ (by simp)
  have hB : Below w.heap.size w w0 := by rw [← hw0]; exact (((Below.refl _ _).alloc (Nat.le_refl _) _).alloc (by simp) _).alloc (by simp; omega) _
  clear hw0
  go_wp2_with (first
    | (refine load_par _ rfl rfl _ p _ rfl (by assumption) ?_)
    | (refine load_std _ rfl rfl _ s _ rfl (by assumption) ?_)
    | (go_at_call 26; refine (kc _).mono ?_; rintro e w1 ⟨rfl, hb1⟩; have hP := hP.up hb1; have hS := hS.up hb1; have hN := hN.up hb1; have hB := Below.then hB hb1)
    | (refine store_std _ _ rfl rfl _ s Std.none 31 rfl rfl (by assumption) ?_; intro w4 hR hb4; have hB := hB.trans (hb4.mono (Nat.le_trans (Nat.le_succ _) (Nat.le_succ _)))))
  refine bodyPost_ret (res_std Try.results27 rfl hR) rfl ⟨rfl, hB⟩

set_option maxRecDepth 100000 in
set_option maxHeartbeats 1000000 in
theorem trim_ok (s : Std) (p : Par) (w : World) (hc : CheckIs p 0) :
    Calls Try.prog 27 #[.agg p.vals, .agg s.vals] w fun e w' => e = .returned (.agg (Std.trim p s).vals) ∧ Below w.heap.size w w' := by
  have kc := hc
  clear hc
  have kt := fun b w h => strim_is s p b w h
  generalize Std.trim p s = r at *
  go_enter Try.func27, Try.ntmps27
  go_upto_region 1 with fail
  generalize hw0 : World.alloc _ _ = w0
  have hP : ParAt w0 w.heap.size p 42 := by rw [← hw0]; exact ((ParAt.new w p _).up ((Below.refl _ _).alloc (Nat.le_refl _) _)).up ((Below.refl _ _).alloc (Nat.le_refl _) _)
  have hS : StdAt w0 (w.heap.size + 1) s 31 := by rw [← hw0]; exact (StdAt.new _ s _ (by simp)).up ((Below.refl _ _).alloc (Nat.le_refl _) _)
  have hN : StdAt w0 (w.heap.size + 1 + 1) Std.none 31 := by rw [← hw0]; exact StdAt.new _ Std.none _ (by simp)
  have hB : Below w.heap.size w w0 := by rw [← hw0]; exact (((Below.refl _ _).alloc (Nat.le_refl _) _).alloc (by simp) _).alloc (by simp; omega) _
  clear hw0
  go_wp2_with (first
    | (refine load_par _ rfl rfl _ p _ rfl (by assumption) ?_)
    | (refine load_std _ rfl rfl _ s _ rfl (by assumption) ?_)
    | (go_at_call 26; refine (kc _).mono ?_; rintro e w1 ⟨rfl, hb1⟩; have hP := hP.up hb1; have hS := hS.up hb1; have hN := hN.up hb1; have hB := Below.then hB hb1)
    | (refine build_work _ _ rfl rfl s p rfl rfl ?_)
    | (refine store_work _ _ rfl rfl _ s Std.none p Par.none 89 rfl rfl (WorkAt.new _ Std.none Par.none _) ?_; intro w2 hW hb2; have hlt := hN.lt; have hle := hB.size; have hN := hN.up (below_made (Below.refl _ _) hb2); have hB := below_made hB hb2; clear hb2)
    | (go_at_call 48; refine (kt _ _ (by exact hW)).mono ?_; rintro e w3 ⟨rfl, hW, hb3⟩; have hN := hN.below hb3 hlt; have hB := hB.trans (hb3.mono hle); clear hb3)
    | (refine load_wstd _ rfl rfl _ r p _ rfl (by assumption) ?_)
    | (refine store_std _ _ rfl rfl _ r Std.none 31 rfl rfl (by assumption) ?_; intro w4 hR hb4; have hB := hB.trans (hb4.mono (Nat.le_trans (Nat.le_succ _) (Nat.le_succ _)))))
  refine bodyPost_ret (res_std Try.results27 rfl hR) rfl ⟨rfl, hB⟩

end Go.Proofs.Ytfmmcklggnflkaa
