/- Layer 5 (coder): bytes in memory; a writer's small calls; a number's bytes. By contracts. -/
import Derived.Test.YtokaclacejhppaaCore
import Derived.Test.YtokaclacejhppaaBytes
import Derived.Test.YtokaclacejhppaaCoderM
import Derived.Test.YtokaclacejhppaaProg
import Derived.OwnWalk
import Derived.Laws.BitsLemmas
import Derived.IntWalk
import Derived.Deep.RegionHeld3
import Derived.Deep.MidRow
import Derived.Laws.CopyOwn
import Derived.Deep.RegionWith
namespace Go.Proofs.Ytokaclacejhppaa
open Go.RowKit
set_option linter.unusedVariables false

set_option maxRecDepth 100000 in
set_option maxHeartbeats 1000000 in
theorem form_ok (n : Nat) (w : World) (hn : n < 18446744073709551616) :
    Calls Try.prog 43 #[.int .u64 (n : Int)] w fun e w' => ∃ v, e = .returned v ∧ w'.ownsRow w.heap.size 5 1 v (form n).length (u8s (form n)) ∧ Below w.heap.size w w' := by
  obtain ⟨i0, hi0, hz0, hz1, hz2⟩ := info_parts u8_info
  obtain ⟨F, HF⟩ : ∃ F, Hid (form n = F) := ⟨_, rfl⟩
  have hFl : F.length ≤ 10 := by rw [← HF.out]; exact form_word hn
  have hFH := Lib.hid hFl
  rw [HF.out]
  have hmk : ∀ V : World, (Instr.makeSlice 25 (.int .i64 0) (.int .i64 10)).run Try.prog V =
      .ok (.slice (some ⟨V.heap.size, 0, none⟩) 0 10) (V.alloc (.cells (madeCells #[.int .u8 0] 10) 5)) := by
    intro V
    have h := run_make (P := Try.prog) V 25 5 i0 (.int .u8 0) Try.underlying25 hi0 hz0 .i64 .i64 0 10 (by omega) (by omega) (by rw [hz2]; decide) (by omega)
    rw [hz1] at h
    exact h
  clear hFl
  go_enter Try.func43, Try.ntmps43
  go_wp2
  clear hmk
  have hst : (w.alloc (.cells (madeCells #[.int .u8 0] 10) 5)).ownsRow w.heap.size 5 1 (.slice (some ⟨w.heap.size, 0, none⟩) 0 10) 0 [] :=
    World.ownsRow_made w _ 10 (Nat.le_refl _) (by decide) (by rw [size_madeCells])
  have hb0 : Below w.heap.size w (w.alloc (.cells (madeCells #[.int .u8 0] 10) 5)) := (Below.refl _ w).alloc (Nat.le_refl _) _
  go_loopw [0, 3] (fun nv bv wr => ∃ (m : Nat) (vo : Value) (done : List Nat), m < 18446744073709551616 ∧ nv = .int .u64 (m : Int) ∧ vo = bv ∧ wr.ownsRow w.heap.size 5 1 vo done.length (u8s done) ∧ Hid (F = done ++ form m) ∧ Below w.heap.size w wr)
    (fun nv _ _ => (intOf nv).toNat)
  case atStart => exact ⟨n, _, [], hn, rfl, rfl, hst, HF.out.symm, hb0⟩
  case round =>
    obtain ⟨m, vo, done, hm, rfl, rfl, hown, HD, hB⟩ := hrel
    have hsz := hB.size
    have hdl : done.length + (form m).length ≤ 10 := by have h := HD.out; have h2 := hFH.out; rw [h] at h2; simpa using h2
    have hfp := form_pos m
    by_cases hlt : m < 128
    · have hcv : IntKind.u8.wrap (m : Int) = (m : Int) := by rw [IntKind.wrap_u8]; omega
      have hmI : (m : Int) < 128 := by omega
      have hfs : F = done ++ [m] := by rw [HD.out, form_small hlt]
      have HFS := Lib.hid hfs
      clear hfs hst hb0
      go_wp2_with (at_builtin; refine wpList_append_own _ rfl _ _ 25 rfl w.heap.size 5 i0 (.int .u8 0) 1 1 Try.underlying25 hi0 hz0 hz1 hz2 rfl (by decide) _ _ _ rfl (hown.alloc _) ⟨wr.heap.size, 0, none⟩ 1 1 [.int .u8 m] rfl rfl ?c1 ?c2 ?c3 ?c4 ?c5 ?_)
      case c1 => exact new_first _ _ _
      case c2 => intro u hu; simp at hu; subst hu; rfl
      case c3 => simp only [maxLen]; omega
      case c4 => omega
      case c5 => simp; omega
      intro v' w3 hown' hgrow _
      have hb' := app_below hB hsz hown hgrow
      clear hgrow hown
      go_wp2
      refine bodyPost_ret (v := v') (by simp [results, Try.results43, go_sem]) rfl ⟨_, rfl, ?_, hb'⟩
      rw [HFS.out, u8s_snoc, List.length_append]
      exact hown'
    · have hcv : IntKind.u8.wrap (m : Int) = ((m % 256 : Nat) : Int) := by rw [IntKind.wrap_u8]; omega
      have hor := or128 ⟨m % 256, by omega⟩
      have e1 : m % 256 % 128 = m % 128 := by omega
      simp only [e1] at hor
      have hor2 : bits .or .u8 ((m : Int) % 256) 128 = ((m % 128 + 128 : Nat) : Int) := by rw [← hor]; congr 1
      have HO := Lib.hid hor2
      clear hor hor2
      have e2 : ((m % 128 + 128 : Nat) : Int) = (m : Int) % 128 + 128 := by omega
      have HE := Lib.hid e2
      clear e2
      have hmI : (128 : Int) ≤ (m : Int) := by omega
      have hfs : F = (done ++ [m % 128 + 128]) ++ form (m / 128) := by rw [HD.out, form_big (by omega)]; simp
      have HFS := Lib.hid hfs
      clear hfs hst hb0 e1
      go_wp2_with (at_builtin; refine wpList_append_own _ rfl _ _ 25 rfl w.heap.size 5 i0 (.int .u8 0) 1 1 Try.underlying25 hi0 hz0 hz1 hz2 rfl (by decide) _ _ _ rfl (hown.alloc _) ⟨wr.heap.size, 0, none⟩ 1 1 [.int .u8 ((m % 128 + 128 : Nat) : Int)] rfl rfl ?c1 ?c2 ?c3 ?c4 ?c5 ?_)
      case c1 => rw [HO.out]; exact new_first _ _ _
      case c2 => intro u hu; simp at hu; subst hu; rfl
      case c3 => simp only [maxLen]; omega
      case c4 => omega
      case c5 => simp; omega
      intro v' w3 hown' hgrow _
      have hb' := app_below hB hsz hown hgrow
      clear hgrow hown
      go_wp2
      go_roundw
      case rel =>
        refine ⟨m / 128, _, done ++ [m % 128 + 128], by omega, by go_num, rfl, ?_, HFS.out, hb'⟩
        rw [u8s_snoc, List.length_append, HE.out]
        exact hown'
      case measure => simp [intOf]; omega
end Go.Proofs.Ytokaclacejhppaa
