/- Layer 8 (deed), the document's: whether a deed is right. By contracts. -/
import Derived.Test.YtcaejanfhchacaaDeedW0
import Derived.Test.YtcaejanfhchacaaSeqB
namespace Go.Proofs.Ytcaejanfhchacaa
open Go.RowKit
set_option linter.unusedVariables false
set_option linter.unusedSimpArgs false

set_option maxRecDepth 100000 in
set_option maxHeartbeats 16000000 in
theorem rright_sym (d : Dd) (A : Option Addr) (c : Nat) (w : World) (r : Bool) (i0 : Bool) (I0 : inN d.kind 1 7 = i0) (i1 : Bool) (I1 : inN d.account 0 63 = i1) (i2 : Bool) (I2 : inN d.member 0 127 = i2) (i3 : Bool) (I3 : inN d.dest 0 63 = i3) (i4 : Bool) (I4 : inN d.epoch 0 1073741824 = i4) (i5 : Bool) (I5 : inN d.motion 0 31 = i5) (i8 : Bool) (I8 : inN d.what 0 4 = i8) (l6 : Bool) (L6 : decide ((32 : Int) < (d.bits.length : Int)) = l6) (m7 : Bool) (M7 : decide ((4611686018427387904 : Int) < (d.amount : Int)) = m7) (f1 : Bool) (F1 : (d.account != 0) = f1) (f2 : Bool) (F2 : (d.member != 0) = f2) (f3 : Bool) (F3 : (d.dest != 0) = f3) (f5 : Bool) (F5 : (d.epoch != 0) = f5) (n5 : Bool) (N5 : ((d.bits.length : Int) != 0) = n5) (g4 : Bool) (G4 : decide ((0 : Int) < (d.amount : Int)) = g4) (f8 : Bool) (F8 : (d.motion != 0) = f8) (y8 : Bool) (Y8 : d.yes = y8) (f7 : Bool) (F7 : (d.what != 0) = f7) (u1 : Bool) (U1 : hb d.mask 1 = u1) (u2 : Bool) (U2 : hb d.mask 2 = u2) (u3 : Bool) (U3 : hb d.mask 32 = u3) (u4 : Bool) (U4 : hb d.mask 64 = u4) (u5 : Bool) (U5 : hb d.mask 4 = u5) (u6 : Bool) (U6 : hb d.mask 8 = u6) (u7 : Bool) (U7 : hb d.mask 16 = u7) (u8 : Bool) (U8 : hb d.mask 128 = u8)
    (hr : r = true ↔ (((((((((!i0) || (!i1)) || (!i2)) || (!i3)) || (!i4)) || (!i5)) || l6) || m7) = false ∧ (((((!u1) && f1) || ((!u2) && f2)) || ((!u3) && f3)) || ((!u5) && (f5 || n5))) = false ∧ ((u4 != g4) || ((!u8) && (f8 || y8))) = false ∧ ((u6 != f7) || (!i8)) = false ∧ okP u7 d.par)) :
    Calls Try.prog 50 #[.agg (d.vals A c)] w fun e w' => e = .returned (.bool r) ∧ Below w.heap.size w w' := by
  have hD := DeedAt.new w d A c 57
  have hB : Below w.heap.size w (w.alloc (.cells (d.vals A c) 57)) := (Below.refl _ _).alloc (Nat.le_refl _) _
  have k0 : ∀ w, Calls Try.prog 88 #[.int .i64 d.kind, .int .i64 1, .int .i64 7] w fun e w' => e = .returned (.bool i0) ∧ w = w' := fun w => by have := rin_is d.kind 1 7 w; rwa [I0] at this
  have k1 : ∀ w, Calls Try.prog 88 #[.int .i64 d.account, .int .i64 0, .int .i64 63] w fun e w' => e = .returned (.bool i1) ∧ w = w' := fun w => by have := rin_is d.account 0 63 w; rwa [I1] at this
  have k2 : ∀ w, Calls Try.prog 88 #[.int .i64 d.member, .int .i64 0, .int .i64 127] w fun e w' => e = .returned (.bool i2) ∧ w = w' := fun w => by have := rin_is d.member 0 127 w; rwa [I2] at this
  have k3 : ∀ w, Calls Try.prog 88 #[.int .i64 d.dest, .int .i64 0, .int .i64 63] w fun e w' => e = .returned (.bool i3) ∧ w = w' := fun w => by have := rin_is d.dest 0 63 w; rwa [I3] at this
  have k4 : ∀ w, Calls Try.prog 88 #[.int .i64 d.epoch, .int .i64 0, .int .i64 1073741824] w fun e w' => e = .returned (.bool i4) ∧ w = w' := fun w => by have := rin_is d.epoch 0 1073741824 w; rwa [I4] at this
  have k5 : ∀ w, Calls Try.prog 88 #[.int .i64 d.motion, .int .i64 0, .int .i64 31] w fun e w' => e = .returned (.bool i5) ∧ w = w' := fun w => by have := rin_is d.motion 0 31 w; rwa [I5] at this
  have k8 : ∀ w, Calls Try.prog 88 #[.int .i64 d.what, .int .i64 0, .int .i64 4] w fun e w' => e = .returned (.bool i8) ∧ w = w' := fun w => by have := rin_is d.what 0 4 w; rwa [I8] at this
  have ku1 : ∀ w, Calls Try.prog 89 #[.agg (d.vals A c), .int .i64 1] w fun e w' => e = .returned (.bool u1) ∧ Below w.heap.size w w' := fun w => by have := ruses_is d A c 1 1 .account w; rwa [U1] at this
  have ku2 : ∀ w, Calls Try.prog 89 #[.agg (d.vals A c), .int .i64 2] w fun e w' => e = .returned (.bool u2) ∧ Below w.heap.size w w' := fun w => by have := ruses_is d A c 2 2 .member w; rwa [U2] at this
  have ku3 : ∀ w, Calls Try.prog 89 #[.agg (d.vals A c), .int .i64 3] w fun e w' => e = .returned (.bool u3) ∧ Below w.heap.size w w' := fun w => by have := ruses_is d A c 3 32 .dest w; rwa [U3] at this
  have ku4 : ∀ w, Calls Try.prog 89 #[.agg (d.vals A c), .int .i64 4] w fun e w' => e = .returned (.bool u4) ∧ Below w.heap.size w w' := fun w => by have := ruses_is d A c 4 64 .amount w; rwa [U4] at this
  have ku5 : ∀ w, Calls Try.prog 89 #[.agg (d.vals A c), .int .i64 5] w fun e w' => e = .returned (.bool u5) ∧ Below w.heap.size w w' := fun w => by have := ruses_is d A c 5 4 .mark w; rwa [U5] at this
  have ku6 : ∀ w, Calls Try.prog 89 #[.agg (d.vals A c), .int .i64 6] w fun e w' => e = .returned (.bool u6) ∧ Below w.heap.size w w' := fun w => by have := ruses_is d A c 6 8 .what w; rwa [U6] at this
  have ku7 : ∀ w, Calls Try.prog 89 #[.agg (d.vals A c), .int .i64 7] w fun e w' => e = .returned (.bool u7) ∧ Below w.heap.size w w' := fun w => by have := ruses_is d A c 7 16 .params w; rwa [U7] at this
  have ku8 : ∀ w, Calls Try.prog 89 #[.agg (d.vals A c), .int .i64 8] w fun e w' => e = .returned (.bool u8) ∧ Below w.heap.size w w' := fun w => by have := ruses_is d A c 8 128 .vote w; rwa [U8] at this
  clear I0 I1 I2 I3 I4 I5 I8 U1 U2 U3 U4 U5 U6 U7 U8
  go_enter Try.func50, Try.ntmps50
  have G4N : decide (0 < d.amount) = g4 := by rw [← G4]; simp
  go_upto_region 1 with fail
  generalize hw0 : World.alloc _ _ = w0
  rw [hw0] at hD hB
  clear hw0
  have cells : ∀ w', Below w0.heap.size w0 w' → DeedAt w' w.heap.size d A c 57 := fun w' h => hD.next h
  clear hD
  refine region_text (fun w' => Below w0.heap.size w0 w') (Below.refl _ _) ?_
  refine SeqS.calm (.pointer (some ⟨w.heap.size, 0, none⟩)) (by rfl) (by rfl) (fun w => by (rfl)) ?_
  simp only [Act.put, List.setIfInBounds_toArray, List.set_cons_zero, List.set_cons_succ]
  refine SeqS.take (.int .i64 d.kind) (by rfl) (by rfl) (fun ph w' hS => by obtain ⟨c0, c1, c2, c3, c4, c5, c6, c7, c32, c33⟩ := (cells w' hS).cells; rw [Y8] at c33; go_simp) ?_
  simp only [Act.put, List.setIfInBounds_toArray, List.set_cons_zero, List.set_cons_succ]
  refine SeqS.call (quiet_call k0) (by rfl) (by rfl) (fun w => ?_) ?_; · go_simp
  simp only [Act.put, List.setIfInBounds_toArray, List.set_cons_zero, List.set_cons_succ]
  refine SeqS.calm (.bool (!i0)) (by rfl) (by rfl) (fun w => by (cases i0 <;> (rfl))) ?_
  simp only [Act.put, List.setIfInBounds_toArray, List.set_cons_zero, List.set_cons_succ]
  refine SeqS.calm (.bool (!i0)) (by rfl) (by rfl) (fun w => by (cases i0 <;> (rfl))) ?_
  simp only [Act.put, List.setIfInBounds_toArray, List.set_cons_zero, List.set_cons_succ]
  refine SeqS.maybe (!(!i0)) (.pointer (some ⟨w.heap.size, 1, none⟩)) (by (cases i0 <;> (rfl))) (by rfl) (by (cases i0 <;> (first | (intro h; exact absurd h (by decide)) | (intro _ ph w' hS; rfl)))) ?_
  simp only [Act.put, List.setIfInBounds_toArray, List.set_cons_zero, List.set_cons_succ]
  refine SeqS.maybe (!(!i0)) (.int .i64 d.account) (by (cases i0 <;> (rfl))) (by rfl) (by (cases i0 <;> (first | (intro h; exact absurd h (by decide)) | (intro _ ph w' hS; obtain ⟨c0, c1, c2, c3, c4, c5, c6, c7, c32, c33⟩ := (cells w' hS).cells; rw [Y8] at c33; go_simp)))) ?_
  simp only [Act.put, List.setIfInBounds_toArray, List.set_cons_zero, List.set_cons_succ]
  refine SeqS.maybeCall (!(!i0)) (.bool i1) (quiet_call k1) (by (cases i0 <;> (rfl))) (by rfl) (by (cases i0 <;> (first | (intro h; exact absurd h (by decide)) | (intro _ w; rfl) | (intro _ w; go_simp)))) ?_
  simp only [Act.put, List.setIfInBounds_toArray, List.set_cons_zero, List.set_cons_succ]
  refine SeqS.maybe (!(!i0)) (.bool (!i1)) (by (cases i0 <;> (rfl))) (by rfl) (by (cases i0 <;> cases i1 <;> (first | (intro h; exact absurd h (by decide)) | (intro _ ph w' hS; rfl)))) ?_
  simp only [Act.put, List.setIfInBounds_toArray, List.set_cons_zero, List.set_cons_succ]
  refine SeqS.calm (.bool ((!i0) || (!i1))) (by rfl) (by rfl) (fun w => by (cases i0 <;> cases i1 <;> (rfl))) ?_
  simp only [Act.put, List.setIfInBounds_toArray, List.set_cons_zero, List.set_cons_succ]
  obtain ⟨p1, hp1⟩ : ∃ b : Bool, Hid (((!i0) || (!i1)) = b) := ⟨_, rfl⟩
  rw [hp1.out]
  refine SeqS.calm (.bool p1) (by rfl) (by rfl) (fun w => by (cases p1 <;> (rfl))) ?_
  simp only [Act.put, List.setIfInBounds_toArray, List.set_cons_zero, List.set_cons_succ]
  refine SeqS.maybe (!p1) (.pointer (some ⟨w.heap.size, 2, none⟩)) (by (cases p1 <;> (rfl))) (by rfl) (by (cases p1 <;> (first | (intro h; exact absurd h (by decide)) | (intro _ ph w' hS; rfl)))) ?_
  simp only [Act.put, List.setIfInBounds_toArray, List.set_cons_zero, List.set_cons_succ]
  refine SeqS.maybe (!p1) (.int .i64 d.member) (by (cases p1 <;> (rfl))) (by rfl) (by (cases p1 <;> (first | (intro h; exact absurd h (by decide)) | (intro _ ph w' hS; obtain ⟨c0, c1, c2, c3, c4, c5, c6, c7, c32, c33⟩ := (cells w' hS).cells; rw [Y8] at c33; go_simp)))) ?_
  simp only [Act.put, List.setIfInBounds_toArray, List.set_cons_zero, List.set_cons_succ]
  refine SeqS.maybeCall (!p1) (.bool i2) (quiet_call k2) (by (cases p1 <;> (rfl))) (by rfl) (by (cases p1 <;> (first | (intro h; exact absurd h (by decide)) | (intro _ w; rfl) | (intro _ w; go_simp)))) ?_
  simp only [Act.put, List.setIfInBounds_toArray, List.set_cons_zero, List.set_cons_succ]
  refine SeqS.maybe (!p1) (.bool (!i2)) (by (cases p1 <;> (rfl))) (by rfl) (by (cases p1 <;> cases i2 <;> (first | (intro h; exact absurd h (by decide)) | (intro _ ph w' hS; rfl)))) ?_
  simp only [Act.put, List.setIfInBounds_toArray, List.set_cons_zero, List.set_cons_succ]
  refine SeqS.calm (.bool (p1 || (!i2))) (by rfl) (by rfl) (fun w => by (cases p1 <;> cases i2 <;> (rfl))) ?_
  simp only [Act.put, List.setIfInBounds_toArray, List.set_cons_zero, List.set_cons_succ]
  obtain ⟨p2, hp2⟩ : ∃ b : Bool, Hid ((p1 || (!i2)) = b) := ⟨_, rfl⟩
  rw [hp2.out]
  refine SeqS.calm (.bool p2) (by rfl) (by rfl) (fun w => by (cases p2 <;> (rfl))) ?_
  simp only [Act.put, List.setIfInBounds_toArray, List.set_cons_zero, List.set_cons_succ]
  refine SeqS.maybe (!p2) (.pointer (some ⟨w.heap.size, 3, none⟩)) (by (cases p2 <;> (rfl))) (by rfl) (by (cases p2 <;> (first | (intro h; exact absurd h (by decide)) | (intro _ ph w' hS; rfl)))) ?_
  simp only [Act.put, List.setIfInBounds_toArray, List.set_cons_zero, List.set_cons_succ]
  refine SeqS.maybe (!p2) (.int .i64 d.dest) (by (cases p2 <;> (rfl))) (by rfl) (by (cases p2 <;> (first | (intro h; exact absurd h (by decide)) | (intro _ ph w' hS; obtain ⟨c0, c1, c2, c3, c4, c5, c6, c7, c32, c33⟩ := (cells w' hS).cells; rw [Y8] at c33; go_simp)))) ?_
  simp only [Act.put, List.setIfInBounds_toArray, List.set_cons_zero, List.set_cons_succ]
  refine SeqS.maybeCall (!p2) (.bool i3) (quiet_call k3) (by (cases p2 <;> (rfl))) (by rfl) (by (cases p2 <;> (first | (intro h; exact absurd h (by decide)) | (intro _ w; rfl) | (intro _ w; go_simp)))) ?_
  simp only [Act.put, List.setIfInBounds_toArray, List.set_cons_zero, List.set_cons_succ]
  refine SeqS.maybe (!p2) (.bool (!i3)) (by (cases p2 <;> (rfl))) (by rfl) (by (cases p2 <;> cases i3 <;> (first | (intro h; exact absurd h (by decide)) | (intro _ ph w' hS; rfl)))) ?_
  simp only [Act.put, List.setIfInBounds_toArray, List.set_cons_zero, List.set_cons_succ]
  refine SeqS.calm (.bool (p2 || (!i3))) (by rfl) (by rfl) (fun w => by (cases p2 <;> cases i3 <;> (rfl))) ?_
  simp only [Act.put, List.setIfInBounds_toArray, List.set_cons_zero, List.set_cons_succ]
  obtain ⟨p3, hp3⟩ : ∃ b : Bool, Hid ((p2 || (!i3)) = b) := ⟨_, rfl⟩
  rw [hp3.out]
  refine SeqS.calm (.bool p3) (by rfl) (by rfl) (fun w => by (cases p3 <;> (rfl))) ?_
  simp only [Act.put, List.setIfInBounds_toArray, List.set_cons_zero, List.set_cons_succ]
  refine SeqS.maybe (!p3) (.pointer (some ⟨w.heap.size, 5, none⟩)) (by (cases p3 <;> (rfl))) (by rfl) (by (cases p3 <;> (first | (intro h; exact absurd h (by decide)) | (intro _ ph w' hS; rfl)))) ?_
  simp only [Act.put, List.setIfInBounds_toArray, List.set_cons_zero, List.set_cons_succ]
  refine SeqS.maybe (!p3) (.int .i64 d.epoch) (by (cases p3 <;> (rfl))) (by rfl) (by (cases p3 <;> (first | (intro h; exact absurd h (by decide)) | (intro _ ph w' hS; obtain ⟨c0, c1, c2, c3, c4, c5, c6, c7, c32, c33⟩ := (cells w' hS).cells; rw [Y8] at c33; go_simp)))) ?_
  simp only [Act.put, List.setIfInBounds_toArray, List.set_cons_zero, List.set_cons_succ]
  refine SeqS.maybeCall (!p3) (.bool i4) (quiet_call k4) (by (cases p3 <;> (rfl))) (by rfl) (by (cases p3 <;> (first | (intro h; exact absurd h (by decide)) | (intro _ w; rfl) | (intro _ w; go_simp)))) ?_
  simp only [Act.put, List.setIfInBounds_toArray, List.set_cons_zero, List.set_cons_succ]
  refine SeqS.maybe (!p3) (.bool (!i4)) (by (cases p3 <;> (rfl))) (by rfl) (by (cases p3 <;> cases i4 <;> (first | (intro h; exact absurd h (by decide)) | (intro _ ph w' hS; rfl)))) ?_
  simp only [Act.put, List.setIfInBounds_toArray, List.set_cons_zero, List.set_cons_succ]
  refine SeqS.calm (.bool (p3 || (!i4))) (by rfl) (by rfl) (fun w => by (cases p3 <;> cases i4 <;> (rfl))) ?_
  simp only [Act.put, List.setIfInBounds_toArray, List.set_cons_zero, List.set_cons_succ]
  obtain ⟨p4, hp4⟩ : ∃ b : Bool, Hid ((p3 || (!i4)) = b) := ⟨_, rfl⟩
  rw [hp4.out]
  refine SeqS.calm (.bool p4) (by rfl) (by rfl) (fun w => by (cases p4 <;> (rfl))) ?_
  simp only [Act.put, List.setIfInBounds_toArray, List.set_cons_zero, List.set_cons_succ]
  refine SeqS.maybe (!p4) (.pointer (some ⟨w.heap.size, 32, none⟩)) (by (cases p4 <;> (rfl))) (by rfl) (by (cases p4 <;> (first | (intro h; exact absurd h (by decide)) | (intro _ ph w' hS; rfl)))) ?_
  simp only [Act.put, List.setIfInBounds_toArray, List.set_cons_zero, List.set_cons_succ]
  refine SeqS.maybe (!p4) (.int .i64 d.motion) (by (cases p4 <;> (rfl))) (by rfl) (by (cases p4 <;> (first | (intro h; exact absurd h (by decide)) | (intro _ ph w' hS; obtain ⟨c0, c1, c2, c3, c4, c5, c6, c7, c32, c33⟩ := (cells w' hS).cells; rw [Y8] at c33; go_simp)))) ?_
  simp only [Act.put, List.setIfInBounds_toArray, List.set_cons_zero, List.set_cons_succ]
  refine SeqS.maybeCall (!p4) (.bool i5) (quiet_call k5) (by (cases p4 <;> (rfl))) (by rfl) (by (cases p4 <;> (first | (intro h; exact absurd h (by decide)) | (intro _ w; rfl) | (intro _ w; go_simp)))) ?_
  simp only [Act.put, List.setIfInBounds_toArray, List.set_cons_zero, List.set_cons_succ]
  refine SeqS.maybe (!p4) (.bool (!i5)) (by (cases p4 <;> (rfl))) (by rfl) (by (cases p4 <;> cases i5 <;> (first | (intro h; exact absurd h (by decide)) | (intro _ ph w' hS; rfl)))) ?_
  simp only [Act.put, List.setIfInBounds_toArray, List.set_cons_zero, List.set_cons_succ]
  refine SeqS.calm (.bool (p4 || (!i5))) (by rfl) (by rfl) (fun w => by (cases p4 <;> cases i5 <;> (rfl))) ?_
  simp only [Act.put, List.setIfInBounds_toArray, List.set_cons_zero, List.set_cons_succ]
  obtain ⟨p5, hp5⟩ : ∃ b : Bool, Hid ((p4 || (!i5)) = b) := ⟨_, rfl⟩
  rw [hp5.out]
  refine SeqS.calm (.bool p5) (by rfl) (by rfl) (fun w => by (cases p5 <;> (rfl))) ?_
  simp only [Act.put, List.setIfInBounds_toArray, List.set_cons_zero, List.set_cons_succ]
  refine SeqS.maybe (!p5) (.pointer (some ⟨w.heap.size, 6, none⟩)) (by (cases p5 <;> (rfl))) (by rfl) (by (cases p5 <;> (first | (intro h; exact absurd h (by decide)) | (intro _ ph w' hS; rfl)))) ?_
  simp only [Act.put, List.setIfInBounds_toArray, List.set_cons_zero, List.set_cons_succ]
  refine SeqS.maybe (!p5) (.slice A d.bits.length c) (by (cases p5 <;> (rfl))) (by rfl) (by (cases p5 <;> (first | (intro h; exact absurd h (by decide)) | (intro _ ph w' hS; obtain ⟨c0, c1, c2, c3, c4, c5, c6, c7, c32, c33⟩ := (cells w' hS).cells; rw [Y8] at c33; go_simp)))) ?_
  simp only [Act.put, List.setIfInBounds_toArray, List.set_cons_zero, List.set_cons_succ]
  refine SeqS.maybe (!p5) (.int .i64 (d.bits.length : Int)) (by (cases p5 <;> (rfl))) (by rfl) (by (cases p5 <;> (first | (intro h; exact absurd h (by decide)) | (intro _ ph w' hS; go_simp)))) ?_
  simp only [Act.put, List.setIfInBounds_toArray, List.set_cons_zero, List.set_cons_succ]
  refine SeqS.maybe (!p5) (.bool l6) (by (cases p5 <;> (rfl))) (by rfl) (by (cases p5 <;> (first | (intro h; exact absurd h (by decide)) | (intro _ ph w' hS; go_simp)))) ?_
  simp only [Act.put, List.setIfInBounds_toArray, List.set_cons_zero, List.set_cons_succ]
  refine SeqS.calm (.bool (p5 || l6)) (by rfl) (by rfl) (fun w => by (cases p5 <;> cases l6 <;> (rfl))) ?_
  simp only [Act.put, List.setIfInBounds_toArray, List.set_cons_zero, List.set_cons_succ]
  obtain ⟨p6, hp6⟩ : ∃ b : Bool, Hid ((p5 || l6) = b) := ⟨_, rfl⟩
  rw [hp6.out]
  refine SeqS.calm (.bool p6) (by rfl) (by rfl) (fun w => by (cases p6 <;> (rfl))) ?_
  simp only [Act.put, List.setIfInBounds_toArray, List.set_cons_zero, List.set_cons_succ]
  refine SeqS.maybe (!p6) (.pointer (some ⟨w.heap.size, 4, none⟩)) (by (cases p6 <;> (rfl))) (by rfl) (by (cases p6 <;> (first | (intro h; exact absurd h (by decide)) | (intro _ ph w' hS; rfl)))) ?_
  simp only [Act.put, List.setIfInBounds_toArray, List.set_cons_zero, List.set_cons_succ]
  refine SeqS.maybe (!p6) (.int .u64 (d.amount : Int)) (by (cases p6 <;> (rfl))) (by rfl) (by (cases p6 <;> (first | (intro h; exact absurd h (by decide)) | (intro _ ph w' hS; obtain ⟨c0, c1, c2, c3, c4, c5, c6, c7, c32, c33⟩ := (cells w' hS).cells; rw [Y8] at c33; go_simp)))) ?_
  simp only [Act.put, List.setIfInBounds_toArray, List.set_cons_zero, List.set_cons_succ]
  refine SeqS.maybe (!p6) (.bool m7) (by (cases p6 <;> (rfl))) (by rfl) (by (cases p6 <;> (first | (intro h; exact absurd h (by decide)) | (intro _ ph w' hS; go_simp)))) ?_
  simp only [Act.put, List.setIfInBounds_toArray, List.set_cons_zero, List.set_cons_succ]
  refine SeqS.calm (.bool (p6 || m7)) (by rfl) (by rfl) (fun w => by (cases p6 <;> cases m7 <;> (rfl))) ?_
  simp only [Act.put, List.setIfInBounds_toArray, List.set_cons_zero, List.set_cons_succ]
  obtain ⟨p7, hp7⟩ : ∃ b : Bool, Hid ((p6 || m7) = b) := ⟨_, rfl⟩
  rw [hp7.out]
  intro w1 hw1
  have e1 : ((((((((!i0) || (!i1)) || (!i2)) || (!i3)) || (!i4)) || (!i5)) || l6) || m7) = p7 := by rw [hp1.out, hp2.out, hp3.out, hp4.out, hp5.out, hp6.out, hp7.out]
  clear hp1 hp2 hp3 hp4 hp5 hp6 hp7
  cases p7 with
  | true =>
    obtain rfl : r = false := by
      cases r with
      | false => rfl
      | true => exact absurd (hr.1 rfl).1 (by rw [e1]; decide)
    have hBe := Below.then hB hw1
    clear hr cells e1 k0 k1 k2 k3 k4 k5 k8 ku1 ku2 ku3 ku4 ku5 ku6 ku7 ku8
    go_wp2
    go_ret
    exact ⟨rfl, hBe⟩
  | false =>
  go_upto_region 3 with fail
  refine region_text (fun w' => Below w0.heap.size w0 w') (hw1) ?_
  refine SeqS.take (.agg (d.vals A c)) (by rfl) (by rfl) (fun ph w' hS => exec_load_rdeed _ rfl _ d A c _ rfl (cells w' hS)) ?_
  simp only [Act.put, List.setIfInBounds_toArray, List.set_cons_zero, List.set_cons_succ]
  refine SeqS.call (below_call (Nat.le_refl _) (fun w _ => ku1 w)) (by rfl) (by rfl) (fun w => ?_) ?_; · go_simp
  simp only [Act.put, List.setIfInBounds_toArray, List.set_cons_zero, List.set_cons_succ]
  refine SeqS.calm (.bool (!u1)) (by rfl) (by rfl) (fun w => by (cases u1 <;> (rfl))) ?_
  simp only [Act.put, List.setIfInBounds_toArray, List.set_cons_zero, List.set_cons_succ]
  refine SeqS.calm (.bool (!u1)) (by rfl) (by rfl) (fun w => by (cases u1 <;> (rfl))) ?_
  simp only [Act.put, List.setIfInBounds_toArray, List.set_cons_zero, List.set_cons_succ]
  refine SeqS.maybe (!u1) (.pointer (some ⟨w.heap.size, 1, none⟩)) (by (cases u1 <;> (rfl))) (by rfl) (by (cases u1 <;> (first | (intro h; exact absurd h (by decide)) | (intro _ ph w' hS; rfl)))) ?_
  simp only [Act.put, List.setIfInBounds_toArray, List.set_cons_zero, List.set_cons_succ]
  refine SeqS.maybe (!u1) (.int .i64 d.account) (by (cases u1 <;> (rfl))) (by rfl) (by (cases u1 <;> (first | (intro h; exact absurd h (by decide)) | (intro _ ph w' hS; obtain ⟨c0, c1, c2, c3, c4, c5, c6, c7, c32, c33⟩ := (cells w' hS).cells; rw [Y8] at c33; go_simp)))) ?_
  simp only [Act.put, List.setIfInBounds_toArray, List.set_cons_zero, List.set_cons_succ]
  refine SeqS.maybe (!u1) (.bool f1) (by (cases u1 <;> (rfl))) (by rfl) (by (cases u1 <;> (first | (intro h; exact absurd h (by decide)) | (intro _ ph w' hS; go_simp)))) ?_
  simp only [Act.put, List.setIfInBounds_toArray, List.set_cons_zero, List.set_cons_succ]
  refine SeqS.calm (.bool ((!u1) && f1)) (by rfl) (by rfl) (fun w => by (cases u1 <;> cases f1 <;> (rfl))) ?_
  simp only [Act.put, List.setIfInBounds_toArray, List.set_cons_zero, List.set_cons_succ]
  obtain ⟨q1, hq1⟩ : ∃ b : Bool, Hid (((!u1) && f1) = b) := ⟨_, rfl⟩
  rw [hq1.out]
  refine SeqS.calm (.bool q1) (by rfl) (by rfl) (fun w => by (cases q1 <;> (rfl))) ?_
  simp only [Act.put, List.setIfInBounds_toArray, List.set_cons_zero, List.set_cons_succ]
  refine SeqS.maybe (!q1) (.agg (d.vals A c)) (by (cases q1 <;> (rfl))) (by rfl) (by (cases q1 <;> (first | (intro h; exact absurd h (by decide)) | (intro _ ph w' hS; exact exec_load_rdeed _ rfl _ d A c _ rfl (cells w' hS))))) ?_
  simp only [Act.put, List.setIfInBounds_toArray, List.set_cons_zero, List.set_cons_succ]
  refine SeqS.maybeCall (!q1) (.bool u2) (below_call (Nat.le_refl _) (fun w _ => ku2 w)) (by (cases q1 <;> (rfl))) (by rfl) (by (cases q1 <;> (first | (intro h; exact absurd h (by decide)) | (intro _ w; rfl) | (intro _ w; go_simp)))) ?_
  simp only [Act.put, List.setIfInBounds_toArray, List.set_cons_zero, List.set_cons_succ]
  refine SeqS.maybe (!q1) (.bool (!u2)) (by (cases q1 <;> (rfl))) (by rfl) (by (cases q1 <;> cases u2 <;> (first | (intro h; exact absurd h (by decide)) | (intro _ ph w' hS; rfl)))) ?_
  simp only [Act.put, List.setIfInBounds_toArray, List.set_cons_zero, List.set_cons_succ]
  refine SeqS.maybe (!q1) (.bool (!u2)) (by (cases q1 <;> (rfl))) (by rfl) (by (cases q1 <;> cases u2 <;> (first | (intro h; exact absurd h (by decide)) | (intro _ ph w' hS; rfl)))) ?_
  simp only [Act.put, List.setIfInBounds_toArray, List.set_cons_zero, List.set_cons_succ]
  refine SeqS.maybe ((!q1) && (!u2)) (.pointer (some ⟨w.heap.size, 2, none⟩)) (by (cases q1 <;> cases u2 <;> (rfl))) (by rfl) (by (cases q1 <;> cases u2 <;> (first | (intro h; exact absurd h (by decide)) | (intro _ ph w' hS; rfl)))) ?_
  simp only [Act.put, List.setIfInBounds_toArray, List.set_cons_zero, List.set_cons_succ]
  refine SeqS.maybe ((!q1) && (!u2)) (.int .i64 d.member) (by (cases q1 <;> cases u2 <;> (rfl))) (by rfl) (by (cases q1 <;> cases u2 <;> (first | (intro h; exact absurd h (by decide)) | (intro _ ph w' hS; obtain ⟨c0, c1, c2, c3, c4, c5, c6, c7, c32, c33⟩ := (cells w' hS).cells; rw [Y8] at c33; go_simp)))) ?_
  simp only [Act.put, List.setIfInBounds_toArray, List.set_cons_zero, List.set_cons_succ]
  refine SeqS.maybe ((!q1) && (!u2)) (.bool f2) (by (cases q1 <;> cases u2 <;> (rfl))) (by rfl) (by (cases q1 <;> cases u2 <;> (first | (intro h; exact absurd h (by decide)) | (intro _ ph w' hS; go_simp)))) ?_
  simp only [Act.put, List.setIfInBounds_toArray, List.set_cons_zero, List.set_cons_succ]
  refine SeqS.maybe (!q1) (.bool ((!u2) && f2)) (by (cases q1 <;> (rfl))) (by rfl) (by (cases q1 <;> cases u2 <;> cases f2 <;> (first | (intro h; exact absurd h (by decide)) | (intro _ ph w' hS; rfl)))) ?_
  simp only [Act.put, List.setIfInBounds_toArray, List.set_cons_zero, List.set_cons_succ]
  refine SeqS.calm (.bool (q1 || ((!u2) && f2))) (by rfl) (by rfl) (fun w => by (cases q1 <;> cases u2 <;> cases f2 <;> (rfl))) ?_
  simp only [Act.put, List.setIfInBounds_toArray, List.set_cons_zero, List.set_cons_succ]
  obtain ⟨q2, hq2⟩ : ∃ b : Bool, Hid ((q1 || ((!u2) && f2)) = b) := ⟨_, rfl⟩
  rw [hq2.out]
  refine SeqS.calm (.bool q2) (by rfl) (by rfl) (fun w => by (cases q2 <;> (rfl))) ?_
  simp only [Act.put, List.setIfInBounds_toArray, List.set_cons_zero, List.set_cons_succ]
  refine SeqS.maybe (!q2) (.agg (d.vals A c)) (by (cases q2 <;> (rfl))) (by rfl) (by (cases q2 <;> (first | (intro h; exact absurd h (by decide)) | (intro _ ph w' hS; exact exec_load_rdeed _ rfl _ d A c _ rfl (cells w' hS))))) ?_
  simp only [Act.put, List.setIfInBounds_toArray, List.set_cons_zero, List.set_cons_succ]
  refine SeqS.maybeCall (!q2) (.bool u3) (below_call (Nat.le_refl _) (fun w _ => ku3 w)) (by (cases q2 <;> (rfl))) (by rfl) (by (cases q2 <;> (first | (intro h; exact absurd h (by decide)) | (intro _ w; rfl) | (intro _ w; go_simp)))) ?_
  simp only [Act.put, List.setIfInBounds_toArray, List.set_cons_zero, List.set_cons_succ]
  refine SeqS.maybe (!q2) (.bool (!u3)) (by (cases q2 <;> (rfl))) (by rfl) (by (cases q2 <;> cases u3 <;> (first | (intro h; exact absurd h (by decide)) | (intro _ ph w' hS; rfl)))) ?_
  simp only [Act.put, List.setIfInBounds_toArray, List.set_cons_zero, List.set_cons_succ]
  refine SeqS.maybe (!q2) (.bool (!u3)) (by (cases q2 <;> (rfl))) (by rfl) (by (cases q2 <;> cases u3 <;> (first | (intro h; exact absurd h (by decide)) | (intro _ ph w' hS; rfl)))) ?_
  simp only [Act.put, List.setIfInBounds_toArray, List.set_cons_zero, List.set_cons_succ]
  refine SeqS.maybe ((!q2) && (!u3)) (.pointer (some ⟨w.heap.size, 3, none⟩)) (by (cases q2 <;> cases u3 <;> (rfl))) (by rfl) (by (cases q2 <;> cases u3 <;> (first | (intro h; exact absurd h (by decide)) | (intro _ ph w' hS; rfl)))) ?_
  simp only [Act.put, List.setIfInBounds_toArray, List.set_cons_zero, List.set_cons_succ]
  refine SeqS.maybe ((!q2) && (!u3)) (.int .i64 d.dest) (by (cases q2 <;> cases u3 <;> (rfl))) (by rfl) (by (cases q2 <;> cases u3 <;> (first | (intro h; exact absurd h (by decide)) | (intro _ ph w' hS; obtain ⟨c0, c1, c2, c3, c4, c5, c6, c7, c32, c33⟩ := (cells w' hS).cells; rw [Y8] at c33; go_simp)))) ?_
  simp only [Act.put, List.setIfInBounds_toArray, List.set_cons_zero, List.set_cons_succ]
  refine SeqS.maybe ((!q2) && (!u3)) (.bool f3) (by (cases q2 <;> cases u3 <;> (rfl))) (by rfl) (by (cases q2 <;> cases u3 <;> (first | (intro h; exact absurd h (by decide)) | (intro _ ph w' hS; go_simp)))) ?_
  simp only [Act.put, List.setIfInBounds_toArray, List.set_cons_zero, List.set_cons_succ]
  refine SeqS.maybe (!q2) (.bool ((!u3) && f3)) (by (cases q2 <;> (rfl))) (by rfl) (by (cases q2 <;> cases u3 <;> cases f3 <;> (first | (intro h; exact absurd h (by decide)) | (intro _ ph w' hS; rfl)))) ?_
  simp only [Act.put, List.setIfInBounds_toArray, List.set_cons_zero, List.set_cons_succ]
  refine SeqS.calm (.bool (q2 || ((!u3) && f3))) (by rfl) (by rfl) (fun w => by (cases q2 <;> cases u3 <;> cases f3 <;> (rfl))) ?_
  simp only [Act.put, List.setIfInBounds_toArray, List.set_cons_zero, List.set_cons_succ]
  obtain ⟨q3, hq3⟩ : ∃ b : Bool, Hid ((q2 || ((!u3) && f3)) = b) := ⟨_, rfl⟩
  rw [hq3.out]
  refine SeqS.calm (.bool q3) (by rfl) (by rfl) (fun w => by (cases q3 <;> (rfl))) ?_
  simp only [Act.put, List.setIfInBounds_toArray, List.set_cons_zero, List.set_cons_succ]
  refine SeqS.maybe (!q3) (.agg (d.vals A c)) (by (cases q3 <;> (rfl))) (by rfl) (by (cases q3 <;> (first | (intro h; exact absurd h (by decide)) | (intro _ ph w' hS; exact exec_load_rdeed _ rfl _ d A c _ rfl (cells w' hS))))) ?_
  simp only [Act.put, List.setIfInBounds_toArray, List.set_cons_zero, List.set_cons_succ]
  refine SeqS.maybeCall (!q3) (.bool u5) (below_call (Nat.le_refl _) (fun w _ => ku5 w)) (by (cases q3 <;> (rfl))) (by rfl) (by (cases q3 <;> (first | (intro h; exact absurd h (by decide)) | (intro _ w; rfl) | (intro _ w; go_simp)))) ?_
  simp only [Act.put, List.setIfInBounds_toArray, List.set_cons_zero, List.set_cons_succ]
  refine SeqS.maybe (!q3) (.bool (!u5)) (by (cases q3 <;> (rfl))) (by rfl) (by (cases q3 <;> cases u5 <;> (first | (intro h; exact absurd h (by decide)) | (intro _ ph w' hS; rfl)))) ?_
  simp only [Act.put, List.setIfInBounds_toArray, List.set_cons_zero, List.set_cons_succ]
  refine SeqS.maybe (!q3) (.bool (!u5)) (by (cases q3 <;> (rfl))) (by rfl) (by (cases q3 <;> cases u5 <;> (first | (intro h; exact absurd h (by decide)) | (intro _ ph w' hS; rfl)))) ?_
  simp only [Act.put, List.setIfInBounds_toArray, List.set_cons_zero, List.set_cons_succ]
  refine SeqS.maybe ((!q3) && (!u5)) (.pointer (some ⟨w.heap.size, 5, none⟩)) (by (cases q3 <;> cases u5 <;> (rfl))) (by rfl) (by (cases q3 <;> cases u5 <;> (first | (intro h; exact absurd h (by decide)) | (intro _ ph w' hS; rfl)))) ?_
  simp only [Act.put, List.setIfInBounds_toArray, List.set_cons_zero, List.set_cons_succ]
  refine SeqS.maybe ((!q3) && (!u5)) (.int .i64 d.epoch) (by (cases q3 <;> cases u5 <;> (rfl))) (by rfl) (by (cases q3 <;> cases u5 <;> (first | (intro h; exact absurd h (by decide)) | (intro _ ph w' hS; obtain ⟨c0, c1, c2, c3, c4, c5, c6, c7, c32, c33⟩ := (cells w' hS).cells; rw [Y8] at c33; go_simp)))) ?_
  simp only [Act.put, List.setIfInBounds_toArray, List.set_cons_zero, List.set_cons_succ]
  refine SeqS.maybe ((!q3) && (!u5)) (.bool f5) (by (cases q3 <;> cases u5 <;> (rfl))) (by rfl) (by (cases q3 <;> cases u5 <;> (first | (intro h; exact absurd h (by decide)) | (intro _ ph w' hS; go_simp)))) ?_
  simp only [Act.put, List.setIfInBounds_toArray, List.set_cons_zero, List.set_cons_succ]
  refine SeqS.maybe ((!q3) && (!u5)) (.bool f5) (by (cases q3 <;> cases u5 <;> (rfl))) (by rfl) (by (cases q3 <;> cases u5 <;> cases f5 <;> (first | (intro h; exact absurd h (by decide)) | (intro _ ph w' hS; rfl)))) ?_
  simp only [Act.put, List.setIfInBounds_toArray, List.set_cons_zero, List.set_cons_succ]
  refine SeqS.maybe (((!q3) && (!u5)) && (!f5)) (.pointer (some ⟨w.heap.size, 6, none⟩)) (by (cases q3 <;> cases u5 <;> cases f5 <;> (rfl))) (by rfl) (by (cases q3 <;> cases u5 <;> cases f5 <;> (first | (intro h; exact absurd h (by decide)) | (intro _ ph w' hS; rfl)))) ?_
  simp only [Act.put, List.setIfInBounds_toArray, List.set_cons_zero, List.set_cons_succ]
  refine SeqS.maybe (((!q3) && (!u5)) && (!f5)) (.slice A d.bits.length c) (by (cases q3 <;> cases u5 <;> cases f5 <;> (rfl))) (by rfl) (by (cases q3 <;> cases u5 <;> cases f5 <;> (first | (intro h; exact absurd h (by decide)) | (intro _ ph w' hS; obtain ⟨c0, c1, c2, c3, c4, c5, c6, c7, c32, c33⟩ := (cells w' hS).cells; rw [Y8] at c33; go_simp)))) ?_
  simp only [Act.put, List.setIfInBounds_toArray, List.set_cons_zero, List.set_cons_succ]
  refine SeqS.maybe (((!q3) && (!u5)) && (!f5)) (.int .i64 (d.bits.length : Int)) (by (cases q3 <;> cases u5 <;> cases f5 <;> (rfl))) (by rfl) (by (cases q3 <;> cases u5 <;> cases f5 <;> (first | (intro h; exact absurd h (by decide)) | (intro _ ph w' hS; go_simp)))) ?_
  simp only [Act.put, List.setIfInBounds_toArray, List.set_cons_zero, List.set_cons_succ]
  refine SeqS.maybe (((!q3) && (!u5)) && (!f5)) (.bool n5) (by (cases q3 <;> cases u5 <;> cases f5 <;> (rfl))) (by rfl) (by (cases q3 <;> cases u5 <;> cases f5 <;> (first | (intro h; exact absurd h (by decide)) | (intro _ ph w' hS; go_simp)))) ?_
  simp only [Act.put, List.setIfInBounds_toArray, List.set_cons_zero, List.set_cons_succ]
  refine SeqS.maybe ((!q3) && (!u5)) (.bool (f5 || n5)) (by (cases q3 <;> cases u5 <;> (rfl))) (by rfl) (by (cases q3 <;> cases u5 <;> cases f5 <;> cases n5 <;> (first | (intro h; exact absurd h (by decide)) | (intro _ ph w' hS; rfl)))) ?_
  simp only [Act.put, List.setIfInBounds_toArray, List.set_cons_zero, List.set_cons_succ]
  refine SeqS.maybe (!q3) (.bool ((!u5) && (f5 || n5))) (by (cases q3 <;> (rfl))) (by rfl) (by (cases q3 <;> cases u5 <;> cases f5 <;> cases n5 <;> (first | (intro h; exact absurd h (by decide)) | (intro _ ph w' hS; rfl)))) ?_
  simp only [Act.put, List.setIfInBounds_toArray, List.set_cons_zero, List.set_cons_succ]
  refine SeqS.calm (.bool (q3 || ((!u5) && (f5 || n5)))) (by rfl) (by rfl) (fun w => by (cases q3 <;> cases u5 <;> cases f5 <;> cases n5 <;> (rfl))) ?_
  simp only [Act.put, List.setIfInBounds_toArray, List.set_cons_zero, List.set_cons_succ]
  obtain ⟨q4, hq4⟩ : ∃ b : Bool, Hid ((q3 || ((!u5) && (f5 || n5))) = b) := ⟨_, rfl⟩
  rw [hq4.out]
  intro w3 hw3
  have e3 : (((((!u1) && f1) || ((!u2) && f2)) || ((!u3) && f3)) || ((!u5) && (f5 || n5))) = q4 := by rw [hq1.out, hq2.out, hq3.out, hq4.out]
  clear hq1 hq2 hq3 hq4
  cases q4 with
  | true =>
    obtain rfl : r = false := by
      cases r with
      | false => rfl
      | true => exact absurd (hr.1 rfl).2.1 (by rw [e3]; decide)
    have hBe := Below.then hB hw3
    clear hr cells e1 e3 k0 k1 k2 k3 k4 k5 k8 ku1 ku2 ku3 ku4 ku5 ku6 ku7 ku8
    go_wp2
    go_ret
    exact ⟨rfl, hBe⟩
  | false =>
  go_upto_region 5 with fail
  refine region_list [] (fun _ w' => Below w0.heap.size w0 w') (by kernel_rfl) (by kernel_rfl) (hw3.drew) ?_
  refine SeqS.take (.agg (d.vals A c)) (by rfl) (by rfl) (fun ph w' hS => exec_load_rdeed _ rfl _ d A c _ rfl (cells w' hS)) ?_
  simp only [Act.put, List.setIfInBounds_toArray, List.set_cons_zero, List.set_cons_succ]
  refine SeqS.call (below_call (Nat.le_refl _) (fun w _ => ku4 w)) (by rfl) (by rfl) (fun w => ?_) ?_; · go_simp
  simp only [Act.put, List.setIfInBounds_toArray, List.set_cons_zero, List.set_cons_succ]
  refine SeqS.calm (.pointer (some ⟨w.heap.size, 4, none⟩)) (by rfl) (by rfl) (fun w => by (rfl)) ?_
  simp only [Act.put, List.setIfInBounds_toArray, List.set_cons_zero, List.set_cons_succ]
  refine SeqS.take (.int .u64 (d.amount : Int)) (by rfl) (by rfl) (fun ph w' hS => by obtain ⟨c0, c1, c2, c3, c4, c5, c6, c7, c32, c33⟩ := (cells w' hS).cells; rw [Y8] at c33; go_simp) ?_
  simp only [Act.put, List.setIfInBounds_toArray, List.set_cons_zero, List.set_cons_succ]
  refine SeqS.calm (.bool g4) (by rfl) (by rfl) (fun w => by (go_simp)) ?_
  simp only [Act.put, List.setIfInBounds_toArray, List.set_cons_zero, List.set_cons_succ]
  refine SeqS.calm (.bool (u4 != g4)) (by rfl) (by rfl) (fun w => by (cases u4 <;> cases g4 <;> (rfl))) ?_
  simp only [Act.put, List.setIfInBounds_toArray, List.set_cons_zero, List.set_cons_succ]
  refine SeqS.calm (.bool (u4 != g4)) (by rfl) (by rfl) (fun w => by (cases u4 <;> cases g4 <;> (rfl))) ?_
  simp only [Act.put, List.setIfInBounds_toArray, List.set_cons_zero, List.set_cons_succ]
  refine SeqS.maybe (!(u4 != g4)) (.agg (d.vals A c)) (by (cases u4 <;> cases g4 <;> (rfl))) (by rfl) (by (cases u4 <;> cases g4 <;> (first | (intro h; exact absurd h (by decide)) | (intro _ ph w' hS; exact exec_load_rdeed _ rfl _ d A c _ rfl (cells w' hS))))) ?_
  simp only [Act.put, List.setIfInBounds_toArray, List.set_cons_zero, List.set_cons_succ]
  refine SeqS.maybeCall (!(u4 != g4)) (.bool u8) (below_call (Nat.le_refl _) (fun w _ => ku8 w)) (by (cases u4 <;> cases g4 <;> (rfl))) (by rfl) (by (cases u4 <;> cases g4 <;> (first | (intro h; exact absurd h (by decide)) | (intro _ w; rfl) | (intro _ w; go_simp)))) ?_
  simp only [Act.put, List.setIfInBounds_toArray, List.set_cons_zero, List.set_cons_succ]
  refine SeqS.maybe (!(u4 != g4)) (.bool (!u8)) (by (cases u4 <;> cases g4 <;> (rfl))) (by rfl) (by (cases u4 <;> cases g4 <;> cases u8 <;> (first | (intro h; exact absurd h (by decide)) | (intro _ ph w' hS; rfl)))) ?_
  simp only [Act.put, List.setIfInBounds_toArray, List.set_cons_zero, List.set_cons_succ]
  refine SeqS.maybe (!(u4 != g4)) (.bool (!u8)) (by (cases u4 <;> cases g4 <;> (rfl))) (by rfl) (by (cases u4 <;> cases g4 <;> cases u8 <;> (first | (intro h; exact absurd h (by decide)) | (intro _ ph w' hS; rfl)))) ?_
  simp only [Act.put, List.setIfInBounds_toArray, List.set_cons_zero, List.set_cons_succ]
  refine SeqS.maybe ((!(u4 != g4)) && (!u8)) (.pointer (some ⟨w.heap.size, 32, none⟩)) (by (cases u4 <;> cases g4 <;> cases u8 <;> (rfl))) (by rfl) (by (cases u4 <;> cases g4 <;> cases u8 <;> (first | (intro h; exact absurd h (by decide)) | (intro _ ph w' hS; rfl)))) ?_
  simp only [Act.put, List.setIfInBounds_toArray, List.set_cons_zero, List.set_cons_succ]
  refine SeqS.maybe ((!(u4 != g4)) && (!u8)) (.int .i64 d.motion) (by (cases u4 <;> cases g4 <;> cases u8 <;> (rfl))) (by rfl) (by (cases u4 <;> cases g4 <;> cases u8 <;> (first | (intro h; exact absurd h (by decide)) | (intro _ ph w' hS; obtain ⟨c0, c1, c2, c3, c4, c5, c6, c7, c32, c33⟩ := (cells w' hS).cells; rw [Y8] at c33; go_simp)))) ?_
  simp only [Act.put, List.setIfInBounds_toArray, List.set_cons_zero, List.set_cons_succ]
  refine SeqS.maybe ((!(u4 != g4)) && (!u8)) (.bool f8) (by (cases u4 <;> cases g4 <;> cases u8 <;> (rfl))) (by rfl) (by (cases u4 <;> cases g4 <;> cases u8 <;> (first | (intro h; exact absurd h (by decide)) | (intro _ ph w' hS; go_simp)))) ?_
  simp only [Act.put, List.setIfInBounds_toArray, List.set_cons_zero, List.set_cons_succ]
  refine SeqS.maybe ((!(u4 != g4)) && (!u8)) (.bool f8) (by (cases u4 <;> cases g4 <;> cases u8 <;> (rfl))) (by rfl) (by (cases u4 <;> cases g4 <;> cases u8 <;> cases f8 <;> (first | (intro h; exact absurd h (by decide)) | (intro _ ph w' hS; rfl)))) ?_
  simp only [Act.put, List.setIfInBounds_toArray, List.set_cons_zero, List.set_cons_succ]
  refine SeqS.maybe (((!(u4 != g4)) && (!u8)) && (!f8)) (.pointer (some ⟨w.heap.size, 33, none⟩)) (by (cases u4 <;> cases g4 <;> cases u8 <;> cases f8 <;> (rfl))) (by rfl) (by (cases u4 <;> cases g4 <;> cases u8 <;> cases f8 <;> (first | (intro h; exact absurd h (by decide)) | (intro _ ph w' hS; rfl)))) ?_
  simp only [Act.put, List.setIfInBounds_toArray, List.set_cons_zero, List.set_cons_succ]
  refine SeqS.maybe (((!(u4 != g4)) && (!u8)) && (!f8)) (.bool y8) (by (cases u4 <;> cases g4 <;> cases u8 <;> cases f8 <;> (rfl))) (by rfl) (by (cases u4 <;> cases g4 <;> cases u8 <;> cases f8 <;> (first | (intro h; exact absurd h (by decide)) | (intro _ ph w' hS; obtain ⟨c0, c1, c2, c3, c4, c5, c6, c7, c32, c33⟩ := (cells w' hS).cells; rw [Y8] at c33; go_simp)))) ?_
  simp only [Act.put, List.setIfInBounds_toArray, List.set_cons_zero, List.set_cons_succ]
  refine SeqS.maybe ((!(u4 != g4)) && (!u8)) (.bool (f8 || y8)) (by (cases u4 <;> cases g4 <;> cases u8 <;> (rfl))) (by rfl) (by (cases u4 <;> cases g4 <;> cases u8 <;> cases f8 <;> cases y8 <;> (first | (intro h; exact absurd h (by decide)) | (intro _ ph w' hS; rfl)))) ?_
  simp only [Act.put, List.setIfInBounds_toArray, List.set_cons_zero, List.set_cons_succ]
  refine SeqS.maybe (!(u4 != g4)) (.bool ((!u8) && (f8 || y8))) (by (cases u4 <;> cases g4 <;> (rfl))) (by rfl) (by (cases u4 <;> cases g4 <;> cases u8 <;> cases f8 <;> cases y8 <;> (first | (intro h; exact absurd h (by decide)) | (intro _ ph w' hS; rfl)))) ?_
  simp only [Act.put, List.setIfInBounds_toArray, List.set_cons_zero, List.set_cons_succ]
  refine SeqS.calm (.bool ((u4 != g4) || ((!u8) && (f8 || y8)))) (by rfl) (by rfl) (fun w => by (cases u4 <;> cases g4 <;> cases u8 <;> cases f8 <;> cases y8 <;> (rfl))) ?_
  simp only [Act.put, List.setIfInBounds_toArray, List.set_cons_zero, List.set_cons_succ]
  obtain ⟨r1, hr1⟩ : ∃ b : Bool, Hid (((u4 != g4) || ((!u8) && (f8 || y8))) = b) := ⟨_, rfl⟩
  rw [hr1.out]
  intro w5 hw5
  have e5 : ((u4 != g4) || ((!u8) && (f8 || y8))) = r1 := by rw [hr1.out]
  clear hr1
  cases r1 with
  | true =>
    obtain rfl : r = false := by
      cases r with
      | false => rfl
      | true => exact absurd (hr.1 rfl).2.2.1 (by rw [e5]; decide)
    have hBe := Below.then hB hw5
    clear hr cells e1 e3 e5 k0 k1 k2 k3 k4 k5 k8 ku1 ku2 ku3 ku4 ku5 ku6 ku7 ku8
    go_wp2
    go_ret
    exact ⟨rfl, hBe⟩
  | false =>
  go_upto_region 7 with fail
  refine region_list [] (fun _ w' => Below w0.heap.size w0 w') (by kernel_rfl) (by kernel_rfl) (hw5.drew) ?_
  refine SeqS.take (.agg (d.vals A c)) (by rfl) (by rfl) (fun ph w' hS => exec_load_rdeed _ rfl _ d A c _ rfl (cells w' hS)) ?_
  simp only [Act.put, List.setIfInBounds_toArray, List.set_cons_zero, List.set_cons_succ]
  refine SeqS.call (below_call (Nat.le_refl _) (fun w _ => ku6 w)) (by rfl) (by rfl) (fun w => ?_) ?_; · go_simp
  simp only [Act.put, List.setIfInBounds_toArray, List.set_cons_zero, List.set_cons_succ]
  refine SeqS.calm (.pointer (some ⟨w.heap.size, 7, none⟩)) (by rfl) (by rfl) (fun w => by (rfl)) ?_
  simp only [Act.put, List.setIfInBounds_toArray, List.set_cons_zero, List.set_cons_succ]
  refine SeqS.take (.int .i64 d.what) (by rfl) (by rfl) (fun ph w' hS => by obtain ⟨c0, c1, c2, c3, c4, c5, c6, c7, c32, c33⟩ := (cells w' hS).cells; rw [Y8] at c33; go_simp) ?_
  simp only [Act.put, List.setIfInBounds_toArray, List.set_cons_zero, List.set_cons_succ]
  refine SeqS.calm (.bool f7) (by rfl) (by rfl) (fun w => by (go_simp)) ?_
  simp only [Act.put, List.setIfInBounds_toArray, List.set_cons_zero, List.set_cons_succ]
  refine SeqS.calm (.bool (u6 != f7)) (by rfl) (by rfl) (fun w => by (cases u6 <;> cases f7 <;> (rfl))) ?_
  simp only [Act.put, List.setIfInBounds_toArray, List.set_cons_zero, List.set_cons_succ]
  refine SeqS.calm (.bool (u6 != f7)) (by rfl) (by rfl) (fun w => by (cases u6 <;> cases f7 <;> (rfl))) ?_
  simp only [Act.put, List.setIfInBounds_toArray, List.set_cons_zero, List.set_cons_succ]
  refine SeqS.maybe (!(u6 != f7)) (.pointer (some ⟨w.heap.size, 7, none⟩)) (by (cases u6 <;> cases f7 <;> (rfl))) (by rfl) (by (cases u6 <;> cases f7 <;> (first | (intro h; exact absurd h (by decide)) | (intro _ ph w' hS; rfl)))) ?_
  simp only [Act.put, List.setIfInBounds_toArray, List.set_cons_zero, List.set_cons_succ]
  refine SeqS.maybe (!(u6 != f7)) (.int .i64 d.what) (by (cases u6 <;> cases f7 <;> (rfl))) (by rfl) (by (cases u6 <;> cases f7 <;> (first | (intro h; exact absurd h (by decide)) | (intro _ ph w' hS; obtain ⟨c0, c1, c2, c3, c4, c5, c6, c7, c32, c33⟩ := (cells w' hS).cells; rw [Y8] at c33; go_simp)))) ?_
  simp only [Act.put, List.setIfInBounds_toArray, List.set_cons_zero, List.set_cons_succ]
  refine SeqS.maybeCall (!(u6 != f7)) (.bool i8) (quiet_call k8) (by (cases u6 <;> cases f7 <;> (rfl))) (by rfl) (by (cases u6 <;> cases f7 <;> (first | (intro h; exact absurd h (by decide)) | (intro _ w; rfl) | (intro _ w; go_simp)))) ?_
  simp only [Act.put, List.setIfInBounds_toArray, List.set_cons_zero, List.set_cons_succ]
  refine SeqS.maybe (!(u6 != f7)) (.bool (!i8)) (by (cases u6 <;> cases f7 <;> (rfl))) (by rfl) (by (cases u6 <;> cases f7 <;> cases i8 <;> (first | (intro h; exact absurd h (by decide)) | (intro _ ph w' hS; rfl)))) ?_
  simp only [Act.put, List.setIfInBounds_toArray, List.set_cons_zero, List.set_cons_succ]
  refine SeqS.calm (.bool ((u6 != f7) || (!i8))) (by rfl) (by rfl) (fun w => by (cases u6 <;> cases f7 <;> cases i8 <;> (rfl))) ?_
  simp only [Act.put, List.setIfInBounds_toArray, List.set_cons_zero, List.set_cons_succ]
  obtain ⟨s1, hs1⟩ : ∃ b : Bool, Hid (((u6 != f7) || (!i8)) = b) := ⟨_, rfl⟩
  rw [hs1.out]
  intro w7 hw7
  have e7 : ((u6 != f7) || (!i8)) = s1 := by rw [hs1.out]
  clear hs1
  cases s1 with
  | true =>
    obtain rfl : r = false := by
      cases r with
      | false => rfl
      | true => exact absurd (hr.1 rfl).2.2.2.1 (by rw [e7]; decide)
    have hBe := Below.then hB hw7
    clear hr cells e1 e3 e5 e7 k0 k1 k2 k3 k4 k5 k8 ku1 ku2 ku3 ku4 ku5 ku6 ku7 ku8
    go_wp2
    go_ret
    exact ⟨rfl, hBe⟩
  | false =>
  have hD := cells w7 hw7
  have hB := Below.then hB hw7
  clear cells k0 k1 k2 k3 k4 k5 k8 ku1 ku2 ku3 ku4 ku5 ku6 ku8
  cases u7 with
  | true =>
    have kr : ∀ w, Calls Try.prog 19 #[.agg d.par.vals] w fun e w' => e = .returned (.bool r) ∧ Below w.heap.size w w' := fun w => by
      cases r with
      | true =>
        have h := (hr.1 rfl).2.2.2.2
        unfold okP at h
        rw [if_pos rfl] at h
        obtain ⟨T, hT⟩ := h
        exact refright_ok d.par T w hT
      | false => exact refright_no d.par w (fun hT => by have := hr.2 ⟨e1, e3, e5, e7, by unfold okP; rw [if_pos rfl]; exact hT⟩; cases this)
    clear hr e1 e3 e5 e7
    go_wp2_with (first
      | (refine load_rdeed _ rfl rfl _ d A c _ rfl hD ?_)
      | (refine load_rpars _ rfl rfl _ d A c _ rfl hD ?_)
      | (go_at_call 89; refine (ku7 _).mono ?_; clear ku7; rintro e w8 ⟨rfl, hb8⟩; have hB := Below.then hB hb8; have hD := hD.next hb8)
      | (go_at_call 19; refine (kr _).mono ?_; clear kr; rintro e w9 ⟨rfl, hb9⟩; have hB := Below.then hB hb9))
    go_ret
    exact ⟨rfl, hB⟩
  | false =>
    by_cases hp : d.par = Par.none
    · obtain rfl : r = true := hr.2 ⟨e1, e3, e5, e7, by unfold okP; rw [if_neg (by decide)]; exact hp⟩
      clear hr e1 e3 e5 e7
      go_wp2_with (first
        | (refine load_rdeed _ rfl rfl _ d A c _ rfl hD ?_)
        | (refine load_rpars _ rfl rfl _ d A c _ rfl hD ?_)
        | (go_at_call 89; refine (ku7 _).mono ?_; clear ku7; rintro e w8 ⟨rfl, hb8⟩; have hB := Below.then hB hb8; have hD := hD.next hb8)
        | (refine build_rpar _ rfl rfl Par.none (by kernel_rfl) ?_)
        | (refine op_eqr _ _ _ rfl rfl Par.none (by rw [← hp]; rfl) rfl ?_))
      go_ret
      exact ⟨rfl, hB⟩
    · obtain rfl : r = false := by
        cases r with
        | false => rfl
        | true =>
          have h := (hr.1 rfl).2.2.2.2
          unfold okP at h
          rw [if_neg (by decide)] at h
          exact absurd h hp
      clear hr e1 e3 e5 e7
      go_wp2_with (first
        | (refine load_rdeed _ rfl rfl _ d A c _ rfl hD ?_)
        | (refine load_rpars _ rfl rfl _ d A c _ rfl hD ?_)
        | (go_at_call 89; refine (ku7 _).mono ?_; clear ku7; rintro e w8 ⟨rfl, hb8⟩; have hB := Below.then hB hb8; have hD := hD.next hb8)
        | (refine build_rpar _ rfl rfl Par.none (by kernel_rfl) ?_)
        | (refine op_eqr_no _ _ _ rfl rfl d.par Par.none hp rfl rfl ?_))
      go_ret
      exact ⟨rfl, hB⟩
end Go.Proofs.Ytcaejanfhchacaa
