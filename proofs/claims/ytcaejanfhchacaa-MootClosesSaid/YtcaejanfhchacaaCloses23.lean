/- Law MootCloses (P23.4): which motions are counted, which pass, which are ripe, and what is over, are the document's. No condition. -/
import Derived.Test.YtcaejanfhchacaaRows
import Derived.Test.YtcaejanfhchacaaMooN
import Derived.Test.YtcaejanfhchacaaMooE
import Derived.Test.YtcaejanfhchacaaMooR
import Derived.Test.YtcaejanfhchacaaMooP
import Derived.Test.YtcaejanfhchacaaMooQ
import Derived.Test.YtcaejanfhchacaaMooT
import Derived.Test.YtcaejanfhchacaaMooS
import Derived.Test.YtcaejanfhchacaaMooL
import Derived.Test.YtcaejanfhchacaaParP
import Derived.Test.YtcaejanfhchacaaParSb
import Derived.Test.YtcaejanfhchacaaBalR
import Derived.Test.YtcaejanfhchacaaSeqR
namespace Go.Proofs.Ytcaejanfhchacaa.MootCloses
open Go.RowKit Go.ChangeShapes Go.WideShapes Go.ChangeAt Go.Deep
set_option linter.unusedVariables false
set_option linter.unusedSimpArgs false

set_option maxRecDepth 100000 in
set_option maxHeartbeats 2000000 in
theorem walk_wide (p : Par) (x : Hl) (y : Wy) (w : World) (hm : HallAt w x) (h : ¬ (shorts x.mots.l ∧ x.mots.l.length ≤ 60)) :
    Calls Try.prog 5 #[.agg p.vals, .agg (Rec.vals x), .agg (Rec.vals y)] w fun e w' => e = .returned (.bool true) ∧ Below w.heap.size w w' := by
  have kf := fun (W : World) (hB : Below w.heap.size w W) => few23_is x.mots.l x.mots.A x.mots.c false W (hm.mots.up hB) (by have := hm.few; omega) ⟨(fun e => by cases e), fun e => absurd e h⟩
  have KF := Lib.hid kf
  clear kf hm h
  go_enter Try.func5, Try.ntmps5
  go_upto_region 1 with fail
  generalize hw0 : World.alloc (World.alloc (World.alloc _ _) _) _ = w0
  have hP : ParAt w0 w.heap.size p 37 := by rw [← hw0]; exact ((ParAt.new w p 37).up ((Below.refl _ _).alloc (Nat.le_refl _) _)).up ((Below.refl _ _).alloc (Nat.le_refl _) _)
  have hH : RecAt w0 (w.heap.size + 1) (Rec.vals x) 62 := by
    rw [← hw0]
    have := RecAt.new (w.alloc (.cells p.vals 37)) (Rec.vals x) 62
    rw [World.size_alloc] at this
    exact this.up ((Below.refl _ _).alloc (Nat.le_refl _) (.cells (Rec.vals y) 24))
  have hY : RecAt w0 (w.heap.size + 1 + 1) (Rec.vals y) 24 := by
    rw [← hw0]
    have := RecAt.new ((w.alloc (.cells p.vals 37)).alloc (.cells (Rec.vals x) 62)) (Rec.vals y) 24
    rw [World.size_alloc, World.size_alloc] at this
    exact this
  have hB : Below w.heap.size w w0 := by rw [← hw0]; exact (((Below.refl _ _).alloc (Nat.le_refl _) _).alloc (by simp) _).alloc (by simp; omega) _
  clear hw0
  go_wp2_with (first
    | (go_at_call 7; refine (moot_awake w0).mono ?_; rintro e w1 ⟨rfl, hb⟩; have hP := hP.up hb; have hH := hH.up hb; have hY := hY.up hb; have hB := Below.then hB hb; clear hb; have h0 : w1.cell? ⟨w.heap.size + 1, 0, none⟩ = some (.slice x.mots.A x.mots.l.length x.mots.c) := hH.cell 0)
    | (go_at_call 8; refine (KF.out _ hB).mono ?_; clear KF; rintro e w2 ⟨rfl, hb⟩; clear h0; have hP := hP.up hb; have hH := hH.up hb; have hY := hY.up hb; have hB := Below.then hB hb; clear hb; have h1 : w2.cell? ⟨w.heap.size + 1, 1, none⟩ = some (.slice x.mems.A x.mems.l.length x.mems.c) := hH.cell 1; have y2 : w2.cell? ⟨w.heap.size + 1 + 1, 2, none⟩ = some (.int .i64 y.ep) := hY.cell 2))
  go_ret
  exact ⟨by first | rfl | simp, hB⟩

set_option maxRecDepth 100000 in
set_option maxHeartbeats 2000000 in
theorem walk_many (p : Par) (x : Hl) (y : Wy) (w : World) (hm : HallAt w x) (h : shorts x.mots.l) (hk : x.mots.l.length ≤ 60) (hx : 200 < x.mems.l.length) :
    Calls Try.prog 5 #[.agg p.vals, .agg (Rec.vals x), .agg (Rec.vals y)] w fun e w' => e = .returned (.bool true) ∧ Below w.heap.size w w' := by
  have kf := fun (W : World) (hB : Below w.heap.size w W) => few23_is x.mots.l x.mots.A x.mots.c true W (hm.mots.up hB) (by have := hm.few; omega) ⟨fun _ => ⟨h, hk⟩, fun _ => rfl⟩
  have KF := Lib.hid kf
  have d1 : decide ((200 : Int) < (x.mems.l.length : Int)) = true := decide_eq_true (by omega)
  have d2 : decide (200 < x.mems.l.length) = true := decide_eq_true hx
  clear kf hm h hk hx
  go_enter Try.func5, Try.ntmps5
  go_upto_region 1 with fail
  generalize hw0 : World.alloc (World.alloc (World.alloc _ _) _) _ = w0
  have hP : ParAt w0 w.heap.size p 37 := by rw [← hw0]; exact ((ParAt.new w p 37).up ((Below.refl _ _).alloc (Nat.le_refl _) _)).up ((Below.refl _ _).alloc (Nat.le_refl _) _)
  have hH : RecAt w0 (w.heap.size + 1) (Rec.vals x) 62 := by
    rw [← hw0]
    have := RecAt.new (w.alloc (.cells p.vals 37)) (Rec.vals x) 62
    rw [World.size_alloc] at this
    exact this.up ((Below.refl _ _).alloc (Nat.le_refl _) (.cells (Rec.vals y) 24))
  have hY : RecAt w0 (w.heap.size + 1 + 1) (Rec.vals y) 24 := by
    rw [← hw0]
    have := RecAt.new ((w.alloc (.cells p.vals 37)).alloc (.cells (Rec.vals x) 62)) (Rec.vals y) 24
    rw [World.size_alloc, World.size_alloc] at this
    exact this
  have hB : Below w.heap.size w w0 := by rw [← hw0]; exact (((Below.refl _ _).alloc (Nat.le_refl _) _).alloc (by simp) _).alloc (by simp; omega) _
  clear hw0
  go_wp2_with (first
    | (go_at_call 7; refine (moot_awake w0).mono ?_; rintro e w1 ⟨rfl, hb⟩; have hP := hP.up hb; have hH := hH.up hb; have hY := hY.up hb; have hB := Below.then hB hb; clear hb; have h0 : w1.cell? ⟨w.heap.size + 1, 0, none⟩ = some (.slice x.mots.A x.mots.l.length x.mots.c) := hH.cell 0)
    | (go_at_call 8; refine (KF.out _ hB).mono ?_; clear KF; rintro e w2 ⟨rfl, hb⟩; clear h0; have hP := hP.up hb; have hH := hH.up hb; have hY := hY.up hb; have hB := Below.then hB hb; clear hb; have h1 : w2.cell? ⟨w.heap.size + 1, 1, none⟩ = some (.slice x.mems.A x.mems.l.length x.mems.c) := hH.cell 1; have y2 : w2.cell? ⟨w.heap.size + 1 + 1, 2, none⟩ = some (.int .i64 y.ep) := hY.cell 2))
  go_ret
  exact ⟨by first | rfl | simp, hB⟩

set_option maxRecDepth 100000 in
set_option maxHeartbeats 2000000 in
theorem walk_past (p : Par) (x : Hl) (y : Wy) (w : World) (hm : HallAt w x) (h : shorts x.mots.l) (hk : x.mots.l.length ≤ 60) (hx : ¬ 200 < x.mems.l.length ∧ y.ep < 0) :
    Calls Try.prog 5 #[.agg p.vals, .agg (Rec.vals x), .agg (Rec.vals y)] w fun e w' => e = .returned (.bool true) ∧ Below w.heap.size w w' := by
  have kf := fun (W : World) (hB : Below w.heap.size w W) => few23_is x.mots.l x.mots.A x.mots.c true W (hm.mots.up hB) (by have := hm.few; omega) ⟨fun _ => ⟨h, hk⟩, fun _ => rfl⟩
  have KF := Lib.hid kf
  have d1 : decide ((200 : Int) < (x.mems.l.length : Int)) = false := decide_eq_false (by omega)
  have d2 : decide (200 < x.mems.l.length) = false := decide_eq_false hx.1
  have d3 : decide (y.ep < 0) = true := decide_eq_true hx.2
  clear kf hm h hk hx
  go_enter Try.func5, Try.ntmps5
  go_upto_region 1 with fail
  generalize hw0 : World.alloc (World.alloc (World.alloc _ _) _) _ = w0
  have hP : ParAt w0 w.heap.size p 37 := by rw [← hw0]; exact ((ParAt.new w p 37).up ((Below.refl _ _).alloc (Nat.le_refl _) _)).up ((Below.refl _ _).alloc (Nat.le_refl _) _)
  have hH : RecAt w0 (w.heap.size + 1) (Rec.vals x) 62 := by
    rw [← hw0]
    have := RecAt.new (w.alloc (.cells p.vals 37)) (Rec.vals x) 62
    rw [World.size_alloc] at this
    exact this.up ((Below.refl _ _).alloc (Nat.le_refl _) (.cells (Rec.vals y) 24))
  have hY : RecAt w0 (w.heap.size + 1 + 1) (Rec.vals y) 24 := by
    rw [← hw0]
    have := RecAt.new ((w.alloc (.cells p.vals 37)).alloc (.cells (Rec.vals x) 62)) (Rec.vals y) 24
    rw [World.size_alloc, World.size_alloc] at this
    exact this
  have hB : Below w.heap.size w w0 := by rw [← hw0]; exact (((Below.refl _ _).alloc (Nat.le_refl _) _).alloc (by simp) _).alloc (by simp; omega) _
  clear hw0
  go_wp2_with (first
    | (go_at_call 7; refine (moot_awake w0).mono ?_; rintro e w1 ⟨rfl, hb⟩; have hP := hP.up hb; have hH := hH.up hb; have hY := hY.up hb; have hB := Below.then hB hb; clear hb; have h0 : w1.cell? ⟨w.heap.size + 1, 0, none⟩ = some (.slice x.mots.A x.mots.l.length x.mots.c) := hH.cell 0)
    | (go_at_call 8; refine (KF.out _ hB).mono ?_; clear KF; rintro e w2 ⟨rfl, hb⟩; clear h0; have hP := hP.up hb; have hH := hH.up hb; have hY := hY.up hb; have hB := Below.then hB hb; clear hb; have h1 : w2.cell? ⟨w.heap.size + 1, 1, none⟩ = some (.slice x.mems.A x.mems.l.length x.mems.c) := hH.cell 1; have y2 : w2.cell? ⟨w.heap.size + 1 + 1, 2, none⟩ = some (.int .i64 y.ep) := hY.cell 2))
  go_ret
  exact ⟨by first | rfl | simp, hB⟩

set_option maxRecDepth 100000 in
set_option maxHeartbeats 2000000 in
theorem walk_far (p : Par) (x : Hl) (y : Wy) (w : World) (hm : HallAt w x) (h : shorts x.mots.l) (hk : x.mots.l.length ≤ 60) (hx : ¬ 200 < x.mems.l.length ∧ ¬ y.ep < 0 ∧ 1073741824 < y.ep) :
    Calls Try.prog 5 #[.agg p.vals, .agg (Rec.vals x), .agg (Rec.vals y)] w fun e w' => e = .returned (.bool true) ∧ Below w.heap.size w w' := by
  have kf := fun (W : World) (hB : Below w.heap.size w W) => few23_is x.mots.l x.mots.A x.mots.c true W (hm.mots.up hB) (by have := hm.few; omega) ⟨fun _ => ⟨h, hk⟩, fun _ => rfl⟩
  have KF := Lib.hid kf
  have d1 : decide ((200 : Int) < (x.mems.l.length : Int)) = false := decide_eq_false (by omega)
  have d2 : decide (200 < x.mems.l.length) = false := decide_eq_false hx.1
  have d3 : decide (y.ep < 0) = false := decide_eq_false hx.2.1
  have d4 : decide (1073741824 < y.ep) = true := decide_eq_true hx.2.2
  clear kf hm h hk hx
  go_enter Try.func5, Try.ntmps5
  go_upto_region 1 with fail
  generalize hw0 : World.alloc (World.alloc (World.alloc _ _) _) _ = w0
  have hP : ParAt w0 w.heap.size p 37 := by rw [← hw0]; exact ((ParAt.new w p 37).up ((Below.refl _ _).alloc (Nat.le_refl _) _)).up ((Below.refl _ _).alloc (Nat.le_refl _) _)
  have hH : RecAt w0 (w.heap.size + 1) (Rec.vals x) 62 := by
    rw [← hw0]
    have := RecAt.new (w.alloc (.cells p.vals 37)) (Rec.vals x) 62
    rw [World.size_alloc] at this
    exact this.up ((Below.refl _ _).alloc (Nat.le_refl _) (.cells (Rec.vals y) 24))
  have hY : RecAt w0 (w.heap.size + 1 + 1) (Rec.vals y) 24 := by
    rw [← hw0]
    have := RecAt.new ((w.alloc (.cells p.vals 37)).alloc (.cells (Rec.vals x) 62)) (Rec.vals y) 24
    rw [World.size_alloc, World.size_alloc] at this
    exact this
  have hB : Below w.heap.size w w0 := by rw [← hw0]; exact (((Below.refl _ _).alloc (Nat.le_refl _) _).alloc (by simp) _).alloc (by simp; omega) _
  clear hw0
  go_wp2_with (first
    | (go_at_call 7; refine (moot_awake w0).mono ?_; rintro e w1 ⟨rfl, hb⟩; have hP := hP.up hb; have hH := hH.up hb; have hY := hY.up hb; have hB := Below.then hB hb; clear hb; have h0 : w1.cell? ⟨w.heap.size + 1, 0, none⟩ = some (.slice x.mots.A x.mots.l.length x.mots.c) := hH.cell 0)
    | (go_at_call 8; refine (KF.out _ hB).mono ?_; clear KF; rintro e w2 ⟨rfl, hb⟩; clear h0; have hP := hP.up hb; have hH := hH.up hb; have hY := hY.up hb; have hB := Below.then hB hb; clear hb; have h1 : w2.cell? ⟨w.heap.size + 1, 1, none⟩ = some (.slice x.mems.A x.mems.l.length x.mems.c) := hH.cell 1; have y2 : w2.cell? ⟨w.heap.size + 1 + 1, 2, none⟩ = some (.int .i64 y.ep) := hY.cell 2))
  go_ret
  exact ⟨by first | rfl | simp, hB⟩

set_option maxRecDepth 100000 in
set_option maxHeartbeats 2000000 in
theorem walk_wrong (p : Par) (x : Hl) (y : Wy) (w : World) (hm : HallAt w x) (h : shorts x.mots.l) (hk : x.mots.l.length ≤ 60) (hx : x.mems.l.length ≤ 200) (he : 0 ≤ y.ep ∧ y.ep ≤ 1073741824) (hn : ¬ ∃ T, Par.Right p T) :
    Calls Try.prog 5 #[.agg p.vals, .agg (Rec.vals x), .agg (Rec.vals y)] w fun e w' => e = .returned (.bool true) ∧ Below w.heap.size w w' := by
  have kf := fun (W : World) (hB : Below w.heap.size w W) => few23_is x.mots.l x.mots.A x.mots.c true W (hm.mots.up hB) (by have := hm.few; omega) ⟨fun _ => ⟨h, hk⟩, fun _ => rfl⟩
  have KF := Lib.hid kf
  have KR0 := Lib.hid (fun W => refright_no p W hn)
  have d1 : decide ((200 : Int) < (x.mems.l.length : Int)) = false := decide_eq_false (by omega)
  have d2 : decide (200 < x.mems.l.length) = false := decide_eq_false (by omega)
  have d3 : decide (y.ep < 0) = false := decide_eq_false (by omega)
  have d4 : decide (1073741824 < y.ep) = false := decide_eq_false (by omega)
  clear kf hm h hk hx he hn
  go_enter Try.func5, Try.ntmps5
  go_upto_region 1 with fail
  generalize hw0 : World.alloc (World.alloc (World.alloc _ _) _) _ = w0
  have hP : ParAt w0 w.heap.size p 37 := by rw [← hw0]; exact ((ParAt.new w p 37).up ((Below.refl _ _).alloc (Nat.le_refl _) _)).up ((Below.refl _ _).alloc (Nat.le_refl _) _)
  have hH : RecAt w0 (w.heap.size + 1) (Rec.vals x) 62 := by
    rw [← hw0]
    have := RecAt.new (w.alloc (.cells p.vals 37)) (Rec.vals x) 62
    rw [World.size_alloc] at this
    exact this.up ((Below.refl _ _).alloc (Nat.le_refl _) (.cells (Rec.vals y) 24))
  have hY : RecAt w0 (w.heap.size + 1 + 1) (Rec.vals y) 24 := by
    rw [← hw0]
    have := RecAt.new ((w.alloc (.cells p.vals 37)).alloc (.cells (Rec.vals x) 62)) (Rec.vals y) 24
    rw [World.size_alloc, World.size_alloc] at this
    exact this
  have hB : Below w.heap.size w w0 := by rw [← hw0]; exact (((Below.refl _ _).alloc (Nat.le_refl _) _).alloc (by simp) _).alloc (by simp; omega) _
  clear hw0
  go_wp2_with (first
    | (go_at_call 7; refine (moot_awake w0).mono ?_; rintro e w1 ⟨rfl, hb⟩; have hP := hP.up hb; have hH := hH.up hb; have hY := hY.up hb; have hB := Below.then hB hb; clear hb; have h0 : w1.cell? ⟨w.heap.size + 1, 0, none⟩ = some (.slice x.mots.A x.mots.l.length x.mots.c) := hH.cell 0)
    | (go_at_call 8; refine (KF.out _ hB).mono ?_; clear KF; rintro e w2 ⟨rfl, hb⟩; clear h0; have hP := hP.up hb; have hH := hH.up hb; have hY := hY.up hb; have hB := Below.then hB hb; clear hb; have h1 : w2.cell? ⟨w.heap.size + 1, 1, none⟩ = some (.slice x.mems.A x.mems.l.length x.mems.c) := hH.cell 1; have y2 : w2.cell? ⟨w.heap.size + 1 + 1, 2, none⟩ = some (.int .i64 y.ep) := hY.cell 2)
    | ((with_reducible refine slot_is 36 rfl ?_); refine load_par _ rfl rfl _ p _ rfl hP ?_)
    | (go_at_call 17; refine (plain_is p _).mono ?_; rintro e w3 ⟨rfl, hb⟩; clear h1 y2; have hP := hP.up hb; have hH := hH.up hb; have hY := hY.up hb; have hB := Below.then hB hb; clear hb)
    | (go_at_call 19; refine (KR0.out _).mono ?_; clear KR0; rintro e w4 ⟨rfl, hb⟩; have hP := hP.up hb; have hH := hH.up hb; have hY := hY.up hb; have hB := Below.then hB hb; clear hb; have h0 : w4.cell? ⟨w.heap.size + 1, 0, none⟩ = some (.slice x.mots.A x.mots.l.length x.mots.c) := hH.cell 0; have h1 : w4.cell? ⟨w.heap.size + 1, 1, none⟩ = some (.slice x.mems.A x.mems.l.length x.mems.c) := hH.cell 1; have y2 : w4.cell? ⟨w.heap.size + 1 + 1, 2, none⟩ = some (.int .i64 y.ep) := hY.cell 2))
  go_ret
  exact ⟨by first | rfl | simp, hB⟩

set_option maxRecDepth 100000 in
set_option maxHeartbeats 16000000 in
theorem walk_held (p : Par) (x : Hl) (y : Wy) (w : World) (hm : HallAt w x) (h : shorts x.mots.l) (hk : x.mots.l.length ≤ 60) (hx : x.mems.l.length ≤ 200) (he : 0 ≤ y.ep ∧ y.ep ≤ 1073741824) (T : Nat) (hT : Par.Right p T) (hp : p.Fits) :
    Calls Try.prog 5 #[.agg p.vals, .agg (Rec.vals x), .agg (Rec.vals y)] w fun e w' => e = .returned (.bool true) ∧ Below w.heap.size w w' := by
  have kf := fun (W : World) (hB : Below w.heap.size w W) => few23_is x.mots.l x.mots.A x.mots.c true W (hm.mots.up hB) (by have := hm.few; omega) ⟨fun _ => ⟨h, hk⟩, fun _ => rfl⟩
  have KF := Lib.hid kf
  have KR0 := Lib.hid (fun W => refright_ok p T W hT)
  have d1 : decide ((200 : Int) < (x.mems.l.length : Int)) = false := decide_eq_false (by omega)
  have d2 : decide (200 < x.mems.l.length) = false := decide_eq_false (by omega)
  have d3 : decide (y.ep < 0) = false := decide_eq_false (by omega)
  have d4 : decide (1073741824 < y.ep) = false := decide_eq_false (by omega)
  have hl : x.mots.l.length ≤ 100000 := by omega
  have hlm : x.mems.l.length ≤ 100000 := by omega
  have hen : 0 ≤ p.enact ∧ p.enact ≤ 2147483647 := by have := hT.spans; have := hT.spans.enact0; have := hT.spans.enact1; omega
  have hq : p.quorum ≤ 9223372036854775807 := by have := hT.spans.quorum1; omega
  have kc := fun (W : World) (hB : Below w.heap.size w W) => close_is p x.mots.l x.mots.A x.mots.c x.mems.l x.mems.A x.mems.c y.ep W (hm.mots.up hB) hl hp (row_kept hm.mems.row hB) hlm hm.mem he
  have krc := fun (A : Option Addr) (c : Nat) (A2 : Option Addr) (c2 : Nat) (W : World) (hm' : Mots W A c x.mots.l) (hr : Row W W.heap.size A2 (rows x.mems.l)) => rclose_is p x.mots.l A c x.mems.l A2 c2 y.ep W hm' hl hen hq hr hlm hm.mem he
  have kl := fun (W : World) (hB : Below w.heap.size w W) => lplain_is x.mems.l x.mems.A x.mems.c W (row_kept hm.mems.row hB) hlm
  have kn := fun (W : World) (hB : Below w.heap.size w W) => finish_is x.mots.l x.mots.A x.mots.c y.i y.yes W (hm.mots.up hB) hl
  have krn := fun (A' : Option Addr) (c' : Nat) (W : World) (hm : Mots W A' c' x.mots.l) => rfinish_is x.mots.l A' c' y.i y.yes W hm hl
  have kw := fun (W : World) (hB : Below w.heap.size w W) => ripe_is x.mots.l x.mots.A x.mots.c y.ep y.q W (hm.mots.up hB) hl
  have krw := fun (A' : Option Addr) (c' : Nat) (W : World) (hm : Mots W A' c' x.mots.l) => rripe_is x.mots.l A' c' y.ep y.q W hm hl
  have kp := fun (l : List Mot) (A : Option Addr) (c : Nat) (W : World) (hm : Mots W A c l) hl => lplain23_is l A c W hm hl
  have hlr := ripes_len (x.mots.l.map Mot.pure) y.ep y.q x.mots.l.length
  have hcl : ((x.mots.l.map Mot.pure).map (PMot.closed p.quorum p.enact x.mems.l y.ep)).length ≤ 100000 := by simpa using hl
  have hfl : (pfinish (x.mots.l.map Mot.pure) y.i y.yes).1.length ≤ 100000 := by
    cases hi : motAt (x.mots.l.map Mot.pure) y.i with
    | none => rw [pfinish_none y.yes hi]; simp
    | some m =>
      obtain ⟨j, ej, hj⟩ := motAt_some hi
      rw [ej]
      by_cases h1 : m.st = 2
      · rw [pfinish_ok y.yes hj h1]; simpa using hl
      · rw [pfinish_state y.yes hj h1]; simp
  obtain ⟨LC, hLC⟩ : ∃ L, (x.mots.l.map Mot.pure).map (PMot.closed p.quorum p.enact x.mems.l y.ep) = L := ⟨_, rfl⟩
  obtain ⟨⟨LF, z⟩, hLF⟩ : ∃ r, pfinish (x.mots.l.map Mot.pure) y.i y.yes = r := ⟨_, rfl⟩
  obtain ⟨LR, hLR⟩ : ∃ L, ripes (x.mots.l.map Mot.pure) y.ep y.q x.mots.l.length = L := ⟨_, rfl⟩
  rw [hLC] at kc krc hcl
  rw [hLF] at kn krn hfl
  rw [hLR] at kw krw hlr
  have HLR : Hid (LR.length ≤ maxLen) := Lib.hid (by unfold maxLen; omega)
  have HCL : Hid (LC.length ≤ 100000) := Lib.hid hcl
  have HFL : Hid (LF.length ≤ 100000) := Lib.hid hfl
  have KC := Lib.hid kc
  have KRC := Lib.hid krc
  have KL := Lib.hid kl
  have KN := Lib.hid kn
  have KRN := Lib.hid krn
  have KW := Lib.hid kw
  have KRW := Lib.hid krw
  have KP := Lib.hid kp
  have HM := Lib.hid hm.mots
  have HL := Lib.hid hl
  clear kf kc krc kl kn krn kw krw kp hm h hk hx he hT hp hl hlm hen hq hlr hcl hfl hLC hLF hLR
  go_enter Try.func5, Try.ntmps5
  go_upto_region 1 with fail
  generalize hw0 : World.alloc (World.alloc (World.alloc _ _) _) _ = w0
  have hP : ParAt w0 w.heap.size p 37 := by rw [← hw0]; exact ((ParAt.new w p 37).up ((Below.refl _ _).alloc (Nat.le_refl _) _)).up ((Below.refl _ _).alloc (Nat.le_refl _) _)
  have hH : RecAt w0 (w.heap.size + 1) (Rec.vals x) 62 := by
    rw [← hw0]
    have := RecAt.new (w.alloc (.cells p.vals 37)) (Rec.vals x) 62
    rw [World.size_alloc] at this
    exact this.up ((Below.refl _ _).alloc (Nat.le_refl _) (.cells (Rec.vals y) 24))
  have hY : RecAt w0 (w.heap.size + 1 + 1) (Rec.vals y) 24 := by
    rw [← hw0]
    have := RecAt.new ((w.alloc (.cells p.vals 37)).alloc (.cells (Rec.vals x) 62)) (Rec.vals y) 24
    rw [World.size_alloc, World.size_alloc] at this
    exact this
  have hB : Below w.heap.size w w0 := by rw [← hw0]; exact (((Below.refl _ _).alloc (Nat.le_refl _) _).alloc (by simp) _).alloc (by simp; omega) _
  clear hw0
  go_wp2_with (first
    | (go_at_call 7; refine (moot_awake w0).mono ?_; rintro e w1 ⟨rfl, hb⟩; have hP := hP.up hb; have hH := hH.up hb; have hY := hY.up hb; have hB := Below.then hB hb; clear hb; have h0 : w1.cell? ⟨w.heap.size + 1, 0, none⟩ = some (.slice x.mots.A x.mots.l.length x.mots.c) := hH.cell 0)
    | (go_at_call 8; refine (KF.out _ hB).mono ?_; clear KF; rintro e w2 ⟨rfl, hb⟩; clear h0; have hP := hP.up hb; have hH := hH.up hb; have hY := hY.up hb; have hB := Below.then hB hb; clear hb; have h1 : w2.cell? ⟨w.heap.size + 1, 1, none⟩ = some (.slice x.mems.A x.mems.l.length x.mems.c) := hH.cell 1; have y2 : w2.cell? ⟨w.heap.size + 1 + 1, 2, none⟩ = some (.int .i64 y.ep) := hY.cell 2)
    | ((with_reducible refine slot_is 36 rfl ?_); refine load_par _ rfl rfl _ p _ rfl hP ?_)
    | (go_at_call 17; refine (plain_is p _).mono ?_; rintro e w3 ⟨rfl, hb⟩; clear h1 y2; have hP := hP.up hb; have hH := hH.up hb; have hY := hY.up hb; have hB := Below.then hB hb; clear hb)
    | (go_at_call 19; refine (KR0.out _).mono ?_; clear KR0; rintro e w4 ⟨rfl, hb⟩; have hP := hP.up hb; have hH := hH.up hb; have hY := hY.up hb; have hB := Below.then hB hb; clear hb; have h0 : w4.cell? ⟨w.heap.size + 1, 0, none⟩ = some (.slice x.mots.A x.mots.l.length x.mots.c) := hH.cell 0; have h1 : w4.cell? ⟨w.heap.size + 1, 1, none⟩ = some (.slice x.mems.A x.mems.l.length x.mems.c) := hH.cell 1; have y2 : w4.cell? ⟨w.heap.size + 1 + 1, 2, none⟩ = some (.int .i64 y.ep) := hY.cell 2)
    | ((with_reducible refine slot_is 41 rfl ?_); refine load_par _ rfl rfl _ p _ rfl hP ?_)
    | (go_at_call 20; refine (KC.out _ hB).mono ?_; clear KC; rintro e w5 ⟨l5, A5, c5, rfl, hl5, hm5, hb⟩; clear h0 h1 y2; have hP := hP.up hb; have hH := hH.up hb; have hY := hY.up hb; have hB := Below.then hB hb; clear hb))
  have HM5 := Lib.hid hm5
  have HL5 := Lib.hid hl5
  have HLE5 : Hid (l5.length ≤ 100000) := Lib.hid (by have e := congrArg List.length hl5; rw [List.length_map] at e; rw [e]; exact HCL.out)
  clear hm5 hl5 HCL
  have CP : ∀ w1, Below w5.heap.size w5 w1 → LiesAt w1 ⟨w.heap.size, 0, none⟩ p.vals := fun w1 hb => RecAt.lies (hP.up hb)
  have CH0 : ∀ w1, Below w5.heap.size w5 w1 → w1.cell? ⟨w.heap.size + 1, 0, none⟩ = some (.slice x.mots.A x.mots.l.length x.mots.c) := fun w1 hb => (hH.up hb).cell 0
  have CH1 : ∀ w1, Below w5.heap.size w5 w1 → w1.cell? ⟨w.heap.size + 1, 1, none⟩ = some (.slice x.mems.A x.mems.l.length x.mems.c) := fun w1 hb => (hH.up hb).cell 1
  have CY0 : ∀ w1, Below w5.heap.size w5 w1 → w1.cell? ⟨w.heap.size + 1 + 1, 0, none⟩ = some (.int .i64 y.i) := fun w1 hb => (hY.up hb).cell 0
  have CY2 : ∀ w1, Below w5.heap.size w5 w1 → w1.cell? ⟨w.heap.size + 1 + 1, 2, none⟩ = some (.int .i64 y.ep) := fun w1 hb => (hY.up hb).cell 2
  have CY3 : ∀ w1, Below w5.heap.size w5 w1 → w1.cell? ⟨w.heap.size + 1 + 1, 3, none⟩ = some (.bool y.yes) := fun w1 hb => (hY.up hb).cell 3
  have CY4 : ∀ w1, Below w5.heap.size w5 w1 → w1.cell? ⟨w.heap.size + 1 + 1, 4, none⟩ = some (.bool y.q) := fun w1 hb => (hY.up hb).cell 4
  refine region_vary [] 12 (fun w' => Below w5.heap.size w5 w') (by kernel_rfl) (by kernel_rfl) (Below.refl _ _).drew ?_
  simp only [List.take_succ_cons, List.take_zero, List.drop_succ_cons, List.drop_zero]
  refine SeqV.take (fun _ => .agg (p.vals)) (fun _ => by rfl) (by rfl) (fun _ _ _ => rfl) (fun val w1 hS hR => exec_load_rec 37 _ rfl _ (p.vals) rfl (CP w1 hS) Try.underlying37 apar_size) ?_
  simp only [Act.put, List.setIfInBounds_toArray, List.set_cons_zero, List.set_cons_succ]
  refine SeqV.call (f := 17) (args := fun val => #[.agg p.vals]) (fun _ => .agg p.vals) (fun val w1 hS hR => ?_) (fun _ => by rfl) (by rfl) (fun _ _ _ => rfl) (fun val w => ?_) ?_
  · refine (plain_is p w1).mono ?_
    rintro e w2 ⟨rfl, hb⟩
    exact ⟨rfl, hS.trans (hb.mono hS.size), hb⟩
  · go_simp
  simp only [Act.put, List.setIfInBounds_toArray, List.set_cons_zero, List.set_cons_succ]
  refine SeqV.take (fun _ => .pointer (some ⟨w.heap.size + 1, 0, none⟩)) (fun _ => by rfl) (by rfl) (fun _ _ _ => rfl) (fun val w1 hS hR => ?_) ?_; · (go_simp <;> with_reducible rfl)
  simp only [Act.put, List.setIfInBounds_toArray, List.set_cons_zero, List.set_cons_succ]
  refine SeqV.take (fun _ => .slice x.mots.A x.mots.l.length x.mots.c) (fun _ => by rfl) (by rfl) (fun _ _ _ => rfl) (fun val w1 hS hR => ?_) ?_; · (have x := CH0 w1 hS; go_simp <;> with_reducible rfl)
  simp only [Act.put, List.setIfInBounds_toArray, List.set_cons_zero, List.set_cons_succ]
  refine SeqV.make (f := 11) (args := fun val => #[.slice x.mots.A x.mots.l.length x.mots.c]) (fun _ v w1 => ∃ A' c', v = .slice A' (x.mots.l).length c' ∧ Mots w1 A' c' (x.mots.l)) (fun val w1 hS hR => ?_) (fun _ => by rfl) (by rfl) (fun _ _ _ v w h => h) (fun _ v w1 w2 ⟨A', c', h1, h3⟩ hb => ⟨A', c', h1, h3.up hb⟩) (fun val w => ?_) ?_
  · refine (KP.out x.mots.l _ _ w1 (HM.out.up (Below.then hB hS)) HL.out).mono ?_
    rintro e w2 ⟨A', c', rfl, h, hb⟩
    exact ⟨_, rfl, ⟨A', c', rfl, h⟩, hS.trans (hb.mono hS.size), hb⟩
  · go_simp
  simp only [Act.put, List.setIfInBounds_toArray, List.set_cons_zero, List.set_cons_succ]
  refine SeqV.take (fun _ => .pointer (some ⟨w.heap.size + 1, 1, none⟩)) (fun _ => by rfl) (by rfl) (fun _ _ _ => rfl) (fun val w1 hS hR => ?_) ?_; · (go_simp <;> with_reducible rfl)
  simp only [Act.put, List.setIfInBounds_toArray, List.set_cons_zero, List.set_cons_succ]
  refine SeqV.take (fun _ => .slice x.mems.A x.mems.l.length x.mems.c) (fun _ => by rfl) (by rfl) (fun _ _ _ => rfl) (fun val w1 hS hR => ?_) ?_; · (have x := CH1 w1 hS; go_simp <;> with_reducible rfl)
  simp only [Act.put, List.setIfInBounds_toArray, List.set_cons_zero, List.set_cons_succ]
  refine SeqV.make (f := 22) (args := fun val => #[.slice x.mems.A x.mems.l.length x.mems.c]) (fun _ v w1 => ∃ (A' : Option Addr) (c' : Nat), v = .slice A' (x.mems.l).length c' ∧ Row w1 w1.heap.size A' (rows x.mems.l)) (fun val w1 hS hR => ?_) (fun _ => by rfl) (by rfl) (fun _ _ _ v w h => h) (fun _ v w1 w2 ⟨A', c', h1, h3⟩ hb => ⟨A', c', h1, h3.kept hb⟩) (fun val w => ?_) ?_
  · refine (KL.out w1 (Below.then hB hS)).mono ?_
    rintro e w2 ⟨A', c', rfl, h, hb⟩
    exact ⟨_, rfl, ⟨A', c', rfl, h⟩, hS.trans (hb.mono hS.size), hb⟩
  · go_simp
  simp only [Act.put, List.setIfInBounds_toArray, List.set_cons_zero, List.set_cons_succ]
  refine SeqV.take (fun _ => .pointer (some ⟨w.heap.size + 1 + 1, 2, none⟩)) (fun _ => by rfl) (by rfl) (fun _ _ _ => rfl) (fun val w1 hS hR => ?_) ?_; · (go_simp <;> with_reducible rfl)
  simp only [Act.put, List.setIfInBounds_toArray, List.set_cons_zero, List.set_cons_succ]
  refine SeqV.take (fun _ => .int .i64 y.ep) (fun _ => by rfl) (by rfl) (fun _ _ _ => rfl) (fun val w1 hS hR => ?_) ?_; · (have x := CY2 w1 hS; go_simp <;> with_reducible rfl)
  simp only [Act.put, List.setIfInBounds_toArray, List.set_cons_zero, List.set_cons_succ]
  refine SeqV.make (f := 21) (args := fun val => #[.agg p.vals, val 4, val 7, .int .i64 y.ep]) (fun _ v w1 => ∃ (l' : List Mot) (A' : Option Addr) (c' : Nat), v = .slice A' l'.length c' ∧ l'.map Mot.pure = LC ∧ Mots w1 A' c' l') (fun val w1 hS hR => ?_) (fun _ => by rfl) (by rfl) (fun _ _ _ v w h => h) (fun _ v w1 w2 ⟨l', A', c', h1, h2, h3⟩ hb => ⟨l', A', c', h1, h2, h3.up hb⟩) (fun val w => ?_) ?_
  · obtain ⟨A', c', e1, h3⟩ := hR 4 (by kernel_rfl)
    obtain ⟨A2, c2, e2, h4⟩ := hR 7 (by kernel_rfl)
    rw [e1, e2]
    refine (KRC.out A' c' A2 c2 w1 h3 h4).mono ?_
    rintro e w2 ⟨l4, A4, c4, rfl, h1, h2, hb⟩
    exact ⟨_, rfl, ⟨l4, A4, c4, rfl, h1, h2⟩, hS.trans (hb.mono hS.size), hb⟩
  · go_simp
  simp only [Act.put, List.setIfInBounds_toArray, List.set_cons_zero, List.set_cons_succ]
  refine SeqV.some (fun _ v w1 => ∃ (l' : List Mot) (A' : Option Addr) (c' : Nat), v = .slice A' l'.length c' ∧ l'.map Mot.pure = LC ∧ Mots w1 A' c' l') (fun _ => by rfl) (by rfl) (fun _ _ _ v w h => h) (fun _ v w1 w2 ⟨l', A', c', h1, h2, h3⟩ hb => ⟨l', A', c', h1, h2, h3.up hb⟩) (fun val w1 hS hR => ?_) ?_
  · obtain ⟨l', A', c', e1, h2, h3⟩ := hR 10 (by kernel_rfl)
    refine ⟨.slice A' l'.length c', ?_, l', A', c', rfl, h2, h3⟩
    simp only [e1]
    go_simp
  simp only [Act.put, List.setIfInBounds_toArray, List.set_cons_zero, List.set_cons_succ]
  intro val w6 hS6 hR6 hD6
  obtain ⟨l6, A6, c6, e11, hl6, hm6⟩ : ∃ (l' : List Mot) (A' : Option Addr) (c' : Nat), val 11 = .slice A' l'.length c' ∧ l'.map Mot.pure = LC ∧ Mots w6 A' c' l' := hR6 11 (by decide)
  simp only [e11]
  clear CP CH0 CH1 CY0 CY2 CY3 CY4
  have hP := hP.up hS6
  have hH := hH.up hS6
  have hY := hY.up hS6
  have hB := Below.then hB hS6
  have HM56 := Lib.hid (HM5.out.up hS6)
  have HM6 := Lib.hid hm6
  have HL6 := Lib.hid (hl6.trans HL5.out.symm)
  clear hR6 hD6 hS6 hm6 hl6 KRC KL e11 HM5
  have h0 : w6.cell? ⟨w.heap.size + 1, 0, none⟩ = some (.slice x.mots.A x.mots.l.length x.mots.c) := hH.cell 0
  have y0 : w6.cell? ⟨w.heap.size + 1 + 1, 0, none⟩ = some (.int .i64 y.i) := hY.cell 0
  have y3 : w6.cell? ⟨w.heap.size + 1 + 1, 3, none⟩ = some (.bool y.yes) := hY.cell 3
  refine wpList_nil ?_
  go_wp2_with (go_at_call 23; refine (KN.out _ hB).mono ?_; clear KN; rintro e w7 ⟨l7, A7, c7, rfl, hl7, hm7, hb⟩; clear h0 y0 y3; have HM57 := Lib.hid (HM56.out.up hb); have HM67 := Lib.hid (HM6.out.up hb); clear HM56 HM6; have hP := hP.up hb; have hH := hH.up hb; have hY := hY.up hb; have hB := Below.then hB hb; clear hb)
  have HM7 := Lib.hid hm7
  have HL7 := Lib.hid hl7
  have HLE7 : Hid (l7.length ≤ 100000) := Lib.hid (by have e := congrArg List.length hl7; rw [List.length_map] at e; rw [e]; exact HFL.out)
  clear hm7 hl7 HFL
  have CP : ∀ w1, Below w7.heap.size w7 w1 → LiesAt w1 ⟨w.heap.size, 0, none⟩ p.vals := fun w1 hb => RecAt.lies (hP.up hb)
  have CH0 : ∀ w1, Below w7.heap.size w7 w1 → w1.cell? ⟨w.heap.size + 1, 0, none⟩ = some (.slice x.mots.A x.mots.l.length x.mots.c) := fun w1 hb => (hH.up hb).cell 0
  have CH1 : ∀ w1, Below w7.heap.size w7 w1 → w1.cell? ⟨w.heap.size + 1, 1, none⟩ = some (.slice x.mems.A x.mems.l.length x.mems.c) := fun w1 hb => (hH.up hb).cell 1
  have CY0 : ∀ w1, Below w7.heap.size w7 w1 → w1.cell? ⟨w.heap.size + 1 + 1, 0, none⟩ = some (.int .i64 y.i) := fun w1 hb => (hY.up hb).cell 0
  have CY2 : ∀ w1, Below w7.heap.size w7 w1 → w1.cell? ⟨w.heap.size + 1 + 1, 2, none⟩ = some (.int .i64 y.ep) := fun w1 hb => (hY.up hb).cell 2
  have CY3 : ∀ w1, Below w7.heap.size w7 w1 → w1.cell? ⟨w.heap.size + 1 + 1, 3, none⟩ = some (.bool y.yes) := fun w1 hb => (hY.up hb).cell 3
  have CY4 : ∀ w1, Below w7.heap.size w7 w1 → w1.cell? ⟨w.heap.size + 1 + 1, 4, none⟩ = some (.bool y.q) := fun w1 hb => (hY.up hb).cell 4
  refine region_vary [] 13 (fun w' => Below w7.heap.size w7 w') (by kernel_rfl) (by kernel_rfl) (Below.refl _ _).drew ?_
  simp only [List.take_succ_cons, List.take_zero, List.drop_succ_cons, List.drop_zero]
  refine SeqV.take (fun _ => .pointer (some ⟨w.heap.size + 1, 0, none⟩)) (fun _ => by rfl) (by rfl) (fun _ _ _ => rfl) (fun val w1 hS hR => ?_) ?_; · (go_simp <;> with_reducible rfl)
  simp only [Act.put, List.setIfInBounds_toArray, List.set_cons_zero, List.set_cons_succ]
  refine SeqV.take (fun _ => .slice x.mots.A x.mots.l.length x.mots.c) (fun _ => by rfl) (by rfl) (fun _ _ _ => rfl) (fun val w1 hS hR => ?_) ?_; · (have x := CH0 w1 hS; go_simp <;> with_reducible rfl)
  simp only [Act.put, List.setIfInBounds_toArray, List.set_cons_zero, List.set_cons_succ]
  refine SeqV.make (f := 11) (args := fun val => #[.slice x.mots.A x.mots.l.length x.mots.c]) (fun _ v w1 => ∃ A' c', v = .slice A' (x.mots.l).length c' ∧ Mots w1 A' c' (x.mots.l)) (fun val w1 hS hR => ?_) (fun _ => by rfl) (by rfl) (fun _ _ _ v w h => h) (fun _ v w1 w2 ⟨A', c', h1, h3⟩ hb => ⟨A', c', h1, h3.up hb⟩) (fun val w => ?_) ?_
  · refine (KP.out x.mots.l _ _ w1 (HM.out.up (Below.then hB hS)) HL.out).mono ?_
    rintro e w2 ⟨A', c', rfl, h, hb⟩
    exact ⟨_, rfl, ⟨A', c', rfl, h⟩, hS.trans (hb.mono hS.size), hb⟩
  · go_simp
  simp only [Act.put, List.setIfInBounds_toArray, List.set_cons_zero, List.set_cons_succ]
  refine SeqV.take (fun _ => .pointer (some ⟨w.heap.size + 1 + 1, 0, none⟩)) (fun _ => by rfl) (by rfl) (fun _ _ _ => rfl) (fun val w1 hS hR => ?_) ?_; · (go_simp <;> with_reducible rfl)
  simp only [Act.put, List.setIfInBounds_toArray, List.set_cons_zero, List.set_cons_succ]
  refine SeqV.take (fun _ => .int .i64 y.i) (fun _ => by rfl) (by rfl) (fun _ _ _ => rfl) (fun val w1 hS hR => ?_) ?_; · (have x := CY0 w1 hS; go_simp <;> with_reducible rfl)
  simp only [Act.put, List.setIfInBounds_toArray, List.set_cons_zero, List.set_cons_succ]
  refine SeqV.take (fun _ => .pointer (some ⟨w.heap.size + 1 + 1, 3, none⟩)) (fun _ => by rfl) (by rfl) (fun _ _ _ => rfl) (fun val w1 hS hR => ?_) ?_; · (go_simp <;> with_reducible rfl)
  simp only [Act.put, List.setIfInBounds_toArray, List.set_cons_zero, List.set_cons_succ]
  refine SeqV.take (fun _ => .bool y.yes) (fun _ => by rfl) (by rfl) (fun _ _ _ => rfl) (fun val w1 hS hR => ?_) ?_; · (have x := CY3 w1 hS; go_simp <;> with_reducible rfl)
  simp only [Act.put, List.setIfInBounds_toArray, List.set_cons_zero, List.set_cons_succ]
  refine SeqV.make (f := 24) (args := fun val => #[val 2, .int .i64 y.i, .bool y.yes]) (fun _ v w1 => ∃ (l' : List Mot) (A' : Option Addr) (c' : Nat), v = .tuple #[.slice A' l'.length c', .int .i64 (z : Int)] ∧ l'.map Mot.pure = LF ∧ Mots w1 A' c' l') (fun val w1 hS hR => ?_) (fun _ => by rfl) (by rfl) (fun _ _ _ v w h => h) (fun _ v w1 w2 ⟨l', A', c', h1, h2, h3⟩ hb => ⟨l', A', c', h1, h2, h3.up hb⟩) (fun val w => ?_) ?_
  · obtain ⟨A', c', e1, h3⟩ := hR 2 (by kernel_rfl)
    rw [e1]
    refine (KRN.out A' c' w1 h3).mono ?_
    rintro e w2 ⟨l4, A4, c4, rfl, h1, h2, hb⟩
    exact ⟨_, rfl, ⟨l4, A4, c4, rfl, h1, h2⟩, hS.trans (hb.mono hS.size), hb⟩
  · go_simp
  simp only [Act.put, List.setIfInBounds_toArray, List.set_cons_zero, List.set_cons_succ]
  refine SeqV.some (fun _ v w1 => ∃ (l' : List Mot) (A' : Option Addr) (c' : Nat), v = .tuple #[.slice A' l'.length c', .int .i64 (z : Int)] ∧ l'.map Mot.pure = LF ∧ Mots w1 A' c' l') (fun _ => by rfl) (by rfl) (fun _ _ _ v w h => h) (fun _ v w1 w2 ⟨l', A', c', h1, h2, h3⟩ hb => ⟨l', A', c', h1, h2, h3.up hb⟩) (fun val w1 hS hR => ?_) ?_
  · obtain ⟨l', A', c', e1, h2, h3⟩ := hR 7 (by kernel_rfl)
    refine ⟨val 7, ?_, l', A', c', e1, h2, h3⟩
    go_simp
  simp only [Act.put, List.setIfInBounds_toArray, List.set_cons_zero, List.set_cons_succ]
  refine SeqV.some (fun _ v w1 => ∃ (l' : List Mot) (A' : Option Addr) (c' : Nat), v = .slice A' l'.length c' ∧ l'.map Mot.pure = LF ∧ Mots w1 A' c' l') (fun _ => by rfl) (by rfl) (fun _ _ _ v w h => h) (fun _ v w1 w2 ⟨l', A', c', h1, h2, h3⟩ hb => ⟨l', A', c', h1, h2, h3.up hb⟩) (fun val w1 hS hR => ?_) ?_
  · obtain ⟨l', A', c', e1, h2, h3⟩ := hR 8 (by kernel_rfl)
    refine ⟨.slice A' l'.length c', ?_, l', A', c', rfl, h2, h3⟩
    simp only [e1]
    go_simp
  simp only [Act.put, List.setIfInBounds_toArray, List.set_cons_zero, List.set_cons_succ]
  refine SeqV.some (fun _ v w1 => v = .int .i64 (z : Int)) (fun _ => by rfl) (by rfl) (fun _ _ _ v w h => h) (fun _ v w1 w2 h hb => h) (fun val w1 hS hR => ?_) ?_
  · obtain ⟨l', A', c', e1, h2, h3⟩ := hR 8 (by kernel_rfl)
    refine ⟨.int .i64 (z : Int), ?_, rfl⟩
    simp only [e1]
    go_simp
  simp only [Act.put, List.setIfInBounds_toArray, List.set_cons_zero, List.set_cons_succ]
  refine SeqV.some (fun _ v w1 => ∃ (l' : List Mot) (A' : Option Addr) (c' : Nat), v = .slice A' l'.length c' ∧ l'.map Mot.pure = LF ∧ Mots w1 A' c' l') (fun _ => by rfl) (by rfl) (fun _ _ _ v w h => h) (fun _ v w1 w2 ⟨l', A', c', h1, h2, h3⟩ hb => ⟨l', A', c', h1, h2, h3.up hb⟩) (fun val w1 hS hR => ?_) ?_
  · obtain ⟨l', A', c', e1, h2, h3⟩ := hR 9 (by kernel_rfl)
    refine ⟨.slice A' l'.length c', ?_, l', A', c', rfl, h2, h3⟩
    simp only [e1]
    go_simp
  simp only [Act.put, List.setIfInBounds_toArray, List.set_cons_zero, List.set_cons_succ]
  refine SeqV.some (fun _ v w1 => v = .int .i64 (z : Int)) (fun _ => by rfl) (by rfl) (fun _ _ _ v w h => h) (fun _ v w1 w2 h hb => h) (fun val w1 hS hR => ?_) ?_
  · have e1 : val 10 = .int .i64 (z : Int) := hR 10 (by kernel_rfl)
    refine ⟨.int .i64 (z : Int), ?_, rfl⟩
    simp only [e1]
    go_simp
  simp only [Act.put, List.setIfInBounds_toArray, List.set_cons_zero, List.set_cons_succ]
  intro val w8 hS8 hR8 hD8
  obtain ⟨l8, A8, c8, e11, hl8, hm8⟩ : ∃ (l' : List Mot) (A' : Option Addr) (c' : Nat), val 11 = .slice A' l'.length c' ∧ l'.map Mot.pure = LF ∧ Mots w8 A' c' l' := hR8 11 (by decide)
  have e12 : val 12 = .int .i64 (z : Int) := hR8 12 (by decide)
  simp only [e11, e12]
  clear CP CH0 CH1 CY0 CY2 CY3 CY4
  have hP := hP.up hS8
  have hH := hH.up hS8
  have hY := hY.up hS8
  have hB := Below.then hB hS8
  have HM58 := Lib.hid (HM57.out.up hS8)
  have HM68 := Lib.hid (HM67.out.up hS8)
  have HM78 := Lib.hid (HM7.out.up hS8)
  have HM8 := Lib.hid hm8
  have HL8 := Lib.hid (hl8.trans HL7.out.symm)
  clear hR8 hD8 hS8 hm8 hl8 KRN e11 e12 HM57 HM67 HM7
  refine wpList_nil ?_
  go_wp2
  have CP : ∀ w1, Below w8.heap.size w8 w1 → LiesAt w1 ⟨w.heap.size, 0, none⟩ p.vals := fun w1 hb => RecAt.lies (hP.up hb)
  have CH0 : ∀ w1, Below w8.heap.size w8 w1 → w1.cell? ⟨w.heap.size + 1, 0, none⟩ = some (.slice x.mots.A x.mots.l.length x.mots.c) := fun w1 hb => (hH.up hb).cell 0
  have CH1 : ∀ w1, Below w8.heap.size w8 w1 → w1.cell? ⟨w.heap.size + 1, 1, none⟩ = some (.slice x.mems.A x.mems.l.length x.mems.c) := fun w1 hb => (hH.up hb).cell 1
  have CY0 : ∀ w1, Below w8.heap.size w8 w1 → w1.cell? ⟨w.heap.size + 1 + 1, 0, none⟩ = some (.int .i64 y.i) := fun w1 hb => (hY.up hb).cell 0
  have CY2 : ∀ w1, Below w8.heap.size w8 w1 → w1.cell? ⟨w.heap.size + 1 + 1, 2, none⟩ = some (.int .i64 y.ep) := fun w1 hb => (hY.up hb).cell 2
  have CY3 : ∀ w1, Below w8.heap.size w8 w1 → w1.cell? ⟨w.heap.size + 1 + 1, 3, none⟩ = some (.bool y.yes) := fun w1 hb => (hY.up hb).cell 3
  have CY4 : ∀ w1, Below w8.heap.size w8 w1 → w1.cell? ⟨w.heap.size + 1 + 1, 4, none⟩ = some (.bool y.q) := fun w1 hb => (hY.up hb).cell 4
  refine region_vary [] 34 (fun w' => Below w8.heap.size w8 w') (by kernel_rfl) (by kernel_rfl) (Below.refl _ _).drew ?_
  simp only [List.take_succ_cons, List.take_zero, List.drop_succ_cons, List.drop_zero]
  refine SeqV.take (fun _ => .slice A5 l5.length c5) (fun _ => by rfl) (by rfl) (fun _ _ _ => rfl) (fun val w1 hS hR => ?_) ?_; · (go_simp <;> with_reducible rfl)
  simp only [Act.put, List.setIfInBounds_toArray, List.set_cons_zero, List.set_cons_succ]
  refine SeqV.make (f := 11) (args := fun val => #[.slice A5 l5.length c5]) (fun _ v w1 => ∃ A' c', v = .slice A' (l5).length c' ∧ Mots w1 A' c' (l5)) (fun val w1 hS hR => ?_) (fun _ => by rfl) (by rfl) (fun _ _ _ v w h => h) (fun _ v w1 w2 ⟨A', c', h1, h3⟩ hb => ⟨A', c', h1, h3.up hb⟩) (fun val w => ?_) ?_
  · refine (KP.out l5 _ _ w1 (HM58.out.up hS) HLE5.out).mono ?_
    rintro e w2 ⟨A', c', rfl, h, hb⟩
    exact ⟨_, rfl, ⟨A', c', rfl, h⟩, hS.trans (hb.mono hS.size), hb⟩
  · go_simp
  simp only [Act.put, List.setIfInBounds_toArray, List.set_cons_zero, List.set_cons_succ]
  refine SeqV.take (fun _ => .slice A6 l6.length c6) (fun _ => by rfl) (by rfl) (fun _ _ _ => rfl) (fun val w1 hS hR => ?_) ?_; · (go_simp <;> with_reducible rfl)
  simp only [Act.put, List.setIfInBounds_toArray, List.set_cons_zero, List.set_cons_succ]
  refine SeqV.call (f := 12) (args := fun val => #[val 1, .slice A6 l6.length c6]) (fun _ => .bool true) (fun val w1 hS hR => ?_) (fun _ => by rfl) (by rfl) (fun _ _ _ => rfl) (fun val w => ?_) ?_
  · obtain ⟨A', c', e1, h3⟩ := hR 1 (by kernel_rfl)
    rw [e1]
    refine (rsamelist_is l5 l6 _ _ _ _ _ h3 (HM68.out.up hS) HL6.out HLE5.out).mono ?_
    rintro e w2 ⟨rfl, hb⟩
    exact ⟨rfl, hS.trans (hb.mono hS.size), hb⟩
  · go_simp
  simp only [Act.put, List.setIfInBounds_toArray, List.set_cons_zero, List.set_cons_succ]
  refine SeqV.take (fun _ => .bool true) (fun _ => by rfl) (by rfl) (fun _ _ _ => rfl) (fun val w1 hS hR => ?_) ?_; · (go_simp <;> with_reducible rfl)
  simp only [Act.put, List.setIfInBounds_toArray, List.set_cons_zero, List.set_cons_succ]
  refine SeqV.take (fun _ => .slice A7 l7.length c7) (fun _ => by rfl) (by rfl) (fun _ _ _ => rfl) (fun val w1 hS hR => ?_) ?_; · (go_simp <;> with_reducible rfl)
  simp only [Act.put, List.setIfInBounds_toArray, List.set_cons_zero, List.set_cons_succ]
  refine SeqV.make (f := 11) (args := fun val => #[.slice A7 l7.length c7]) (fun _ v w1 => ∃ A' c', v = .slice A' (l7).length c' ∧ Mots w1 A' c' (l7)) (fun val w1 hS hR => ?_) (fun _ => by rfl) (by rfl) (fun _ _ _ v w h => h) (fun _ v w1 w2 ⟨A', c', h1, h3⟩ hb => ⟨A', c', h1, h3.up hb⟩) (fun val w => ?_) ?_
  · refine (KP.out l7 _ _ w1 (HM78.out.up hS) HLE7.out).mono ?_
    rintro e w2 ⟨A', c', rfl, h, hb⟩
    exact ⟨_, rfl, ⟨A', c', rfl, h⟩, hS.trans (hb.mono hS.size), hb⟩
  · go_simp
  simp only [Act.put, List.setIfInBounds_toArray, List.set_cons_zero, List.set_cons_succ]
  refine SeqV.take (fun _ => .slice A8 l8.length c8) (fun _ => by rfl) (by rfl) (fun _ _ _ => rfl) (fun val w1 hS hR => ?_) ?_; · (go_simp <;> with_reducible rfl)
  simp only [Act.put, List.setIfInBounds_toArray, List.set_cons_zero, List.set_cons_succ]
  refine SeqV.call (f := 12) (args := fun val => #[val 6, .slice A8 l8.length c8]) (fun _ => .bool true) (fun val w1 hS hR => ?_) (fun _ => by rfl) (by rfl) (fun _ _ _ => rfl) (fun val w => ?_) ?_
  · obtain ⟨A', c', e1, h3⟩ := hR 6 (by kernel_rfl)
    rw [e1]
    refine (rsamelist_is l7 l8 _ _ _ _ _ h3 (HM8.out.up hS) HL8.out HLE7.out).mono ?_
    rintro e w2 ⟨rfl, hb⟩
    exact ⟨rfl, hS.trans (hb.mono hS.size), hb⟩
  · go_simp
  simp only [Act.put, List.setIfInBounds_toArray, List.set_cons_zero, List.set_cons_succ]
  refine SeqV.take (fun _ => .bool true) (fun _ => by rfl) (by rfl) (fun _ _ _ => rfl) (fun val w1 hS hR => ?_) ?_; · (go_simp <;> with_reducible rfl)
  simp only [Act.put, List.setIfInBounds_toArray, List.set_cons_zero, List.set_cons_succ]
  refine SeqV.take (fun _ => .bool true) (fun _ => by rfl) (by rfl) (fun _ _ _ => rfl) (fun val w1 hS hR => ?_) ?_; · (go_simp <;> with_reducible rfl)
  simp only [Act.put, List.setIfInBounds_toArray, List.set_cons_zero, List.set_cons_succ]
  refine SeqV.take (fun _ => .int .i64 (z : Int)) (fun _ => by rfl) (by rfl) (fun _ _ _ => rfl) (fun val w1 hS hR => ?_) ?_; · (go_simp <;> with_reducible rfl)
  simp only [Act.put, List.setIfInBounds_toArray, List.set_cons_zero, List.set_cons_succ]
  refine SeqV.take (fun _ => .int .i64 (z : Int)) (fun _ => by rfl) (by rfl) (fun _ _ _ => rfl) (fun val w1 hS hR => ?_) ?_; · (go_simp <;> with_reducible rfl)
  simp only [Act.put, List.setIfInBounds_toArray, List.set_cons_zero, List.set_cons_succ]
  refine SeqV.take (fun _ => .bool true) (fun _ => by rfl) (by rfl) (fun _ _ _ => rfl) (fun val w1 hS hR => ?_) ?_; · (go_simp <;> first | with_reducible rfl | simp)
  simp only [Act.put, List.setIfInBounds_toArray, List.set_cons_zero, List.set_cons_succ]
  refine SeqV.take (fun _ => .bool true) (fun _ => by rfl) (by rfl) (fun _ _ _ => rfl) (fun val w1 hS hR => ?_) ?_; · (go_simp <;> with_reducible rfl)
  simp only [Act.put, List.setIfInBounds_toArray, List.set_cons_zero, List.set_cons_succ]
  refine SeqV.take (fun _ => .bool true) (fun _ => by rfl) (by rfl) (fun _ _ _ => rfl) (fun val w1 hS hR => ?_) ?_; · (go_simp <;> with_reducible rfl)
  simp only [Act.put, List.setIfInBounds_toArray, List.set_cons_zero, List.set_cons_succ]
  refine SeqV.take (fun _ => .pointer (some ⟨w.heap.size + 1, 0, none⟩)) (fun _ => by rfl) (by rfl) (fun _ _ _ => rfl) (fun val w1 hS hR => ?_) ?_; · (go_simp <;> with_reducible rfl)
  simp only [Act.put, List.setIfInBounds_toArray, List.set_cons_zero, List.set_cons_succ]
  refine SeqV.take (fun _ => .slice x.mots.A x.mots.l.length x.mots.c) (fun _ => by rfl) (by rfl) (fun _ _ _ => rfl) (fun val w1 hS hR => ?_) ?_; · (have x := CH0 w1 hS; go_simp <;> with_reducible rfl)
  simp only [Act.put, List.setIfInBounds_toArray, List.set_cons_zero, List.set_cons_succ]
  refine SeqV.take (fun _ => .pointer (some ⟨w.heap.size + 1 + 1, 2, none⟩)) (fun _ => by rfl) (by rfl) (fun _ _ _ => rfl) (fun val w1 hS hR => ?_) ?_; · (go_simp <;> with_reducible rfl)
  simp only [Act.put, List.setIfInBounds_toArray, List.set_cons_zero, List.set_cons_succ]
  refine SeqV.take (fun _ => .int .i64 y.ep) (fun _ => by rfl) (by rfl) (fun _ _ _ => rfl) (fun val w1 hS hR => ?_) ?_; · (have x := CY2 w1 hS; go_simp <;> with_reducible rfl)
  simp only [Act.put, List.setIfInBounds_toArray, List.set_cons_zero, List.set_cons_succ]
  refine SeqV.take (fun _ => .pointer (some ⟨w.heap.size + 1 + 1, 4, none⟩)) (fun _ => by rfl) (by rfl) (fun _ _ _ => rfl) (fun val w1 hS hR => ?_) ?_; · (go_simp <;> with_reducible rfl)
  simp only [Act.put, List.setIfInBounds_toArray, List.set_cons_zero, List.set_cons_succ]
  refine SeqV.take (fun _ => .bool y.q) (fun _ => by rfl) (by rfl) (fun _ _ _ => rfl) (fun val w1 hS hR => ?_) ?_; · (have x := CY4 w1 hS; go_simp <;> with_reducible rfl)
  simp only [Act.put, List.setIfInBounds_toArray, List.set_cons_zero, List.set_cons_succ]
  refine SeqV.make (f := 26) (args := fun val => #[.slice x.mots.A x.mots.l.length x.mots.c, .int .i64 y.ep, .bool y.q]) (fun _ v w1 => ∃ (A' : Option Addr) (c' : Nat), v = .slice A' (LR).length c' ∧ Row w1 w1.heap.size A' (zvals LR)) (fun val w1 hS hR => ?_) (fun _ => by rfl) (by rfl) (fun _ _ _ v w h => h) (fun _ v w1 w2 ⟨A', c', h1, h3⟩ hb => ⟨A', c', h1, h3.kept hb⟩) (fun val w => ?_) ?_
  · refine (KW.out w1 (Below.then hB hS)).mono ?_
    rintro e w2 ⟨A', c', rfl, h, hb⟩
    exact ⟨_, rfl, ⟨A', c', rfl, h⟩, hS.trans (hb.mono hS.size), hb⟩
  · go_simp
  simp only [Act.put, List.setIfInBounds_toArray, List.set_cons_zero, List.set_cons_succ]
  refine SeqV.take (fun _ => .pointer (some ⟨w.heap.size + 1, 0, none⟩)) (fun _ => by rfl) (by rfl) (fun _ _ _ => rfl) (fun val w1 hS hR => ?_) ?_; · (go_simp <;> with_reducible rfl)
  simp only [Act.put, List.setIfInBounds_toArray, List.set_cons_zero, List.set_cons_succ]
  refine SeqV.take (fun _ => .slice x.mots.A x.mots.l.length x.mots.c) (fun _ => by rfl) (by rfl) (fun _ _ _ => rfl) (fun val w1 hS hR => ?_) ?_; · (have x := CH0 w1 hS; go_simp <;> with_reducible rfl)
  simp only [Act.put, List.setIfInBounds_toArray, List.set_cons_zero, List.set_cons_succ]
  refine SeqV.make (f := 11) (args := fun val => #[.slice x.mots.A x.mots.l.length x.mots.c]) (fun _ v w1 => ∃ A' c', v = .slice A' (x.mots.l).length c' ∧ Mots w1 A' c' (x.mots.l)) (fun val w1 hS hR => ?_) (fun _ => by rfl) (by rfl) (fun _ _ _ v w h => h) (fun _ v w1 w2 ⟨A', c', h1, h3⟩ hb => ⟨A', c', h1, h3.up hb⟩) (fun val w => ?_) ?_
  · refine (KP.out x.mots.l _ _ w1 (HM.out.up (Below.then hB hS)) HL.out).mono ?_
    rintro e w2 ⟨A', c', rfl, h, hb⟩
    exact ⟨_, rfl, ⟨A', c', rfl, h⟩, hS.trans (hb.mono hS.size), hb⟩
  · go_simp
  simp only [Act.put, List.setIfInBounds_toArray, List.set_cons_zero, List.set_cons_succ]
  refine SeqV.take (fun _ => .pointer (some ⟨w.heap.size + 1 + 1, 2, none⟩)) (fun _ => by rfl) (by rfl) (fun _ _ _ => rfl) (fun val w1 hS hR => ?_) ?_; · (go_simp <;> with_reducible rfl)
  simp only [Act.put, List.setIfInBounds_toArray, List.set_cons_zero, List.set_cons_succ]
  refine SeqV.take (fun _ => .int .i64 y.ep) (fun _ => by rfl) (by rfl) (fun _ _ _ => rfl) (fun val w1 hS hR => ?_) ?_; · (have x := CY2 w1 hS; go_simp <;> with_reducible rfl)
  simp only [Act.put, List.setIfInBounds_toArray, List.set_cons_zero, List.set_cons_succ]
  refine SeqV.take (fun _ => .pointer (some ⟨w.heap.size + 1 + 1, 4, none⟩)) (fun _ => by rfl) (by rfl) (fun _ _ _ => rfl) (fun val w1 hS hR => ?_) ?_; · (go_simp <;> with_reducible rfl)
  simp only [Act.put, List.setIfInBounds_toArray, List.set_cons_zero, List.set_cons_succ]
  refine SeqV.take (fun _ => .bool y.q) (fun _ => by rfl) (by rfl) (fun _ _ _ => rfl) (fun val w1 hS hR => ?_) ?_; · (have x := CY4 w1 hS; go_simp <;> with_reducible rfl)
  simp only [Act.put, List.setIfInBounds_toArray, List.set_cons_zero, List.set_cons_succ]
  refine SeqV.make (f := 27) (args := fun val => #[val 25, .int .i64 y.ep, .bool y.q]) (fun _ v w1 => ∃ (A' : Option Addr) (c' : Nat), v = .slice A' (LR).length c' ∧ Row w1 w1.heap.size A' (zvals LR)) (fun val w1 hS hR => ?_) (fun _ => by rfl) (by rfl) (fun _ _ _ v w h => h) (fun _ v w1 w2 ⟨A', c', h1, h3⟩ hb => ⟨A', c', h1, h3.kept hb⟩) (fun val w => ?_) ?_
  · obtain ⟨A2, c2, e1, h3⟩ := hR 25 (by kernel_rfl)
    rw [e1]
    refine (KRW.out A2 c2 w1 h3).mono ?_
    rintro e w2 ⟨A', c', rfl, h, hb⟩
    exact ⟨_, rfl, ⟨A', c', rfl, h⟩, hS.trans (hb.mono hS.size), hb⟩
  · go_simp
  simp only [Act.put, List.setIfInBounds_toArray, List.set_cons_zero, List.set_cons_succ]
  refine SeqV.call (f := 25) (args := fun val => #[val 22, val 30]) (fun _ => .bool true) (fun val w1 hS hR => ?_) (fun _ => by rfl) (by rfl) (fun _ _ _ => rfl) (fun val w => ?_) ?_
  · obtain ⟨A', c', e1, h3⟩ := hR 22 (by kernel_rfl)
    obtain ⟨A2, c2, e2, h4⟩ := hR 30 (by kernel_rfl)
    rw [e1, e2]
    refine (zsame_true LR _ _ _ _ _ _ h3 h4 HLR.out).mono ?_
    rintro e w2 ⟨rfl, hb⟩
    exact ⟨rfl, hS.trans (hb.mono hS.size), hb⟩
  · go_simp
  simp only [Act.put, List.setIfInBounds_toArray, List.set_cons_zero, List.set_cons_succ]
  refine SeqV.take (fun _ => .bool true) (fun _ => by rfl) (by rfl) (fun _ _ _ => rfl) (fun val w1 hS hR => ?_) ?_; · (go_simp <;> with_reducible rfl)
  simp only [Act.put, List.setIfInBounds_toArray, List.set_cons_zero, List.set_cons_succ]
  refine SeqV.take (fun _ => .bool true) (fun _ => by rfl) (by rfl) (fun _ _ _ => rfl) (fun val w1 hS hR => ?_) ?_; · (go_simp <;> with_reducible rfl)
  simp only [Act.put, List.setIfInBounds_toArray, List.set_cons_zero, List.set_cons_succ]
  intro val w9 hS9 hR9 hD9
  have hB := Below.then hB hS9
  clear CP CH0 CH1 CY0 CY2 CY3 CY4
  clear hR9 hD9 hS9
  refine wpList_nil ?_
  go_wp2
  go_ret
  exact ⟨by first | rfl | simp, hB⟩

theorem walk (p : Par) (x : Hl) (y : Wy) (w : World) (hp : p.Fits) (hm : HallAt w x) (_ : True) :
    Calls Try.prog 5 #[.agg p.vals, .agg (Rec.vals x), .agg (Rec.vals y)] w fun e w' => e = .returned (.bool true) ∧ Below w.heap.size w w' := by
  by_cases h : shorts x.mots.l ∧ x.mots.l.length ≤ 60
  · by_cases h1 : 200 < x.mems.l.length
    · exact walk_many p x y w hm h.1 h.2 h1
    · by_cases h2 : y.ep < 0
      · exact walk_past p x y w hm h.1 h.2 ⟨h1, h2⟩
      · by_cases h3 : 1073741824 < y.ep
        · exact walk_far p x y w hm h.1 h.2 ⟨h1, h2, h3⟩
        · by_cases h4 : ∃ T, Par.Right p T
          · obtain ⟨T, hT⟩ := h4
            exact walk_held p x y w hm h.1 h.2 (by omega) (by omega) T hT hp
          · exact walk_wrong p x y w hm h.1 h.2 (by omega) (by omega) h4
  · exact walk_wide p x y w hm h


theorem own : ownKnob Try.prog.godebug = none := by kernel_rfl
theorem laidOut : laidOutB Try.prog = true := by kernel_rfl

set_option maxRecDepth 100000 in
theorem lifted (os : Os) (started : os.Started) (H : Type) (enc : TypeId × Value → H) :
    ReturnsInHanded {} Try.checked os 5 .any (Rows.mootClosesSpec.pre6 enc Try.prog Try.f5 Rows.mootClosesRow.domain false) (Rows.mootClosesSpec.post enc Try.prog Try.f5 false true false false) := by
  refine returnsInHanded_of_change_sized (C := Try.checked) own started (by kernel_rfl) Try.func5
    (ChangeSpec.witness6 (enc := enc) (C := Try.checked) false ⟨#[], #[.agg #[.int .u64 0, .int .u64 0, .int .u64 0, .int .u64 0, .int .u64 0, .int .u64 0, .int .u64 0, .int .u64 0, .int .u64 0, .int .u64 0, .int .u64 0, .int .u64 0, .int .u64 0, .int .u64 0, .int .i64 0, .int .i64 0, .int .i64 0, .int .i64 0, .int .i64 0, .int .i64 0, .int .i64 0, .int .i64 0, .int .i64 0, .int .i64 0], .agg #[.slice none 0 0, .slice none 0 0], .agg #[.int .i64 0, .int .i64 0, .int .i64 0, .bool false, .bool false]], []⟩ 8 (by kernel_rfl) (by kernel_rfl) (by kernel_rfl) (by kernel_rfl)) ?_
  intro W base args ds gs before hval0 hW hcnd hsz0 _
  have hval : ∀ (j : Nat) t v, Try.f5.params[j]? = some t → args[j]? = some v → Value.okWide Try.prog W .any base t v := hval0
  have hW' := hW
  obtain ⟨p, q, hA0, hV, rfl, hfz, hnd⟩ := hW
  have hlt : ∀ x ∈ p ++ q, x.block < W.heap.size := fun x hx => hW'.lt x hx
  have hA : DataW.TrodAll enc Try.prog W 0 (fun _ => true) true Try.f5.params.toList args.toList ds p := hA0
  rw [Try.params5] at hA hval
  have hlight : ∀ (j : Nat) t (d : DataW H), (Try.f5.params.toList ++ Rows.mootClosesSpec.plain.varTypes Try.prog)[j]? = some t → (ds ++ gs)[j]? = some d → ∀ k ∈ d.weights Try.prog t, k ≤ reachBytes := fun j t d ht hd k hk => by simpa using List.all_eq_true.1 hsz0 _ (DataW.weights_mem_each ht hd k hk)
  rw [Try.params5] at hlight
  obtain ⟨v0, vs0, d0, ds0, p0, q0, hargs, rfl, rfl, h0, r0⟩ := trodAll_cons hA
  obtain ⟨v1, vs1, d1, ds1, p1, q1, rfl, rfl, rfl, h1, r1⟩ := trodAll_cons r0
  obtain ⟨v2, vs2, d2, ds2, p2, q2, rfl, rfl, rfl, h2, r2⟩ := trodAll_cons r1
  obtain ⟨rfl, rfl, rfl⟩ := trodAll_nil r2
  obtain rfl : args = #[v0, v1, v2] := by cases args; simp_all
  obtain ⟨rfl, rfl⟩ := trodVars_none hV
  obtain ⟨a0, rfl, f0⟩ := open_par (hval 0 37 v0 rfl rfl) h0
  obtain ⟨a1, rfl, f1⟩ := open_hl (hval 1 62 v1 rfl rfl) h1 (hlight 1 _ _ rfl rfl)
  obtain ⟨a2, rfl, f2⟩ := open_wy (hval 2 24 v2 rfl rfl) h2
  clear hA0 hval0
  refine (walk a0 a1 a2 W f0 f1 f2).mono fun e W' ⟨he, hg⟩ => ?_
  subst he
  exact ⟨_, rfl, law_post laidOut (by kernel_rfl) rfl rfl Try.underlying4 rfl hW' hg⟩

theorem over : Rows.mootClosesRow.holds Try.pinned (OpenSpec.ofChange Rows.mootClosesSpec) :=
  OpenClaim.holds_of_wide 5 Try.f5 rfl rfl rfl rfl rfl rfl rfl ⟨rfl, rfl, rfl, rfl, rfl⟩ rfl rfl rfl rfl rfl (by kernel_rfl) Try.func5 (by kernel_rfl)
    (of_decide_eq_true (by kernel_rfl)) (by unfold Func.isWrapper; first | (rw [if_pos (by decide +kernel)]; kernel_rfl) | (rw [if_neg (by decide +kernel)]; exact ⟨rfl, rfl⟩))
    (fun os started H enc _ => lifted os started H enc)

/-- The statement. -/
theorem proved : Rows.MootClosesSaid := over
#print axioms proved

end Go.Proofs.Ytcaejanfhchacaa.MootCloses
