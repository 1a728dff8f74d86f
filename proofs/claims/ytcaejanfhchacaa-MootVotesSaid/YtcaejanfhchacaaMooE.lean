/- Layer 23 (moot): a vote, and what is over: each outcome. By contracts. -/
import Derived.Test.YtcaejanfhchacaaMooD
namespace Go.Proofs.Ytcaejanfhchacaa
open Go.RowKit Go.Shelf
set_option linter.unusedVariables false
set_option linter.unusedSimpArgs false

set_option maxRecDepth 100000 in
set_option maxHeartbeats 1000000 in
theorem vote_none (l : List Mot) (A : Option Addr) (c : Nat) (i k : Int) (y : Bool) (w : World) (hm : Mots w A c l) (hl : l.length ≤ 100000) (h : motAt l i = none) :
    Calls Try.prog 9 #[.slice A l.length c, .int .i64 i, .int .i64 k, .bool y] w fun e w' => MotsOf w ([], 230) e w' := by
  skip
  have KA := Lib.hid (fun (W : World) (hB : Below w.heap.size w W) => at_no l A c i 1 232 W (by omega) h)
  clear hm
  go_enter Try.func9, Try.ntmps9
  go_upto_region 1 with fail
  generalize hw0 : World.alloc (World.alloc _ _) _ = w0
  have hB : Below w.heap.size w w0 := by rw [← hw0]; exact ((Below.refl _ _).alloc (Nat.le_refl _) _).alloc (by simp) _
  have H6 : RecAt w0 w.heap.size #[.int .i64 k] 3 := by rw [← hw0]; exact (RecAt.new w #[.int .i64 k] 3).up ((Below.refl _ _).alloc (Nat.le_refl _) _)
  have H7 : RecAt w0 (w.heap.size + 1) #[.bool y] 4 := by
    rw [← hw0]
    have := RecAt.new (w.alloc (.cells #[.int .i64 k] 3)) #[.bool y] 4
    rw [World.size_alloc] at this
    exact this
  clear hw0
  go_wp2_with (first
    | (go_at_call 29; refine (KA.out w0 hB).mono ?_; clear KA; rintro e w1 ⟨rfl, hb⟩; have H6 := H6.up hb; have H7 := H7.up hb; have hB := Below.then hB hb; clear hb)
    | (refine store_rec 40 _ _ rfl rfl _ (Rec.vals Mot.zero) (Rec.vals Mot.zero) 40 rfl rfl (RecAt.new _ (Rec.vals Mot.zero) _) size_mot rfl (Rec.one Mot.zero) ?_; intro w2 hS hb hsz hkp; clear hsz hkp; have hb := rec_made (Below.refl _ _) hb; have H6 := H6.up hb; have H7 := H7.up hb; have hB := Below.then hB hb; clear hb))
  go_ret2
  exact ⟨[], _, _, by first | rfl | simp, rfl, Mots.nil _, hB⟩

set_option maxRecDepth 100000 in
set_option maxHeartbeats 1000000 in
theorem vote_shut (l : List Mot) (A : Option Addr) (c : Nat) (i k : Int) (y : Bool) (w : World) (hm : Mots w A c l) (hl : l.length ≤ 100000) (j : Nat) (m : Mot) (hi : i = (j : Int)) (h : l[j]? = some m) (h1 : ¬ m.st = 1) :
    Calls Try.prog 9 #[.slice A l.length c, .int .i64 i, .int .i64 k, .bool y] w fun e w' => MotsOf w ([], 232) e w' := by
  subst hi
  have KA := Lib.hid (fun (W : World) (hB : Below w.heap.size w W) => at_other l A c j m 1 232 W (hm.up hB) (by omega) h h1)
  clear hm
  go_enter Try.func9, Try.ntmps9
  go_upto_region 1 with fail
  generalize hw0 : World.alloc (World.alloc _ _) _ = w0
  have hB : Below w.heap.size w w0 := by rw [← hw0]; exact ((Below.refl _ _).alloc (Nat.le_refl _) _).alloc (by simp) _
  have H6 : RecAt w0 w.heap.size #[.int .i64 k] 3 := by rw [← hw0]; exact (RecAt.new w #[.int .i64 k] 3).up ((Below.refl _ _).alloc (Nat.le_refl _) _)
  have H7 : RecAt w0 (w.heap.size + 1) #[.bool y] 4 := by
    rw [← hw0]
    have := RecAt.new (w.alloc (.cells #[.int .i64 k] 3)) #[.bool y] 4
    rw [World.size_alloc] at this
    exact this
  clear hw0
  go_wp2_with (first
    | (go_at_call 29; refine (KA.out w0 hB).mono ?_; clear KA; rintro e w1 ⟨rfl, hb⟩; have H6 := H6.up hb; have H7 := H7.up hb; have hB := Below.then hB hb; clear hb)
    | (refine store_rec 40 _ _ rfl rfl _ (Rec.vals Mot.zero) (Rec.vals Mot.zero) 40 rfl rfl (RecAt.new _ (Rec.vals Mot.zero) _) size_mot rfl (Rec.one Mot.zero) ?_; intro w2 hS hb hsz hkp; clear hsz hkp; have hb := rec_made (Below.refl _ _) hb; have H6 := H6.up hb; have H7 := H7.up hb; have hB := Below.then hB hb; clear hb))
  go_ret2
  exact ⟨[], _, _, by first | rfl | simp, rfl, Mots.nil _, hB⟩

set_option maxRecDepth 100000 in
set_option maxHeartbeats 2000000 in
theorem vote_far (l : List Mot) (A : Option Addr) (c j : Nat) (k : Int) (y : Bool) (m : Mot) (w : World) (hm : Mots w A c l) (hl : l.length ≤ 100000) (h : l[j]? = some m) (h1 : m.st = 1) (h2 : ¬ (0 ≤ k ∧ k ≤ 127)) :
    Calls Try.prog 9 #[.slice A l.length c, .int .i64 (j : Int), .int .i64 k, .bool y] w fun e w' => MotsOf w ([], 2) e w' := by
  have KA := Lib.hid (fun (W : World) (hB : Below w.heap.size w W) => (by have := at_ok l A c j m 232 W (hm.up hB) (by omega) h; rw [h1] at this; exact this : Calls Try.prog 29 #[.slice A l.length c, .int .i64 (j : Int), .int .i64 1, .int .i64 232] W fun e w' => e = .returned (.tuple #[.agg (Rec.vals m), .int .i64 0]) ∧ Below W.heap.size W w'))
  have HM := Lib.hid (hm.each m (List.mem_of_getElem? h))
  have HMS := Lib.hid hm
  have H := Lib.hid h
  have kw := fun W => mwithin_is k 0 127 W
  rw [inB_no h2] at kw
  clear hm h h1
  go_enter Try.func9, Try.ntmps9
  go_upto_region 1 with fail
  generalize hw0 : World.alloc (World.alloc _ _) _ = w0
  have hB : Below w.heap.size w w0 := by rw [← hw0]; exact ((Below.refl _ _).alloc (Nat.le_refl _) _).alloc (by simp) _
  have H6 : RecAt w0 w.heap.size #[.int .i64 k] 3 := by rw [← hw0]; exact (RecAt.new w #[.int .i64 k] 3).up ((Below.refl _ _).alloc (Nat.le_refl _) _)
  have H7 : RecAt w0 (w.heap.size + 1) #[.bool y] 4 := by
    rw [← hw0]
    have := RecAt.new (w.alloc (.cells #[.int .i64 k] 3)) #[.bool y] 4
    rw [World.size_alloc] at this
    exact this
  clear hw0
  go_wp2_with (first
    | (go_at_call 29; refine (KA.out w0 hB).mono ?_; clear KA; rintro e w1 ⟨rfl, hb⟩; have H6 := H6.up hb; have H7 := H7.up hb; have hB := Below.then hB hb; clear hb)
    | (refine store_rec 40 _ _ rfl rfl _ (Rec.vals m) (Rec.vals Mot.zero) 40 rfl rfl (RecAt.new _ (Rec.vals Mot.zero) _) size_mot rfl (Rec.one m) ?_; intro w2 hS hb hsz hkp; clear hsz hkp; have hb := rec_made (Below.refl _ _) hb; have H6 := H6.up hb; have H7 := H7.up hb; have hB := Below.then hB hb; clear hb; have c6 : w2.cell? ⟨w.heap.size, 0, none⟩ = some (.int .i64 k) := H6.cell 0; have c7 : w2.cell? ⟨w.heap.size + 1, 0, none⟩ = some (.bool y) := H7.cell 0; have c8 : w2.cell? ⟨w1.heap.size, 31, none⟩ = some (.slice m.yes.row m.yes.bs.length m.yes.cap) := hS.cell 31; have c9 : w2.cell? ⟨w1.heap.size, 32, none⟩ = some (.slice m.no.row m.no.bs.length m.no.cap) := hS.cell 32)
    | (go_at_call 30; refine (kw _).mono ?_; clear kw; rintro e w' ⟨rfl, rfl⟩)
    )
  go_ret2
  exact ⟨[], _, _, by first | rfl | simp, rfl, Mots.nil _, hB⟩

set_option maxRecDepth 100000 in
set_option maxHeartbeats 2000000 in
theorem vote_yesless (l : List Mot) (A : Option Addr) (c j : Nat) (mb : Nat) (y : Bool) (m : Mot) (w : World) (hm : Mots w A c l) (hl : l.length ≤ 100000) (h : l[j]? = some m) (h1 : m.st = 1) (h2 : mb ≤ 127) (h3 : ¬ mb / 8 < m.yes.bs.length) :
    Calls Try.prog 9 #[.slice A l.length c, .int .i64 (j : Int), .int .i64 (mb : Int), .bool y] w fun e w' => MotsOf w ([], 2) e w' := by
  have KA := Lib.hid (fun (W : World) (hB : Below w.heap.size w W) => (by have := at_ok l A c j m 232 W (hm.up hB) (by omega) h; rw [h1] at this; exact this : Calls Try.prog 29 #[.slice A l.length c, .int .i64 (j : Int), .int .i64 1, .int .i64 232] W fun e w' => e = .returned (.tuple #[.agg (Rec.vals m), .int .i64 0]) ∧ Below W.heap.size W w'))
  have HM := Lib.hid (hm.each m (List.mem_of_getElem? h))
  have HMS := Lib.hid hm
  have H := Lib.hid h
  have kw := fun W => mwithin_is (mb : Int) 0 127 W
  rw [inB_yes (by omega)] at kw
  have ky := fun W => mhas_is m.yes.bs m.yes.row m.yes.cap mb W (by omega) (by have := HM.out.yes.sl.fit; omega)
  rw [decide_eq_false h3] at ky
  clear hm h h1
  go_enter Try.func9, Try.ntmps9
  go_upto_region 1 with fail
  generalize hw0 : World.alloc (World.alloc _ _) _ = w0
  have hB : Below w.heap.size w w0 := by rw [← hw0]; exact ((Below.refl _ _).alloc (Nat.le_refl _) _).alloc (by simp) _
  have H6 : RecAt w0 w.heap.size #[.int .i64 (mb : Int)] 3 := by rw [← hw0]; exact (RecAt.new w #[.int .i64 (mb : Int)] 3).up ((Below.refl _ _).alloc (Nat.le_refl _) _)
  have H7 : RecAt w0 (w.heap.size + 1) #[.bool y] 4 := by
    rw [← hw0]
    have := RecAt.new (w.alloc (.cells #[.int .i64 (mb : Int)] 3)) #[.bool y] 4
    rw [World.size_alloc] at this
    exact this
  clear hw0
  go_wp2_with (first
    | (go_at_call 29; refine (KA.out w0 hB).mono ?_; clear KA; rintro e w1 ⟨rfl, hb⟩; have H6 := H6.up hb; have H7 := H7.up hb; have hB := Below.then hB hb; clear hb)
    | (refine store_rec 40 _ _ rfl rfl _ (Rec.vals m) (Rec.vals Mot.zero) 40 rfl rfl (RecAt.new _ (Rec.vals Mot.zero) _) size_mot rfl (Rec.one m) ?_; intro w2 hS hb hsz hkp; clear hsz hkp; have hb := rec_made (Below.refl _ _) hb; have H6 := H6.up hb; have H7 := H7.up hb; have hB := Below.then hB hb; clear hb; have c6 : w2.cell? ⟨w.heap.size, 0, none⟩ = some (.int .i64 (mb : Int)) := H6.cell 0; have c7 : w2.cell? ⟨w.heap.size + 1, 0, none⟩ = some (.bool y) := H7.cell 0; have c8 : w2.cell? ⟨w1.heap.size, 31, none⟩ = some (.slice m.yes.row m.yes.bs.length m.yes.cap) := hS.cell 31; have c9 : w2.cell? ⟨w1.heap.size, 32, none⟩ = some (.slice m.no.row m.no.bs.length m.no.cap) := hS.cell 32)
    | (go_at_call 30; refine (kw _).mono ?_; clear kw; rintro e w' ⟨rfl, rfl⟩)
    | (go_at_call 31; refine (ky _).mono ?_; clear ky; rintro e w' ⟨rfl, rfl⟩)
    )
  go_ret2
  exact ⟨[], _, _, by first | rfl | simp, rfl, Mots.nil _, hB⟩

set_option maxRecDepth 100000 in
set_option maxHeartbeats 2000000 in
theorem vote_noless (l : List Mot) (A : Option Addr) (c j : Nat) (mb : Nat) (y : Bool) (m : Mot) (w : World) (hm : Mots w A c l) (hl : l.length ≤ 100000) (h : l[j]? = some m) (h1 : m.st = 1) (h2 : mb ≤ 127) (h3 : mb / 8 < m.yes.bs.length) (h4 : ¬ mb / 8 < m.no.bs.length) :
    Calls Try.prog 9 #[.slice A l.length c, .int .i64 (j : Int), .int .i64 (mb : Int), .bool y] w fun e w' => MotsOf w ([], 2) e w' := by
  have KA := Lib.hid (fun (W : World) (hB : Below w.heap.size w W) => (by have := at_ok l A c j m 232 W (hm.up hB) (by omega) h; rw [h1] at this; exact this : Calls Try.prog 29 #[.slice A l.length c, .int .i64 (j : Int), .int .i64 1, .int .i64 232] W fun e w' => e = .returned (.tuple #[.agg (Rec.vals m), .int .i64 0]) ∧ Below W.heap.size W w'))
  have HM := Lib.hid (hm.each m (List.mem_of_getElem? h))
  have HMS := Lib.hid hm
  have H := Lib.hid h
  have kw := fun W => mwithin_is (mb : Int) 0 127 W
  rw [inB_yes (by omega)] at kw
  have ky := fun W => mhas_is m.yes.bs m.yes.row m.yes.cap mb W (by omega) (by have := HM.out.yes.sl.fit; omega)
  rw [decide_eq_true h3] at ky
  have kn := fun W => mhas_is m.no.bs m.no.row m.no.cap mb W (by omega) (by have := HM.out.no.sl.fit; omega)
  rw [decide_eq_false h4] at kn
  clear hm h h1
  go_enter Try.func9, Try.ntmps9
  go_upto_region 1 with fail
  generalize hw0 : World.alloc (World.alloc _ _) _ = w0
  have hB : Below w.heap.size w w0 := by rw [← hw0]; exact ((Below.refl _ _).alloc (Nat.le_refl _) _).alloc (by simp) _
  have H6 : RecAt w0 w.heap.size #[.int .i64 (mb : Int)] 3 := by rw [← hw0]; exact (RecAt.new w #[.int .i64 (mb : Int)] 3).up ((Below.refl _ _).alloc (Nat.le_refl _) _)
  have H7 : RecAt w0 (w.heap.size + 1) #[.bool y] 4 := by
    rw [← hw0]
    have := RecAt.new (w.alloc (.cells #[.int .i64 (mb : Int)] 3)) #[.bool y] 4
    rw [World.size_alloc] at this
    exact this
  clear hw0
  go_wp2_with (first
    | (go_at_call 29; refine (KA.out w0 hB).mono ?_; clear KA; rintro e w1 ⟨rfl, hb⟩; have H6 := H6.up hb; have H7 := H7.up hb; have hB := Below.then hB hb; clear hb)
    | (refine store_rec 40 _ _ rfl rfl _ (Rec.vals m) (Rec.vals Mot.zero) 40 rfl rfl (RecAt.new _ (Rec.vals Mot.zero) _) size_mot rfl (Rec.one m) ?_; intro w2 hS hb hsz hkp; clear hsz hkp; have hb := rec_made (Below.refl _ _) hb; have H6 := H6.up hb; have H7 := H7.up hb; have hB := Below.then hB hb; clear hb; have c6 : w2.cell? ⟨w.heap.size, 0, none⟩ = some (.int .i64 (mb : Int)) := H6.cell 0; have c7 : w2.cell? ⟨w.heap.size + 1, 0, none⟩ = some (.bool y) := H7.cell 0; have c8 : w2.cell? ⟨w1.heap.size, 31, none⟩ = some (.slice m.yes.row m.yes.bs.length m.yes.cap) := hS.cell 31; have c9 : w2.cell? ⟨w1.heap.size, 32, none⟩ = some (.slice m.no.row m.no.bs.length m.no.cap) := hS.cell 32)
    | (go_at_call 30; refine (kw _).mono ?_; clear kw; rintro e w' ⟨rfl, rfl⟩)
    | (go_at_call 31; refine (ky _).mono ?_; clear ky; rintro e w' ⟨rfl, rfl⟩)
    | (go_at_call 31; refine (kn _).mono ?_; clear kn; rintro e w' ⟨rfl, rfl⟩)
    )
  go_ret2
  exact ⟨[], _, _, by first | rfl | simp, rfl, Mots.nil _, hB⟩

set_option maxRecDepth 100000 in
set_option maxHeartbeats 2000000 in
theorem vote_yestwice (l : List Mot) (A : Option Addr) (c j : Nat) (mb : Nat) (y : Bool) (m : Mot) (w : World) (hm : Mots w A c l) (hl : l.length ≤ 100000) (h : l[j]? = some m) (h1 : m.st = 1) (h2 : mb ≤ 127) (h3 : mb / 8 < m.yes.bs.length) (h4 : mb / 8 < m.no.bs.length) (h5 : bitAt m.yes.bs mb = true) :
    Calls Try.prog 9 #[.slice A l.length c, .int .i64 (j : Int), .int .i64 (mb : Int), .bool y] w fun e w' => MotsOf w ([], 231) e w' := by
  have KA := Lib.hid (fun (W : World) (hB : Below w.heap.size w W) => (by have := at_ok l A c j m 232 W (hm.up hB) (by omega) h; rw [h1] at this; exact this : Calls Try.prog 29 #[.slice A l.length c, .int .i64 (j : Int), .int .i64 1, .int .i64 232] W fun e w' => e = .returned (.tuple #[.agg (Rec.vals m), .int .i64 0]) ∧ Below W.heap.size W w'))
  have HM := Lib.hid (hm.each m (List.mem_of_getElem? h))
  have HMS := Lib.hid hm
  have H := Lib.hid h
  have kw := fun W => mwithin_is (mb : Int) 0 127 W
  rw [inB_yes (by omega)] at kw
  have ky := fun W => mhas_is m.yes.bs m.yes.row m.yes.cap mb W (by omega) (by have := HM.out.yes.sl.fit; omega)
  rw [decide_eq_true h3] at ky
  have kn := fun W => mhas_is m.no.bs m.no.row m.no.cap mb W (by omega) (by have := HM.out.no.sl.fit; omega)
  rw [decide_eq_true h4] at kn
  have gy := fun (W : World) (hb : BvAt W m.yes) => get_ok m.yes.bs _ m.yes.row m.yes.cap (mb : Int) W (Lies.ofRow hb.sl.row) hb.all (by omega)
  rw [bitI_nat, h5] at gy
  have GY := Lib.hid gy
  clear gy
  clear hm h h1
  go_enter Try.func9, Try.ntmps9
  go_upto_region 1 with fail
  generalize hw0 : World.alloc (World.alloc _ _) _ = w0
  have hB : Below w.heap.size w w0 := by rw [← hw0]; exact ((Below.refl _ _).alloc (Nat.le_refl _) _).alloc (by simp) _
  have H6 : RecAt w0 w.heap.size #[.int .i64 (mb : Int)] 3 := by rw [← hw0]; exact (RecAt.new w #[.int .i64 (mb : Int)] 3).up ((Below.refl _ _).alloc (Nat.le_refl _) _)
  have H7 : RecAt w0 (w.heap.size + 1) #[.bool y] 4 := by
    rw [← hw0]
    have := RecAt.new (w.alloc (.cells #[.int .i64 (mb : Int)] 3)) #[.bool y] 4
    rw [World.size_alloc] at this
    exact this
  clear hw0
  go_wp2_with (first
    | (go_at_call 29; refine (KA.out w0 hB).mono ?_; clear KA; rintro e w1 ⟨rfl, hb⟩; have H6 := H6.up hb; have H7 := H7.up hb; have hB := Below.then hB hb; clear hb)
    | (refine store_rec 40 _ _ rfl rfl _ (Rec.vals m) (Rec.vals Mot.zero) 40 rfl rfl (RecAt.new _ (Rec.vals Mot.zero) _) size_mot rfl (Rec.one m) ?_; intro w2 hS hb hsz hkp; clear hsz hkp; have hb := rec_made (Below.refl _ _) hb; have H6 := H6.up hb; have H7 := H7.up hb; have hB := Below.then hB hb; clear hb; have c6 : w2.cell? ⟨w.heap.size, 0, none⟩ = some (.int .i64 (mb : Int)) := H6.cell 0; have c7 : w2.cell? ⟨w.heap.size + 1, 0, none⟩ = some (.bool y) := H7.cell 0; have c8 : w2.cell? ⟨w1.heap.size, 31, none⟩ = some (.slice m.yes.row m.yes.bs.length m.yes.cap) := hS.cell 31; have c9 : w2.cell? ⟨w1.heap.size, 32, none⟩ = some (.slice m.no.row m.no.bs.length m.no.cap) := hS.cell 32)
    | (go_at_call 30; refine (kw _).mono ?_; clear kw; rintro e w' ⟨rfl, rfl⟩)
    | (go_at_call 31; refine (ky _).mono ?_; clear ky; rintro e w' ⟨rfl, rfl⟩)
    | (go_at_call 31; refine (kn _).mono ?_; clear kn; rintro e w' ⟨rfl, rfl⟩)
    | (go_at_call 32; refine (GY.out _ (HM.out.yes.up hB)).mono ?_; clear GY; rintro e w3 ⟨rfl, hq⟩; have hb := get_below hq; clear hq; have H6 := H6.up hb; have H7 := H7.up hb; have hS := hS.up hb; have hB := Below.then hB hb; clear hb c6 c7 c8 c9; have c6 : w3.cell? ⟨w.heap.size, 0, none⟩ = some (.int .i64 (mb : Int)) := H6.cell 0; have c7 : w3.cell? ⟨w.heap.size + 1, 0, none⟩ = some (.bool y) := H7.cell 0; have c8 : w3.cell? ⟨w1.heap.size, 31, none⟩ = some (.slice m.yes.row m.yes.bs.length m.yes.cap) := hS.cell 31; have c9 : w3.cell? ⟨w1.heap.size, 32, none⟩ = some (.slice m.no.row m.no.bs.length m.no.cap) := hS.cell 32)
    )
  go_ret2
  exact ⟨[], _, _, by first | rfl | simp, rfl, Mots.nil _, hB⟩

set_option maxRecDepth 100000 in
set_option maxHeartbeats 2000000 in
theorem vote_notwice (l : List Mot) (A : Option Addr) (c j : Nat) (mb : Nat) (y : Bool) (m : Mot) (w : World) (hm : Mots w A c l) (hl : l.length ≤ 100000) (h : l[j]? = some m) (h1 : m.st = 1) (h2 : mb ≤ 127) (h3 : mb / 8 < m.yes.bs.length) (h4 : mb / 8 < m.no.bs.length) (h5 : bitAt m.yes.bs mb = false) (h6 : bitAt m.no.bs mb = true) :
    Calls Try.prog 9 #[.slice A l.length c, .int .i64 (j : Int), .int .i64 (mb : Int), .bool y] w fun e w' => MotsOf w ([], 231) e w' := by
  have KA := Lib.hid (fun (W : World) (hB : Below w.heap.size w W) => (by have := at_ok l A c j m 232 W (hm.up hB) (by omega) h; rw [h1] at this; exact this : Calls Try.prog 29 #[.slice A l.length c, .int .i64 (j : Int), .int .i64 1, .int .i64 232] W fun e w' => e = .returned (.tuple #[.agg (Rec.vals m), .int .i64 0]) ∧ Below W.heap.size W w'))
  have HM := Lib.hid (hm.each m (List.mem_of_getElem? h))
  have HMS := Lib.hid hm
  have H := Lib.hid h
  have kw := fun W => mwithin_is (mb : Int) 0 127 W
  rw [inB_yes (by omega)] at kw
  have ky := fun W => mhas_is m.yes.bs m.yes.row m.yes.cap mb W (by omega) (by have := HM.out.yes.sl.fit; omega)
  rw [decide_eq_true h3] at ky
  have kn := fun W => mhas_is m.no.bs m.no.row m.no.cap mb W (by omega) (by have := HM.out.no.sl.fit; omega)
  rw [decide_eq_true h4] at kn
  have gy := fun (W : World) (hb : BvAt W m.yes) => get_ok m.yes.bs _ m.yes.row m.yes.cap (mb : Int) W (Lies.ofRow hb.sl.row) hb.all (by omega)
  rw [bitI_nat, h5] at gy
  have GY := Lib.hid gy
  clear gy
  have gn := fun (W : World) (hb : BvAt W m.no) => get_ok m.no.bs _ m.no.row m.no.cap (mb : Int) W (Lies.ofRow hb.sl.row) hb.all (by omega)
  rw [bitI_nat, h6] at gn
  have GN := Lib.hid gn
  clear gn
  clear hm h h1
  go_enter Try.func9, Try.ntmps9
  go_upto_region 1 with fail
  generalize hw0 : World.alloc (World.alloc _ _) _ = w0
  have hB : Below w.heap.size w w0 := by rw [← hw0]; exact ((Below.refl _ _).alloc (Nat.le_refl _) _).alloc (by simp) _
  have H6 : RecAt w0 w.heap.size #[.int .i64 (mb : Int)] 3 := by rw [← hw0]; exact (RecAt.new w #[.int .i64 (mb : Int)] 3).up ((Below.refl _ _).alloc (Nat.le_refl _) _)
  have H7 : RecAt w0 (w.heap.size + 1) #[.bool y] 4 := by
    rw [← hw0]
    have := RecAt.new (w.alloc (.cells #[.int .i64 (mb : Int)] 3)) #[.bool y] 4
    rw [World.size_alloc] at this
    exact this
  clear hw0
  go_wp2_with (first
    | (go_at_call 29; refine (KA.out w0 hB).mono ?_; clear KA; rintro e w1 ⟨rfl, hb⟩; have H6 := H6.up hb; have H7 := H7.up hb; have hB := Below.then hB hb; clear hb)
    | (refine store_rec 40 _ _ rfl rfl _ (Rec.vals m) (Rec.vals Mot.zero) 40 rfl rfl (RecAt.new _ (Rec.vals Mot.zero) _) size_mot rfl (Rec.one m) ?_; intro w2 hS hb hsz hkp; clear hsz hkp; have hb := rec_made (Below.refl _ _) hb; have H6 := H6.up hb; have H7 := H7.up hb; have hB := Below.then hB hb; clear hb; have c6 : w2.cell? ⟨w.heap.size, 0, none⟩ = some (.int .i64 (mb : Int)) := H6.cell 0; have c7 : w2.cell? ⟨w.heap.size + 1, 0, none⟩ = some (.bool y) := H7.cell 0; have c8 : w2.cell? ⟨w1.heap.size, 31, none⟩ = some (.slice m.yes.row m.yes.bs.length m.yes.cap) := hS.cell 31; have c9 : w2.cell? ⟨w1.heap.size, 32, none⟩ = some (.slice m.no.row m.no.bs.length m.no.cap) := hS.cell 32)
    | (go_at_call 30; refine (kw _).mono ?_; clear kw; rintro e w' ⟨rfl, rfl⟩)
    | (go_at_call 31; refine (ky _).mono ?_; clear ky; rintro e w' ⟨rfl, rfl⟩)
    | (go_at_call 31; refine (kn _).mono ?_; clear kn; rintro e w' ⟨rfl, rfl⟩)
    | (go_at_call 32; refine (GY.out _ (HM.out.yes.up hB)).mono ?_; clear GY; rintro e w3 ⟨rfl, hq⟩; have hb := get_below hq; clear hq; have H6 := H6.up hb; have H7 := H7.up hb; have hS := hS.up hb; have hB := Below.then hB hb; clear hb c6 c7 c8 c9; have c6 : w3.cell? ⟨w.heap.size, 0, none⟩ = some (.int .i64 (mb : Int)) := H6.cell 0; have c7 : w3.cell? ⟨w.heap.size + 1, 0, none⟩ = some (.bool y) := H7.cell 0; have c8 : w3.cell? ⟨w1.heap.size, 31, none⟩ = some (.slice m.yes.row m.yes.bs.length m.yes.cap) := hS.cell 31; have c9 : w3.cell? ⟨w1.heap.size, 32, none⟩ = some (.slice m.no.row m.no.bs.length m.no.cap) := hS.cell 32)
    | (go_at_call 32; refine (GN.out _ (HM.out.no.up hB)).mono ?_; clear GN; rintro e w4 ⟨rfl, hq⟩; have hb := get_below hq; clear hq; have H6 := H6.up hb; have H7 := H7.up hb; have hS := hS.up hb; have hB := Below.then hB hb; clear hb c6 c7 c8 c9; have c6 : w4.cell? ⟨w.heap.size, 0, none⟩ = some (.int .i64 (mb : Int)) := H6.cell 0; have c7 : w4.cell? ⟨w.heap.size + 1, 0, none⟩ = some (.bool y) := H7.cell 0; have c8 : w4.cell? ⟨w1.heap.size, 31, none⟩ = some (.slice m.yes.row m.yes.bs.length m.yes.cap) := hS.cell 31; have c9 : w4.cell? ⟨w1.heap.size, 32, none⟩ = some (.slice m.no.row m.no.bs.length m.no.cap) := hS.cell 32)
    )
  go_ret2
  exact ⟨[], _, _, by first | rfl | simp, rfl, Mots.nil _, hB⟩

set_option maxRecDepth 100000 in
set_option maxHeartbeats 2000000 in
theorem vote_good (l : List Mot) (A : Option Addr) (c j : Nat) (mb : Nat) (y : Bool) (m : Mot) (w : World) (hm : Mots w A c l) (hl : l.length ≤ 100000) (h : l[j]? = some m) (h1 : m.st = 1) (h2 : mb ≤ 127) (h3 : mb / 8 < m.yes.bs.length) (h4 : mb / 8 < m.no.bs.length) (h5 : bitAt m.yes.bs mb = false) (h6 : bitAt m.no.bs mb = false) :
    Calls Try.prog 9 #[.slice A l.length c, .int .i64 (j : Int), .int .i64 (mb : Int), .bool y] w fun e w' => MotsOf w ((l.map Mot.pure).set j (m.pure.voted mb y), 0) e w' := by
  have KA := Lib.hid (fun (W : World) (hB : Below w.heap.size w W) => (by have := at_ok l A c j m 232 W (hm.up hB) (by omega) h; rw [h1] at this; exact this : Calls Try.prog 29 #[.slice A l.length c, .int .i64 (j : Int), .int .i64 1, .int .i64 232] W fun e w' => e = .returned (.tuple #[.agg (Rec.vals m), .int .i64 0]) ∧ Below W.heap.size W w'))
  have HM := Lib.hid (hm.each m (List.mem_of_getElem? h))
  have HMS := Lib.hid hm
  have H := Lib.hid h
  have kw := fun W => mwithin_is (mb : Int) 0 127 W
  rw [inB_yes (by omega)] at kw
  have ky := fun W => mhas_is m.yes.bs m.yes.row m.yes.cap mb W (by omega) (by have := HM.out.yes.sl.fit; omega)
  rw [decide_eq_true h3] at ky
  have kn := fun W => mhas_is m.no.bs m.no.row m.no.cap mb W (by omega) (by have := HM.out.no.sl.fit; omega)
  rw [decide_eq_true h4] at kn
  have gy := fun (W : World) (hb : BvAt W m.yes) => get_ok m.yes.bs _ m.yes.row m.yes.cap (mb : Int) W (Lies.ofRow hb.sl.row) hb.all (by omega)
  rw [bitI_nat, h5] at gy
  have GY := Lib.hid gy
  clear gy
  have gn := fun (W : World) (hb : BvAt W m.no) => get_ok m.no.bs _ m.no.row m.no.cap (mb : Int) W (Lies.ofRow hb.sl.row) hb.all (by omega)
  rw [bitI_nat, h6] at gn
  have GN := Lib.hid gn
  clear gn
  have e34 := enters_of (P := Try.prog) Try.func34 (by kernel_rfl) rfl
  have hpj : (l.map Mot.pure)[j]? = some m.pure := by rw [List.getElem?_map, h]; rfl
  have ko : ∀ (b1 b2 : Nat) (W : World), Below w.heap.size w W → W.cell? ⟨b1, 0, none⟩ = some (.bool y) → W.cell? ⟨b2, 0, none⟩ = some (.int .i64 (mb : Int)) → Calls Try.prog 33 #[.slice A l.length c, .int .i64 (j : Int), .func (.func 34) #[] #[.pointer (some ⟨b1, 0, none⟩), .pointer (some ⟨b2, 0, none⟩)]] W fun e w' => JustMots W ((l.map Mot.pure).set j (m.pure.voted mb y)) e w' := by
    intro b1 b2 W hB g1 g2
    have := one_is _ #[.pointer (some ⟨b1, 0, none⟩), .pointer (some ⟨b2, 0, none⟩)] e34 (fun q => q.voted mb y) (j : Int) l A c W (hm.up hB) hl (fun j' q hj hq => by
      obtain rfl : j' = j := by omega
      rw [hpj] at hq
      cases hq
      cases y
      · exact vote1_no b1 b2 mb m.pure W g1 g2 h2 h4
      · exact vote1_yes b1 b2 mb m.pure W g1 g2 h2 h3)
    rw [mapIdx_one hpj] at this
    exact this
  have KO := Lib.hid ko
  clear ko e34 hpj
  clear hm h h1
  go_enter Try.func9, Try.ntmps9
  go_upto_region 1 with fail
  generalize hw0 : World.alloc (World.alloc _ _) _ = w0
  have hB : Below w.heap.size w w0 := by rw [← hw0]; exact ((Below.refl _ _).alloc (Nat.le_refl _) _).alloc (by simp) _
  have H6 : RecAt w0 w.heap.size #[.int .i64 (mb : Int)] 3 := by rw [← hw0]; exact (RecAt.new w #[.int .i64 (mb : Int)] 3).up ((Below.refl _ _).alloc (Nat.le_refl _) _)
  have H7 : RecAt w0 (w.heap.size + 1) #[.bool y] 4 := by
    rw [← hw0]
    have := RecAt.new (w.alloc (.cells #[.int .i64 (mb : Int)] 3)) #[.bool y] 4
    rw [World.size_alloc] at this
    exact this
  clear hw0
  go_wp2_with (first
    | (go_at_call 29; refine (KA.out w0 hB).mono ?_; clear KA; rintro e w1 ⟨rfl, hb⟩; have H6 := H6.up hb; have H7 := H7.up hb; have hB := Below.then hB hb; clear hb)
    | (refine store_rec 40 _ _ rfl rfl _ (Rec.vals m) (Rec.vals Mot.zero) 40 rfl rfl (RecAt.new _ (Rec.vals Mot.zero) _) size_mot rfl (Rec.one m) ?_; intro w2 hS hb hsz hkp; clear hsz hkp; have hb := rec_made (Below.refl _ _) hb; have H6 := H6.up hb; have H7 := H7.up hb; have hB := Below.then hB hb; clear hb; have c6 : w2.cell? ⟨w.heap.size, 0, none⟩ = some (.int .i64 (mb : Int)) := H6.cell 0; have c7 : w2.cell? ⟨w.heap.size + 1, 0, none⟩ = some (.bool y) := H7.cell 0; have c8 : w2.cell? ⟨w1.heap.size, 31, none⟩ = some (.slice m.yes.row m.yes.bs.length m.yes.cap) := hS.cell 31; have c9 : w2.cell? ⟨w1.heap.size, 32, none⟩ = some (.slice m.no.row m.no.bs.length m.no.cap) := hS.cell 32)
    | (go_at_call 30; refine (kw _).mono ?_; clear kw; rintro e w' ⟨rfl, rfl⟩)
    | (go_at_call 31; refine (ky _).mono ?_; clear ky; rintro e w' ⟨rfl, rfl⟩)
    | (go_at_call 31; refine (kn _).mono ?_; clear kn; rintro e w' ⟨rfl, rfl⟩)
    | (go_at_call 32; refine (GY.out _ (HM.out.yes.up hB)).mono ?_; clear GY; rintro e w3 ⟨rfl, hq⟩; have hb := get_below hq; clear hq; have H6 := H6.up hb; have H7 := H7.up hb; have hS := hS.up hb; have hB := Below.then hB hb; clear hb c6 c7 c8 c9; have c6 : w3.cell? ⟨w.heap.size, 0, none⟩ = some (.int .i64 (mb : Int)) := H6.cell 0; have c7 : w3.cell? ⟨w.heap.size + 1, 0, none⟩ = some (.bool y) := H7.cell 0; have c8 : w3.cell? ⟨w1.heap.size, 31, none⟩ = some (.slice m.yes.row m.yes.bs.length m.yes.cap) := hS.cell 31; have c9 : w3.cell? ⟨w1.heap.size, 32, none⟩ = some (.slice m.no.row m.no.bs.length m.no.cap) := hS.cell 32)
    | (go_at_call 32; refine (GN.out _ (HM.out.no.up hB)).mono ?_; clear GN; rintro e w4 ⟨rfl, hq⟩; have hb := get_below hq; clear hq; have H6 := H6.up hb; have H7 := H7.up hb; have hS := hS.up hb; have hB := Below.then hB hb; clear hb c6 c7 c8 c9; have c6 : w4.cell? ⟨w.heap.size, 0, none⟩ = some (.int .i64 (mb : Int)) := H6.cell 0; have c7 : w4.cell? ⟨w.heap.size + 1, 0, none⟩ = some (.bool y) := H7.cell 0; have c8 : w4.cell? ⟨w1.heap.size, 31, none⟩ = some (.slice m.yes.row m.yes.bs.length m.yes.cap) := hS.cell 31; have c9 : w4.cell? ⟨w1.heap.size, 32, none⟩ = some (.slice m.no.row m.no.bs.length m.no.cap) := hS.cell 32)
    | (go_at_call 33; refine (KO.out _ _ _ hB c7 c6).mono ?_; clear KO; rintro e w5 ⟨l2, A2, c2, rfl, hl2, hm2, hb2⟩; have hB := Below.then hB hb2; clear hb2)
    )
  go_ret2
  exact ⟨l2, A2, c2, by first | rfl | simp, hl2, hm2, hB⟩

/-- What comes of a vote. -/
theorem vote_is (l : List Mot) (A : Option Addr) (c : Nat) (i k : Int) (y : Bool) (w : World) (hm : Mots w A c l) (hl : l.length ≤ 100000) :
    Calls Try.prog 9 #[.slice A l.length c, .int .i64 i, .int .i64 k, .bool y] w fun e w' => MotsOf w (pvote (l.map Mot.pure) i k y) e w' := by
  cases hi : motAt l i with
  | none =>
    rw [pvote_none k y (by rw [motAt_map, hi]; rfl)]
    exact vote_none l A c i k y w hm hl hi
  | some m =>
    obtain ⟨j, rfl, hj⟩ := motAt_some hi
    have hp : (l.map Mot.pure)[j]? = some m.pure := by rw [List.getElem?_map, hj]; rfl
    by_cases h1 : m.st = 1
    · by_cases h2 : 0 ≤ k ∧ k ≤ 127
      · obtain ⟨mb, rfl⟩ : ∃ mb : Nat, k = (mb : Int) := ⟨k.toNat, by omega⟩
        have h2' : mb ≤ 127 := by omega
        by_cases h3 : mb / 8 < m.yes.bs.length
        · by_cases h4 : mb / 8 < m.no.bs.length
          · have hh : m.pure.has (mb : Int) := ⟨by omega, by omega, by rw [Int.toNat_natCast]; exact h3, by rw [Int.toNat_natCast]; exact h4⟩
            cases h5 : bitAt m.yes.bs mb with
            | true =>
              rw [pvote_twice y hp h1 hh (by unfold PMot.twice; simp only [Int.toNat_natCast]; show (bitAt m.yes.bs mb || _) = true; rw [h5]; rfl)]
              exact vote_yestwice l A c j mb y m w hm hl hj h1 h2' h3 h4 h5
            | false =>
              cases h6 : bitAt m.no.bs mb with
              | true =>
                rw [pvote_twice y hp h1 hh (by unfold PMot.twice; simp only [Int.toNat_natCast]; show (_ || bitAt m.no.bs mb) = true; rw [h6, Bool.or_true])]
                exact vote_notwice l A c j mb y m w hm hl hj h1 h2' h3 h4 h5 h6
              | false =>
                rw [pvote_ok y hp h1 hh (by unfold PMot.twice; simp only [Int.toNat_natCast]; show (bitAt m.yes.bs mb || bitAt m.no.bs mb) = false; rw [h5, h6]; rfl), Int.toNat_natCast]
                exact vote_good l A c j mb y m w hm hl hj h1 h2' h3 h4 h5 h6
          · rw [pvote_arg y hp h1 (fun h => h4 (by have := h.2.2.2; rw [Int.toNat_natCast] at this; exact this))]
            exact vote_noless l A c j mb y m w hm hl hj h1 h2' h3 h4
        · rw [pvote_arg y hp h1 (fun h => h3 (by have := h.2.2.1; rw [Int.toNat_natCast] at this; exact this))]
          exact vote_yesless l A c j mb y m w hm hl hj h1 h2' h3
      · rw [pvote_arg y hp h1 (fun h => h2 ⟨h.1, h.2.1⟩)]
        exact vote_far l A c j k y m w hm hl hj h1 h2
    · rw [pvote_closed k y hp h1]
      exact vote_shut l A c (j : Int) k y w hm hl j m rfl hj h1

set_option maxRecDepth 100000 in
set_option maxHeartbeats 1000000 in
theorem finish_none (l : List Mot) (A : Option Addr) (c : Nat) (y : Bool) (w : World) (hm : Mots w A c l) (hl : l.length ≤ 100000) (i : Int) (h : motAt l i = none) :
    Calls Try.prog 23 #[.slice A l.length c, .int .i64 i, .bool y] w fun e w' => MotsOf w ([], 230) e w' := by
  skip
  have KA := Lib.hid (fun (W : World) (hB : Below w.heap.size w W) => at_no l A c i 2 291 W (by omega) h)
  clear hm
  go_enter Try.func23, Try.ntmps23
  go_upto_region 1 with fail
  generalize hw0 : World.alloc _ _ = w0
  have hB : Below w.heap.size w w0 := by rw [← hw0]; exact (Below.refl _ _).alloc (Nat.le_refl _) _
  have H6 : RecAt w0 w.heap.size #[.bool y] 4 := by rw [← hw0]; exact RecAt.new w #[.bool y] 4
  clear hw0
  go_wp2_with (first
    | (go_at_call 29; refine (KA.out w0 hB).mono ?_; clear KA; rintro e w1 ⟨rfl, hb⟩; have H6 := H6.up hb; have hB := Below.then hB hb; clear hb)
    | (refine store_rec 40 _ _ rfl rfl _ (Rec.vals Mot.zero) (Rec.vals Mot.zero) 40 rfl rfl (RecAt.new _ (Rec.vals Mot.zero) _) size_mot rfl (Rec.one Mot.zero) ?_; intro w2 hS hb hsz hkp; clear hsz hkp; have hb := rec_made (Below.refl _ _) hb; have H6 := H6.up hb; have hB := Below.then hB hb; clear hb))
  go_ret2
  exact ⟨[], _, _, by first | rfl | simp, rfl, Mots.nil _, hB⟩

set_option maxRecDepth 100000 in
set_option maxHeartbeats 1000000 in
theorem finish_shut (l : List Mot) (A : Option Addr) (c : Nat) (y : Bool) (w : World) (hm : Mots w A c l) (hl : l.length ≤ 100000) (i : Int) (j : Nat) (m : Mot) (hi : i = (j : Int)) (h : l[j]? = some m) (h1 : ¬ m.st = 2) :
    Calls Try.prog 23 #[.slice A l.length c, .int .i64 i, .bool y] w fun e w' => MotsOf w ([], 291) e w' := by
  subst hi
  have KA := Lib.hid (fun (W : World) (hB : Below w.heap.size w W) => at_other l A c j m 2 291 W (hm.up hB) (by omega) h h1)
  clear hm
  go_enter Try.func23, Try.ntmps23
  go_upto_region 1 with fail
  generalize hw0 : World.alloc _ _ = w0
  have hB : Below w.heap.size w w0 := by rw [← hw0]; exact (Below.refl _ _).alloc (Nat.le_refl _) _
  have H6 : RecAt w0 w.heap.size #[.bool y] 4 := by rw [← hw0]; exact RecAt.new w #[.bool y] 4
  clear hw0
  go_wp2_with (first
    | (go_at_call 29; refine (KA.out w0 hB).mono ?_; clear KA; rintro e w1 ⟨rfl, hb⟩; have H6 := H6.up hb; have hB := Below.then hB hb; clear hb)
    | (refine store_rec 40 _ _ rfl rfl _ (Rec.vals Mot.zero) (Rec.vals Mot.zero) 40 rfl rfl (RecAt.new _ (Rec.vals Mot.zero) _) size_mot rfl (Rec.one Mot.zero) ?_; intro w2 hS hb hsz hkp; clear hsz hkp; have hb := rec_made (Below.refl _ _) hb; have H6 := H6.up hb; have hB := Below.then hB hb; clear hb))
  go_ret2
  exact ⟨[], _, _, by first | rfl | simp, rfl, Mots.nil _, hB⟩

set_option maxRecDepth 100000 in
set_option maxHeartbeats 2000000 in
theorem finish_good (l : List Mot) (A : Option Addr) (c j : Nat) (y : Bool) (m : Mot) (w : World) (hm : Mots w A c l) (hl : l.length ≤ 100000) (h : l[j]? = some m) (h1 : m.st = 2) :
    Calls Try.prog 23 #[.slice A l.length c, .int .i64 (j : Int), .bool y] w fun e w' => MotsOf w ((l.map Mot.pure).set j (m.pure.finished y), 0) e w' := by
  have KA := Lib.hid (fun (W : World) (hB : Below w.heap.size w W) => (by have := at_ok l A c j m 291 W (hm.up hB) (by omega) h; rw [h1] at this; exact this : Calls Try.prog 29 #[.slice A l.length c, .int .i64 (j : Int), .int .i64 2, .int .i64 291] W fun e w' => e = .returned (.tuple #[.agg (Rec.vals m), .int .i64 0]) ∧ Below W.heap.size W w'))
  have e63 := enters_of (P := Try.prog) Try.func63 (by kernel_rfl) rfl
  have hpj : (l.map Mot.pure)[j]? = some m.pure := by rw [List.getElem?_map, h]; rfl
  have ko : ∀ (b1 : Nat) (W : World), Below w.heap.size w W → W.cell? ⟨b1, 0, none⟩ = some (.bool y) → Calls Try.prog 33 #[.slice A l.length c, .int .i64 (j : Int), .func (.func 63) #[] #[.pointer (some ⟨b1, 0, none⟩)]] W fun e w' => JustMots W ((l.map Mot.pure).set j (m.pure.finished y)) e w' := by
    intro b1 W hB g1
    have := one_is _ #[.pointer (some ⟨b1, 0, none⟩)] e63 (fun q => q.finished y) (j : Int) l A c W (hm.up hB) hl (fun j' q hj hq => by
      obtain rfl : j' = j := by omega
      rw [hpj] at hq
      cases hq
      cases y
      · exact finish1_false b1 m.pure W g1
      · exact finish1_true b1 m.pure W g1)
    rw [mapIdx_one hpj] at this
    exact this
  have KO := Lib.hid ko
  clear ko e63 hpj hm h h1
  go_enter Try.func23, Try.ntmps23
  go_upto_region 1 with fail
  generalize hw0 : World.alloc _ _ = w0
  have hB : Below w.heap.size w w0 := by rw [← hw0]; exact (Below.refl _ _).alloc (Nat.le_refl _) _
  have H6 : RecAt w0 w.heap.size #[.bool y] 4 := by rw [← hw0]; exact RecAt.new w #[.bool y] 4
  clear hw0
  go_wp2_with (first
    | (go_at_call 29; refine (KA.out w0 hB).mono ?_; clear KA; rintro e w1 ⟨rfl, hb⟩; have H6 := H6.up hb; have hB := Below.then hB hb; clear hb)
    | (refine store_rec 40 _ _ rfl rfl _ (Rec.vals m) (Rec.vals Mot.zero) 40 rfl rfl (RecAt.new _ (Rec.vals Mot.zero) _) size_mot rfl (Rec.one m) ?_; intro w2 hS hb hsz hkp; clear hsz hkp; have hb := rec_made (Below.refl _ _) hb; have H6 := H6.up hb; have hB := Below.then hB hb; clear hb; have c6 : w2.cell? ⟨w.heap.size, 0, none⟩ = some (.bool y) := H6.cell 0)
    | (go_at_call 33; refine (KO.out _ _ hB c6).mono ?_; clear KO; rintro e w5 ⟨l2, A2, c2, rfl, hl2, hm2, hb2⟩; have hB := Below.then hB hb2; clear hb2))
  go_ret2
  exact ⟨l2, A2, c2, by first | rfl | simp, hl2, hm2, hB⟩
/-- What comes of what is over. -/
theorem finish_is (l : List Mot) (A : Option Addr) (c : Nat) (i : Int) (y : Bool) (w : World) (hm : Mots w A c l) (hl : l.length ≤ 100000) :
    Calls Try.prog 23 #[.slice A l.length c, .int .i64 i, .bool y] w fun e w' => MotsOf w (pfinish (l.map Mot.pure) i y) e w' := by
  cases hi : motAt l i with
  | none =>
    rw [pfinish_none y (by rw [motAt_map, hi]; rfl)]
    exact finish_none l A c y w hm hl i hi
  | some m =>
    obtain ⟨j, rfl, hj⟩ := motAt_some hi
    have hp : (l.map Mot.pure)[j]? = some m.pure := by rw [List.getElem?_map, hj]; rfl
    by_cases h1 : m.st = 2
    · rw [pfinish_ok y hp h1]
      exact finish_good l A c j y m w hm hl hj h1
    · rw [pfinish_state y hp h1]
      exact finish_shut l A c y w hm hl (j : Int) j m rfl hj h1

end Go.Proofs.Ytcaejanfhchacaa
