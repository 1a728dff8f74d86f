/- Layer 23 (moot): the document's vote, and what is over: each outcome. By contracts. -/
import Derived.Test.YtcaejanfhchacaaMooC
import Derived.Test.YtcaejanfhchacaaMooW
namespace Go.Proofs.Ytcaejanfhchacaa
open Go.RowKit
set_option linter.unusedVariables false
set_option linter.unusedSimpArgs false

/-- One of a list of its own written over: the list. -/
theorem mots_set {w w' : World} {base g n c cl : Nat} {e : TypeId} {A : Option Addr} {l : List Mot} {j : Nat} {y : Mot} (hm : Mots w A cl l) (hb : Below w.heap.size w w') (ho : w'.ownsRow base e 33 (.slice (some ⟨g, 0, none⟩) n c) n (rows (l.set j y))) (hn : n = l.length) (hl : l.length ≤ 100000) (hy : MotAt w' y) : Mots w' (some ⟨g, 0, none⟩) c (l.set j y) := by
  have hS := own_sl (b := 296) ho (by omega)
  refine ⟨by rw [List.length_set, ← hn]; exact hS.le, hS.most, hS.none, hS.row, fun m hm2 => ?_⟩
  rcases List.mem_or_eq_of_mem_set hm2 with h | h
  · exact (hm.each m h).up hb
  · rw [h]; exact hy

set_option maxRecDepth 100000 in
set_option maxHeartbeats 1000000 in
theorem rvote_low (l : List Mot) (A : Option Addr) (c : Nat) (i k : Int) (y : Bool) (w : World) (h : i < 0) :
    Calls Try.prog 10 #[.slice A l.length c, .int .i64 i, .int .i64 k, .bool y] w fun e w' => MotsOf w ([], 230) e w' := by
  go_enter Try.func10, Try.ntmps10
  go_wp2
  go_ret2
  exact ⟨[], _, _, by first | rfl | simp, rfl, Mots.nil _, Below.refl _ _⟩

set_option maxRecDepth 100000 in
set_option maxHeartbeats 1000000 in
theorem rfinish_low (l : List Mot) (A : Option Addr) (c : Nat) (i : Int) (y : Bool) (w : World) (h : i < 0) :
    Calls Try.prog 24 #[.slice A l.length c, .int .i64 i, .bool y] w fun e w' => MotsOf w ([], 230) e w' := by
  go_enter Try.func24, Try.ntmps24
  go_wp2
  go_ret2
  exact ⟨[], _, _, by first | rfl | simp, rfl, Mots.nil _, Below.refl _ _⟩

set_option maxRecDepth 100000 in
set_option maxHeartbeats 1000000 in
theorem rvote_high (l : List Mot) (A : Option Addr) (c : Nat) (i k : Int) (y : Bool) (w : World) (h0 : 0 ≤ i) (h : (l.length : Int) ≤ i) :
    Calls Try.prog 10 #[.slice A l.length c, .int .i64 i, .int .i64 k, .bool y] w fun e w' => MotsOf w ([], 230) e w' := by
  have h1 : ¬ i < 0 := by omega
  go_enter Try.func10, Try.ntmps10
  go_wp2
  go_ret2
  exact ⟨[], _, _, by first | rfl | simp, rfl, Mots.nil _, Below.refl _ _⟩

set_option maxRecDepth 100000 in
set_option maxHeartbeats 1000000 in
theorem rfinish_high (l : List Mot) (A : Option Addr) (c : Nat) (i : Int) (y : Bool) (w : World) (h0 : 0 ≤ i) (h : (l.length : Int) ≤ i) :
    Calls Try.prog 24 #[.slice A l.length c, .int .i64 i, .bool y] w fun e w' => MotsOf w ([], 230) e w' := by
  have h1 : ¬ i < 0 := by omega
  go_enter Try.func24, Try.ntmps24
  go_wp2
  go_ret2
  exact ⟨[], _, _, by first | rfl | simp, rfl, Mots.nil _, Below.refl _ _⟩

set_option maxRecDepth 100000 in
set_option maxHeartbeats 2000000 in
theorem rvote_shut (l : List Mot) (A : Option Addr) (c j : Nat) (k : Int) (y : Bool) (m : Mot) (w : World) (hm : Mots w A c l) (hl : l.length ≤ 100000) (h : l[j]? = some m) (h1 : ¬ m.st = 1) :
    Calls Try.prog 10 #[.slice A l.length c, .int .i64 (j : Int), .int .i64 k, .bool y] w fun e w' => MotsOf w ([], 232) e w' := by
  have hjl := (List.getElem?_eq_some_iff.1 h).1
  have HMS := Lib.hid hm
  obtain ⟨a, rfl, hab, hat, hM⟩ := hm.at h
  have HM := Lib.hid hM
  have HH := Lib.hid h
  have hjI : (j : Int) < (l.length : Int) := by omega
  have hj0 : (0 : Int) ≤ (j : Int) := by omega
  have hj1 : ¬ (j : Int) < 0 := by omega
  have hj2 : ¬ (l.length : Int) ≤ (j : Int) := by omega
  have hj3 : decide ((l.length : Int) ≤ (j : Int)) = false := decide_eq_false hj2
  have b1 : (m.st == 1) = false := by simp [h1]
  have b2 : (m.st != 1) = true := by simp [h1]
  clear h1
  clear hm h hM hab
  go_enter Try.func10, Try.ntmps10
  go_wp2_with (first
    | (refine load_rec 45 _ rfl rfl _ (Rec.vals m) rfl hat Try.underlying45 size_rmot ?_)
    | (refine store_rec 45 _ _ rfl rfl _ (Rec.vals m) (Rec.vals Mot.zero) 45 rfl rfl (RecAt.new _ (Rec.vals Mot.zero) _) size_rmot rfl (Rec.one m) ?_; intro w2 hS hb hsz hkp; clear hsz hkp; have hb := rec_made (Below.refl _ _) hb; have hB := hb; clear hb hat; have hS0 : w.heap.size < w2.heap.size := hS.lt; have c7 : w2.cell? ⟨w.heap.size, 30, none⟩ = some (.int .i64 m.st) := hS.cell 30; have c8 : w2.cell? ⟨w.heap.size, 31, none⟩ = some (.slice m.yes.row m.yes.bs.length m.yes.cap) := hS.cell 31; have c9 : w2.cell? ⟨w.heap.size, 32, none⟩ = some (.slice m.no.row m.no.bs.length m.no.cap) := hS.cell 32)
    )
  go_ret2
  exact ⟨[], _, _, by first | rfl | simp, rfl, Mots.nil _, hB⟩

set_option maxRecDepth 100000 in
set_option maxHeartbeats 2000000 in
theorem rvote_far (l : List Mot) (A : Option Addr) (c j : Nat) (k : Int) (y : Bool) (m : Mot) (w : World) (hm : Mots w A c l) (hl : l.length ≤ 100000) (h : l[j]? = some m) (h1 : m.st = 1) (h2 : ¬ (0 ≤ k ∧ k ≤ 127)) :
    Calls Try.prog 10 #[.slice A l.length c, .int .i64 (j : Int), .int .i64 k, .bool y] w fun e w' => MotsOf w ([], 2) e w' := by
  have hjl := (List.getElem?_eq_some_iff.1 h).1
  have HMS := Lib.hid hm
  obtain ⟨a, rfl, hab, hat, hM⟩ := hm.at h
  have HM := Lib.hid hM
  have HH := Lib.hid h
  have hjI : (j : Int) < (l.length : Int) := by omega
  have hj0 : (0 : Int) ≤ (j : Int) := by omega
  have hj1 : ¬ (j : Int) < 0 := by omega
  have hj2 : ¬ (l.length : Int) ≤ (j : Int) := by omega
  have hj3 : decide ((l.length : Int) ≤ (j : Int)) = false := decide_eq_false hj2
  have st1 : (Rec.vals m)[30]? = some (.int .i64 1) := by show some (Value.int .i64 m.st) = _; rw [h1]
  have kw := fun W => rin23_is k 0 127 W
  rw [inB_no h2] at kw
  clear h1 h2
  clear hm h hM hab
  go_enter Try.func10, Try.ntmps10
  go_wp2_with (first
    | (refine load_rec 45 _ rfl rfl _ (Rec.vals m) rfl hat Try.underlying45 size_rmot ?_)
    | (refine store_rec 45 _ _ rfl rfl _ (Rec.vals m) (Rec.vals Mot.zero) 45 rfl rfl (RecAt.new _ (Rec.vals Mot.zero) _) size_rmot rfl (Rec.one m) ?_; intro w2 hS hb hsz hkp; clear hsz hkp; have hb := rec_made (Below.refl _ _) hb; have hB := hb; clear hb hat; have hS0 : w.heap.size < w2.heap.size := hS.lt; have c7 : w2.cell? ⟨w.heap.size, 30, none⟩ = some (.int .i64 1) := (hS.cell 30).trans st1; have c8 : w2.cell? ⟨w.heap.size, 31, none⟩ = some (.slice m.yes.row m.yes.bs.length m.yes.cap) := hS.cell 31; have c9 : w2.cell? ⟨w.heap.size, 32, none⟩ = some (.slice m.no.row m.no.bs.length m.no.cap) := hS.cell 32)
    | (go_at_call 36; refine (kw _).mono ?_; clear kw; rintro e w' ⟨rfl, rfl⟩)
    )
  go_ret2
  exact ⟨[], _, _, by first | rfl | simp, rfl, Mots.nil _, hB⟩

set_option maxRecDepth 100000 in
set_option maxHeartbeats 2000000 in
theorem rvote_yesless (l : List Mot) (A : Option Addr) (c j : Nat) (mb : Nat) (y : Bool) (m : Mot) (w : World) (hm : Mots w A c l) (hl : l.length ≤ 100000) (h : l[j]? = some m) (h1 : m.st = 1) (h2 : mb ≤ 127) (h3 : ¬ mb / 8 < m.yes.bs.length) :
    Calls Try.prog 10 #[.slice A l.length c, .int .i64 (j : Int), .int .i64 (mb : Int), .bool y] w fun e w' => MotsOf w ([], 2) e w' := by
  have hjl := (List.getElem?_eq_some_iff.1 h).1
  have HMS := Lib.hid hm
  obtain ⟨a, rfl, hab, hat, hM⟩ := hm.at h
  have HM := Lib.hid hM
  have HH := Lib.hid h
  have hjI : (j : Int) < (l.length : Int) := by omega
  have hj0 : (0 : Int) ≤ (j : Int) := by omega
  have hj1 : ¬ (j : Int) < 0 := by omega
  have hj2 : ¬ (l.length : Int) ≤ (j : Int) := by omega
  have hj3 : decide ((l.length : Int) ≤ (j : Int)) = false := decide_eq_false hj2
  have st1 : (Rec.vals m)[30]? = some (.int .i64 1) := by show some (Value.int .i64 m.st) = _; rw [h1]
  have kw := fun W => rin23_is (mb : Int) 0 127 W
  rw [inB_yes (by omega)] at kw
  obtain ⟨q, hq⟩ : ∃ q : Nat, mb / 8 = q := ⟨_, rfl⟩
  have htd : (mb : Int).tdiv 8 = (q : Int) := by rw [Int.tdiv_eq_ediv_of_nonneg (by omega)]; omega
  have hqe : (mb : Int) / 8 = (q : Int) := by omega
  have hwq : IntKind.i64.wrap (q : Int) = (q : Int) := IntWalk.i64_in _ (by omega)
  have lyes : decide ((m.yes.bs.length : Int) ≤ (q : Int)) = true := decide_eq_true (by omega)
  have nyes : decide (m.yes.bs.length ≤ q) = true := decide_eq_true (by omega)
  clear h1 h2 h3 hq
  clear hm h hM hab
  go_enter Try.func10, Try.ntmps10
  go_wp2_with (first
    | (refine load_rec 45 _ rfl rfl _ (Rec.vals m) rfl hat Try.underlying45 size_rmot ?_)
    | (refine store_rec 45 _ _ rfl rfl _ (Rec.vals m) (Rec.vals Mot.zero) 45 rfl rfl (RecAt.new _ (Rec.vals Mot.zero) _) size_rmot rfl (Rec.one m) ?_; intro w2 hS hb hsz hkp; clear hsz hkp; have hb := rec_made (Below.refl _ _) hb; have hB := hb; clear hb hat; have hS0 : w.heap.size < w2.heap.size := hS.lt; have c7 : w2.cell? ⟨w.heap.size, 30, none⟩ = some (.int .i64 1) := (hS.cell 30).trans st1; have c8 : w2.cell? ⟨w.heap.size, 31, none⟩ = some (.slice m.yes.row m.yes.bs.length m.yes.cap) := hS.cell 31; have c9 : w2.cell? ⟨w.heap.size, 32, none⟩ = some (.slice m.no.row m.no.bs.length m.no.cap) := hS.cell 32)
    | (go_at_call 36; refine (kw _).mono ?_; clear kw; rintro e w' ⟨rfl, rfl⟩)
    )
  go_ret2
  exact ⟨[], _, _, by first | rfl | simp, rfl, Mots.nil _, hB⟩

set_option maxRecDepth 100000 in
set_option maxHeartbeats 2000000 in
theorem rvote_noless (l : List Mot) (A : Option Addr) (c j : Nat) (mb : Nat) (y : Bool) (m : Mot) (w : World) (hm : Mots w A c l) (hl : l.length ≤ 100000) (h : l[j]? = some m) (h1 : m.st = 1) (h2 : mb ≤ 127) (h3 : mb / 8 < m.yes.bs.length) (h4 : ¬ mb / 8 < m.no.bs.length) :
    Calls Try.prog 10 #[.slice A l.length c, .int .i64 (j : Int), .int .i64 (mb : Int), .bool y] w fun e w' => MotsOf w ([], 2) e w' := by
  have hjl := (List.getElem?_eq_some_iff.1 h).1
  have HMS := Lib.hid hm
  obtain ⟨a, rfl, hab, hat, hM⟩ := hm.at h
  have HM := Lib.hid hM
  have HH := Lib.hid h
  have hjI : (j : Int) < (l.length : Int) := by omega
  have hj0 : (0 : Int) ≤ (j : Int) := by omega
  have hj1 : ¬ (j : Int) < 0 := by omega
  have hj2 : ¬ (l.length : Int) ≤ (j : Int) := by omega
  have hj3 : decide ((l.length : Int) ≤ (j : Int)) = false := decide_eq_false hj2
  have st1 : (Rec.vals m)[30]? = some (.int .i64 1) := by show some (Value.int .i64 m.st) = _; rw [h1]
  have kw := fun W => rin23_is (mb : Int) 0 127 W
  rw [inB_yes (by omega)] at kw
  obtain ⟨q, hq⟩ : ∃ q : Nat, mb / 8 = q := ⟨_, rfl⟩
  have htd : (mb : Int).tdiv 8 = (q : Int) := by rw [Int.tdiv_eq_ediv_of_nonneg (by omega)]; omega
  have hqe : (mb : Int) / 8 = (q : Int) := by omega
  have hwq : IntKind.i64.wrap (q : Int) = (q : Int) := IntWalk.i64_in _ (by omega)
  have lyes : decide ((m.yes.bs.length : Int) ≤ (q : Int)) = false := decide_eq_false (by omega)
  have nyes : decide (m.yes.bs.length ≤ q) = false := decide_eq_false (by omega)
  have lno : decide ((m.no.bs.length : Int) ≤ (q : Int)) = true := decide_eq_true (by omega)
  have nno : decide (m.no.bs.length ≤ q) = true := decide_eq_true (by omega)
  clear h1 h2 h3 h4 hq
  clear hm h hM hab
  go_enter Try.func10, Try.ntmps10
  go_wp2_with (first
    | (refine load_rec 45 _ rfl rfl _ (Rec.vals m) rfl hat Try.underlying45 size_rmot ?_)
    | (refine store_rec 45 _ _ rfl rfl _ (Rec.vals m) (Rec.vals Mot.zero) 45 rfl rfl (RecAt.new _ (Rec.vals Mot.zero) _) size_rmot rfl (Rec.one m) ?_; intro w2 hS hb hsz hkp; clear hsz hkp; have hb := rec_made (Below.refl _ _) hb; have hB := hb; clear hb hat; have hS0 : w.heap.size < w2.heap.size := hS.lt; have c7 : w2.cell? ⟨w.heap.size, 30, none⟩ = some (.int .i64 1) := (hS.cell 30).trans st1; have c8 : w2.cell? ⟨w.heap.size, 31, none⟩ = some (.slice m.yes.row m.yes.bs.length m.yes.cap) := hS.cell 31; have c9 : w2.cell? ⟨w.heap.size, 32, none⟩ = some (.slice m.no.row m.no.bs.length m.no.cap) := hS.cell 32)
    | (go_at_call 36; refine (kw _).mono ?_; clear kw; rintro e w' ⟨rfl, rfl⟩)
    )
  go_ret2
  exact ⟨[], _, _, by first | rfl | simp, rfl, Mots.nil _, hB⟩

set_option maxRecDepth 100000 in
set_option maxHeartbeats 2000000 in
theorem rvote_yestwice (l : List Mot) (A : Option Addr) (c j : Nat) (mb : Nat) (y : Bool) (m : Mot) (w : World) (hm : Mots w A c l) (hl : l.length ≤ 100000) (h : l[j]? = some m) (h1 : m.st = 1) (h2 : mb ≤ 127) (h3 : mb / 8 < m.yes.bs.length) (h4 : mb / 8 < m.no.bs.length) (h5 : bitAt m.yes.bs mb = true) :
    Calls Try.prog 10 #[.slice A l.length c, .int .i64 (j : Int), .int .i64 (mb : Int), .bool y] w fun e w' => MotsOf w ([], 231) e w' := by
  have hjl := (List.getElem?_eq_some_iff.1 h).1
  have HMS := Lib.hid hm
  obtain ⟨a, rfl, hab, hat, hM⟩ := hm.at h
  have HM := Lib.hid hM
  have HH := Lib.hid h
  have hjI : (j : Int) < (l.length : Int) := by omega
  have hj0 : (0 : Int) ≤ (j : Int) := by omega
  have hj1 : ¬ (j : Int) < 0 := by omega
  have hj2 : ¬ (l.length : Int) ≤ (j : Int) := by omega
  have hj3 : decide ((l.length : Int) ≤ (j : Int)) = false := decide_eq_false hj2
  have st1 : (Rec.vals m)[30]? = some (.int .i64 1) := by show some (Value.int .i64 m.st) = _; rw [h1]
  have kw := fun W => rin23_is (mb : Int) 0 127 W
  rw [inB_yes (by omega)] at kw
  obtain ⟨q, hq⟩ : ∃ q : Nat, mb / 8 = q := ⟨_, rfl⟩
  have htd : (mb : Int).tdiv 8 = (q : Int) := by rw [Int.tdiv_eq_ediv_of_nonneg (by omega)]; omega
  have hqe : (mb : Int) / 8 = (q : Int) := by omega
  have hwq : IntKind.i64.wrap (q : Int) = (q : Int) := IntWalk.i64_in _ (by omega)
  have lyes : decide ((m.yes.bs.length : Int) ≤ (q : Int)) = false := decide_eq_false (by omega)
  have nyes : decide (m.yes.bs.length ≤ q) = false := decide_eq_false (by omega)
  have lno : decide ((m.no.bs.length : Int) ≤ (q : Int)) = false := decide_eq_false (by omega)
  have nno : decide (m.no.bs.length ≤ q) = false := decide_eq_false (by omega)
  have gyes := fun (W : World) (hB : Below w.heap.size w W) => rget_ok m.yes.bs _ m.yes.row m.yes.cap (mb : Int) W (Lies.ofRow (HM.out.yes.up hB).sl.row) HM.out.yes.all (by omega)
  rw [bitI_nat, h5] at gyes
  have Gyes := Lib.hid gyes
  clear gyes
  clear h1 h2 h3 h4 h5 hq
  clear hm h hM hab
  go_enter Try.func10, Try.ntmps10
  go_wp2_with (first
    | (refine load_rec 45 _ rfl rfl _ (Rec.vals m) rfl hat Try.underlying45 size_rmot ?_)
    | (refine store_rec 45 _ _ rfl rfl _ (Rec.vals m) (Rec.vals Mot.zero) 45 rfl rfl (RecAt.new _ (Rec.vals Mot.zero) _) size_rmot rfl (Rec.one m) ?_; intro w2 hS hb hsz hkp; clear hsz hkp; have hb := rec_made (Below.refl _ _) hb; have hB := hb; clear hb hat; have hS0 : w.heap.size < w2.heap.size := hS.lt; have c7 : w2.cell? ⟨w.heap.size, 30, none⟩ = some (.int .i64 1) := (hS.cell 30).trans st1; have c8 : w2.cell? ⟨w.heap.size, 31, none⟩ = some (.slice m.yes.row m.yes.bs.length m.yes.cap) := hS.cell 31; have c9 : w2.cell? ⟨w.heap.size, 32, none⟩ = some (.slice m.no.row m.no.bs.length m.no.cap) := hS.cell 32)
    | (go_at_call 36; refine (kw _).mono ?_; clear kw; rintro e w' ⟨rfl, rfl⟩)
    | (go_at_call 37; refine (Gyes.out _ hB).mono ?_; clear Gyes; rintro e w' ⟨rfl, rfl⟩)
    )
  go_ret2
  exact ⟨[], _, _, by first | rfl | simp, rfl, Mots.nil _, hB⟩

set_option maxRecDepth 100000 in
set_option maxHeartbeats 2000000 in
theorem rvote_notwice (l : List Mot) (A : Option Addr) (c j : Nat) (mb : Nat) (y : Bool) (m : Mot) (w : World) (hm : Mots w A c l) (hl : l.length ≤ 100000) (h : l[j]? = some m) (h1 : m.st = 1) (h2 : mb ≤ 127) (h3 : mb / 8 < m.yes.bs.length) (h4 : mb / 8 < m.no.bs.length) (h5 : bitAt m.yes.bs mb = false) (h6 : bitAt m.no.bs mb = true) :
    Calls Try.prog 10 #[.slice A l.length c, .int .i64 (j : Int), .int .i64 (mb : Int), .bool y] w fun e w' => MotsOf w ([], 231) e w' := by
  have hjl := (List.getElem?_eq_some_iff.1 h).1
  have HMS := Lib.hid hm
  obtain ⟨a, rfl, hab, hat, hM⟩ := hm.at h
  have HM := Lib.hid hM
  have HH := Lib.hid h
  have hjI : (j : Int) < (l.length : Int) := by omega
  have hj0 : (0 : Int) ≤ (j : Int) := by omega
  have hj1 : ¬ (j : Int) < 0 := by omega
  have hj2 : ¬ (l.length : Int) ≤ (j : Int) := by omega
  have hj3 : decide ((l.length : Int) ≤ (j : Int)) = false := decide_eq_false hj2
  have st1 : (Rec.vals m)[30]? = some (.int .i64 1) := by show some (Value.int .i64 m.st) = _; rw [h1]
  have kw := fun W => rin23_is (mb : Int) 0 127 W
  rw [inB_yes (by omega)] at kw
  obtain ⟨q, hq⟩ : ∃ q : Nat, mb / 8 = q := ⟨_, rfl⟩
  have htd : (mb : Int).tdiv 8 = (q : Int) := by rw [Int.tdiv_eq_ediv_of_nonneg (by omega)]; omega
  have hqe : (mb : Int) / 8 = (q : Int) := by omega
  have hwq : IntKind.i64.wrap (q : Int) = (q : Int) := IntWalk.i64_in _ (by omega)
  have lyes : decide ((m.yes.bs.length : Int) ≤ (q : Int)) = false := decide_eq_false (by omega)
  have nyes : decide (m.yes.bs.length ≤ q) = false := decide_eq_false (by omega)
  have lno : decide ((m.no.bs.length : Int) ≤ (q : Int)) = false := decide_eq_false (by omega)
  have nno : decide (m.no.bs.length ≤ q) = false := decide_eq_false (by omega)
  have gyes := fun (W : World) (hB : Below w.heap.size w W) => rget_ok m.yes.bs _ m.yes.row m.yes.cap (mb : Int) W (Lies.ofRow (HM.out.yes.up hB).sl.row) HM.out.yes.all (by omega)
  rw [bitI_nat, h5] at gyes
  have Gyes := Lib.hid gyes
  clear gyes
  have gno := fun (W : World) (hB : Below w.heap.size w W) => rget_ok m.no.bs _ m.no.row m.no.cap (mb : Int) W (Lies.ofRow (HM.out.no.up hB).sl.row) HM.out.no.all (by omega)
  rw [bitI_nat, h6] at gno
  have Gno := Lib.hid gno
  clear gno
  clear h1 h2 h3 h4 h5 h6 hq
  clear hm h hM hab
  go_enter Try.func10, Try.ntmps10
  go_wp2_with (first
    | (refine load_rec 45 _ rfl rfl _ (Rec.vals m) rfl hat Try.underlying45 size_rmot ?_)
    | (refine store_rec 45 _ _ rfl rfl _ (Rec.vals m) (Rec.vals Mot.zero) 45 rfl rfl (RecAt.new _ (Rec.vals Mot.zero) _) size_rmot rfl (Rec.one m) ?_; intro w2 hS hb hsz hkp; clear hsz hkp; have hb := rec_made (Below.refl _ _) hb; have hB := hb; clear hb hat; have hS0 : w.heap.size < w2.heap.size := hS.lt; have c7 : w2.cell? ⟨w.heap.size, 30, none⟩ = some (.int .i64 1) := (hS.cell 30).trans st1; have c8 : w2.cell? ⟨w.heap.size, 31, none⟩ = some (.slice m.yes.row m.yes.bs.length m.yes.cap) := hS.cell 31; have c9 : w2.cell? ⟨w.heap.size, 32, none⟩ = some (.slice m.no.row m.no.bs.length m.no.cap) := hS.cell 32)
    | (go_at_call 36; refine (kw _).mono ?_; clear kw; rintro e w' ⟨rfl, rfl⟩)
    | (go_at_call 37; refine (Gyes.out _ hB).mono ?_; clear Gyes; rintro e w' ⟨rfl, rfl⟩)
    | (go_at_call 37; refine (Gno.out _ hB).mono ?_; clear Gno; rintro e w' ⟨rfl, rfl⟩)
    )
  go_ret2
  exact ⟨[], _, _, by first | rfl | simp, rfl, Mots.nil _, hB⟩

set_option maxRecDepth 100000 in
set_option maxHeartbeats 2000000 in
theorem rvote_good_yes (l : List Mot) (A : Option Addr) (c j : Nat) (mb : Nat)  (m : Mot) (w : World) (hm : Mots w A c l) (hl : l.length ≤ 100000) (h : l[j]? = some m) (h1 : m.st = 1) (h2 : mb ≤ 127) (h3 : mb / 8 < m.yes.bs.length) (h4 : mb / 8 < m.no.bs.length) (h5 : bitAt m.yes.bs mb = false) (h6 : bitAt m.no.bs mb = false) (h7 : m.yes.bs.length ≤ 100) :
    Calls Try.prog 10 #[.slice A l.length c, .int .i64 (j : Int), .int .i64 (mb : Int), .bool true] w fun e w' => MotsOf w ((l.map Mot.pure).set j (m.pure.voted mb true), 0) e w' := by
  have hjl := (List.getElem?_eq_some_iff.1 h).1
  have HMS := Lib.hid hm
  obtain ⟨a, rfl, hab, hat, hM⟩ := hm.at h
  have HM := Lib.hid hM
  have HH := Lib.hid h
  have hjI : (j : Int) < (l.length : Int) := by omega
  have hj0 : (0 : Int) ≤ (j : Int) := by omega
  have hj1 : ¬ (j : Int) < 0 := by omega
  have hj2 : ¬ (l.length : Int) ≤ (j : Int) := by omega
  have hj3 : decide ((l.length : Int) ≤ (j : Int)) = false := decide_eq_false hj2
  have st1 : (Rec.vals m)[30]? = some (.int .i64 1) := by show some (Value.int .i64 m.st) = _; rw [h1]
  have kw := fun W => rin23_is (mb : Int) 0 127 W
  rw [inB_yes (by omega)] at kw
  obtain ⟨q, hq⟩ : ∃ q : Nat, mb / 8 = q := ⟨_, rfl⟩
  have htd : (mb : Int).tdiv 8 = (q : Int) := by rw [Int.tdiv_eq_ediv_of_nonneg (by omega)]; omega
  have hqe : (mb : Int) / 8 = (q : Int) := by omega
  have hwq : IntKind.i64.wrap (q : Int) = (q : Int) := IntWalk.i64_in _ (by omega)
  have lyes : decide ((m.yes.bs.length : Int) ≤ (q : Int)) = false := decide_eq_false (by omega)
  have nyes : decide (m.yes.bs.length ≤ q) = false := decide_eq_false (by omega)
  have lno : decide ((m.no.bs.length : Int) ≤ (q : Int)) = false := decide_eq_false (by omega)
  have nno : decide (m.no.bs.length ≤ q) = false := decide_eq_false (by omega)
  have gyes := fun (W : World) (hB : Below w.heap.size w W) => rget_ok m.yes.bs _ m.yes.row m.yes.cap (mb : Int) W (Lies.ofRow (HM.out.yes.up hB).sl.row) HM.out.yes.all (by omega)
  rw [bitI_nat, h5] at gyes
  have Gyes := Lib.hid gyes
  clear gyes
  have gno := fun (W : World) (hB : Below w.heap.size w W) => rget_ok m.no.bs _ m.no.row m.no.cap (mb : Int) W (Lies.ofRow (HM.out.no.up hB).sl.row) HM.out.no.all (by omega)
  rw [bitI_nat, h6] at gno
  have Gno := Lib.hid gno
  clear gno
  have kw2 := fun (W : World) (hB : Below w.heap.size w W) => rwith_is m.yes.bs m.yes.row m.yes.cap mb W (HM.out.yes.up hB).sl.row HM.out.yes.all h7 h3
  have KW := Lib.hid kw2
  have KO := Lib.hid (fun (W : World) (hB : Below w.heap.size w W) => rown_is l (some a) c W (HMS.out.up hB) hl)
  have hF := HM.out.fine
  have HF := Lib.hid hF
  have HJ := Lib.hid hjl
  have HL := Lib.hid hl
  clear kw2 h1 h2 h3 h4 h5 h6 h7 hq hF hjl
  clear hm h hM hab
  go_enter Try.func10, Try.ntmps10
  go_wp2_with (first
    | (refine load_rec 45 _ rfl rfl _ (Rec.vals m) rfl hat Try.underlying45 size_rmot ?_)
    | (refine store_rec 45 _ _ rfl rfl _ (Rec.vals m) (Rec.vals Mot.zero) 45 rfl rfl (RecAt.new _ (Rec.vals Mot.zero) _) size_rmot rfl (Rec.one m) ?_; intro w2 hS hb hsz hkp; clear hsz hkp; have hb := rec_made (Below.refl _ _) hb; have hB := hb; clear hb hat; have hS0 : w.heap.size < w2.heap.size := hS.lt; have c7 : w2.cell? ⟨w.heap.size, 30, none⟩ = some (.int .i64 1) := (hS.cell 30).trans st1; have c8 : w2.cell? ⟨w.heap.size, 31, none⟩ = some (.slice m.yes.row m.yes.bs.length m.yes.cap) := hS.cell 31; have c9 : w2.cell? ⟨w.heap.size, 32, none⟩ = some (.slice m.no.row m.no.bs.length m.no.cap) := hS.cell 32)
    | (go_at_call 36; refine (kw _).mono ?_; clear kw; rintro e w' ⟨rfl, rfl⟩)
    | (go_at_call 37; refine (Gyes.out _ hB).mono ?_; clear Gyes; rintro e w' ⟨rfl, rfl⟩)
    | (go_at_call 37; refine (Gno.out _ hB).mono ?_; clear Gno; rintro e w' ⟨rfl, rfl⟩)
    | (go_at_call 38; refine (KW.out _ hB).mono ?_; clear KW; rintro e w3 ⟨v, rfl, ho, hb⟩; obtain ⟨A3, c3, rfl⟩ := own_slice ho; have hS := hS.up hb; have hB := Below.then hB hb; have HO3 := Lib.hid ho; clear ho hb c7 c8 c9)
    | (refine store_slot 38 _ _ rfl rfl _ 31 (Rec.vals m) (Rec.vals (⟨m.acct, m.what, m.p, m.dest, m.amt, m.ends, m.due, m.st, ⟨A3, setBit m.yes.bs mb, c3⟩, m.no⟩ : Mot)) 45 (.slice A3 m.yes.bs.length c3) rfl rfl hS (by show 31 < 33; decide) rfl rfl size_sl31 (by show _ = Mot.vals _; simp [Mot.vals, Rec.vals, setBit_len]) ?_; intro w4 hS2 hb4 hz4 hk4; have hB4 := hB.trans hb4; have HO4 := Lib.hid (own_apart HO3.out (grown_but hb4 hk4) (fun q e => by have h1 := (HO3.out.lt q e).1; have h2 : w.heap.size < w2.heap.size := hS0; simp; omega)); clear hb4 hz4 hk4 HO3 hS hB)
    | (go_at_call 39; refine (KO.out _ hB4).mono ?_; clear KO; rintro e w5 ⟨v5, rfl, ho5, hb5⟩; obtain ⟨A5, c5, rfl⟩ := own_slice ho5; obtain ⟨g, hg, hgL⟩ := own_some ho5 (Nat.zero_lt_of_lt HJ.out); subst hg; have hS5 := hS2.up hb5; have hB5 := Below.then hB4 hb5; have HB45 := Lib.hid hb5; have HO5 := Lib.hid ho5; clear ho5 hb5 hS2)
    | ((with_reducible refine slot_is 71 rfl ?_); refine load_rec 45 _ rfl rfl _ (Rec.vals (⟨m.acct, m.what, m.p, m.dest, m.amt, m.ends, m.due, m.st, ⟨A3, setBit m.yes.bs mb, c3⟩, m.no⟩ : Mot)) rfl hS5.lies Try.underlying45 size_rmot ?_)
    | (refine store_row_rec 45 _ _ rfl rfl g j _ _ _ _ l m (⟨m.acct, m.what, m.p, m.dest, m.amt, m.ends, m.due, m.st, ⟨A3, setBit m.yes.bs mb, c3⟩, m.no⟩ : Mot) rfl rfl HO5.out HH.out size_rmot ?_; intro w6 ho6 hg6 hz6)
    )
  have hb46 : Below w4.heap.size w4 w6 := HB45.out.trans (grown_to hg6 hgL HB45.out.size)
  have hb6 : Below w.heap.size w w6 := hB4.trans (hb46.mono hB4.size)
  have hO4 := own_kept HO4.out hb46
  have hya : MotAt w6 (⟨m.acct, m.what, m.p, m.dest, m.amt, m.ends, m.due, m.st, ⟨A3, setBit m.yes.bs mb, c3⟩, m.no⟩ : Mot) := by
    have hat := HM.out.up hb6
    refine ⟨?_, hat.no, hat.amt, hat.par⟩
    refine ⟨own_sl (base := w2.heap.size) (z := 1) (e := 5) ?_ ?_, setBit_all HF.out.yes⟩
    · show World.ownsRow _ _ _ _ (.slice A3 (setBit m.yes.bs mb).length c3) (setBit m.yes.bs mb).length _
      rw [setBit_len]; exact hO4
    · show (setBit m.yes.bs mb).length * 1 ≤ _
      rw [setBit_len, Nat.mul_one]
      exact HF.out.yesLen
  have hMS := mots_set (y := (⟨m.acct, m.what, m.p, m.dest, m.amt, m.ends, m.due, m.st, ⟨A3, setBit m.yes.bs mb, c3⟩, m.no⟩ : Mot)) HMS.out hb6 ho6 rfl HL.out hya
  have hp : (l.set j (⟨m.acct, m.what, m.p, m.dest, m.amt, m.ends, m.due, m.st, ⟨A3, setBit m.yes.bs mb, c3⟩, m.no⟩ : Mot)).map Mot.pure = (l.map Mot.pure).set j (m.pure.voted mb true) := by rw [List.map_set]; rfl
  have HP := Lib.hid hp
  have HMS2 := Lib.hid hMS
  clear hp hMS hya hO4 hb46 HO4 HB45 HMS HM HF hS5 hg6 hz6 ho6 HO5
  go_wp2
  go_ret2
  exact ⟨l.set j (⟨m.acct, m.what, m.p, m.dest, m.amt, m.ends, m.due, m.st, ⟨A3, setBit m.yes.bs mb, c3⟩, m.no⟩ : Mot), _, _, by rw [List.length_set]; first | rfl | simp, HP.out, HMS2.out, hb6⟩

set_option maxRecDepth 100000 in
set_option maxHeartbeats 2000000 in
theorem rvote_good_no (l : List Mot) (A : Option Addr) (c j : Nat) (mb : Nat)  (m : Mot) (w : World) (hm : Mots w A c l) (hl : l.length ≤ 100000) (h : l[j]? = some m) (h1 : m.st = 1) (h2 : mb ≤ 127) (h3 : mb / 8 < m.yes.bs.length) (h4 : mb / 8 < m.no.bs.length) (h5 : bitAt m.yes.bs mb = false) (h6 : bitAt m.no.bs mb = false) (h7 : m.no.bs.length ≤ 100) :
    Calls Try.prog 10 #[.slice A l.length c, .int .i64 (j : Int), .int .i64 (mb : Int), .bool false] w fun e w' => MotsOf w ((l.map Mot.pure).set j (m.pure.voted mb false), 0) e w' := by
  have hjl := (List.getElem?_eq_some_iff.1 h).1
  have HMS := Lib.hid hm
  obtain ⟨a, rfl, hab, hat, hM⟩ := hm.at h
  have HM := Lib.hid hM
  have HH := Lib.hid h
  have hjI : (j : Int) < (l.length : Int) := by omega
  have hj0 : (0 : Int) ≤ (j : Int) := by omega
  have hj1 : ¬ (j : Int) < 0 := by omega
  have hj2 : ¬ (l.length : Int) ≤ (j : Int) := by omega
  have hj3 : decide ((l.length : Int) ≤ (j : Int)) = false := decide_eq_false hj2
  have st1 : (Rec.vals m)[30]? = some (.int .i64 1) := by show some (Value.int .i64 m.st) = _; rw [h1]
  have kw := fun W => rin23_is (mb : Int) 0 127 W
  rw [inB_yes (by omega)] at kw
  obtain ⟨q, hq⟩ : ∃ q : Nat, mb / 8 = q := ⟨_, rfl⟩
  have htd : (mb : Int).tdiv 8 = (q : Int) := by rw [Int.tdiv_eq_ediv_of_nonneg (by omega)]; omega
  have hqe : (mb : Int) / 8 = (q : Int) := by omega
  have hwq : IntKind.i64.wrap (q : Int) = (q : Int) := IntWalk.i64_in _ (by omega)
  have lyes : decide ((m.yes.bs.length : Int) ≤ (q : Int)) = false := decide_eq_false (by omega)
  have nyes : decide (m.yes.bs.length ≤ q) = false := decide_eq_false (by omega)
  have lno : decide ((m.no.bs.length : Int) ≤ (q : Int)) = false := decide_eq_false (by omega)
  have nno : decide (m.no.bs.length ≤ q) = false := decide_eq_false (by omega)
  have gyes := fun (W : World) (hB : Below w.heap.size w W) => rget_ok m.yes.bs _ m.yes.row m.yes.cap (mb : Int) W (Lies.ofRow (HM.out.yes.up hB).sl.row) HM.out.yes.all (by omega)
  rw [bitI_nat, h5] at gyes
  have Gyes := Lib.hid gyes
  clear gyes
  have gno := fun (W : World) (hB : Below w.heap.size w W) => rget_ok m.no.bs _ m.no.row m.no.cap (mb : Int) W (Lies.ofRow (HM.out.no.up hB).sl.row) HM.out.no.all (by omega)
  rw [bitI_nat, h6] at gno
  have Gno := Lib.hid gno
  clear gno
  have kw2 := fun (W : World) (hB : Below w.heap.size w W) => rwith_is m.no.bs m.no.row m.no.cap mb W (HM.out.no.up hB).sl.row HM.out.no.all h7 h4
  have KW := Lib.hid kw2
  have KO := Lib.hid (fun (W : World) (hB : Below w.heap.size w W) => rown_is l (some a) c W (HMS.out.up hB) hl)
  have hF := HM.out.fine
  have HF := Lib.hid hF
  have HJ := Lib.hid hjl
  have HL := Lib.hid hl
  clear kw2 h1 h2 h3 h4 h5 h6 h7 hq hF hjl
  clear hm h hM hab
  go_enter Try.func10, Try.ntmps10
  go_wp2_with (first
    | (refine load_rec 45 _ rfl rfl _ (Rec.vals m) rfl hat Try.underlying45 size_rmot ?_)
    | (refine store_rec 45 _ _ rfl rfl _ (Rec.vals m) (Rec.vals Mot.zero) 45 rfl rfl (RecAt.new _ (Rec.vals Mot.zero) _) size_rmot rfl (Rec.one m) ?_; intro w2 hS hb hsz hkp; clear hsz hkp; have hb := rec_made (Below.refl _ _) hb; have hB := hb; clear hb hat; have hS0 : w.heap.size < w2.heap.size := hS.lt; have c7 : w2.cell? ⟨w.heap.size, 30, none⟩ = some (.int .i64 1) := (hS.cell 30).trans st1; have c8 : w2.cell? ⟨w.heap.size, 31, none⟩ = some (.slice m.yes.row m.yes.bs.length m.yes.cap) := hS.cell 31; have c9 : w2.cell? ⟨w.heap.size, 32, none⟩ = some (.slice m.no.row m.no.bs.length m.no.cap) := hS.cell 32)
    | (go_at_call 36; refine (kw _).mono ?_; clear kw; rintro e w' ⟨rfl, rfl⟩)
    | (go_at_call 37; refine (Gyes.out _ hB).mono ?_; clear Gyes; rintro e w' ⟨rfl, rfl⟩)
    | (go_at_call 37; refine (Gno.out _ hB).mono ?_; clear Gno; rintro e w' ⟨rfl, rfl⟩)
    | (go_at_call 38; refine (KW.out _ hB).mono ?_; clear KW; rintro e w3 ⟨v, rfl, ho, hb⟩; obtain ⟨A3, c3, rfl⟩ := own_slice ho; have hS := hS.up hb; have hB := Below.then hB hb; have HO3 := Lib.hid ho; clear ho hb c7 c8 c9)
    | (refine store_slot 38 _ _ rfl rfl _ 32 (Rec.vals m) (Rec.vals (⟨m.acct, m.what, m.p, m.dest, m.amt, m.ends, m.due, m.st, m.yes, ⟨A3, setBit m.no.bs mb, c3⟩⟩ : Mot)) 45 (.slice A3 m.no.bs.length c3) rfl rfl hS (by show 32 < 33; decide) rfl rfl size_sl31 (by show _ = Mot.vals _; simp [Mot.vals, Rec.vals, setBit_len]) ?_; intro w4 hS2 hb4 hz4 hk4; have hB4 := hB.trans hb4; have HO4 := Lib.hid (own_apart HO3.out (grown_but hb4 hk4) (fun q e => by have h1 := (HO3.out.lt q e).1; have h2 : w.heap.size < w2.heap.size := hS0; simp; omega)); clear hb4 hz4 hk4 HO3 hS hB)
    | (go_at_call 39; refine (KO.out _ hB4).mono ?_; clear KO; rintro e w5 ⟨v5, rfl, ho5, hb5⟩; obtain ⟨A5, c5, rfl⟩ := own_slice ho5; obtain ⟨g, hg, hgL⟩ := own_some ho5 (Nat.zero_lt_of_lt HJ.out); subst hg; have hS5 := hS2.up hb5; have hB5 := Below.then hB4 hb5; have HB45 := Lib.hid hb5; have HO5 := Lib.hid ho5; clear ho5 hb5 hS2)
    | ((with_reducible refine slot_is 71 rfl ?_); refine load_rec 45 _ rfl rfl _ (Rec.vals (⟨m.acct, m.what, m.p, m.dest, m.amt, m.ends, m.due, m.st, m.yes, ⟨A3, setBit m.no.bs mb, c3⟩⟩ : Mot)) rfl hS5.lies Try.underlying45 size_rmot ?_)
    | (refine store_row_rec 45 _ _ rfl rfl g j _ _ _ _ l m (⟨m.acct, m.what, m.p, m.dest, m.amt, m.ends, m.due, m.st, m.yes, ⟨A3, setBit m.no.bs mb, c3⟩⟩ : Mot) rfl rfl HO5.out HH.out size_rmot ?_; intro w6 ho6 hg6 hz6)
    )
  have hb46 : Below w4.heap.size w4 w6 := HB45.out.trans (grown_to hg6 hgL HB45.out.size)
  have hb6 : Below w.heap.size w w6 := hB4.trans (hb46.mono hB4.size)
  have hO4 := own_kept HO4.out hb46
  have hya : MotAt w6 (⟨m.acct, m.what, m.p, m.dest, m.amt, m.ends, m.due, m.st, m.yes, ⟨A3, setBit m.no.bs mb, c3⟩⟩ : Mot) := by
    have hat := HM.out.up hb6
    refine ⟨hat.yes, ?_, hat.amt, hat.par⟩
    refine ⟨own_sl (base := w2.heap.size) (z := 1) (e := 5) ?_ ?_, setBit_all HF.out.no⟩
    · show World.ownsRow _ _ _ _ (.slice A3 (setBit m.no.bs mb).length c3) (setBit m.no.bs mb).length _
      rw [setBit_len]; exact hO4
    · show (setBit m.no.bs mb).length * 1 ≤ _
      rw [setBit_len, Nat.mul_one]
      exact HF.out.noLen
  have hMS := mots_set (y := (⟨m.acct, m.what, m.p, m.dest, m.amt, m.ends, m.due, m.st, m.yes, ⟨A3, setBit m.no.bs mb, c3⟩⟩ : Mot)) HMS.out hb6 ho6 rfl HL.out hya
  have hp : (l.set j (⟨m.acct, m.what, m.p, m.dest, m.amt, m.ends, m.due, m.st, m.yes, ⟨A3, setBit m.no.bs mb, c3⟩⟩ : Mot)).map Mot.pure = (l.map Mot.pure).set j (m.pure.voted mb false) := by rw [List.map_set]; rfl
  have HP := Lib.hid hp
  have HMS2 := Lib.hid hMS
  clear hp hMS hya hO4 hb46 HO4 HB45 HMS HM HF hS5 hg6 hz6 ho6 HO5
  go_wp2
  go_ret2
  exact ⟨l.set j (⟨m.acct, m.what, m.p, m.dest, m.amt, m.ends, m.due, m.st, m.yes, ⟨A3, setBit m.no.bs mb, c3⟩⟩ : Mot), _, _, by rw [List.length_set]; first | rfl | simp, HP.out, HMS2.out, hb6⟩

theorem size_int23 : (Try.prog.info? 3).map (·.size) = some 1 := by kernel_rfl
set_option maxRecDepth 100000 in
set_option maxHeartbeats 2000000 in
theorem rfinish_shut (l : List Mot) (A : Option Addr) (c j : Nat) (y : Bool) (m : Mot) (w : World) (hm : Mots w A c l) (hl : l.length ≤ 100000) (h : l[j]? = some m) (h1 : ¬ m.st = 2) :
    Calls Try.prog 24 #[.slice A l.length c, .int .i64 (j : Int), .bool y] w fun e w' => MotsOf w ([], 291) e w' := by
  have hjl := (List.getElem?_eq_some_iff.1 h).1
  have HMS := Lib.hid hm
  obtain ⟨a, rfl, hab, hat, hM⟩ := hm.at h
  have HH := Lib.hid h
  have hjI : (j : Int) < (l.length : Int) := by omega
  have hj0 : (0 : Int) ≤ (j : Int) := by omega
  have hj1 : ¬ (j : Int) < 0 := by omega
  have hj2 : ¬ (l.length : Int) ≤ (j : Int) := by omega
  have hj3 : decide ((l.length : Int) ≤ (j : Int)) = false := decide_eq_false hj2
  have x7 : w.cell? ⟨(a.add (j * 33)).block, (a.add (j * 33)).off + 30, none⟩ = some (.int .i64 m.st) := hat.fld 29 rfl
  have b1 : (m.st == 2) = false := by simp [h1]
  have b2 : (m.st != 2) = true := by simp [h1]
  clear h1 hat hm h hM hab
  go_enter Try.func24, Try.ntmps24
  go_wp2
  go_ret2
  exact ⟨[], _, _, by first | rfl | simp, rfl, Mots.nil _, Below.refl _ _⟩

set_option maxRecDepth 100000 in
set_option maxHeartbeats 2000000 in
theorem rfinish_good_true (l : List Mot) (A : Option Addr) (c j : Nat) (m : Mot) (w : World) (hm : Mots w A c l) (hl : l.length ≤ 100000) (h : l[j]? = some m) (h1 : m.st = 2) :
    Calls Try.prog 24 #[.slice A l.length c, .int .i64 (j : Int), .bool true] w fun e w' => MotsOf w ((l.map Mot.pure).set j (m.pure.finished true), 0) e w' := by
  have hjl := (List.getElem?_eq_some_iff.1 h).1
  have HMS := Lib.hid hm
  obtain ⟨a, rfl, hab, hat, hM⟩ := hm.at h
  have HH := Lib.hid h
  have hjI : (j : Int) < (l.length : Int) := by omega
  have hj0 : (0 : Int) ≤ (j : Int) := by omega
  have hj1 : ¬ (j : Int) < 0 := by omega
  have hj2 : ¬ (l.length : Int) ≤ (j : Int) := by omega
  have hj3 : decide ((l.length : Int) ≤ (j : Int)) = false := decide_eq_false hj2
  have x7 : w.cell? ⟨(a.add (j * 33)).block, (a.add (j * 33)).off + 30, none⟩ = some (.int .i64 2) := (hat.fld 29 rfl).trans (by show some (Value.int .i64 m.st) = _; rw [h1])
  have KO := Lib.hid (rown_is l (some a) c w hm hl)
  have HM := Lib.hid hM
  have HJ := Lib.hid hjl
  have HL := Lib.hid hl
  clear h1 hm h hM hab hjl
  go_enter Try.func24, Try.ntmps24
  go_wp2_with (first
    | (go_at_call 39; refine KO.out.mono ?_; clear KO; rintro e w1 ⟨v5, rfl, ho5, hb5⟩; obtain ⟨A5, c5, rfl⟩ := own_slice ho5; obtain ⟨g, hg, hgL⟩ := own_some ho5 (Nat.zero_lt_of_lt HJ.out); subst hg; have hg1 : g < w1.heap.size := (ho5.lt g rfl).2; have hgb : w.heap.size ≤ w1.heap.size := hb5.size; have hat := hat.up hb5; have hB := hb5; have HO := Lib.hid ho5; clear ho5 hb5 x7)
    | ((with_reducible refine slot_is 29 rfl ?_); refine load_rec 45 _ rfl rfl _ (Rec.vals m) rfl hat Try.underlying45 size_rmot ?_)
    | (refine store_rec 45 _ _ rfl rfl _ (Rec.vals m) (Rec.vals Mot.zero) 45 rfl rfl (RecAt.new _ (Rec.vals Mot.zero) _) size_rmot rfl (Rec.one m) ?_; intro w2 hS hb hsz hkp; clear hsz hkp; have hb := rec_made (Below.refl _ _) hb; have hB := Below.then hB hb; have HO := Lib.hid (own_kept HO.out hb); clear hb hat)
    | (refine store_slot 3 _ _ rfl rfl _ 30 (Rec.vals m) (Rec.vals (⟨m.acct, m.what, m.p, m.dest, m.amt, m.ends, m.due, 4, m.yes, m.no⟩ : Mot)) 45 (.int .i64 4) rfl rfl hS (by show 30 < 33; decide) rfl rfl size_int23 rfl ?_; intro w3 hS hb4 hz4 hk4; have HO := Lib.hid (own_apart HO.out (grown_but hb4 hk4) (fun q e => by have h1 := (HO.out.lt q e).2; simp only [Value.ownBlock, Option.some.injEq] at e; subst e; simp only [ne_eq, Option.some.injEq]; have := hg1; omega)); have hB := hB.trans (hb4.mono hgb); clear hb4 hz4 hk4)
    | (refine store_slot 3 _ _ rfl rfl _ 30 (Rec.vals (⟨m.acct, m.what, m.p, m.dest, m.amt, m.ends, m.due, 4, m.yes, m.no⟩ : Mot)) (Rec.vals (⟨m.acct, m.what, m.p, m.dest, m.amt, m.ends, m.due, 3, m.yes, m.no⟩ : Mot)) 45 (.int .i64 3) rfl rfl hS (by show 30 < 33; decide) rfl rfl size_int23 rfl ?_; intro w4 hS hb4 hz4 hk4; have HO := Lib.hid (own_apart HO.out (grown_but hb4 hk4) (fun q e => by have h1 := (HO.out.lt q e).2; simp only [Value.ownBlock, Option.some.injEq] at e; subst e; simp only [ne_eq, Option.some.injEq]; have := hg1; omega)); have hB := hB.trans (hb4.mono hgb); clear hb4 hz4 hk4)
    | ((with_reducible refine slot_is 35 rfl ?_); refine load_rec 45 _ rfl rfl _ (Rec.vals (⟨m.acct, m.what, m.p, m.dest, m.amt, m.ends, m.due, 3, m.yes, m.no⟩ : Mot)) rfl hS.lies Try.underlying45 size_rmot ?_)
    | (refine store_row_rec 45 _ _ rfl rfl g j _ _ _ _ l m (⟨m.acct, m.what, m.p, m.dest, m.amt, m.ends, m.due, 3, m.yes, m.no⟩ : Mot) rfl rfl HO.out HH.out size_rmot ?_; intro w6 ho6 hg6 hz6)
    )
  have hb6 : Below w.heap.size w w6 := hB.trans (grown_to hg6 hgL hB.size)
  have hat := HM.out.up hb6
  have hMS := mots_set (y := (⟨m.acct, m.what, m.p, m.dest, m.amt, m.ends, m.due, 3, m.yes, m.no⟩ : Mot)) HMS.out hb6 ho6 rfl HL.out ⟨hat.yes, hat.no, hat.amt, hat.par⟩
  have hp : (l.set j (⟨m.acct, m.what, m.p, m.dest, m.amt, m.ends, m.due, 3, m.yes, m.no⟩ : Mot)).map Mot.pure = (l.map Mot.pure).set j (m.pure.finished true) := by rw [List.map_set]; rfl
  have HP := Lib.hid hp
  have HMS2 := Lib.hid hMS
  clear hp hMS hat HMS HM hS hg6 hz6 ho6 HO hB
  go_wp2
  go_ret2
  exact ⟨l.set j (⟨m.acct, m.what, m.p, m.dest, m.amt, m.ends, m.due, 3, m.yes, m.no⟩ : Mot), _, _, by rw [List.length_set]; first | rfl | simp, HP.out, HMS2.out, hb6⟩

set_option maxRecDepth 100000 in
set_option maxHeartbeats 2000000 in
theorem rfinish_good_false (l : List Mot) (A : Option Addr) (c j : Nat) (m : Mot) (w : World) (hm : Mots w A c l) (hl : l.length ≤ 100000) (h : l[j]? = some m) (h1 : m.st = 2) :
    Calls Try.prog 24 #[.slice A l.length c, .int .i64 (j : Int), .bool false] w fun e w' => MotsOf w ((l.map Mot.pure).set j (m.pure.finished false), 0) e w' := by
  have hjl := (List.getElem?_eq_some_iff.1 h).1
  have HMS := Lib.hid hm
  obtain ⟨a, rfl, hab, hat, hM⟩ := hm.at h
  have HH := Lib.hid h
  have hjI : (j : Int) < (l.length : Int) := by omega
  have hj0 : (0 : Int) ≤ (j : Int) := by omega
  have hj1 : ¬ (j : Int) < 0 := by omega
  have hj2 : ¬ (l.length : Int) ≤ (j : Int) := by omega
  have hj3 : decide ((l.length : Int) ≤ (j : Int)) = false := decide_eq_false hj2
  have x7 : w.cell? ⟨(a.add (j * 33)).block, (a.add (j * 33)).off + 30, none⟩ = some (.int .i64 2) := (hat.fld 29 rfl).trans (by show some (Value.int .i64 m.st) = _; rw [h1])
  have KO := Lib.hid (rown_is l (some a) c w hm hl)
  have HM := Lib.hid hM
  have HJ := Lib.hid hjl
  have HL := Lib.hid hl
  clear h1 hm h hM hab hjl
  go_enter Try.func24, Try.ntmps24
  go_wp2_with (first
    | (go_at_call 39; refine KO.out.mono ?_; clear KO; rintro e w1 ⟨v5, rfl, ho5, hb5⟩; obtain ⟨A5, c5, rfl⟩ := own_slice ho5; obtain ⟨g, hg, hgL⟩ := own_some ho5 (Nat.zero_lt_of_lt HJ.out); subst hg; have hg1 : g < w1.heap.size := (ho5.lt g rfl).2; have hgb : w.heap.size ≤ w1.heap.size := hb5.size; have hat := hat.up hb5; have hB := hb5; have HO := Lib.hid ho5; clear ho5 hb5 x7)
    | ((with_reducible refine slot_is 29 rfl ?_); refine load_rec 45 _ rfl rfl _ (Rec.vals m) rfl hat Try.underlying45 size_rmot ?_)
    | (refine store_rec 45 _ _ rfl rfl _ (Rec.vals m) (Rec.vals Mot.zero) 45 rfl rfl (RecAt.new _ (Rec.vals Mot.zero) _) size_rmot rfl (Rec.one m) ?_; intro w2 hS hb hsz hkp; clear hsz hkp; have hb := rec_made (Below.refl _ _) hb; have hB := Below.then hB hb; have HO := Lib.hid (own_kept HO.out hb); clear hb hat)
    | (refine store_slot 3 _ _ rfl rfl _ 30 (Rec.vals m) (Rec.vals (⟨m.acct, m.what, m.p, m.dest, m.amt, m.ends, m.due, 4, m.yes, m.no⟩ : Mot)) 45 (.int .i64 4) rfl rfl hS (by show 30 < 33; decide) rfl rfl size_int23 rfl ?_; intro w3 hS hb4 hz4 hk4; have HO := Lib.hid (own_apart HO.out (grown_but hb4 hk4) (fun q e => by have h1 := (HO.out.lt q e).2; simp only [Value.ownBlock, Option.some.injEq] at e; subst e; simp only [ne_eq, Option.some.injEq]; have := hg1; omega)); have hB := hB.trans (hb4.mono hgb); clear hb4 hz4 hk4)
    | ((with_reducible refine slot_is 35 rfl ?_); refine load_rec 45 _ rfl rfl _ (Rec.vals (⟨m.acct, m.what, m.p, m.dest, m.amt, m.ends, m.due, 4, m.yes, m.no⟩ : Mot)) rfl hS.lies Try.underlying45 size_rmot ?_)
    | (refine store_row_rec 45 _ _ rfl rfl g j _ _ _ _ l m (⟨m.acct, m.what, m.p, m.dest, m.amt, m.ends, m.due, 4, m.yes, m.no⟩ : Mot) rfl rfl HO.out HH.out size_rmot ?_; intro w6 ho6 hg6 hz6)
    )
  have hb6 : Below w.heap.size w w6 := hB.trans (grown_to hg6 hgL hB.size)
  have hat := HM.out.up hb6
  have hMS := mots_set (y := (⟨m.acct, m.what, m.p, m.dest, m.amt, m.ends, m.due, 4, m.yes, m.no⟩ : Mot)) HMS.out hb6 ho6 rfl HL.out ⟨hat.yes, hat.no, hat.amt, hat.par⟩
  have hp : (l.set j (⟨m.acct, m.what, m.p, m.dest, m.amt, m.ends, m.due, 4, m.yes, m.no⟩ : Mot)).map Mot.pure = (l.map Mot.pure).set j (m.pure.finished false) := by rw [List.map_set]; rfl
  have HP := Lib.hid hp
  have HMS2 := Lib.hid hMS
  clear hp hMS hat HMS HM hS hg6 hz6 ho6 HO hB
  go_wp2
  go_ret2
  exact ⟨l.set j (⟨m.acct, m.what, m.p, m.dest, m.amt, m.ends, m.due, 4, m.yes, m.no⟩ : Mot), _, _, by rw [List.length_set]; first | rfl | simp, HP.out, HMS2.out, hb6⟩

/-- What comes of a vote, by the document. -/
theorem rvote_is (l : List Mot) (A : Option Addr) (c : Nat) (i k : Int) (y : Bool) (w : World) (hm : Mots w A c l) (hl : l.length ≤ 100000) (hs : ∀ m ∈ l, m.yes.bs.length ≤ 100 ∧ m.no.bs.length ≤ 100) :
    Calls Try.prog 10 #[.slice A l.length c, .int .i64 i, .int .i64 k, .bool y] w fun e w' => MotsOf w (pvote (l.map Mot.pure) i k y) e w' := by
  cases hi : motAt l i with
  | none =>
    rw [pvote_none k y (by rw [motAt_map, hi]; rfl)]
    by_cases h0 : i < 0
    · exact rvote_low l A c i k y w h0
    · exact rvote_high l A c i k y w (by omega) (by rcases motAt_none hi with h | h <;> omega)
  | some m =>
    obtain ⟨j, rfl, hj⟩ := motAt_some hi
    have hp : (l.map Mot.pure)[j]? = some m.pure := by rw [List.getElem?_map, hj]; rfl
    obtain ⟨hs1, hs2⟩ := hs m (List.mem_of_getElem? hj)
    by_cases h1 : m.st = 1
    · by_cases h2 : 0 ≤ k ∧ k ≤ 127
      · obtain ⟨mb, rfl⟩ : ∃ mb : Nat, k = (mb : Int) := ⟨k.toNat, by omega⟩
        have h2' : mb ≤ 127 := by omega
        by_cases h3 : mb / 8 < m.yes.bs.length
        · by_cases h4 : mb / 8 < m.no.bs.length
          · have hh : m.pure.has (mb : Int) := ⟨by omega, by omega, by rw [Int.toNat_natCast]; exact h3, by rw [Int.toNat_natCast]; exact h4⟩
            cases h5 : bitAt m.yes.bs mb with
            | true =>
              rw [pvote_twice y hp h1 hh (by unfold PMot.twice; simp only [Int.toNat_natCast]; show (bitAt m.yes.bs mb || _) = true; rw [h5]; rfl)]
              exact rvote_yestwice l A c j mb y m w hm hl hj h1 h2' h3 h4 h5
            | false =>
              cases h6 : bitAt m.no.bs mb with
              | true =>
                rw [pvote_twice y hp h1 hh (by unfold PMot.twice; simp only [Int.toNat_natCast]; show (_ || bitAt m.no.bs mb) = true; rw [h6, Bool.or_true])]
                exact rvote_notwice l A c j mb y m w hm hl hj h1 h2' h3 h4 h5 h6
              | false =>
                rw [pvote_ok y hp h1 hh (by unfold PMot.twice; simp only [Int.toNat_natCast]; show (bitAt m.yes.bs mb || bitAt m.no.bs mb) = false; rw [h5, h6]; rfl), Int.toNat_natCast]
                cases y
                · exact rvote_good_no l A c j mb m w hm hl hj h1 h2' h3 h4 h5 h6 hs2
                · exact rvote_good_yes l A c j mb m w hm hl hj h1 h2' h3 h4 h5 h6 hs1
          · rw [pvote_arg y hp h1 (fun h => h4 (by have := h.2.2.2; rw [Int.toNat_natCast] at this; exact this))]
            exact rvote_noless l A c j mb y m w hm hl hj h1 h2' h3 h4
        · rw [pvote_arg y hp h1 (fun h => h3 (by have := h.2.2.1; rw [Int.toNat_natCast] at this; exact this))]
          exact rvote_yesless l A c j mb y m w hm hl hj h1 h2' h3
      · rw [pvote_arg y hp h1 (fun h => h2 ⟨h.1, h.2.1⟩)]
        exact rvote_far l A c j k y m w hm hl hj h1 h2
    · rw [pvote_closed k y hp h1]
      exact rvote_shut l A c j k y m w hm hl hj h1
/-- What comes of what is over, by the document. -/
theorem rfinish_is (l : List Mot) (A : Option Addr) (c : Nat) (i : Int) (y : Bool) (w : World) (hm : Mots w A c l) (hl : l.length ≤ 100000) :
    Calls Try.prog 24 #[.slice A l.length c, .int .i64 i, .bool y] w fun e w' => MotsOf w (pfinish (l.map Mot.pure) i y) e w' := by
  cases hi : motAt l i with
  | none =>
    rw [pfinish_none y (by rw [motAt_map, hi]; rfl)]
    by_cases h0 : i < 0
    · exact rfinish_low l A c i y w h0
    · exact rfinish_high l A c i y w (by omega) (by rcases motAt_none hi with h | h <;> omega)
  | some m =>
    obtain ⟨j, rfl, hj⟩ := motAt_some hi
    have hp : (l.map Mot.pure)[j]? = some m.pure := by rw [List.getElem?_map, hj]; rfl
    by_cases h1 : m.st = 2
    · rw [pfinish_ok y hp h1]
      cases y
      · exact rfinish_good_false l A c j m w hm hl hj h1
      · exact rfinish_good_true l A c j m w hm hl hj h1
    · rw [pfinish_state y hp h1]
      exact rfinish_shut l A c j y m w hm hl hj h1
end Go.Proofs.Ytcaejanfhchacaa
