/- Layer 23 (moot): a vote, and what is over. By contracts. -/
import Derived.Test.YtcaejanfhchacaaMooB
import Derived.Test.YtcaejanfhchacaaMooC
namespace Go.Proofs.Ytcaejanfhchacaa
open Go.RowKit Go.Shelf
set_option linter.unusedVariables false
set_option linter.unusedSimpArgs false

set_option maxRecDepth 100000 in
set_option maxHeartbeats 2000000 in
/-- A vote (yes), as a function that took the vote and the member with it. -/
theorem vote1_yes (b1 b2 mb : Nat) (q : PMot) (w : World) (h1 : w.cell? ⟨b1, 0, none⟩ = some (.bool true)) (h2 : w.cell? ⟨b2, 0, none⟩ = some (.int .i64 (mb : Int))) (hk : mb ≤ 127) (hq : mb / 8 < q.yes.length) :
    Turns w 34 #[.pointer (some ⟨b1, 0, none⟩), .pointer (some ⟨b2, 0, none⟩)] q (q.voted mb true) := by
  intro L g n c k cur m u hu hL hM hmq
  subst hmq
  have d1 : u.cell? ⟨b1, 0, none⟩ = some (.bool true) := (hu.cell (World.block_lt_of_cell? w _ h1)).trans h1
  have d2 : u.drew.cell? ⟨b2, 0, none⟩ = some (.int .i64 (mb : Int)) := (hu.cell (World.block_lt_of_cell? w _ h2)).trans h2
  have hat := own_lies (α := Mot) hM.row hM.hit
  have hgr : g < u.heap.size := (hM.row.lt g rfl).2
  have cy : u.drew.cell? ⟨g, k * 33 + 31, none⟩ = some (.slice m.yes.row m.yes.bs.length m.yes.cap) := hat.fld 30 rfl
  have fy : u.drew.frozen? ⟨g, k * 33 + 31, none⟩ = false := hM.row.frozenAt _
  have hb := hM.own.at.yes
  have ks := set_ok m.yes.bs _ m.yes.row m.yes.cap mb u.drew (Lies.ofRow (hb.up (Below.refl _ _).drew).sl.row) hb.all (by have := hb.sl.fit; omega) (by omega) hq
  have KS := Lib.hid ks
  have HM := Lib.hid hM
  clear ks hM hat hb h1 h2 hq
  show Calls Try.prog 34 #[.pointer (some ⟨g, k * 33, none⟩), .pointer (some ⟨b1, 0, none⟩), .pointer (some ⟨b2, 0, none⟩)] u _
  go_enter Try.func34, Try.ntmps34
  go_wp2_with fail
  go_region_with (go_at_call 35; refine KS.out.mono ?_; clear KS; rintro e w1 ⟨v, rfl, ho, hb⟩; obtain ⟨A1, c1, rfl⟩ := own_slice ho; have cy1 : w1.cell? ⟨g, k * 33 + 31, none⟩ = some (.slice m.yes.row m.yes.bs.length m.yes.cap) := (hb.cell hgr).trans cy; have fy1 : w1.frozen? ⟨g, k * 33 + 31, none⟩ = false := (hb.frozen hgr).trans fy)
  all_goals
    go_wp2
    have hB1 : Below u.heap.size u w1 := ((Below.refl _ _).drew).trans hb
    have hrow := own_kept HM.out.row hB1
    have hset := mot_set hrow HM.out.hit ⟨m.acct, m.what, m.p, m.dest, m.amt, m.ends, m.due, m.st, ⟨A1, setBit m.yes.bs mb, c1⟩, m.no⟩ 31 (.slice A1 m.yes.bs.length c1) (by decide) (by simp [Mot.vals, Rec.vals, setBit_len])
    have hown : w1.ownsRow L 5 1 (.slice A1 m.yes.bs.length c1) m.yes.bs.length (u8s (setBit m.yes.bs mb)) := own_base ho (Nat.le_trans (hrow.lt g rfl).1 (Nat.le_of_lt hgr))
    have hot := (HM.out.own.up hB1)
    have hfin := HM.out.own.fine
    have hy2 := own_apart hown hset.2 (fun q e e2 => own_types hown hrow (by simp only [ne_eq]; decide) q e (by rw [← e2]; rfl))
    have hn2 := own_apart hot.no hset.2 (fun q e e2 => own_types hot.no hrow (by simp only [ne_eq]; decide) q e (by rw [← e2]; rfl))
    go_end0
    refine ⟨rfl, ⟨m.acct, m.what, m.p, m.dest, m.amt, m.ends, m.due, m.st, ⟨A1, setBit m.yes.bs mb, c1⟩, m.no⟩, by unfold PMot.voted Mot.pure; rfl, ⟨?_, hn2, ?_⟩, hset.1, grown_trans (grown_any hB1 _) hset.2⟩
    · show World.ownsRow _ L _ 1 (.slice A1 (setBit m.yes.bs mb).length c1) (setBit m.yes.bs mb).length _
      rw [setBit_len]; exact hy2
    · exact ⟨setBit_all hfin.yes, hfin.no, by show (setBit m.yes.bs mb).length ≤ _; rw [setBit_len]; exact hfin.yesLen, hfin.noLen, hfin.amt, hfin.par⟩

set_option maxRecDepth 100000 in
set_option maxHeartbeats 2000000 in
/-- A vote (no), as a function that took the vote and the member with it. -/
theorem vote1_no (b1 b2 mb : Nat) (q : PMot) (w : World) (h1 : w.cell? ⟨b1, 0, none⟩ = some (.bool false)) (h2 : w.cell? ⟨b2, 0, none⟩ = some (.int .i64 (mb : Int))) (hk : mb ≤ 127) (hq : mb / 8 < q.no.length) :
    Turns w 34 #[.pointer (some ⟨b1, 0, none⟩), .pointer (some ⟨b2, 0, none⟩)] q (q.voted mb false) := by
  intro L g n c k cur m u hu hL hM hmq
  subst hmq
  have d1 : u.cell? ⟨b1, 0, none⟩ = some (.bool false) := (hu.cell (World.block_lt_of_cell? w _ h1)).trans h1
  have d2 : u.drew.cell? ⟨b2, 0, none⟩ = some (.int .i64 (mb : Int)) := (hu.cell (World.block_lt_of_cell? w _ h2)).trans h2
  have hat := own_lies (α := Mot) hM.row hM.hit
  have hgr : g < u.heap.size := (hM.row.lt g rfl).2
  have cy : u.drew.cell? ⟨g, k * 33 + 32, none⟩ = some (.slice m.no.row m.no.bs.length m.no.cap) := hat.fld 31 rfl
  have fy : u.drew.frozen? ⟨g, k * 33 + 32, none⟩ = false := hM.row.frozenAt _
  have hb := hM.own.at.no
  have ks := set_ok m.no.bs _ m.no.row m.no.cap mb u.drew (Lies.ofRow (hb.up (Below.refl _ _).drew).sl.row) hb.all (by have := hb.sl.fit; omega) (by omega) hq
  have KS := Lib.hid ks
  have HM := Lib.hid hM
  clear ks hM hat hb h1 h2 hq
  show Calls Try.prog 34 #[.pointer (some ⟨g, k * 33, none⟩), .pointer (some ⟨b1, 0, none⟩), .pointer (some ⟨b2, 0, none⟩)] u _
  go_enter Try.func34, Try.ntmps34
  go_wp2_with fail
  go_region_with (go_at_call 35; refine KS.out.mono ?_; clear KS; rintro e w1 ⟨v, rfl, ho, hb⟩; obtain ⟨A1, c1, rfl⟩ := own_slice ho; have cy1 : w1.cell? ⟨g, k * 33 + 32, none⟩ = some (.slice m.no.row m.no.bs.length m.no.cap) := (hb.cell hgr).trans cy; have fy1 : w1.frozen? ⟨g, k * 33 + 32, none⟩ = false := (hb.frozen hgr).trans fy)
  all_goals
    go_wp2
    have hB1 : Below u.heap.size u w1 := ((Below.refl _ _).drew).trans hb
    have hrow := own_kept HM.out.row hB1
    have hset := mot_set hrow HM.out.hit ⟨m.acct, m.what, m.p, m.dest, m.amt, m.ends, m.due, m.st, m.yes, ⟨A1, setBit m.no.bs mb, c1⟩⟩ 32 (.slice A1 m.no.bs.length c1) (by decide) (by simp [Mot.vals, Rec.vals, setBit_len])
    have hown : w1.ownsRow L 5 1 (.slice A1 m.no.bs.length c1) m.no.bs.length (u8s (setBit m.no.bs mb)) := own_base ho (Nat.le_trans (hrow.lt g rfl).1 (Nat.le_of_lt hgr))
    have hot := (HM.out.own.up hB1)
    have hfin := HM.out.own.fine
    have hy2 := own_apart hown hset.2 (fun q e e2 => own_types hown hrow (by simp only [ne_eq]; decide) q e (by rw [← e2]; rfl))
    have hn2 := own_apart hot.yes hset.2 (fun q e e2 => own_types hot.yes hrow (by simp only [ne_eq]; decide) q e (by rw [← e2]; rfl))
    go_end0
    refine ⟨rfl, ⟨m.acct, m.what, m.p, m.dest, m.amt, m.ends, m.due, m.st, m.yes, ⟨A1, setBit m.no.bs mb, c1⟩⟩, by unfold PMot.voted Mot.pure; rfl, ⟨hn2, ?_, ?_⟩, hset.1, grown_trans (grown_any hB1 _) hset.2⟩
    · show World.ownsRow _ L _ 1 (.slice A1 (setBit m.no.bs mb).length c1) (setBit m.no.bs mb).length _
      rw [setBit_len]; exact hy2
    · exact ⟨hfin.yes, setBit_all hfin.no, hfin.yesLen, by show (setBit m.no.bs mb).length ≤ _; rw [setBit_len]; exact hfin.noLen, hfin.amt, hfin.par⟩

set_option maxRecDepth 100000 in
set_option maxHeartbeats 2000000 in
/-- What is over (true), as a function that took with it whether it was done. -/
theorem finish1_true (b1 : Nat) (q : PMot) (w : World) (h1 : w.cell? ⟨b1, 0, none⟩ = some (.bool true)) :
    Turns w 63 #[.pointer (some ⟨b1, 0, none⟩)] q (q.finished true) := by
  intro L g n c k cur m u hu hL hM hmq
  subst hmq
  have hb1 := World.block_lt_of_cell? w _ h1
  have d1 : u.cell? ⟨b1, 0, none⟩ = some (.bool true) := (hu.cell hb1).trans h1
  have hat := own_lies (α := Mot) hM.row hM.hit
  have hgL : L ≤ g := (hM.row.lt g rfl).1
  have hne : b1 ≠ g := by have : b1 < w.heap.size := hb1; omega
  have cy : u.cell? ⟨g, k * 33 + 30, none⟩ = some (.int .i64 m.st) := hat.fld 29 rfl
  have fy : u.frozen? ⟨g, k * 33 + 30, none⟩ = false := hM.row.frozenAt _
  have d2 : (u.setCell ⟨g, k * 33 + 30, none⟩ (.int .i64 4)).cell? ⟨b1, 0, none⟩ = some (.bool true) := (World.cell?_setCell_other _ _ _ _ (fun e => hne (congrArg Addr.block e).symm)).trans d1
  have HM := Lib.hid hM
  clear hM hat h1 hb1
  show Calls Try.prog 63 #[.pointer (some ⟨g, k * 33, none⟩), .pointer (some ⟨b1, 0, none⟩)] u _
  go_enter Try.func63, Try.ntmps63
  go_wp2
  go_end0
  have hset := mot_set HM.out.row HM.out.hit (⟨m.acct, m.what, m.p, m.dest, m.amt, m.ends, m.due, 4, m.yes, m.no⟩ : Mot) 30 (.int .i64 4) (by decide) rfl
  have hset2 := mot_set hset.1 (x := (⟨m.acct, m.what, m.p, m.dest, m.amt, m.ends, m.due, 4, m.yes, m.no⟩ : Mot)) (List.getElem?_set_self (List.getElem?_eq_some_iff.1 HM.out.hit).1) ⟨m.acct, m.what, m.p, m.dest, m.amt, m.ends, m.due, 3, m.yes, m.no⟩ 30 (.int .i64 3) (by decide) rfl
  rw [List.set_set] at hset2
  have hown := (HM.out.own.apart HM.out.row hset.2).apart hset.1 hset2.2
  refine ⟨rfl, ⟨m.acct, m.what, m.p, m.dest, m.amt, m.ends, m.due, 3, m.yes, m.no⟩, rfl, ⟨hown.yes, hown.no, ⟨hown.fine.yes, hown.fine.no, hown.fine.yesLen, hown.fine.noLen, hown.fine.amt, hown.fine.par⟩⟩, hset2.1, grown_trans hset.2 hset2.2⟩

set_option maxRecDepth 100000 in
set_option maxHeartbeats 2000000 in
/-- What is over (false), as a function that took with it whether it was done. -/
theorem finish1_false (b1 : Nat) (q : PMot) (w : World) (h1 : w.cell? ⟨b1, 0, none⟩ = some (.bool false)) :
    Turns w 63 #[.pointer (some ⟨b1, 0, none⟩)] q (q.finished false) := by
  intro L g n c k cur m u hu hL hM hmq
  subst hmq
  have hb1 := World.block_lt_of_cell? w _ h1
  have d1 : u.cell? ⟨b1, 0, none⟩ = some (.bool false) := (hu.cell hb1).trans h1
  have hat := own_lies (α := Mot) hM.row hM.hit
  have hgL : L ≤ g := (hM.row.lt g rfl).1
  have hne : b1 ≠ g := by have : b1 < w.heap.size := hb1; omega
  have cy : u.cell? ⟨g, k * 33 + 30, none⟩ = some (.int .i64 m.st) := hat.fld 29 rfl
  have fy : u.frozen? ⟨g, k * 33 + 30, none⟩ = false := hM.row.frozenAt _
  have d2 : (u.setCell ⟨g, k * 33 + 30, none⟩ (.int .i64 4)).cell? ⟨b1, 0, none⟩ = some (.bool false) := (World.cell?_setCell_other _ _ _ _ (fun e => hne (congrArg Addr.block e).symm)).trans d1
  have HM := Lib.hid hM
  clear hM hat h1 hb1
  show Calls Try.prog 63 #[.pointer (some ⟨g, k * 33, none⟩), .pointer (some ⟨b1, 0, none⟩)] u _
  go_enter Try.func63, Try.ntmps63
  go_wp2
  go_end0
  have hset := mot_set HM.out.row HM.out.hit (⟨m.acct, m.what, m.p, m.dest, m.amt, m.ends, m.due, 4, m.yes, m.no⟩ : Mot) 30 (.int .i64 4) (by decide) rfl
  have hown := HM.out.own.apart HM.out.row hset.2
  refine ⟨rfl, ⟨m.acct, m.what, m.p, m.dest, m.amt, m.ends, m.due, 4, m.yes, m.no⟩, rfl, ⟨hown.yes, hown.no, ⟨hown.fine.yes, hown.fine.no, hown.fine.yesLen, hown.fine.noLen, hown.fine.amt, hown.fine.par⟩⟩, hset.1, hset.2⟩

end Go.Proofs.Ytcaejanfhchacaa
