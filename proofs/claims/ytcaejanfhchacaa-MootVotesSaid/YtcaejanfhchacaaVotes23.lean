/- Law MootVotes (P23.1, P23.3): any vote on any motions is the document's, or refused; any motion fits just if the document says so. No condition. -/
import Derived.Test.YtcaejanfhchacaaRows
import Derived.Test.YtcaejanfhchacaaMooN
import Derived.Test.YtcaejanfhchacaaMooE
import Derived.Test.YtcaejanfhchacaaMooR
import Derived.Test.YtcaejanfhchacaaMooS
import Derived.Test.YtcaejanfhchacaaMooV
import Derived.Test.YtcaejanfhchacaaMooL
import Derived.Test.YtcaejanfhchacaaSeqR
namespace Go.Proofs.Ytcaejanfhchacaa.MootVotes
open Go.RowKit Go.ChangeShapes Go.WideShapes Go.ChangeAt Go.Deep
set_option linter.unusedVariables false
set_option linter.unusedSimpArgs false

theorem way_size : (Try.prog.info? 24).map (·.size) = some (Rec.z Wy) := size_wy

set_option maxRecDepth 100000 in
set_option maxHeartbeats 2000000 in
theorem walk_wide (l : List Mot) (A : Option Addr) (c : Nat) (x : Wy) (w : World) (hm : Mots w A c l) (hk : l.length ≤ 140737488355328) (h : ¬ (shorts l ∧ l.length ≤ 60)) :
    Calls Try.prog 3 #[.slice A l.length c, .agg (Rec.vals x)] w fun e w' => e = .returned (.bool true) ∧ Below w.heap.size w w' := by
  have kf := fun (W : World) (hB : Below w.heap.size w W) => few23_is l A c false W (hm.up hB) hk ⟨(fun e => by cases e), fun e => absurd e h⟩
  have KF := Lib.hid kf
  clear kf hm hk h
  go_enter Try.func3, Try.ntmps3
  go_upto_region 1 with fail
  generalize hw0 : World.alloc _ _ = w0
  have hX : RecAt w0 w.heap.size (Rec.vals x) 24 := by rw [← hw0]; exact RecAt.new w (Rec.vals x) 24
  have hB : Below w.heap.size w w0 := by rw [← hw0]; exact (Below.refl _ _).alloc (Nat.le_refl _) _
  clear hw0
  go_wp2_with (first
    | (go_at_call 7; refine (moot_awake w0).mono ?_; rintro e w1 ⟨rfl, hb⟩; have hX := hX.up hb; have hB := Below.then hB hb; clear hb)
    | (go_at_call 8; refine (KF.out _ hB).mono ?_; clear KF; rintro e w2 ⟨rfl, hb⟩; have hX := hX.up hb; have hB := Below.then hB hb; clear hb; have k0 : w2.cell? ⟨w.heap.size, 0, none⟩ = some (.int .i64 x.i) := hX.cell 0; have k1 : w2.cell? ⟨w.heap.size, 1, none⟩ = some (.int .i64 x.mb) := hX.cell 1; have k3 : w2.cell? ⟨w.heap.size, 3, none⟩ = some (.bool x.yes) := hX.cell 3))
  go_ret
  exact ⟨by first | rfl | simp, hB⟩

set_option maxRecDepth 100000 in
set_option maxHeartbeats 8000000 in
theorem walk_held (l : List Mot) (A : Option Addr) (c : Nat) (x : Wy) (w : World) (hm : Mots w A c l) (h : shorts l) (hk : l.length ≤ 60) :
    Calls Try.prog 3 #[.slice A l.length c, .agg (Rec.vals x)] w fun e w' => e = .returned (.bool true) ∧ Below w.heap.size w w' := by
  have hl : l.length ≤ 100000 := by omega
  have kf := fun (W : World) (hB : Below w.heap.size w W) => few23_is l A c true W (hm.up hB) (by omega) ⟨fun _ => ⟨h, hk⟩, fun _ => rfl⟩
  have kv := fun (W : World) (hB : Below w.heap.size w W) => vote_is l A c x.i x.mb x.yes W (hm.up hB) hl
  have kr := fun (A' : Option Addr) (c' : Nat) (W : World) (hm : Mots W A' c' l) => rvote_is l A' c' x.i x.mb x.yes W hm hl (fun m hm => by have := h m hm; omega)
  have kp := fun (l : List Mot) (A : Option Addr) (c : Nat) (W : World) (hm : Mots W A c l) hl => lplain23_is l A c W hm hl
  have hp3 : ∀ l3 : List Mot, l3.map Mot.pure = (pvote (l.map Mot.pure) x.i x.mb x.yes).1 → l3.length ≤ 100000 := fun l3 e => by
    have e1 : l3.length = (pvote (l.map Mot.pure) x.i x.mb x.yes).1.length := by rw [← e, List.length_map]
    rcases pvote_err (L := l.map Mot.pure) (i := x.i) (k := x.mb) (y := x.yes) with h0 | h0
    · rw [e1, pvote_len (L := l.map Mot.pure) (i := x.i) (k := x.mb) (y := x.yes) (Prod.ext rfl h0), List.length_map]; exact hl
    · rw [e1, h0.1]; simp
  obtain ⟨⟨L, y⟩, hr⟩ : ∃ r, pvote (l.map Mot.pure) x.i x.mb x.yes = r := ⟨_, rfl⟩
  rw [hr] at kv kr hp3
  have KF := Lib.hid kf
  have KV := Lib.hid kv
  have KR := Lib.hid kr
  have KP := Lib.hid kp
  have HP3 := Lib.hid hp3
  have HM := Lib.hid hm
  have HSH := Lib.hid h
  have HL := Lib.hid hl
  clear kf kv kr kp hm h hr hp3 hl
  go_enter Try.func3, Try.ntmps3
  go_upto_region 1 with fail
  generalize hw0 : World.alloc _ _ = w0
  have hX : RecAt w0 w.heap.size (Rec.vals x) 24 := by rw [← hw0]; exact RecAt.new w (Rec.vals x) 24
  have hB : Below w.heap.size w w0 := by rw [← hw0]; exact (Below.refl _ _).alloc (Nat.le_refl _) _
  clear hw0
  go_wp2_with (first
    | (go_at_call 7; refine (moot_awake w0).mono ?_; rintro e w1 ⟨rfl, hb⟩; have hX := hX.up hb; have hB := Below.then hB hb; clear hb)
    | (go_at_call 8; refine (KF.out _ hB).mono ?_; clear KF; rintro e w2 ⟨rfl, hb⟩; have hX := hX.up hb; have hB := Below.then hB hb; clear hb; have k0 : w2.cell? ⟨w.heap.size, 0, none⟩ = some (.int .i64 x.i) := hX.cell 0; have k1 : w2.cell? ⟨w.heap.size, 1, none⟩ = some (.int .i64 x.mb) := hX.cell 1; have k3 : w2.cell? ⟨w.heap.size, 3, none⟩ = some (.bool x.yes) := hX.cell 3)
    | (go_at_call 9; refine (KV.out _ hB).mono ?_; clear KV; rintro e w3 ⟨l3, A3, c3, rfl, hl3, hm3, hb⟩; clear k0 k1 k3; have hX := hX.up hb; have hB := Below.then hB hb; clear hb))
  have HM3 := Lib.hid hm3
  have HL3 := Lib.hid hl3
  have HLE3 := Lib.hid (HP3.out l3 hl3)
  clear hm3 hl3 HP3
  have C0 : ∀ w1, Below w3.heap.size w3 w1 → w1.cell? ⟨w.heap.size, 0, none⟩ = some (.int .i64 x.i) := fun w1 hb => (hX.up hb).cell 0
  have C1 : ∀ w1, Below w3.heap.size w3 w1 → w1.cell? ⟨w.heap.size, 1, none⟩ = some (.int .i64 x.mb) := fun w1 hb => (hX.up hb).cell 1
  have C3 : ∀ w1, Below w3.heap.size w3 w1 → w1.cell? ⟨w.heap.size, 3, none⟩ = some (.bool x.yes) := fun w1 hb => (hX.up hb).cell 3
  refine region_vary [] 14 (fun w' => Below w3.heap.size w3 w') (by kernel_rfl) (by kernel_rfl) (Below.refl _ _).drew ?_
  simp only [List.take_succ_cons, List.take_zero, List.drop_succ_cons, List.drop_zero]
  refine SeqV.take (fun _ => .slice A l.length c) (fun _ => by rfl) (by rfl) (fun _ _ _ => rfl) (fun val w1 hS hR => ?_) ?_; · (go_simp <;> with_reducible rfl)
  simp only [Act.put, List.setIfInBounds_toArray, List.set_cons_zero, List.set_cons_succ]
  refine SeqV.make (f := 11) (args := fun val => #[.slice A l.length c]) (fun _ v w1 => ∃ A' c', v = .slice A' (l).length c' ∧ Mots w1 A' c' (l)) (fun val w1 hS hR => ?_) (fun _ => by rfl) (by rfl) (fun _ _ _ v w h => h) (fun _ v w1 w2 ⟨A', c', h1, h3⟩ hb => ⟨A', c', h1, h3.up hb⟩) (fun val w => ?_) ?_
  · refine (KP.out l A c w1 (HM.out.up (Below.then hB hS)) HL.out).mono ?_
    rintro e w2 ⟨A', c', rfl, h, hb⟩
    exact ⟨_, rfl, ⟨A', c', rfl, h⟩, hS.trans (hb.mono hS.size), hb⟩
  · go_simp
  simp only [Act.put, List.setIfInBounds_toArray, List.set_cons_zero, List.set_cons_succ]
  refine SeqV.take (fun _ => .pointer (some ⟨w.heap.size, 0, none⟩)) (fun _ => by rfl) (by rfl) (fun _ _ _ => rfl) (fun val w1 hS hR => ?_) ?_; · (go_simp <;> with_reducible rfl)
  simp only [Act.put, List.setIfInBounds_toArray, List.set_cons_zero, List.set_cons_succ]
  refine SeqV.take (fun _ => .int .i64 x.i) (fun _ => by rfl) (by rfl) (fun _ _ _ => rfl) (fun val w1 hS hR => ?_) ?_; · (have x := C0 w1 hS; go_simp <;> with_reducible rfl)
  simp only [Act.put, List.setIfInBounds_toArray, List.set_cons_zero, List.set_cons_succ]
  refine SeqV.take (fun _ => .pointer (some ⟨w.heap.size, 1, none⟩)) (fun _ => by rfl) (by rfl) (fun _ _ _ => rfl) (fun val w1 hS hR => ?_) ?_; · (go_simp <;> with_reducible rfl)
  simp only [Act.put, List.setIfInBounds_toArray, List.set_cons_zero, List.set_cons_succ]
  refine SeqV.take (fun _ => .int .i64 x.mb) (fun _ => by rfl) (by rfl) (fun _ _ _ => rfl) (fun val w1 hS hR => ?_) ?_; · (have x := C1 w1 hS; go_simp <;> with_reducible rfl)
  simp only [Act.put, List.setIfInBounds_toArray, List.set_cons_zero, List.set_cons_succ]
  refine SeqV.take (fun _ => .pointer (some ⟨w.heap.size, 3, none⟩)) (fun _ => by rfl) (by rfl) (fun _ _ _ => rfl) (fun val w1 hS hR => ?_) ?_; · (go_simp <;> with_reducible rfl)
  simp only [Act.put, List.setIfInBounds_toArray, List.set_cons_zero, List.set_cons_succ]
  refine SeqV.take (fun _ => .bool x.yes) (fun _ => by rfl) (by rfl) (fun _ _ _ => rfl) (fun val w1 hS hR => ?_) ?_; · (have x := C3 w1 hS; go_simp <;> with_reducible rfl)
  simp only [Act.put, List.setIfInBounds_toArray, List.set_cons_zero, List.set_cons_succ]
  refine SeqV.make (f := 10) (args := fun val => #[val 1, .int .i64 x.i, .int .i64 x.mb, .bool x.yes]) (fun _ v w1 => ∃ (l' : List Mot) (A' : Option Addr) (c' : Nat), v = .tuple #[.slice A' l'.length c', .int .i64 (y : Int)] ∧ l'.map Mot.pure = L ∧ Mots w1 A' c' l') (fun val w1 hS hR => ?_) (fun _ => by rfl) (by rfl) (fun _ _ _ v w h => h) (fun _ v w1 w2 ⟨l', A', c', h1, h2, h3⟩ hb => ⟨l', A', c', h1, h2, h3.up hb⟩) (fun val w => ?_) ?_
  · obtain ⟨A', c', e1, h3⟩ := hR 1 (by kernel_rfl)
    rw [e1]
    refine (KR.out A' c' w1 h3).mono ?_
    rintro e w2 ⟨l4, A4, c4, rfl, h1, h2, hb⟩
    exact ⟨_, rfl, ⟨l4, A4, c4, rfl, h1, h2⟩, hS.trans (hb.mono hS.size), hb⟩
  · go_simp
  simp only [Act.put, List.setIfInBounds_toArray, List.set_cons_zero, List.set_cons_succ]
  refine SeqV.some (fun _ v w1 => ∃ (l' : List Mot) (A' : Option Addr) (c' : Nat), v = .tuple #[.slice A' l'.length c', .int .i64 (y : Int)] ∧ l'.map Mot.pure = L ∧ Mots w1 A' c' l') (fun _ => by rfl) (by rfl) (fun _ _ _ v w h => h) (fun _ v w1 w2 ⟨l', A', c', h1, h2, h3⟩ hb => ⟨l', A', c', h1, h2, h3.up hb⟩) (fun val w1 hS hR => ?_) ?_
  · obtain ⟨l', A', c', e1, h2, h3⟩ := hR 8 (by kernel_rfl)
    refine ⟨val 8, ?_, l', A', c', e1, h2, h3⟩
    go_simp
  simp only [Act.put, List.setIfInBounds_toArray, List.set_cons_zero, List.set_cons_succ]
  refine SeqV.some (fun _ v w1 => ∃ (l' : List Mot) (A' : Option Addr) (c' : Nat), v = .slice A' l'.length c' ∧ l'.map Mot.pure = L ∧ Mots w1 A' c' l') (fun _ => by rfl) (by rfl) (fun _ _ _ v w h => h) (fun _ v w1 w2 ⟨l', A', c', h1, h2, h3⟩ hb => ⟨l', A', c', h1, h2, h3.up hb⟩) (fun val w1 hS hR => ?_) ?_
  · obtain ⟨l', A', c', e1, h2, h3⟩ := hR 9 (by kernel_rfl)
    refine ⟨.slice A' l'.length c', ?_, l', A', c', rfl, h2, h3⟩
    simp only [e1]
    go_simp
  simp only [Act.put, List.setIfInBounds_toArray, List.set_cons_zero, List.set_cons_succ]
  refine SeqV.some (fun _ v w1 => v = .int .i64 (y : Int)) (fun _ => by rfl) (by rfl) (fun _ _ _ v w h => h) (fun _ v w1 w2 h hb => h) (fun val w1 hS hR => ?_) ?_
  · obtain ⟨l', A', c', e1, h2, h3⟩ := hR 9 (by kernel_rfl)
    refine ⟨.int .i64 (y : Int), ?_, rfl⟩
    simp only [e1]
    go_simp
  simp only [Act.put, List.setIfInBounds_toArray, List.set_cons_zero, List.set_cons_succ]
  refine SeqV.some (fun _ v w1 => ∃ (l' : List Mot) (A' : Option Addr) (c' : Nat), v = .slice A' l'.length c' ∧ l'.map Mot.pure = L ∧ Mots w1 A' c' l') (fun _ => by rfl) (by rfl) (fun _ _ _ v w h => h) (fun _ v w1 w2 ⟨l', A', c', h1, h2, h3⟩ hb => ⟨l', A', c', h1, h2, h3.up hb⟩) (fun val w1 hS hR => ?_) ?_
  · obtain ⟨l', A', c', e1, h2, h3⟩ := hR 10 (by kernel_rfl)
    refine ⟨.slice A' l'.length c', ?_, l', A', c', rfl, h2, h3⟩
    simp only [e1]
    go_simp
  simp only [Act.put, List.setIfInBounds_toArray, List.set_cons_zero, List.set_cons_succ]
  refine SeqV.some (fun _ v w1 => v = .int .i64 (y : Int)) (fun _ => by rfl) (by rfl) (fun _ _ _ v w h => h) (fun _ v w1 w2 h hb => h) (fun val w1 hS hR => ?_) ?_
  · have e1 : val 11 = .int .i64 (y : Int) := hR 11 (by kernel_rfl)
    refine ⟨.int .i64 (y : Int), ?_, rfl⟩
    simp only [e1]
    go_simp
  simp only [Act.put, List.setIfInBounds_toArray, List.set_cons_zero, List.set_cons_succ]
  intro val w4 hS4 hR4 hD4
  obtain ⟨l4, A4, c4, e12, hl4, hm4⟩ : ∃ (l' : List Mot) (A' : Option Addr) (c' : Nat), val 12 = .slice A' l'.length c' ∧ l'.map Mot.pure = L ∧ Mots w4 A' c' l' := hR4 12 (by decide)
  have e13 : val 13 = .int .i64 (y : Int) := hR4 13 (by decide)
  simp only [e12, e13]
  have hB4 := Below.then hB hS4
  have HM34 := Lib.hid (HM3.out.up hS4)
  have HM4 := Lib.hid hm4
  have HL4 := Lib.hid (hl4.trans HL3.out.symm)
  clear hR4 hD4 hS4 hm4 hl4 C0 C1 C3 hX KR e12 e13 HM3 hB
  refine wpList_nil ?_
  go_wp2_with (first
    | (go_at_call 11; refine (KP.out l3 _ _ _ HM34.out HLE3.out).mono ?_; rintro e w5 ⟨A5, c5, rfl, hm5, hb⟩; have HM5 := Lib.hid hm5; have HM45 := Lib.hid (HM4.out.up hb); have hB5 := Below.then hB4 hb; clear hm5 hb HM4)
    | (go_at_call 12; refine (rsamelist_is l3 l4 _ _ _ _ _ HM5.out HM45.out HL4.out HLE3.out).mono ?_; rintro e w6 ⟨rfl, hb⟩; have hB6 := Below.then hB5 hb; clear hb))
  clear HM5 HM45 HM34 HL4 HLE3 HL3
  clear hB4 hB5
  go_loopw [51] (fun iv wr => ∃ (k : Nat), k ≤ l.length ∧ iv = .int .i64 (k : Int) ∧ Below w.heap.size w wr) (fun iv _ => l.length - (intOf iv).toNat)
  case atStart => exact ⟨0, Nat.zero_le _, rfl, hB6⟩
  case round =>
    obtain ⟨k, hk1, rfl, hB7⟩ := hrel
    by_cases hlt : k < l.length
    · obtain ⟨m, hs⟩ : ∃ m, l[k]? = some m := ⟨_, List.getElem?_eq_getElem hlt⟩
      obtain ⟨a, rfl, hab, hat, hM⟩ := (HM.out.up hB7).at hs
      have hki : (k : Int) < (l.length : Int) := by omega
      have hk0 : (0 : Int) ≤ (k : Int) := by omega
      have HMA := Lib.hid ((HM.out.each m (List.mem_of_getElem? hs)))
      have HSM := Lib.hid (HSH.out m (List.mem_of_getElem? hs))
      have HS := Lib.hid hs
      obtain ⟨b, hbb⟩ : ∃ b, m.pure.fitsB = b := ⟨_, rfl⟩
      have kf := fun (W : World) (hB : Below w.heap.size w W) => motfits_is m W (HMA.out.up hB)
      have kg := fun (W : World) (hB : Below w.heap.size w W) => rmotfits_is m W (HMA.out.up hB) (by have := HSM.out; omega)
      rw [hbb] at kf kg
      have KF := Lib.hid kf
      have KG := Lib.hid kg
      clear hs hab hM kf kg hbb HMA HSM
      go_wp2_with (first
        | ((with_reducible refine slot_is 55 rfl ?_); refine load_rec 40 _ rfl rfl _ (Rec.vals m) rfl hat Try.underlying40 size_mot ?_)
        | (refine store_rec 40 _ _ rfl rfl _ (Rec.vals m) (Rec.vals Mot.zero) 40 rfl rfl (RecAt.new _ (Rec.vals Mot.zero) _) size_mot rfl (Rec.one m) ?_; intro w8 hS8 hb2 hsz hkp; clear hsz hkp; have hb2 := rec_made (Below.refl _ _) hb2; have hB8 := Below.then hB7 hb2; clear hb2 hat)
        | ((with_reducible refine slot_is 56 rfl ?_); refine load_rec 40 _ rfl rfl _ (Rec.vals m) rfl hS8.lies Try.underlying40 size_mot ?_)
        | (go_at_call 13; refine (KF.out _ hB8).mono ?_; clear KF; rintro e w9 ⟨rfl, hb⟩; have hB9 := Below.then hB8 hb; clear hb hS8)
        | (go_at_call 11; refine (KP.out l _ c _ (HM.out.up hB9) HL.out).mono ?_; rintro e w10 ⟨A10, c10, rfl, hm10, hb⟩; have hB10 := Below.then hB9 hb; clear hb; obtain ⟨a10, rfl, -, hat10, -⟩ := hm10.at HS.out; clear hm10)
        | ((with_reducible refine slot_is 62 rfl ?_); refine load_rec 45 _ rfl rfl _ (Rec.vals m) rfl hat10 Try.underlying45 size_rmot ?_)
        | (go_at_call 14; refine (KG.out _ hB10).mono ?_; clear KG; rintro e w11 ⟨rfl, hb⟩; have hB11 := Below.then hB10 hb; clear hb))
      go_roundw
      case rel => exact ⟨k + 1, by omega, by go_num, hB11⟩
      case measure => simp [intOf]; omega
    · obtain rfl : k = l.length := by omega
      clear hlt hk1
      go_wp2
      go_ret
      exact ⟨by first | rfl | simp, hB7⟩

theorem walk (l : List Mot) (A : Option Addr) (c : Nat) (x : Wy) (w : World) (hm : Mots w A c l) (hk : l.length ≤ 140737488355328) (_ : True) :
    Calls Try.prog 3 #[.slice A l.length c, .agg (Rec.vals x)] w fun e w' => e = .returned (.bool true) ∧ Below w.heap.size w w' := by
  by_cases h : shorts l ∧ l.length ≤ 60
  · exact walk_held l A c x w hm h.1 h.2
  · exact walk_wide l A c x w hm hk h


theorem own : ownKnob Try.prog.godebug = none := by kernel_rfl
theorem laidOut : laidOutB Try.prog = true := by kernel_rfl

set_option maxRecDepth 100000 in
theorem lifted (os : Os) (started : os.Started) (H : Type) (enc : TypeId × Value → H) :
    ReturnsInHanded {} Try.checked os 3 .any (Rows.mootVotesSpec.pre6 enc Try.prog Try.f3 Rows.mootVotesRow.domain false) (Rows.mootVotesSpec.post enc Try.prog Try.f3 false true false false) := by
  refine returnsInHanded_of_change_sized (C := Try.checked) own started (by kernel_rfl) Try.func3
    (ChangeSpec.witness6 (enc := enc) (C := Try.checked) false ⟨#[], #[.slice none 0 0, .agg #[.int .i64 0, .int .i64 0, .int .i64 0, .bool false, .bool false]], []⟩ 8 (by kernel_rfl) (by kernel_rfl) (by kernel_rfl) (by kernel_rfl)) ?_
  intro W base args ds gs before hval0 hW hcnd hsz0 _
  have hval : ∀ (j : Nat) t v, Try.f3.params[j]? = some t → args[j]? = some v → Value.okWide Try.prog W .any base t v := hval0
  have hW' := hW
  obtain ⟨p, q, hA0, hV, rfl, hfz, hnd⟩ := hW
  have hlt : ∀ x ∈ p ++ q, x.block < W.heap.size := fun x hx => hW'.lt x hx
  have hA : DataW.TrodAll enc Try.prog W 0 (fun _ => true) true Try.f3.params.toList args.toList ds p := hA0
  rw [Try.params3] at hA hval
  have hlight : ∀ (j : Nat) t (d : DataW H), (Try.f3.params.toList ++ Rows.mootVotesSpec.plain.varTypes Try.prog)[j]? = some t → (ds ++ gs)[j]? = some d → ∀ k ∈ d.weights Try.prog t, k ≤ reachBytes := fun j t d ht hd k hk => by simpa using List.all_eq_true.1 hsz0 _ (DataW.weights_mem_each ht hd k hk)
  rw [Try.params3] at hlight
  obtain ⟨v0, vs0, d0, ds0, p0, q0, hargs, rfl, rfl, h0, r0⟩ := trodAll_cons hA
  obtain ⟨v1, vs1, d1, ds1, p1, q1, rfl, rfl, rfl, h1, r1⟩ := trodAll_cons r0
  obtain ⟨rfl, rfl, rfl⟩ := trodAll_nil r1
  obtain rfl : args = #[v0, v1] := by cases args; simp_all
  obtain ⟨rfl, rfl⟩ := trodVars_none hV
  obtain ⟨A0, n0, c0, rfl⟩ := okWide_slice Try.underlying22 (hval 0 22 v0 rfl rfl)
  obtain ⟨l0, hl0, hm0, hk0⟩ := open_mots h0 (hlight 0 _ _ rfl rfl)
  subst hl0
  obtain ⟨a1, rfl, f1⟩ := open_wy (hval 1 24 v1 rfl rfl) h1
  clear hA0 hval0
  refine (walk l0 A0 c0 a1 W hm0 hk0 f1).mono fun e W' ⟨he, hg⟩ => ?_
  subst he
  exact ⟨_, rfl, law_post laidOut (by kernel_rfl) rfl rfl Try.underlying4 rfl hW' hg⟩

theorem over : Rows.mootVotesRow.holds Try.pinned (OpenSpec.ofChange Rows.mootVotesSpec) :=
  OpenClaim.holds_of_wide 3 Try.f3 rfl rfl rfl rfl rfl rfl rfl ⟨rfl, rfl, rfl, rfl, rfl⟩ rfl rfl rfl rfl rfl (by kernel_rfl) Try.func3 (by kernel_rfl)
    (of_decide_eq_true (by kernel_rfl)) (by unfold Func.isWrapper; first | (rw [if_pos (by decide +kernel)]; kernel_rfl) | (rw [if_neg (by decide +kernel)]; exact ⟨rfl, rfl⟩))
    (fun os started H enc _ => lifted os started H enc)

/-- The statement. -/
theorem proved : Rows.MootVotesSaid := over
#print axioms proved

end Go.Proofs.Ytcaejanfhchacaa.MootVotes
