/- Law SupplyParts (P21.1, P21.2): of any state all money, part by part, is exact, or refused; whether it is accounted for is the document's. No condition. -/
import Derived.Test.YtoaeckfppoaljaaRows
import Derived.Test.YtoaeckfppoaljaaSupE
import Derived.Test.YtoaeckfppoaljaaRecQ
namespace Go.Proofs.Ytoaeckfppoaljaa.SupplyParts
open Go.ChangeShapes Go.WideShapes Go.ChangeAt Go.RowKit Go.Shelf
set_option linter.unusedVariables false
set_option linter.unusedSimpArgs false

theorem sht_fields : ∃ fs, Try.prog.underlying 41 = some (.struct fs) ∧ ∀ d : Sht, ∀ f ∈ fs.toList, OneField Try.prog (Rec.vals d) f := ⟨_, Try.underlying41, fun d f hf => by
  simp at hf
  rcases hf with rfl | rfl | rfl | rfl | rfl
  all_goals exact .inl ⟨_, _, _, Try.underlying22, rfl⟩⟩

set_option maxRecDepth 100000 in
theorem walk_many (s : Sta) (w : World) (hf : ¬ s.Few) :
    Calls Try.prog 3 #[.agg (Rec.vals s)] w fun e w' => e = .returned (.bool true) ∧ Below w.heap.size w w' := by
  have kf := fun W => few21_is s W
  rw [decide_eq_false hf] at kf
  have KF := Lib.hid kf
  clear kf hf
  go_enter Try.func3, Try.ntmps3
  go_upto_region 1 with fail
  generalize hw0 : World.alloc _ _ = w0
  have hS : RecAt w0 w.heap.size (Rec.vals s) 34 := by rw [← hw0]; exact RecAt.new w (Rec.vals s) 34
  have hB : Below w.heap.size w w0 := by rw [← hw0]; exact (Below.refl _ _).alloc (Nat.le_refl _) _
  clear hw0
  go_wp2_with (first
    | (go_at_call 5; refine (supply_awake w0).mono ?_; rintro e w1 ⟨rfl, hb⟩; have hS := hS.up hb; have hB := Below.then hB hb; clear hb)
    | ((with_reducible refine slot_is 12 rfl ?_); refine load_rec 34 _ rfl rfl _ (Rec.vals s) rfl hS.lies Try.underlying34 size_sta ?_)
    | (go_at_call 6; refine (KF.out _).mono ?_; clear KF; rintro e w2 ⟨rfl, hb⟩; have hB := Below.then hB hb; clear hb))
  go_ret
  exact ⟨rfl, hB⟩

set_option maxRecDepth 100000 in
set_option maxHeartbeats 4000000 in
theorem walk_over_true (s : Sta) (w : World) (hs : StaAt w s) (hf : s.Few) (hd : decide s.Holds = true) (hx : s.parts = (Sht.zero, 10)) :
    Calls Try.prog 3 #[.agg (Rec.vals s)] w fun e w' => e = .returned (.bool true) ∧ Below w.heap.size w w' := by
  have h1 : s.mems.l.length ≤ 1000000 := by have := hf.2.1; omega
  have h2 : s.pool.l.length ≤ 1000000 := by have := hf.2.2.1; omega
  have h3 : s.dues.l.length ≤ 1000000 := by have := hf.2.2.2; omega
  have kf := fun W => few21_is s W
  rw [decide_eq_true hf] at kf
  have km := fun (W : World) (hB : Below w.heap.size w W) => money_of s W (hs.up hB) hf
  have kp := fun (W : World) (hB : Below w.heap.size w W) => parts_is s W (hs.up hB) h1 h2 h3
  rw [hx] at kp
  simp only [show ((10 : Nat) : Int) = 10 from rfl] at kp
  have kh := fun (W : World) (hB : Below w.heap.size w W) => holds_is s W (hs.up hB) h1 h2 h3
  rw [hd] at kh
  have krh := fun (m : Mny) (hOf : MnyOf s m) (W : World) (hM : MnyAt W m) => rholds_is m W hM
  have hdm : ∀ m, MnyOf s m → decide (m.gen + m.mint ≤ m.most ∧ m.most ≤ 4611686018427387904 ∧ m.whole + m.burn = m.gen + m.mint) = true := fun m hO => by
    rw [← hd, Bool.eq_iff_iff, decide_eq_true_iff, decide_eq_true_iff]
    unfold Sta.Holds Mny.whole Sta.whole totDep totDue
    rw [hO.most, hO.gen, hO.mint, hO.burn, hO.treas, hO.sk, hO.pu, hO.po, hO.du]
    omega
  have krh' : ∀ (m : Mny) (hOf : MnyOf s m) (W : World) (hM : MnyAt W m), Calls Try.prog 10 #[.agg (Rec.vals m)] W fun e w' => e = .returned (.bool true) ∧ Below W.heap.size W w' := fun m hOf W hM => by
    have k := krh m hOf W hM
    rw [hdm m hOf] at k
    exact k
  have kfit : ∀ (m : Mny) (hOf : MnyOf s m) (W : World) (hM : MnyAt W m), Calls Try.prog 11 #[.agg (Rec.vals m)] W fun e w' => e = .returned (.bool false) ∧ Below W.heap.size W w' := fun m hOf W hM => by
    have k := rfits_is m W hM
    have h := hx
    unfold Sta.parts parted at h
    rw [hOf.sk, hOf.pu, hOf.po, hOf.du] at k
    unfold totDep totDue at h
    by_cases g : tot (bals s.mems.l) ≤ 18446744073709551615 ∧ tot s.purses.l ≤ 18446744073709551615 ∧ tot (s.pool.l.map Dep.amt) ≤ 18446744073709551615 ∧ tot (s.dues.l.map Due.amt) ≤ 18446744073709551615
    · rw [if_pos g] at h
      simp at h
    · rw [if_neg g] at h
      rw [decide_eq_false g] at k; exact k
  obtain ⟨fs, hfu, hff⟩ := sht_fields
  have HFF := Lib.hid hff
  clear hff
  have KF := Lib.hid kf
  have KM := Lib.hid km
  have KP := Lib.hid kp
  have KH := Lib.hid kh
  have KR := Lib.hid krh'
  have KI := Lib.hid kfit
  clear kf km kp kh krh krh' kfit hdm hs hf hd hx h1 h2 h3
  go_enter Try.func3, Try.ntmps3
  go_upto_region 1 with fail
  generalize hw0 : World.alloc _ _ = w0
  have hS : RecAt w0 w.heap.size (Rec.vals s) 34 := by rw [← hw0]; exact RecAt.new w (Rec.vals s) 34
  have hB : Below w.heap.size w w0 := by rw [← hw0]; exact (Below.refl _ _).alloc (Nat.le_refl _) _
  clear hw0
  go_wp2_with (first
    | (go_at_call 5; refine (supply_awake w0).mono ?_; rintro e w1 ⟨rfl, hb⟩; have hS := hS.up hb; have hB := Below.then hB hb; clear hb)
    | ((with_reducible refine slot_is 12 rfl ?_); refine load_rec 34 _ rfl rfl _ (Rec.vals s) rfl hS.lies Try.underlying34 size_sta ?_)
    | (go_at_call 6; refine (KF.out _).mono ?_; clear KF; rintro e w2 ⟨rfl, hb⟩; have hS := hS.up hb; have hB := Below.then hB hb; clear hb)
    | ((with_reducible refine slot_is 15 rfl ?_); refine load_rec 34 _ rfl rfl _ (Rec.vals s) rfl hS.lies Try.underlying34 size_sta ?_)
    | (go_at_call 7; refine (KM.out w2 hB).mono ?_; clear KM; rintro e w3 ⟨m, rfl, hOf, hAt, hb⟩; have hS := hS.up hb; have hB := Below.then hB hb; have HOf := Lib.hid hOf; clear hb hOf)
    | (refine store_rec 38 _ _ rfl rfl _ (Rec.vals m) (Rec.vals Mny.zero) 38 rfl rfl (RecAt.new _ _ _) size_mny rfl (Rec.one m) ?_; intro w4 hM hb4 hz4 hk4; have hb4 := rec_made (Below.refl _ _) hb4; have hS := hS.up hb4; have hB := Below.then hB hb4; have hAt := hAt.up hb4; clear hz4 hk4 hb4)
    | ((with_reducible refine slot_is 18 rfl ?_); refine load_rec 34 _ rfl rfl _ (Rec.vals s) rfl hS.lies Try.underlying34 size_sta ?_)
    | (go_at_call 8; refine (KP.out w4 hB).mono ?_; clear KP; rintro e w5 ⟨rfl, hb⟩; have hS := hS.up hb; have hM := hM.up hb; have hB := Below.then hB hb; have hAt := hAt.up hb; clear hb)
    | (refine store_rec 41 _ _ rfl rfl _ (Rec.vals Sht.zero) (Rec.vals Sht.zero) 41 rfl rfl (RecAt.new _ _ _) size_sht rfl (Rec.one Sht.zero) ?_; intro w6 hX hb6 hz6 hk6; have hb6 := rec_made (Below.refl _ _) hb6; have hS := hS.up hb6; have hM := hM.up hb6; have hB := Below.then hB hb6; have hAt := hAt.up hb6; clear hz6 hk6 hb6))
  have CS : ∀ w1, Below w6.heap.size w6 w1 → LiesAt w1 ⟨w.heap.size, 0, none⟩ (Rec.vals s) := fun w1 hb => (hS.up hb).lies
  have CM : ∀ w1, Below w6.heap.size w6 w1 → LiesAt w1 ⟨w3.heap.size, 0, none⟩ (Rec.vals m) := fun w1 hb => (hM.up hb).lies
  refine region_vary [] 5 (fun w' => Below w6.heap.size w6 w') (by kernel_rfl) (by kernel_rfl) (Below.refl _ _).drew ?_
  simp only [List.take_succ_cons, List.take_zero, List.drop_succ_cons, List.drop_zero]
  refine SeqV.take (fun _ => .agg (Rec.vals s)) (fun _ => by rfl) (by rfl) (fun _ _ _ => rfl) (fun val w1 hS hR => exec_load_rec 34 _ rfl _ (Rec.vals s) rfl (CS w1 hS) Try.underlying34 size_sta) ?_
  simp only [Act.put, List.setIfInBounds_toArray, List.set_cons_zero, List.set_cons_succ]
  refine SeqV.call (f := 9) (args := fun val => #[.agg (Rec.vals s)]) (fun _ => .bool true) (fun val w1 hS hR => ?_) (fun _ => by rfl) (by rfl) (fun _ _ _ => rfl) (fun val w1 => ?_) ?_
  · exact val_of hS (KH.out w1 (Below.then hB hS))
  · go_simp
  simp only [Act.put, List.setIfInBounds_toArray, List.set_cons_zero, List.set_cons_succ]
  refine SeqV.take (fun _ => .agg (Rec.vals m)) (fun _ => by rfl) (by rfl) (fun _ _ _ => rfl) (fun val w1 hS hR => exec_load_rec 38 _ rfl _ (Rec.vals m) rfl (CM w1 hS) Try.underlying38 size_mny) ?_
  simp only [Act.put, List.setIfInBounds_toArray, List.set_cons_zero, List.set_cons_succ]
  refine SeqV.call (f := 10) (args := fun val => #[.agg (Rec.vals m)]) (fun _ => .bool true) (fun val w1 hS hR => ?_) (fun _ => by rfl) (by rfl) (fun _ _ _ => rfl) (fun val w1 => ?_) ?_
  · exact val_of hS (KR.out m HOf.out w1 (hAt.up hS))
  · go_simp
  simp only [Act.put, List.setIfInBounds_toArray, List.set_cons_zero, List.set_cons_succ]
  refine SeqV.take (fun _ => .bool false) (fun _ => by rfl) (by rfl) (fun _ _ _ => rfl) (fun val w1 hS hR => ?_) ?_; · (go_simp <;> with_reducible rfl)
  simp only [Act.put, List.setIfInBounds_toArray, List.set_cons_zero, List.set_cons_succ]
  intro val w7 hS7 hR7 hD7
  have hS := hS.up hS7
  have hM := hM.up hS7
  have hX := hX.up hS7
  have hB := Below.then hB hS7
  have hAt := hAt.up hS7
  clear hR7 hD7 hS7 CS CM KH KR
  go_wp2_with (first
    | ((with_reducible refine slot_is 27 rfl ?_); refine load_rec 38 _ rfl rfl _ (Rec.vals m) rfl hM.lies Try.underlying38 size_mny ?_)
    | (go_at_call 11; refine (KI.out m HOf.out w7 hAt).mono ?_; clear KI; rintro e w8 ⟨rfl, hb⟩; have hS := hS.up hb; have hM := hM.up hb; have hX := hX.up hb; have hB := Below.then hB hb; have hAt := hAt.up hb; clear hb)
    | ((with_reducible refine slot_is 33 rfl ?_); refine load_rec 41 _ rfl rfl _ (Rec.vals Sht.zero) rfl hX.lies Try.underlying41 size_sht ?_)
    | (refine build_rec 41 #[] rfl rfl (Rec.vals Sht.zero) ?_ ?_; · kernel_rfl)
    | (refine op_eql_rec _ _ _ rfl rfl (Rec.vals Sht.zero) rfl rfl (by kernel_rfl) hfu (by kernel_rfl) (HFF.out _) ?_))
  go_ret
  exact ⟨by first | rfl | simp, hB⟩

set_option maxRecDepth 100000 in
set_option maxHeartbeats 4000000 in
theorem walk_over_false (s : Sta) (w : World) (hs : StaAt w s) (hf : s.Few) (hd : decide s.Holds = false) (hx : s.parts = (Sht.zero, 10)) :
    Calls Try.prog 3 #[.agg (Rec.vals s)] w fun e w' => e = .returned (.bool true) ∧ Below w.heap.size w w' := by
  have h1 : s.mems.l.length ≤ 1000000 := by have := hf.2.1; omega
  have h2 : s.pool.l.length ≤ 1000000 := by have := hf.2.2.1; omega
  have h3 : s.dues.l.length ≤ 1000000 := by have := hf.2.2.2; omega
  have kf := fun W => few21_is s W
  rw [decide_eq_true hf] at kf
  have km := fun (W : World) (hB : Below w.heap.size w W) => money_of s W (hs.up hB) hf
  have kp := fun (W : World) (hB : Below w.heap.size w W) => parts_is s W (hs.up hB) h1 h2 h3
  rw [hx] at kp
  simp only [show ((10 : Nat) : Int) = 10 from rfl] at kp
  have kh := fun (W : World) (hB : Below w.heap.size w W) => holds_is s W (hs.up hB) h1 h2 h3
  rw [hd] at kh
  have krh := fun (m : Mny) (hOf : MnyOf s m) (W : World) (hM : MnyAt W m) => rholds_is m W hM
  have hdm : ∀ m, MnyOf s m → decide (m.gen + m.mint ≤ m.most ∧ m.most ≤ 4611686018427387904 ∧ m.whole + m.burn = m.gen + m.mint) = false := fun m hO => by
    rw [← hd, Bool.eq_iff_iff, decide_eq_true_iff, decide_eq_true_iff]
    unfold Sta.Holds Mny.whole Sta.whole totDep totDue
    rw [hO.most, hO.gen, hO.mint, hO.burn, hO.treas, hO.sk, hO.pu, hO.po, hO.du]
    omega
  have krh' : ∀ (m : Mny) (hOf : MnyOf s m) (W : World) (hM : MnyAt W m), Calls Try.prog 10 #[.agg (Rec.vals m)] W fun e w' => e = .returned (.bool false) ∧ Below W.heap.size W w' := fun m hOf W hM => by
    have k := krh m hOf W hM
    rw [hdm m hOf] at k
    exact k
  have kfit : ∀ (m : Mny) (hOf : MnyOf s m) (W : World) (hM : MnyAt W m), Calls Try.prog 11 #[.agg (Rec.vals m)] W fun e w' => e = .returned (.bool false) ∧ Below W.heap.size W w' := fun m hOf W hM => by
    have k := rfits_is m W hM
    have h := hx
    unfold Sta.parts parted at h
    rw [hOf.sk, hOf.pu, hOf.po, hOf.du] at k
    unfold totDep totDue at h
    by_cases g : tot (bals s.mems.l) ≤ 18446744073709551615 ∧ tot s.purses.l ≤ 18446744073709551615 ∧ tot (s.pool.l.map Dep.amt) ≤ 18446744073709551615 ∧ tot (s.dues.l.map Due.amt) ≤ 18446744073709551615
    · rw [if_pos g] at h
      simp at h
    · rw [if_neg g] at h
      rw [decide_eq_false g] at k; exact k
  obtain ⟨fs, hfu, hff⟩ := sht_fields
  have HFF := Lib.hid hff
  clear hff
  have KF := Lib.hid kf
  have KM := Lib.hid km
  have KP := Lib.hid kp
  have KH := Lib.hid kh
  have KR := Lib.hid krh'
  have KI := Lib.hid kfit
  clear kf km kp kh krh krh' kfit hdm hs hf hd hx h1 h2 h3
  go_enter Try.func3, Try.ntmps3
  go_upto_region 1 with fail
  generalize hw0 : World.alloc _ _ = w0
  have hS : RecAt w0 w.heap.size (Rec.vals s) 34 := by rw [← hw0]; exact RecAt.new w (Rec.vals s) 34
  have hB : Below w.heap.size w w0 := by rw [← hw0]; exact (Below.refl _ _).alloc (Nat.le_refl _) _
  clear hw0
  go_wp2_with (first
    | (go_at_call 5; refine (supply_awake w0).mono ?_; rintro e w1 ⟨rfl, hb⟩; have hS := hS.up hb; have hB := Below.then hB hb; clear hb)
    | ((with_reducible refine slot_is 12 rfl ?_); refine load_rec 34 _ rfl rfl _ (Rec.vals s) rfl hS.lies Try.underlying34 size_sta ?_)
    | (go_at_call 6; refine (KF.out _).mono ?_; clear KF; rintro e w2 ⟨rfl, hb⟩; have hS := hS.up hb; have hB := Below.then hB hb; clear hb)
    | ((with_reducible refine slot_is 15 rfl ?_); refine load_rec 34 _ rfl rfl _ (Rec.vals s) rfl hS.lies Try.underlying34 size_sta ?_)
    | (go_at_call 7; refine (KM.out w2 hB).mono ?_; clear KM; rintro e w3 ⟨m, rfl, hOf, hAt, hb⟩; have hS := hS.up hb; have hB := Below.then hB hb; have HOf := Lib.hid hOf; clear hb hOf)
    | (refine store_rec 38 _ _ rfl rfl _ (Rec.vals m) (Rec.vals Mny.zero) 38 rfl rfl (RecAt.new _ _ _) size_mny rfl (Rec.one m) ?_; intro w4 hM hb4 hz4 hk4; have hb4 := rec_made (Below.refl _ _) hb4; have hS := hS.up hb4; have hB := Below.then hB hb4; have hAt := hAt.up hb4; clear hz4 hk4 hb4)
    | ((with_reducible refine slot_is 18 rfl ?_); refine load_rec 34 _ rfl rfl _ (Rec.vals s) rfl hS.lies Try.underlying34 size_sta ?_)
    | (go_at_call 8; refine (KP.out w4 hB).mono ?_; clear KP; rintro e w5 ⟨rfl, hb⟩; have hS := hS.up hb; have hM := hM.up hb; have hB := Below.then hB hb; have hAt := hAt.up hb; clear hb)
    | (refine store_rec 41 _ _ rfl rfl _ (Rec.vals Sht.zero) (Rec.vals Sht.zero) 41 rfl rfl (RecAt.new _ _ _) size_sht rfl (Rec.one Sht.zero) ?_; intro w6 hX hb6 hz6 hk6; have hb6 := rec_made (Below.refl _ _) hb6; have hS := hS.up hb6; have hM := hM.up hb6; have hB := Below.then hB hb6; have hAt := hAt.up hb6; clear hz6 hk6 hb6))
  have CS : ∀ w1, Below w6.heap.size w6 w1 → LiesAt w1 ⟨w.heap.size, 0, none⟩ (Rec.vals s) := fun w1 hb => (hS.up hb).lies
  have CM : ∀ w1, Below w6.heap.size w6 w1 → LiesAt w1 ⟨w3.heap.size, 0, none⟩ (Rec.vals m) := fun w1 hb => (hM.up hb).lies
  refine region_vary [] 5 (fun w' => Below w6.heap.size w6 w') (by kernel_rfl) (by kernel_rfl) (Below.refl _ _).drew ?_
  simp only [List.take_succ_cons, List.take_zero, List.drop_succ_cons, List.drop_zero]
  refine SeqV.take (fun _ => .agg (Rec.vals s)) (fun _ => by rfl) (by rfl) (fun _ _ _ => rfl) (fun val w1 hS hR => exec_load_rec 34 _ rfl _ (Rec.vals s) rfl (CS w1 hS) Try.underlying34 size_sta) ?_
  simp only [Act.put, List.setIfInBounds_toArray, List.set_cons_zero, List.set_cons_succ]
  refine SeqV.call (f := 9) (args := fun val => #[.agg (Rec.vals s)]) (fun _ => .bool false) (fun val w1 hS hR => ?_) (fun _ => by rfl) (by rfl) (fun _ _ _ => rfl) (fun val w1 => ?_) ?_
  · exact val_of hS (KH.out w1 (Below.then hB hS))
  · go_simp
  simp only [Act.put, List.setIfInBounds_toArray, List.set_cons_zero, List.set_cons_succ]
  refine SeqV.take (fun _ => .agg (Rec.vals m)) (fun _ => by rfl) (by rfl) (fun _ _ _ => rfl) (fun val w1 hS hR => exec_load_rec 38 _ rfl _ (Rec.vals m) rfl (CM w1 hS) Try.underlying38 size_mny) ?_
  simp only [Act.put, List.setIfInBounds_toArray, List.set_cons_zero, List.set_cons_succ]
  refine SeqV.call (f := 10) (args := fun val => #[.agg (Rec.vals m)]) (fun _ => .bool false) (fun val w1 hS hR => ?_) (fun _ => by rfl) (by rfl) (fun _ _ _ => rfl) (fun val w1 => ?_) ?_
  · exact val_of hS (KR.out m HOf.out w1 (hAt.up hS))
  · go_simp
  simp only [Act.put, List.setIfInBounds_toArray, List.set_cons_zero, List.set_cons_succ]
  refine SeqV.take (fun _ => .bool false) (fun _ => by rfl) (by rfl) (fun _ _ _ => rfl) (fun val w1 hS hR => ?_) ?_; · (go_simp <;> with_reducible rfl)
  simp only [Act.put, List.setIfInBounds_toArray, List.set_cons_zero, List.set_cons_succ]
  intro val w7 hS7 hR7 hD7
  have hS := hS.up hS7
  have hM := hM.up hS7
  have hX := hX.up hS7
  have hB := Below.then hB hS7
  have hAt := hAt.up hS7
  clear hR7 hD7 hS7 CS CM KH KR
  go_wp2_with (first
    | ((with_reducible refine slot_is 27 rfl ?_); refine load_rec 38 _ rfl rfl _ (Rec.vals m) rfl hM.lies Try.underlying38 size_mny ?_)
    | (go_at_call 11; refine (KI.out m HOf.out w7 hAt).mono ?_; clear KI; rintro e w8 ⟨rfl, hb⟩; have hS := hS.up hb; have hM := hM.up hb; have hX := hX.up hb; have hB := Below.then hB hb; have hAt := hAt.up hb; clear hb)
    | ((with_reducible refine slot_is 33 rfl ?_); refine load_rec 41 _ rfl rfl _ (Rec.vals Sht.zero) rfl hX.lies Try.underlying41 size_sht ?_)
    | (refine build_rec 41 #[] rfl rfl (Rec.vals Sht.zero) ?_ ?_; · kernel_rfl)
    | (refine op_eql_rec _ _ _ rfl rfl (Rec.vals Sht.zero) rfl rfl (by kernel_rfl) hfu (by kernel_rfl) (HFF.out _) ?_))
  go_ret
  exact ⟨by first | rfl | simp, hB⟩

set_option maxRecDepth 100000 in
set_option maxHeartbeats 4000000 in
theorem walk_fits_true (s : Sta) (w : World) (hs : StaAt w s) (hf : s.Few) (hd : decide s.Holds = true) (x : Sht) (hx : s.parts = (x, 0)) (t : Nat) (ht : x.all = t) :
    Calls Try.prog 3 #[.agg (Rec.vals s)] w fun e w' => e = .returned (.bool true) ∧ Below w.heap.size w w' := by
  have h1 : s.mems.l.length ≤ 1000000 := by have := hf.2.1; omega
  have h2 : s.pool.l.length ≤ 1000000 := by have := hf.2.2.1; omega
  have h3 : s.dues.l.length ≤ 1000000 := by have := hf.2.2.2; omega
  have kf := fun W => few21_is s W
  rw [decide_eq_true hf] at kf
  have km := fun (W : World) (hB : Below w.heap.size w W) => money_of s W (hs.up hB) hf
  have kp := fun (W : World) (hB : Below w.heap.size w W) => parts_is s W (hs.up hB) h1 h2 h3
  rw [hx] at kp
  simp only [show ((0 : Nat) : Int) = 0 from rfl] at kp
  have kh := fun (W : World) (hB : Below w.heap.size w W) => holds_is s W (hs.up hB) h1 h2 h3
  rw [hd] at kh
  have krh := fun (m : Mny) (hOf : MnyOf s m) (W : World) (hM : MnyAt W m) => rholds_is m W hM
  have hdm : ∀ m, MnyOf s m → decide (m.gen + m.mint ≤ m.most ∧ m.most ≤ 4611686018427387904 ∧ m.whole + m.burn = m.gen + m.mint) = true := fun m hO => by
    rw [← hd, Bool.eq_iff_iff, decide_eq_true_iff, decide_eq_true_iff]
    unfold Sta.Holds Mny.whole Sta.whole totDep totDue
    rw [hO.most, hO.gen, hO.mint, hO.burn, hO.treas, hO.sk, hO.pu, hO.po, hO.du]
    omega
  have krh' : ∀ (m : Mny) (hOf : MnyOf s m) (W : World) (hM : MnyAt W m), Calls Try.prog 10 #[.agg (Rec.vals m)] W fun e w' => e = .returned (.bool true) ∧ Below W.heap.size W w' := fun m hOf W hM => by
    have k := krh m hOf W hM
    rw [hdm m hOf] at k
    exact k
  have kfit : ∀ (m : Mny) (hOf : MnyOf s m) (W : World) (hM : MnyAt W m), Calls Try.prog 11 #[.agg (Rec.vals m)] W fun e w' => e = .returned (.bool true) ∧ Below W.heap.size W w' := fun m hOf W hM => by
    have k := rfits_is m W hM
    have h := hx
    unfold Sta.parts parted at h
    rw [hOf.sk, hOf.pu, hOf.po, hOf.du] at k
    unfold totDep totDue at h
    by_cases g : tot (bals s.mems.l) ≤ 18446744073709551615 ∧ tot s.purses.l ≤ 18446744073709551615 ∧ tot (s.pool.l.map Dep.amt) ≤ 18446744073709551615 ∧ tot (s.dues.l.map Due.amt) ≤ 18446744073709551615
    · rw [if_pos g] at h
      rw [decide_eq_true g] at k; exact k
    · rw [if_neg g] at h
      simp at h
  have hxs : x = ⟨tot (bals s.mems.l), tot s.purses.l, tot (s.pool.l.map Dep.amt), tot (s.dues.l.map Due.amt), s.treas⟩ ∧ tot (bals s.mems.l) ≤ 18446744073709551615 ∧ tot s.purses.l ≤ 18446744073709551615 ∧ tot (s.pool.l.map Dep.amt) ≤ 18446744073709551615 ∧ tot (s.dues.l.map Due.amt) ≤ 18446744073709551615 := by
    have h := hx
    unfold Sta.parts parted at h
    unfold totDep totDue at h
    split at h
    · rename_i g
      simp only [Prod.mk.injEq, and_true] at h
      exact ⟨h.symm, g⟩
    · simp at h
  obtain ⟨hxe, g1, g2, g3, g4⟩ := hxs
  have hxt : x.tr = s.treas := by rw [hxe]
  have hxf : x.Fits := ⟨by rw [hxe]; exact g1, by rw [hxe]; exact g2, by rw [hxe]; exact g3, by rw [hxe]; exact g4, by rw [hxt]; have := hs.treas; omega⟩
  have kt := fun W => total_is x W hxf
  rw [ht] at kt
  have kw : ∀ (m : Mny) (hOf : MnyOf s m) (W : World) (hM : MnyAt W m), Calls Try.prog 15 #[.agg (Rec.vals m)] W fun e w' => ∃ v, e = .returned v ∧ Num t v w' ∧ Below W.heap.size W w' := fun m hOf W hM => by
    have k := num_total m W hM
    have e : m.whole = t := by
      rw [← ht, hxe]
      unfold Mny.whole Sht.all
      rw [hOf.treas, hOf.sk, hOf.pu, hOf.po, hOf.du]
      simp only
      omega
    rw [e] at k
    exact k
  have kd := fun v W h => told_num t v W.heap.size W h (Nat.le_refl _)
  have p0 := fun (m : Mny) (hOf : MnyOf s m) (W : World) (hM : MnyAt W m) => part_yes m.sk x.st W hM.sk (by rw [hOf.sk]; exact g1) (by rw [hOf.sk, hxe])
  have p1 := fun (m : Mny) (hOf : MnyOf s m) (W : World) (hM : MnyAt W m) => part_yes m.pu x.pu W hM.pu (by rw [hOf.pu]; exact g2) (by rw [hOf.pu, hxe])
  have p2 := fun (m : Mny) (hOf : MnyOf s m) (W : World) (hM : MnyAt W m) => part_yes m.po x.po W hM.po (by rw [hOf.po]; exact g3) (by rw [hOf.po, hxe])
  have p3 := fun (m : Mny) (hOf : MnyOf s m) (W : World) (hM : MnyAt W m) => part_yes m.du x.du W hM.du (by rw [hOf.du]; exact g4) (by rw [hOf.du, hxe])
  have KT := Lib.hid kt
  have KW := Lib.hid kw
  have KD := Lib.hid kd
  have P0 := Lib.hid p0
  have P1 := Lib.hid p1
  have P2 := Lib.hid p2
  have P3 := Lib.hid p3
  have HXT := Lib.hid hxt
  clear kt kw kd p0 p1 p2 p3 hxe g1 g2 g3 g4 hxf ht hxt
  have KF := Lib.hid kf
  have KM := Lib.hid km
  have KP := Lib.hid kp
  have KH := Lib.hid kh
  have KR := Lib.hid krh'
  have KI := Lib.hid kfit
  clear kf km kp kh krh krh' kfit hdm hs hf hd hx h1 h2 h3
  go_enter Try.func3, Try.ntmps3
  go_upto_region 1 with fail
  generalize hw0 : World.alloc _ _ = w0
  have hS : RecAt w0 w.heap.size (Rec.vals s) 34 := by rw [← hw0]; exact RecAt.new w (Rec.vals s) 34
  have hB : Below w.heap.size w w0 := by rw [← hw0]; exact (Below.refl _ _).alloc (Nat.le_refl _) _
  clear hw0
  go_wp2_with (first
    | (go_at_call 5; refine (supply_awake w0).mono ?_; rintro e w1 ⟨rfl, hb⟩; have hS := hS.up hb; have hB := Below.then hB hb; clear hb)
    | ((with_reducible refine slot_is 12 rfl ?_); refine load_rec 34 _ rfl rfl _ (Rec.vals s) rfl hS.lies Try.underlying34 size_sta ?_)
    | (go_at_call 6; refine (KF.out _).mono ?_; clear KF; rintro e w2 ⟨rfl, hb⟩; have hS := hS.up hb; have hB := Below.then hB hb; clear hb)
    | ((with_reducible refine slot_is 15 rfl ?_); refine load_rec 34 _ rfl rfl _ (Rec.vals s) rfl hS.lies Try.underlying34 size_sta ?_)
    | (go_at_call 7; refine (KM.out w2 hB).mono ?_; clear KM; rintro e w3 ⟨m, rfl, hOf, hAt, hb⟩; have hS := hS.up hb; have hB := Below.then hB hb; have HOf := Lib.hid hOf; clear hb hOf)
    | (refine store_rec 38 _ _ rfl rfl _ (Rec.vals m) (Rec.vals Mny.zero) 38 rfl rfl (RecAt.new _ _ _) size_mny rfl (Rec.one m) ?_; intro w4 hM hb4 hz4 hk4; have hb4 := rec_made (Below.refl _ _) hb4; have hS := hS.up hb4; have hB := Below.then hB hb4; have hAt := hAt.up hb4; clear hz4 hk4 hb4)
    | ((with_reducible refine slot_is 18 rfl ?_); refine load_rec 34 _ rfl rfl _ (Rec.vals s) rfl hS.lies Try.underlying34 size_sta ?_)
    | (go_at_call 8; refine (KP.out w4 hB).mono ?_; clear KP; rintro e w5 ⟨rfl, hb⟩; have hS := hS.up hb; have hM := hM.up hb; have hB := Below.then hB hb; have hAt := hAt.up hb; clear hb)
    | (refine store_rec 41 _ _ rfl rfl _ (Rec.vals x) (Rec.vals Sht.zero) 41 rfl rfl (RecAt.new _ _ _) size_sht rfl (Rec.one x) ?_; intro w6 hX hb6 hz6 hk6; have hb6 := rec_made (Below.refl _ _) hb6; have hS := hS.up hb6; have hM := hM.up hb6; have hB := Below.then hB hb6; have hAt := hAt.up hb6; clear hz6 hk6 hb6))
  have CS : ∀ w1, Below w6.heap.size w6 w1 → LiesAt w1 ⟨w.heap.size, 0, none⟩ (Rec.vals s) := fun w1 hb => (hS.up hb).lies
  have CM : ∀ w1, Below w6.heap.size w6 w1 → LiesAt w1 ⟨w3.heap.size, 0, none⟩ (Rec.vals m) := fun w1 hb => (hM.up hb).lies
  refine region_vary [] 5 (fun w' => Below w6.heap.size w6 w') (by kernel_rfl) (by kernel_rfl) (Below.refl _ _).drew ?_
  simp only [List.take_succ_cons, List.take_zero, List.drop_succ_cons, List.drop_zero]
  refine SeqV.take (fun _ => .agg (Rec.vals s)) (fun _ => by rfl) (by rfl) (fun _ _ _ => rfl) (fun val w1 hS hR => exec_load_rec 34 _ rfl _ (Rec.vals s) rfl (CS w1 hS) Try.underlying34 size_sta) ?_
  simp only [Act.put, List.setIfInBounds_toArray, List.set_cons_zero, List.set_cons_succ]
  refine SeqV.call (f := 9) (args := fun val => #[.agg (Rec.vals s)]) (fun _ => .bool true) (fun val w1 hS hR => ?_) (fun _ => by rfl) (by rfl) (fun _ _ _ => rfl) (fun val w1 => ?_) ?_
  · exact val_of hS (KH.out w1 (Below.then hB hS))
  · go_simp
  simp only [Act.put, List.setIfInBounds_toArray, List.set_cons_zero, List.set_cons_succ]
  refine SeqV.take (fun _ => .agg (Rec.vals m)) (fun _ => by rfl) (by rfl) (fun _ _ _ => rfl) (fun val w1 hS hR => exec_load_rec 38 _ rfl _ (Rec.vals m) rfl (CM w1 hS) Try.underlying38 size_mny) ?_
  simp only [Act.put, List.setIfInBounds_toArray, List.set_cons_zero, List.set_cons_succ]
  refine SeqV.call (f := 10) (args := fun val => #[.agg (Rec.vals m)]) (fun _ => .bool true) (fun val w1 hS hR => ?_) (fun _ => by rfl) (by rfl) (fun _ _ _ => rfl) (fun val w1 => ?_) ?_
  · exact val_of hS (KR.out m HOf.out w1 (hAt.up hS))
  · go_simp
  simp only [Act.put, List.setIfInBounds_toArray, List.set_cons_zero, List.set_cons_succ]
  refine SeqV.take (fun _ => .bool false) (fun _ => by rfl) (by rfl) (fun _ _ _ => rfl) (fun val w1 hS hR => ?_) ?_; · (go_simp <;> with_reducible rfl)
  simp only [Act.put, List.setIfInBounds_toArray, List.set_cons_zero, List.set_cons_succ]
  intro val w7 hS7 hR7 hD7
  have hS := hS.up hS7
  have hM := hM.up hS7
  have hX := hX.up hS7
  have hB := Below.then hB hS7
  have hAt := hAt.up hS7
  clear hR7 hD7 hS7 CS CM KH KR
  go_wp2_with (first
    | ((with_reducible refine slot_is 27 rfl ?_); refine load_rec 38 _ rfl rfl _ (Rec.vals m) rfl hM.lies Try.underlying38 size_mny ?_)
    | (go_at_call 11; refine (KI.out m HOf.out w7 hAt).mono ?_; clear KI; rintro e w8 ⟨rfl, hb⟩; have hS := hS.up hb; have hM := hM.up hb; have hX := hX.up hb; have hB := Below.then hB hb; have hAt := hAt.up hb; clear hb; have x4 : w8.cell? ⟨w5.heap.size, 4, none⟩ = some (.int .u64 (x.tr : Int)) := hX.cell 4; rw [HXT.out] at x4; have s28 : w8.cell? ⟨w.heap.size, 28, none⟩ = some (.int .u64 (s.treas : Int)) := hS.cell 28; have x0 : w8.cell? ⟨w5.heap.size, 0, none⟩ = some (.int .u64 (x.st : Int)) := hX.cell 0; have m5 : w8.cell? ⟨w3.heap.size, 5, none⟩ = some (.slice m.sk.A m.sk.l.length m.sk.c) := hM.cell 5)
    | (go_at_call 12; refine (P0.out m HOf.out w8 hAt).mono ?_; clear P0; rintro e w9 ⟨rfl, hb⟩; have hS := hS.up hb; have hM := hM.up hb; have hX := hX.up hb; have hB := Below.then hB hb; have hAt := hAt.up hb; clear hb; have x1 : w9.cell? ⟨w5.heap.size, 1, none⟩ = some (.int .u64 (x.pu : Int)) := hX.cell 1; have m6 : w9.cell? ⟨w3.heap.size, 6, none⟩ = some (.slice m.pu.A m.pu.l.length m.pu.c) := hM.cell 6)
    | (go_at_call 12; refine (P1.out m HOf.out w9 hAt).mono ?_; clear P1; rintro e wa ⟨rfl, hb⟩; have hS := hS.up hb; have hM := hM.up hb; have hX := hX.up hb; have hB := Below.then hB hb; have hAt := hAt.up hb; clear hb; have x2 : wa.cell? ⟨w5.heap.size, 2, none⟩ = some (.int .u64 (x.po : Int)) := hX.cell 2; have m7 : wa.cell? ⟨w3.heap.size, 7, none⟩ = some (.slice m.po.A m.po.l.length m.po.c) := hM.cell 7)
    | (go_at_call 12; refine (P2.out m HOf.out wa hAt).mono ?_; clear P2; rintro e wb ⟨rfl, hb⟩; have hS := hS.up hb; have hM := hM.up hb; have hX := hX.up hb; have hB := Below.then hB hb; have hAt := hAt.up hb; clear hb; have x3 : wb.cell? ⟨w5.heap.size, 3, none⟩ = some (.int .u64 (x.du : Int)) := hX.cell 3; have m8 : wb.cell? ⟨w3.heap.size, 8, none⟩ = some (.slice m.du.A m.du.l.length m.du.c) := hM.cell 8)
    | (go_at_call 12; refine (P3.out m HOf.out wb hAt).mono ?_; clear P3; rintro e wc ⟨rfl, hb⟩; have hS := hS.up hb; have hM := hM.up hb; have hX := hX.up hb; have hB := Below.then hB hb; have hAt := hAt.up hb; clear hb)
    | ((with_reducible refine slot_is 79 rfl ?_); refine load_rec 41 _ rfl rfl _ (Rec.vals x) rfl hX.lies Try.underlying41 size_sht ?_)
    | (go_at_call 13; refine (KT.out wc).mono ?_; clear KT; rintro e wd ⟨rfl, hb⟩; have hS := hS.up hb; have hM := hM.up hb; have hX := hX.up hb; have hB := Below.then hB hb; have hAt := hAt.up hb; clear hb)
    | ((with_reducible refine slot_is 84 rfl ?_); refine load_rec 38 _ rfl rfl _ (Rec.vals m) rfl hM.lies Try.underlying38 size_mny ?_)
    | (go_at_call 15; refine (KW.out m HOf.out wd hAt).mono ?_; clear KW; rintro e we ⟨v, rfl, hv, hb⟩; have hB := Below.then hB hb; clear hb hS hM hX hAt)
    | (go_at_call 14; refine (KD.out v we hv).mono ?_; clear KD hv; rintro e wf ⟨rfl, hb⟩; have hB := Below.then hB hb; clear hb))
  go_ret
  exact ⟨by first | rfl | simp, hB⟩

set_option maxRecDepth 100000 in
set_option maxHeartbeats 4000000 in
theorem walk_fits_false (s : Sta) (w : World) (hs : StaAt w s) (hf : s.Few) (hd : decide s.Holds = false) (x : Sht) (hx : s.parts = (x, 0)) (t : Nat) (ht : x.all = t) :
    Calls Try.prog 3 #[.agg (Rec.vals s)] w fun e w' => e = .returned (.bool true) ∧ Below w.heap.size w w' := by
  have h1 : s.mems.l.length ≤ 1000000 := by have := hf.2.1; omega
  have h2 : s.pool.l.length ≤ 1000000 := by have := hf.2.2.1; omega
  have h3 : s.dues.l.length ≤ 1000000 := by have := hf.2.2.2; omega
  have kf := fun W => few21_is s W
  rw [decide_eq_true hf] at kf
  have km := fun (W : World) (hB : Below w.heap.size w W) => money_of s W (hs.up hB) hf
  have kp := fun (W : World) (hB : Below w.heap.size w W) => parts_is s W (hs.up hB) h1 h2 h3
  rw [hx] at kp
  simp only [show ((0 : Nat) : Int) = 0 from rfl] at kp
  have kh := fun (W : World) (hB : Below w.heap.size w W) => holds_is s W (hs.up hB) h1 h2 h3
  rw [hd] at kh
  have krh := fun (m : Mny) (hOf : MnyOf s m) (W : World) (hM : MnyAt W m) => rholds_is m W hM
  have hdm : ∀ m, MnyOf s m → decide (m.gen + m.mint ≤ m.most ∧ m.most ≤ 4611686018427387904 ∧ m.whole + m.burn = m.gen + m.mint) = false := fun m hO => by
    rw [← hd, Bool.eq_iff_iff, decide_eq_true_iff, decide_eq_true_iff]
    unfold Sta.Holds Mny.whole Sta.whole totDep totDue
    rw [hO.most, hO.gen, hO.mint, hO.burn, hO.treas, hO.sk, hO.pu, hO.po, hO.du]
    omega
  have krh' : ∀ (m : Mny) (hOf : MnyOf s m) (W : World) (hM : MnyAt W m), Calls Try.prog 10 #[.agg (Rec.vals m)] W fun e w' => e = .returned (.bool false) ∧ Below W.heap.size W w' := fun m hOf W hM => by
    have k := krh m hOf W hM
    rw [hdm m hOf] at k
    exact k
  have kfit : ∀ (m : Mny) (hOf : MnyOf s m) (W : World) (hM : MnyAt W m), Calls Try.prog 11 #[.agg (Rec.vals m)] W fun e w' => e = .returned (.bool true) ∧ Below W.heap.size W w' := fun m hOf W hM => by
    have k := rfits_is m W hM
    have h := hx
    unfold Sta.parts parted at h
    rw [hOf.sk, hOf.pu, hOf.po, hOf.du] at k
    unfold totDep totDue at h
    by_cases g : tot (bals s.mems.l) ≤ 18446744073709551615 ∧ tot s.purses.l ≤ 18446744073709551615 ∧ tot (s.pool.l.map Dep.amt) ≤ 18446744073709551615 ∧ tot (s.dues.l.map Due.amt) ≤ 18446744073709551615
    · rw [if_pos g] at h
      rw [decide_eq_true g] at k; exact k
    · rw [if_neg g] at h
      simp at h
  have hxs : x = ⟨tot (bals s.mems.l), tot s.purses.l, tot (s.pool.l.map Dep.amt), tot (s.dues.l.map Due.amt), s.treas⟩ ∧ tot (bals s.mems.l) ≤ 18446744073709551615 ∧ tot s.purses.l ≤ 18446744073709551615 ∧ tot (s.pool.l.map Dep.amt) ≤ 18446744073709551615 ∧ tot (s.dues.l.map Due.amt) ≤ 18446744073709551615 := by
    have h := hx
    unfold Sta.parts parted at h
    unfold totDep totDue at h
    split at h
    · rename_i g
      simp only [Prod.mk.injEq, and_true] at h
      exact ⟨h.symm, g⟩
    · simp at h
  obtain ⟨hxe, g1, g2, g3, g4⟩ := hxs
  have hxt : x.tr = s.treas := by rw [hxe]
  have hxf : x.Fits := ⟨by rw [hxe]; exact g1, by rw [hxe]; exact g2, by rw [hxe]; exact g3, by rw [hxe]; exact g4, by rw [hxt]; have := hs.treas; omega⟩
  have kt := fun W => total_is x W hxf
  rw [ht] at kt
  have kw : ∀ (m : Mny) (hOf : MnyOf s m) (W : World) (hM : MnyAt W m), Calls Try.prog 15 #[.agg (Rec.vals m)] W fun e w' => ∃ v, e = .returned v ∧ Num t v w' ∧ Below W.heap.size W w' := fun m hOf W hM => by
    have k := num_total m W hM
    have e : m.whole = t := by
      rw [← ht, hxe]
      unfold Mny.whole Sht.all
      rw [hOf.treas, hOf.sk, hOf.pu, hOf.po, hOf.du]
      simp only
      omega
    rw [e] at k
    exact k
  have kd := fun v W h => told_num t v W.heap.size W h (Nat.le_refl _)
  have p0 := fun (m : Mny) (hOf : MnyOf s m) (W : World) (hM : MnyAt W m) => part_yes m.sk x.st W hM.sk (by rw [hOf.sk]; exact g1) (by rw [hOf.sk, hxe])
  have p1 := fun (m : Mny) (hOf : MnyOf s m) (W : World) (hM : MnyAt W m) => part_yes m.pu x.pu W hM.pu (by rw [hOf.pu]; exact g2) (by rw [hOf.pu, hxe])
  have p2 := fun (m : Mny) (hOf : MnyOf s m) (W : World) (hM : MnyAt W m) => part_yes m.po x.po W hM.po (by rw [hOf.po]; exact g3) (by rw [hOf.po, hxe])
  have p3 := fun (m : Mny) (hOf : MnyOf s m) (W : World) (hM : MnyAt W m) => part_yes m.du x.du W hM.du (by rw [hOf.du]; exact g4) (by rw [hOf.du, hxe])
  have KT := Lib.hid kt
  have KW := Lib.hid kw
  have KD := Lib.hid kd
  have P0 := Lib.hid p0
  have P1 := Lib.hid p1
  have P2 := Lib.hid p2
  have P3 := Lib.hid p3
  have HXT := Lib.hid hxt
  clear kt kw kd p0 p1 p2 p3 hxe g1 g2 g3 g4 hxf ht hxt
  have KF := Lib.hid kf
  have KM := Lib.hid km
  have KP := Lib.hid kp
  have KH := Lib.hid kh
  have KR := Lib.hid krh'
  have KI := Lib.hid kfit
  clear kf km kp kh krh krh' kfit hdm hs hf hd hx h1 h2 h3
  go_enter Try.func3, Try.ntmps3
  go_upto_region 1 with fail
  generalize hw0 : World.alloc _ _ = w0
  have hS : RecAt w0 w.heap.size (Rec.vals s) 34 := by rw [← hw0]; exact RecAt.new w (Rec.vals s) 34
  have hB : Below w.heap.size w w0 := by rw [← hw0]; exact (Below.refl _ _).alloc (Nat.le_refl _) _
  clear hw0
  go_wp2_with (first
    | (go_at_call 5; refine (supply_awake w0).mono ?_; rintro e w1 ⟨rfl, hb⟩; have hS := hS.up hb; have hB := Below.then hB hb; clear hb)
    | ((with_reducible refine slot_is 12 rfl ?_); refine load_rec 34 _ rfl rfl _ (Rec.vals s) rfl hS.lies Try.underlying34 size_sta ?_)
    | (go_at_call 6; refine (KF.out _).mono ?_; clear KF; rintro e w2 ⟨rfl, hb⟩; have hS := hS.up hb; have hB := Below.then hB hb; clear hb)
    | ((with_reducible refine slot_is 15 rfl ?_); refine load_rec 34 _ rfl rfl _ (Rec.vals s) rfl hS.lies Try.underlying34 size_sta ?_)
    | (go_at_call 7; refine (KM.out w2 hB).mono ?_; clear KM; rintro e w3 ⟨m, rfl, hOf, hAt, hb⟩; have hS := hS.up hb; have hB := Below.then hB hb; have HOf := Lib.hid hOf; clear hb hOf)
    | (refine store_rec 38 _ _ rfl rfl _ (Rec.vals m) (Rec.vals Mny.zero) 38 rfl rfl (RecAt.new _ _ _) size_mny rfl (Rec.one m) ?_; intro w4 hM hb4 hz4 hk4; have hb4 := rec_made (Below.refl _ _) hb4; have hS := hS.up hb4; have hB := Below.then hB hb4; have hAt := hAt.up hb4; clear hz4 hk4 hb4)
    | ((with_reducible refine slot_is 18 rfl ?_); refine load_rec 34 _ rfl rfl _ (Rec.vals s) rfl hS.lies Try.underlying34 size_sta ?_)
    | (go_at_call 8; refine (KP.out w4 hB).mono ?_; clear KP; rintro e w5 ⟨rfl, hb⟩; have hS := hS.up hb; have hM := hM.up hb; have hB := Below.then hB hb; have hAt := hAt.up hb; clear hb)
    | (refine store_rec 41 _ _ rfl rfl _ (Rec.vals x) (Rec.vals Sht.zero) 41 rfl rfl (RecAt.new _ _ _) size_sht rfl (Rec.one x) ?_; intro w6 hX hb6 hz6 hk6; have hb6 := rec_made (Below.refl _ _) hb6; have hS := hS.up hb6; have hM := hM.up hb6; have hB := Below.then hB hb6; have hAt := hAt.up hb6; clear hz6 hk6 hb6))
  have CS : ∀ w1, Below w6.heap.size w6 w1 → LiesAt w1 ⟨w.heap.size, 0, none⟩ (Rec.vals s) := fun w1 hb => (hS.up hb).lies
  have CM : ∀ w1, Below w6.heap.size w6 w1 → LiesAt w1 ⟨w3.heap.size, 0, none⟩ (Rec.vals m) := fun w1 hb => (hM.up hb).lies
  refine region_vary [] 5 (fun w' => Below w6.heap.size w6 w') (by kernel_rfl) (by kernel_rfl) (Below.refl _ _).drew ?_
  simp only [List.take_succ_cons, List.take_zero, List.drop_succ_cons, List.drop_zero]
  refine SeqV.take (fun _ => .agg (Rec.vals s)) (fun _ => by rfl) (by rfl) (fun _ _ _ => rfl) (fun val w1 hS hR => exec_load_rec 34 _ rfl _ (Rec.vals s) rfl (CS w1 hS) Try.underlying34 size_sta) ?_
  simp only [Act.put, List.setIfInBounds_toArray, List.set_cons_zero, List.set_cons_succ]
  refine SeqV.call (f := 9) (args := fun val => #[.agg (Rec.vals s)]) (fun _ => .bool false) (fun val w1 hS hR => ?_) (fun _ => by rfl) (by rfl) (fun _ _ _ => rfl) (fun val w1 => ?_) ?_
  · exact val_of hS (KH.out w1 (Below.then hB hS))
  · go_simp
  simp only [Act.put, List.setIfInBounds_toArray, List.set_cons_zero, List.set_cons_succ]
  refine SeqV.take (fun _ => .agg (Rec.vals m)) (fun _ => by rfl) (by rfl) (fun _ _ _ => rfl) (fun val w1 hS hR => exec_load_rec 38 _ rfl _ (Rec.vals m) rfl (CM w1 hS) Try.underlying38 size_mny) ?_
  simp only [Act.put, List.setIfInBounds_toArray, List.set_cons_zero, List.set_cons_succ]
  refine SeqV.call (f := 10) (args := fun val => #[.agg (Rec.vals m)]) (fun _ => .bool false) (fun val w1 hS hR => ?_) (fun _ => by rfl) (by rfl) (fun _ _ _ => rfl) (fun val w1 => ?_) ?_
  · exact val_of hS (KR.out m HOf.out w1 (hAt.up hS))
  · go_simp
  simp only [Act.put, List.setIfInBounds_toArray, List.set_cons_zero, List.set_cons_succ]
  refine SeqV.take (fun _ => .bool false) (fun _ => by rfl) (by rfl) (fun _ _ _ => rfl) (fun val w1 hS hR => ?_) ?_; · (go_simp <;> with_reducible rfl)
  simp only [Act.put, List.setIfInBounds_toArray, List.set_cons_zero, List.set_cons_succ]
  intro val w7 hS7 hR7 hD7
  have hS := hS.up hS7
  have hM := hM.up hS7
  have hX := hX.up hS7
  have hB := Below.then hB hS7
  have hAt := hAt.up hS7
  clear hR7 hD7 hS7 CS CM KH KR
  go_wp2_with (first
    | ((with_reducible refine slot_is 27 rfl ?_); refine load_rec 38 _ rfl rfl _ (Rec.vals m) rfl hM.lies Try.underlying38 size_mny ?_)
    | (go_at_call 11; refine (KI.out m HOf.out w7 hAt).mono ?_; clear KI; rintro e w8 ⟨rfl, hb⟩; have hS := hS.up hb; have hM := hM.up hb; have hX := hX.up hb; have hB := Below.then hB hb; have hAt := hAt.up hb; clear hb; have x4 : w8.cell? ⟨w5.heap.size, 4, none⟩ = some (.int .u64 (x.tr : Int)) := hX.cell 4; rw [HXT.out] at x4; have s28 : w8.cell? ⟨w.heap.size, 28, none⟩ = some (.int .u64 (s.treas : Int)) := hS.cell 28; have x0 : w8.cell? ⟨w5.heap.size, 0, none⟩ = some (.int .u64 (x.st : Int)) := hX.cell 0; have m5 : w8.cell? ⟨w3.heap.size, 5, none⟩ = some (.slice m.sk.A m.sk.l.length m.sk.c) := hM.cell 5)
    | (go_at_call 12; refine (P0.out m HOf.out w8 hAt).mono ?_; clear P0; rintro e w9 ⟨rfl, hb⟩; have hS := hS.up hb; have hM := hM.up hb; have hX := hX.up hb; have hB := Below.then hB hb; have hAt := hAt.up hb; clear hb; have x1 : w9.cell? ⟨w5.heap.size, 1, none⟩ = some (.int .u64 (x.pu : Int)) := hX.cell 1; have m6 : w9.cell? ⟨w3.heap.size, 6, none⟩ = some (.slice m.pu.A m.pu.l.length m.pu.c) := hM.cell 6)
    | (go_at_call 12; refine (P1.out m HOf.out w9 hAt).mono ?_; clear P1; rintro e wa ⟨rfl, hb⟩; have hS := hS.up hb; have hM := hM.up hb; have hX := hX.up hb; have hB := Below.then hB hb; have hAt := hAt.up hb; clear hb; have x2 : wa.cell? ⟨w5.heap.size, 2, none⟩ = some (.int .u64 (x.po : Int)) := hX.cell 2; have m7 : wa.cell? ⟨w3.heap.size, 7, none⟩ = some (.slice m.po.A m.po.l.length m.po.c) := hM.cell 7)
    | (go_at_call 12; refine (P2.out m HOf.out wa hAt).mono ?_; clear P2; rintro e wb ⟨rfl, hb⟩; have hS := hS.up hb; have hM := hM.up hb; have hX := hX.up hb; have hB := Below.then hB hb; have hAt := hAt.up hb; clear hb; have x3 : wb.cell? ⟨w5.heap.size, 3, none⟩ = some (.int .u64 (x.du : Int)) := hX.cell 3; have m8 : wb.cell? ⟨w3.heap.size, 8, none⟩ = some (.slice m.du.A m.du.l.length m.du.c) := hM.cell 8)
    | (go_at_call 12; refine (P3.out m HOf.out wb hAt).mono ?_; clear P3; rintro e wc ⟨rfl, hb⟩; have hS := hS.up hb; have hM := hM.up hb; have hX := hX.up hb; have hB := Below.then hB hb; have hAt := hAt.up hb; clear hb)
    | ((with_reducible refine slot_is 79 rfl ?_); refine load_rec 41 _ rfl rfl _ (Rec.vals x) rfl hX.lies Try.underlying41 size_sht ?_)
    | (go_at_call 13; refine (KT.out wc).mono ?_; clear KT; rintro e wd ⟨rfl, hb⟩; have hS := hS.up hb; have hM := hM.up hb; have hX := hX.up hb; have hB := Below.then hB hb; have hAt := hAt.up hb; clear hb)
    | ((with_reducible refine slot_is 84 rfl ?_); refine load_rec 38 _ rfl rfl _ (Rec.vals m) rfl hM.lies Try.underlying38 size_mny ?_)
    | (go_at_call 15; refine (KW.out m HOf.out wd hAt).mono ?_; clear KW; rintro e we ⟨v, rfl, hv, hb⟩; have hB := Below.then hB hb; clear hb hS hM hX hAt)
    | (go_at_call 14; refine (KD.out v we hv).mono ?_; clear KD hv; rintro e wf ⟨rfl, hb⟩; have hB := Below.then hB hb; clear hb))
  go_ret
  exact ⟨by first | rfl | simp, hB⟩

theorem walk (s : Sta) (w : World) (hs : StaAt w s) :
    Calls Try.prog 3 #[.agg (Rec.vals s)] w fun e w' => e = .returned (.bool true) ∧ Below w.heap.size w w' := by
  by_cases hf : s.Few
  · obtain ⟨⟨x, y⟩, hxy⟩ : ∃ r, s.parts = r := ⟨_, rfl⟩
    by_cases g : tot (bals s.mems.l) ≤ 18446744073709551615 ∧ tot s.purses.l ≤ 18446744073709551615 ∧ totDep s.pool.l ≤ 18446744073709551615 ∧ totDue s.dues.l ≤ 18446744073709551615
    · have h : s.parts = (⟨tot (bals s.mems.l), tot s.purses.l, totDep s.pool.l, totDue s.dues.l, s.treas⟩, 0) := if_pos g
      rcases hb : decide s.Holds with _ | _
      · exact walk_fits_false s w hs hf hb _ h _ rfl
      · exact walk_fits_true s w hs hf hb _ h _ rfl
    · have h : s.parts = (Sht.zero, 10) := if_neg g
      rcases hb : decide s.Holds with _ | _
      · exact walk_over_false s w hs hf hb h
      · exact walk_over_true s w hs hf hb h
  · exact walk_many s w hf

theorem own : ownKnob Try.prog.godebug = none := by kernel_rfl
theorem laidOut : laidOutB Try.prog = true := by kernel_rfl

set_option maxRecDepth 100000 in
theorem lifted (os : Os) (started : os.Started) (H : Type) (enc : TypeId × Value → H) :
    ReturnsInHanded {} Try.checked os 3 .any (Rows.supplyPartsSpec.pre6 enc Try.prog Try.f3 Rows.supplyPartsRow.domain false) (Rows.supplyPartsSpec.post enc Try.prog Try.f3 false true false false) := by
  refine returnsInHanded_of_change_sized (C := Try.checked) own started (by kernel_rfl) Try.func3
    (ChangeSpec.witness6 (enc := enc) (C := Try.checked) false ⟨#[], #[.agg #[.int .u64 0, .int .u64 0, .int .u64 0, .int .u64 0, .int .u64 0, .int .u64 0, .int .u64 0, .int .u64 0, .int .u64 0, .int .u64 0, .int .u64 0, .int .u64 0, .int .u64 0, .int .u64 0, .int .i64 0, .int .i64 0, .int .i64 0, .int .i64 0, .int .i64 0, .int .i64 0, .int .i64 0, .int .i64 0, .int .i64 0, .int .i64 0, .int .u64 0, .int .u64 0, .int .u64 0, .int .u64 0, .int .u64 0, .int .i64 0, .int .i64 0, .bool false, .slice none 0 0, .slice none 0 0, .slice none 0 0, .slice none 0 0, .slice none 0 0, .slice none 0 0, .slice none 0 0, .slice none 0 0, .slice none 0 0]], []⟩ 8 (by kernel_rfl) (by kernel_rfl) (by kernel_rfl) (by kernel_rfl)) ?_
  intro W base args ds gs before hval0 hW hcnd hsz0 _
  have hval : ∀ (j : Nat) t v, Try.f3.params[j]? = some t → args[j]? = some v → Value.okWide Try.prog W .any base t v := hval0
  have hW' := hW
  obtain ⟨p, q, hA0, hV, rfl, hfz, hnd⟩ := hW
  have hlt : ∀ x ∈ p ++ q, x.block < W.heap.size := fun x hx => hW'.lt x hx
  have hA : DataW.TrodAll enc Try.prog W 0 (fun _ => true) true Try.f3.params.toList args.toList ds p := hA0
  rw [Try.params3] at hA hval
  have hlight : ∀ (j : Nat) t (d : DataW H), (Try.f3.params.toList ++ Rows.supplyPartsSpec.plain.varTypes Try.prog)[j]? = some t → (ds ++ gs)[j]? = some d → ∀ k ∈ d.weights Try.prog t, k ≤ reachBytes := fun j t d ht hd k hk => by simpa using List.all_eq_true.1 hsz0 _ (DataW.weights_mem_each ht hd k hk)
  rw [Try.params3] at hlight
  obtain ⟨v0, vs0, d0, ds0, p0, q0, hargs, rfl, rfl, h0, r0⟩ := trodAll_cons hA
  obtain ⟨rfl, rfl, rfl⟩ := trodAll_nil r0
  obtain rfl : args = #[v0] := by cases args; simp_all
  obtain ⟨rfl, rfl⟩ := trodVars_none hV
  obtain ⟨s0, rfl, f0⟩ := open_sta (hval 0 34 v0 rfl rfl) h0 (hlight 0 _ _ rfl rfl)
  clear hA0 hval0
  refine (walk s0 W f0).mono fun e W' ⟨he, hg⟩ => ?_
  subst he
  exact ⟨_, rfl, law_post laidOut (by kernel_rfl) rfl rfl Try.underlying4 rfl hW' hg⟩

theorem over : Rows.supplyPartsRow.holds Try.pinned (OpenSpec.ofChange Rows.supplyPartsSpec) :=
  OpenClaim.holds_of_wide 3 Try.f3 rfl rfl rfl rfl rfl rfl rfl ⟨rfl, rfl, rfl, rfl, rfl⟩ rfl rfl rfl rfl rfl (by kernel_rfl) Try.func3 (by kernel_rfl)
    (of_decide_eq_true (by kernel_rfl)) (by unfold Func.isWrapper; first | (rw [if_pos (by decide +kernel)]; kernel_rfl) | (rw [if_neg (by decide +kernel)]; exact ⟨rfl, rfl⟩))
    (fun os started H enc _ => lifted os started H enc)

/-- The statement. -/
theorem proved : Rows.SupplyPartsSaid := over
#print axioms proved

end Go.Proofs.Ytoaeckfppoaljaa.SupplyParts
