/- Law SupplyHolds (P21.4): what is accounted for is so behind a mint, and behind a burn; one coin more or less anywhere, and it isn't. No condition. -/
import Derived.Test.YtoaeckfppoaljaaRows
import Derived.Test.YtoaeckfppoaljaaSupG
namespace Go.Proofs.Ytoaeckfppoaljaa.SupplyHolds
open Go.ChangeShapes Go.WideShapes Go.ChangeAt Go.RowKit Go.Shelf
set_option linter.unusedVariables false
set_option linter.unusedSimpArgs false

def PSta.whole (s : PSta) : Nat := tot (bals s.mems) + (tot s.purses + (totDep s.pool + (totDue s.dues + (s.treas + 0))))
def PSta.Holds (s : PSta) : Prop := s.gen + s.mint ≤ s.most ∧ s.most ≤ 4611686018427387904 ∧ PSta.whole s + s.burn = s.gen + s.mint
theorem holds_pure (s : Sta) : s.Holds ↔ PSta.Holds s.pure := Iff.rfl
theorem coins_at {w : World} {s : Sta} (h : StaAt w s) {a b c : Nat} (ha : a < 18446744073709551616) (hb : b < 18446744073709551616) (hc : c < 18446744073709551616) : StaAt w (s.coins a b c) :=
  ⟨h.par, h.most, h.gen, ha, hb, hc, h.epoch, h.calm, h.purses, h.purse, h.mems, h.mem, h.entry, h.exit, h.pool, h.dep, h.dues, h.due, h.mots, h.mot, h.marks, h.ring, h.rings⟩
theorem treas_whole (s : Sta) : ∃ k, s.whole = k + s.treas ∧ ∀ a b c, (s.coins a b c).whole = k + c := ⟨tot (bals s.mems.l) + (tot s.purses.l + (totDep s.pool.l + totDue s.dues.l)), by unfold Sta.whole; omega, fun a b c => by
  unfold Sta.whole Sta.coins
  simp only
  omega⟩
theorem holds_mint {s : Sta} (h : s.Holds) {a : Nat} (h1 : s.gen + s.mint + a ≤ s.most) : (s.coins (s.mint + a) s.burn (s.treas + a)).Holds := by
  obtain ⟨k, h2, h3⟩ := treas_whole s
  have h4 := h.2.2
  refine ⟨by show s.gen + (s.mint + a) ≤ s.most; omega, h.2.1, ?_⟩
  rw [h3]
  show k + (s.treas + a) + s.burn = s.gen + (s.mint + a)
  omega
theorem holds_burn {s : Sta} (h : s.Holds) {a : Nat} (h1 : a ≤ s.treas) : (s.coins s.mint (s.burn + a) (s.treas - a)).Holds := by
  obtain ⟨k, h2, h3⟩ := treas_whole s
  have h4 := h.2.2
  refine ⟨h.1, h.2.1, ?_⟩
  rw [h3]
  show k + (s.treas - a) + (s.burn + a) = s.gen + s.mint
  omega
theorem holds_more {s : Sta} (h : s.Holds) : ¬ (s.coins s.mint s.burn (s.treas + 1)).Holds := fun g => by
  obtain ⟨k, h2, h3⟩ := treas_whole s
  have h4 := h.2.2
  have h5 := g.2.2
  rw [h3] at h5
  have h6 : k + (s.treas + 1) + s.burn = s.gen + s.mint := h5
  omega
theorem holds_less {s : Sta} (h : s.Holds) : ¬ (s.coins s.mint (s.burn + 1) s.treas).Holds := fun g => by
  obtain ⟨k, h2, h3⟩ := treas_whole s
  have h4 := h.2.2
  have h5 := g.2.2
  rw [h3] at h5
  have h6 : k + s.treas + (s.burn + 1) = s.gen + s.mint := h5
  omega
theorem holds_small {s : Sta} (h : s.Holds) : s.treas ≤ 4611686018427387904 ∧ s.burn ≤ 4611686018427387904 := by
  obtain ⟨k, h2, h3⟩ := treas_whole s
  have h4 := h.2.2
  have h5 := h.1
  have h6 := h.2.1
  omega
theorem few_of {s t : Sta} {a b c : Nat} (h : t.pure = s.pure.coins a b c) (hf : s.Few) : t.mems.l.length ≤ 1000000 ∧ t.pool.l.length ≤ 1000000 ∧ t.dues.l.length ≤ 1000000 := by
  have h1 : t.mems.l = s.mems.l := congrArg PSta.mems h
  have h2 : t.pool.l = s.pool.l := congrArg PSta.pool h
  have h3 : t.dues.l = s.dues.l := congrArg PSta.dues h
  have g := hf.2
  rw [h1, h2, h3]
  omega
/-- Whether a state of the call's own is accounted for. -/
theorem own_holds {s t : Sta} {w W : World} {L a b c : Nat} (hs : StaAt w s) (hf : s.Few) (hp : t.pure = s.pure.coins a b c) (ho : StaOwn W L t) (ha : a < 18446744073709551616) (hb : b < 18446744073709551616) (hc : c < 18446744073709551616) (hh : (s.coins a b c).Holds) :
    Calls Try.prog 9 #[.agg (Rec.vals t)] W fun e w' => e = .returned (.bool true) ∧ Below W.heap.size W w' := by
  have g := few_of hp hf
  have k := holds_is t W (ho.at' (by rw [hp]; exact hs.pure.coins ha hb hc)) g.1 g.2.1 g.2.2
  rw [decide_eq_true ((holds_pure t).2 (by rw [hp]; exact (holds_pure (s.coins a b c)).1 hh))] at k
  exact k

set_option maxRecDepth 100000 in
set_option maxHeartbeats 4000000 in
theorem walk_many (s : Sta) (a : Nat) (w : World) (hs : StaAt w s) (ha : a ≤ 18446744073709551615) (hf : ¬ s.Few) :
    Calls Try.prog 4 #[.agg (Rec.vals s), .int .u64 (a : Int)] w fun e w' => e = .returned (.bool true) ∧ Below w.heap.size w w' := by
  have kf := fun W => few21_is s W
  rw [decide_eq_false hf] at kf
  have KF := Lib.hid kf
  clear kf hf hs ha
  go_enter Try.func4, Try.ntmps4
  go_upto_region 1 with fail
  generalize hw0 : World.alloc _ _ = w0
  have hS : RecAt w0 w.heap.size (Rec.vals s) 34 := by rw [← hw0]; exact RecAt.new w (Rec.vals s) 34
  have hB : Below w.heap.size w w0 := by rw [← hw0]; exact (Below.refl _ _).alloc (Nat.le_refl _) _
  clear hw0
  go_wp2_with (first
    | (go_at_call 5; refine (supply_awake w0).mono ?_; rintro e w1 ⟨rfl, hb⟩; have hS := hS.up hb; have hB := Below.then hB hb; clear hb)
    | ((with_reducible refine slot_is 13 rfl ?_); refine load_rec 34 _ rfl rfl _ (Rec.vals s) rfl hS.lies Try.underlying34 size_sta ?_)
    | (go_at_call 6; refine (KF.out _).mono ?_; clear KF; rintro e w2 ⟨rfl, hb⟩; have hS := hS.up hb; have hB := Below.then hB hb; clear hb))
  go_ret
  exact ⟨by first | rfl | simp, hB⟩

set_option maxRecDepth 100000 in
set_option maxHeartbeats 4000000 in
theorem walk_not (s : Sta) (a : Nat) (w : World) (hs : StaAt w s) (ha : a ≤ 18446744073709551615) (hf : s.Few) (hd : ¬ s.Holds) :
    Calls Try.prog 4 #[.agg (Rec.vals s), .int .u64 (a : Int)] w fun e w' => e = .returned (.bool true) ∧ Below w.heap.size w w' := by
  have h1 : s.mems.l.length ≤ 1000000 := by have := hf.2.1; omega
  have h2 : s.pool.l.length ≤ 1000000 := by have := hf.2.2.1; omega
  have h3 : s.dues.l.length ≤ 1000000 := by have := hf.2.2.2; omega
  have kf := fun W => few21_is s W
  rw [decide_eq_true hf] at kf
  have kh := fun (W : World) (hB : Below w.heap.size w W) => holds_is s W (hs.up hB) h1 h2 h3
  rw [decide_eq_false hd] at kh
  have KF := Lib.hid kf
  have KH := Lib.hid kh
  clear kf kh hf hd hs ha h1 h2 h3
  go_enter Try.func4, Try.ntmps4
  go_upto_region 1 with fail
  generalize hw0 : World.alloc _ _ = w0
  have hS : RecAt w0 w.heap.size (Rec.vals s) 34 := by rw [← hw0]; exact RecAt.new w (Rec.vals s) 34
  have hB : Below w.heap.size w w0 := by rw [← hw0]; exact (Below.refl _ _).alloc (Nat.le_refl _) _
  clear hw0
  go_wp2_with (first
    | (go_at_call 5; refine (supply_awake w0).mono ?_; rintro e w1 ⟨rfl, hb⟩; have hS := hS.up hb; have hB := Below.then hB hb; clear hb)
    | ((with_reducible refine slot_is 13 rfl ?_); refine load_rec 34 _ rfl rfl _ (Rec.vals s) rfl hS.lies Try.underlying34 size_sta ?_)
    | (go_at_call 6; refine (KF.out _).mono ?_; clear KF; rintro e w2 ⟨rfl, hb⟩; have hS := hS.up hb; have hB := Below.then hB hb; clear hb)
    | ((with_reducible refine slot_is 17 rfl ?_); refine load_rec 34 _ rfl rfl _ (Rec.vals s) rfl hS.lies Try.underlying34 size_sta ?_)
    | (go_at_call 9; refine (KH.out _ hB).mono ?_; clear KH; rintro e w3 ⟨rfl, hb⟩; have hS := hS.up hb; have hB := Below.then hB hb; clear hb))
  go_ret
  exact ⟨by first | rfl | simp, hB⟩

set_option maxRecDepth 100000 in
set_option maxHeartbeats 4000000 in
theorem walk_nc (s : Sta) (a : Nat) (w : World) (hs : StaAt w s) (ha : a ≤ 18446744073709551615) (hf : s.Few) (hd : s.Holds) (m1 : s.most < s.gen + s.mint + a) (b1 : s.treas < a) :
    Calls Try.prog 4 #[.agg (Rec.vals s), .int .u64 (a : Int)] w fun e w' => e = .returned (.bool true) ∧ Below w.heap.size w w' := by
  have h1 : s.mems.l.length ≤ 1000000 := by have := hf.2.1; omega
  have h2 : s.pool.l.length ≤ 1000000 := by have := hf.2.2.1; omega
  have h3 : s.dues.l.length ≤ 1000000 := by have := hf.2.2.2; omega
  have kf := fun W => few21_is s W
  rw [decide_eq_true hf] at kf
  have kh := fun (W : World) (hB : Below w.heap.size w W) => holds_is s W (hs.up hB) h1 h2 h3
  rw [decide_eq_true hd] at kh
  obtain ⟨ht, hu⟩ := holds_small hd
  have hg : s.gen + s.mint ≤ 4611686018427387904 := Nat.le_trans hd.1 hd.2.1
  have hmo := hd.2.1
  have kc := fun (W : World) (hB : Below w.heap.size w W) => holds_is (s.coins s.mint s.burn (s.treas + 1)) W (coins_at (hs.up hB) (by omega) (by omega) (by omega)) h1 h2 h3
  rw [decide_eq_false (holds_more hd)] at kc
  have kd := fun (W : World) (hB : Below w.heap.size w W) => holds_is (s.coins s.mint (s.burn + 1) s.treas) W (coins_at (hs.up hB) (by omega) (by omega) (by omega)) h1 h2 h3
  rw [decide_eq_false (holds_less hd)] at kd
  have km := fun (W : World) (hB : Below w.heap.size w W) => mint_no s a W (hs.up hB) ha (.inl m1)
  have kb := fun (W : World) (hB : Below w.heap.size w W) => burn_no0 s a W (hs.up hB) ha b1
  have e1 : (s.treas : Int) + 1 = ((s.treas + 1 : Nat) : Int) := by omega
  have e2 : (s.burn : Int) + 1 = ((s.burn + 1 : Nat) : Int) := by omega
  have ht' : (s.treas : Int) ≤ 4611686018427387904 := by omega
  have hu' : (s.burn : Int) ≤ 4611686018427387904 := by omega
  have KF := Lib.hid kf
  have KH := Lib.hid kh
  have KM := Lib.hid km
  have KB := Lib.hid kb
  have KC := Lib.hid kc
  have KD := Lib.hid kd
  have E1 := Lib.hid e1
  have E2 := Lib.hid e2
  clear kf kh km kb kc kd hf hd m1 b1 ha h1 h2 h3 ht hu hg hmo hs e1 e2
  go_enter Try.func4, Try.ntmps4
  go_upto_region 1 with fail
  generalize hw0 : World.alloc _ _ = w0
  have hS : RecAt w0 w.heap.size (Rec.vals s) 34 := by rw [← hw0]; exact RecAt.new w (Rec.vals s) 34
  have hB : Below w.heap.size w w0 := by rw [← hw0]; exact (Below.refl _ _).alloc (Nat.le_refl _) _
  clear hw0
  go_wp2_with (first
    | (go_at_call 5; refine (supply_awake w0).mono ?_; rintro e w1 ⟨rfl, hb⟩; have hS := hS.up hb; have hB := Below.then hB hb; clear hb)
    | ((with_reducible refine slot_is 13 rfl ?_); refine load_rec 34 _ rfl rfl _ (Rec.vals s) rfl hS.lies Try.underlying34 size_sta ?_)
    | (go_at_call 6; refine (KF.out _).mono ?_; clear KF; rintro e w2 ⟨rfl, hb⟩; have hS := hS.up hb; have hB := Below.then hB hb; clear hb)
    | ((with_reducible refine slot_is 17 rfl ?_); refine load_rec 34 _ rfl rfl _ (Rec.vals s) rfl hS.lies Try.underlying34 size_sta ?_)
    | (go_at_call 9; refine (KH.out _ hB).mono ?_; clear KH; rintro e w3 ⟨rfl, hb⟩; have hS := hS.up hb; have hB := Below.then hB hb; clear hb)
    | ((with_reducible refine slot_is 22 rfl ?_); refine load_rec 34 _ rfl rfl _ (Rec.vals s) rfl hS.lies Try.underlying34 size_sta ?_)
    | (go_at_call 16; refine (KM.out w3 hB).mono ?_; clear KM; rintro e w4 ⟨rfl, hb⟩; have hS := hS.up hb; have hB := Below.then hB hb; clear hb)
    | (refine store_rec 34 _ _ rfl rfl _ (Rec.vals Sta.zero) (Rec.vals Sta.zero) 34 rfl rfl (RecAt.new w4 _ _) size_sta rfl (Rec.one Sta.zero) ?_; intro w5 hX hb5 hz5 hk5; clear hz5 hk5; have hb5 := rec_made (Below.refl _ _) hb5; have hS := hS.up hb5; have hB := Below.then hB hb5; clear hb5)
    | ((with_reducible refine slot_is 28 rfl ?_); refine load_rec 34 _ rfl rfl _ (Rec.vals s) rfl hS.lies Try.underlying34 size_sta ?_)
    | (go_at_call 17; refine (KB.out w5 hB).mono ?_; clear KB; rintro e w6 ⟨rfl, hb⟩; have hS := hS.up hb; have hB := Below.then hB hb; have hX := hX.up hb; clear hb)
    | (refine store_rec 34 _ _ rfl rfl _ (Rec.vals Sta.zero) (Rec.vals Sta.zero) 34 rfl rfl (RecAt.new w6 _ _) size_sta rfl (Rec.one Sta.zero) ?_; intro w7 hY hb7 hz7 hk7; clear hz7 hk7; have hb7 := rec_made (Below.refl _ _) hb7; have hS := hS.up hb7; have hB := Below.then hB hb7; have hX := hX.up hb7; clear hb7)
    | ((with_reducible refine slot_is 33 rfl ?_); refine load_rec 34 _ rfl rfl _ (Rec.vals s) rfl hS.lies Try.underlying34 size_sta ?_)
    | (refine store_rec 34 _ _ rfl rfl _ (Rec.vals s) (Rec.vals Sta.zero) 34 rfl rfl (RecAt.new w7 _ _) size_sta rfl (Rec.one s) ?_; intro w8 hC hb8 hz8 hk8; clear hz8 hk8; have hb8 := rec_made (Below.refl _ _) hb8; have c28 : w8.cell? ⟨w7.heap.size, 28, none⟩ = some (.int .u64 (s.treas : Int)) := hC.cell 28)
    | (rw [E1.out]; refine store_slot 22 _ _ rfl rfl _ 28 (Rec.vals s) (Rec.vals (s.coins s.mint s.burn (s.treas + 1))) 34 (.int .u64 ((s.treas + 1 : Nat) : Int)) rfl rfl hC (by show 28 < 41; decide) rfl rfl size_word rfl ?_; intro w9 hC9 hb9 hz9 hk9; clear hz9 hk9 c28; have hb9 := hb8.trans hb9; have hS := hS.up hb9; have hB := Below.then hB hb9; have hX := hX.up hb9; have hY := hY.up hb9; clear hb8 hb9 hC)
    | ((with_reducible refine slot_is 38 rfl ?_); refine load_rec 34 _ rfl rfl _ (Rec.vals s) rfl hS.lies Try.underlying34 size_sta ?_)
    | (refine store_rec 34 _ _ rfl rfl _ (Rec.vals s) (Rec.vals Sta.zero) 34 rfl rfl (RecAt.new w9 _ _) size_sta rfl (Rec.one s) ?_; intro wa hD hba hza hka; clear hza hka; have hba := rec_made (Below.refl _ _) hba; have c27 : wa.cell? ⟨w9.heap.size, 27, none⟩ = some (.int .u64 (s.burn : Int)) := hD.cell 27)
    | (rw [E2.out]; refine store_slot 22 _ _ rfl rfl _ 27 (Rec.vals s) (Rec.vals (s.coins s.mint (s.burn + 1) s.treas)) 34 (.int .u64 ((s.burn + 1 : Nat) : Int)) rfl rfl hD (by show 27 < 41; decide) rfl rfl size_word rfl ?_; intro wb hD9 hbb hzb hkb; clear hzb hkb c27; have hbb := hba.trans hbb; have hS := hS.up hbb; have hB := Below.then hB hbb; have hX := hX.up hbb; have hY := hY.up hbb; have hC9 := hC9.up hbb; clear hba hbb hD)
    | ((with_reducible refine slot_is 58 rfl ?_); refine load_rec 34 _ rfl rfl _ (Rec.vals (s.coins s.mint s.burn (s.treas + 1))) rfl hC9.lies Try.underlying34 size_sta ?_)
    | (go_at_call 9; refine (KC.out wb hB).mono ?_; clear KC; rintro e we ⟨rfl, hb⟩; have hB := Below.then hB hb; have hD9 := hD9.up hb; clear hb)
    | ((with_reducible refine slot_is 63 rfl ?_); refine load_rec 34 _ rfl rfl _ (Rec.vals (s.coins s.mint (s.burn + 1) s.treas)) rfl hD9.lies Try.underlying34 size_sta ?_)
    | (go_at_call 9; refine (KD.out we hB).mono ?_; clear KD; rintro e wf ⟨rfl, hb⟩; have hB := Below.then hB hb; clear hb))
  go_ret
  exact ⟨by first | rfl | simp, hB⟩

set_option maxRecDepth 100000 in
set_option maxHeartbeats 4000000 in
theorem walk_nb (s : Sta) (a : Nat) (w : World) (hs : StaAt w s) (ha : a ≤ 18446744073709551615) (hf : s.Few) (hd : s.Holds) (m1 : s.most < s.gen + s.mint + a) (b1 : a ≤ s.treas) :
    Calls Try.prog 4 #[.agg (Rec.vals s), .int .u64 (a : Int)] w fun e w' => e = .returned (.bool true) ∧ Below w.heap.size w w' := by
  have h1 : s.mems.l.length ≤ 1000000 := by have := hf.2.1; omega
  have h2 : s.pool.l.length ≤ 1000000 := by have := hf.2.2.1; omega
  have h3 : s.dues.l.length ≤ 1000000 := by have := hf.2.2.2; omega
  have kf := fun W => few21_is s W
  rw [decide_eq_true hf] at kf
  have kh := fun (W : World) (hB : Below w.heap.size w W) => holds_is s W (hs.up hB) h1 h2 h3
  rw [decide_eq_true hd] at kh
  obtain ⟨ht, hu⟩ := holds_small hd
  have hg : s.gen + s.mint ≤ 4611686018427387904 := Nat.le_trans hd.1 hd.2.1
  have hmo := hd.2.1
  have kc := fun (W : World) (hB : Below w.heap.size w W) => holds_is (s.coins s.mint s.burn (s.treas + 1)) W (coins_at (hs.up hB) (by omega) (by omega) (by omega)) h1 h2 h3
  rw [decide_eq_false (holds_more hd)] at kc
  have kd := fun (W : World) (hB : Below w.heap.size w W) => holds_is (s.coins s.mint (s.burn + 1) s.treas) W (coins_at (hs.up hB) (by omega) (by omega) (by omega)) h1 h2 h3
  rw [decide_eq_false (holds_less hd)] at kd
  have km := fun (W : World) (hB : Below w.heap.size w W) => mint_no s a W (hs.up hB) ha (.inl m1)
  have kb := fun (W : World) (hB : Below w.heap.size w W) => burn_ok s a W (hs.up hB) ha b1 (by omega)
  have ky := fun (t : Sta) (W : World) (L : Nat) (hp : t.pure = s.pure.coins s.mint (s.burn + a) (s.treas - a)) (ho : StaOwn W L t) => own_holds hs hf hp ho (by omega) (by omega) (by omega) (holds_burn hd b1)
  have KY := Lib.hid ky
  clear ky
  have e1 : (s.treas : Int) + 1 = ((s.treas + 1 : Nat) : Int) := by omega
  have e2 : (s.burn : Int) + 1 = ((s.burn + 1 : Nat) : Int) := by omega
  have ht' : (s.treas : Int) ≤ 4611686018427387904 := by omega
  have hu' : (s.burn : Int) ≤ 4611686018427387904 := by omega
  have KF := Lib.hid kf
  have KH := Lib.hid kh
  have KM := Lib.hid km
  have KB := Lib.hid kb
  have KC := Lib.hid kc
  have KD := Lib.hid kd
  have E1 := Lib.hid e1
  have E2 := Lib.hid e2
  clear kf kh km kb kc kd hf hd m1 b1 ha h1 h2 h3 ht hu hg hmo hs e1 e2
  go_enter Try.func4, Try.ntmps4
  go_upto_region 1 with fail
  generalize hw0 : World.alloc _ _ = w0
  have hS : RecAt w0 w.heap.size (Rec.vals s) 34 := by rw [← hw0]; exact RecAt.new w (Rec.vals s) 34
  have hB : Below w.heap.size w w0 := by rw [← hw0]; exact (Below.refl _ _).alloc (Nat.le_refl _) _
  clear hw0
  go_wp2_with (first
    | (go_at_call 5; refine (supply_awake w0).mono ?_; rintro e w1 ⟨rfl, hb⟩; have hS := hS.up hb; have hB := Below.then hB hb; clear hb)
    | ((with_reducible refine slot_is 13 rfl ?_); refine load_rec 34 _ rfl rfl _ (Rec.vals s) rfl hS.lies Try.underlying34 size_sta ?_)
    | (go_at_call 6; refine (KF.out _).mono ?_; clear KF; rintro e w2 ⟨rfl, hb⟩; have hS := hS.up hb; have hB := Below.then hB hb; clear hb)
    | ((with_reducible refine slot_is 17 rfl ?_); refine load_rec 34 _ rfl rfl _ (Rec.vals s) rfl hS.lies Try.underlying34 size_sta ?_)
    | (go_at_call 9; refine (KH.out _ hB).mono ?_; clear KH; rintro e w3 ⟨rfl, hb⟩; have hS := hS.up hb; have hB := Below.then hB hb; clear hb)
    | ((with_reducible refine slot_is 22 rfl ?_); refine load_rec 34 _ rfl rfl _ (Rec.vals s) rfl hS.lies Try.underlying34 size_sta ?_)
    | (go_at_call 16; refine (KM.out w3 hB).mono ?_; clear KM; rintro e w4 ⟨rfl, hb⟩; have hS := hS.up hb; have hB := Below.then hB hb; clear hb)
    | (refine store_rec 34 _ _ rfl rfl _ (Rec.vals Sta.zero) (Rec.vals Sta.zero) 34 rfl rfl (RecAt.new w4 _ _) size_sta rfl (Rec.one Sta.zero) ?_; intro w5 hX hb5 hz5 hk5; clear hz5 hk5; have hb5 := rec_made (Below.refl _ _) hb5; have hS := hS.up hb5; have hB := Below.then hB hb5; clear hb5)
    | ((with_reducible refine slot_is 28 rfl ?_); refine load_rec 34 _ rfl rfl _ (Rec.vals s) rfl hS.lies Try.underlying34 size_sta ?_)
    | (go_at_call 17; refine (KB.out w5 hB).mono ?_; clear KB; rintro e w6 ⟨u, rfl, hp, ho, hb⟩; have hS := hS.up hb; have hB := Below.then hB hb; have hX := hX.up hb; have HP2 := Lib.hid hp; have HO2 := Lib.hid ho; clear hb hp ho)
    | (refine store_rec 34 _ _ rfl rfl _ (Rec.vals u) (Rec.vals Sta.zero) 34 rfl rfl (RecAt.new w6 _ _) size_sta rfl (Rec.one u) ?_; intro w7 hY hb7 hz7 hk7; clear hz7 hk7; have hb7 := rec_made (Below.refl _ _) hb7; have hS := hS.up hb7; have hB := Below.then hB hb7; have hX := hX.up hb7; have HO2 := Lib.hid (HO2.out.up hb7); clear hb7)
    | ((with_reducible refine slot_is 33 rfl ?_); refine load_rec 34 _ rfl rfl _ (Rec.vals s) rfl hS.lies Try.underlying34 size_sta ?_)
    | (refine store_rec 34 _ _ rfl rfl _ (Rec.vals s) (Rec.vals Sta.zero) 34 rfl rfl (RecAt.new w7 _ _) size_sta rfl (Rec.one s) ?_; intro w8 hC hb8 hz8 hk8; clear hz8 hk8; have hb8 := rec_made (Below.refl _ _) hb8; have c28 : w8.cell? ⟨w7.heap.size, 28, none⟩ = some (.int .u64 (s.treas : Int)) := hC.cell 28)
    | (rw [E1.out]; refine store_slot 22 _ _ rfl rfl _ 28 (Rec.vals s) (Rec.vals (s.coins s.mint s.burn (s.treas + 1))) 34 (.int .u64 ((s.treas + 1 : Nat) : Int)) rfl rfl hC (by show 28 < 41; decide) rfl rfl size_word rfl ?_; intro w9 hC9 hb9 hz9 hk9; clear hz9 hk9 c28; have hb9 := hb8.trans hb9; have hS := hS.up hb9; have hB := Below.then hB hb9; have hX := hX.up hb9; have hY := hY.up hb9; have HO2 := Lib.hid (HO2.out.up hb9); clear hb8 hb9 hC)
    | ((with_reducible refine slot_is 38 rfl ?_); refine load_rec 34 _ rfl rfl _ (Rec.vals s) rfl hS.lies Try.underlying34 size_sta ?_)
    | (refine store_rec 34 _ _ rfl rfl _ (Rec.vals s) (Rec.vals Sta.zero) 34 rfl rfl (RecAt.new w9 _ _) size_sta rfl (Rec.one s) ?_; intro wa hD hba hza hka; clear hza hka; have hba := rec_made (Below.refl _ _) hba; have c27 : wa.cell? ⟨w9.heap.size, 27, none⟩ = some (.int .u64 (s.burn : Int)) := hD.cell 27)
    | (rw [E2.out]; refine store_slot 22 _ _ rfl rfl _ 27 (Rec.vals s) (Rec.vals (s.coins s.mint (s.burn + 1) s.treas)) 34 (.int .u64 ((s.burn + 1 : Nat) : Int)) rfl rfl hD (by show 27 < 41; decide) rfl rfl size_word rfl ?_; intro wb hD9 hbb hzb hkb; clear hzb hkb c27; have hbb := hba.trans hbb; have hS := hS.up hbb; have hB := Below.then hB hbb; have hX := hX.up hbb; have hY := hY.up hbb; have hC9 := hC9.up hbb; have HO2 := Lib.hid (HO2.out.up hbb); clear hba hbb hD)
    | ((with_reducible refine slot_is 53 rfl ?_); refine load_rec 34 _ rfl rfl _ (Rec.vals u) rfl hY.lies Try.underlying34 size_sta ?_)
    | (go_at_call 9; refine (KY.out u wb _ HP2.out HO2.out).mono ?_; clear KY HO2 HP2; rintro e wd ⟨rfl, hb⟩; have hB := Below.then hB hb; have hC9 := hC9.up hb; have hD9 := hD9.up hb; clear hb)
    | ((with_reducible refine slot_is 58 rfl ?_); refine load_rec 34 _ rfl rfl _ (Rec.vals (s.coins s.mint s.burn (s.treas + 1))) rfl hC9.lies Try.underlying34 size_sta ?_)
    | (go_at_call 9; refine (KC.out wd hB).mono ?_; clear KC; rintro e we ⟨rfl, hb⟩; have hB := Below.then hB hb; have hD9 := hD9.up hb; clear hb)
    | ((with_reducible refine slot_is 63 rfl ?_); refine load_rec 34 _ rfl rfl _ (Rec.vals (s.coins s.mint (s.burn + 1) s.treas)) rfl hD9.lies Try.underlying34 size_sta ?_)
    | (go_at_call 9; refine (KD.out we hB).mono ?_; clear KD; rintro e wf ⟨rfl, hb⟩; have hB := Below.then hB hb; clear hb))
  go_ret
  exact ⟨by first | rfl | simp, hB⟩

set_option maxRecDepth 100000 in
set_option maxHeartbeats 4000000 in
theorem walk_mc (s : Sta) (a : Nat) (w : World) (hs : StaAt w s) (ha : a ≤ 18446744073709551615) (hf : s.Few) (hd : s.Holds) (m1 : s.gen + s.mint + a ≤ s.most) (b1 : s.treas < a) :
    Calls Try.prog 4 #[.agg (Rec.vals s), .int .u64 (a : Int)] w fun e w' => e = .returned (.bool true) ∧ Below w.heap.size w w' := by
  have h1 : s.mems.l.length ≤ 1000000 := by have := hf.2.1; omega
  have h2 : s.pool.l.length ≤ 1000000 := by have := hf.2.2.1; omega
  have h3 : s.dues.l.length ≤ 1000000 := by have := hf.2.2.2; omega
  have kf := fun W => few21_is s W
  rw [decide_eq_true hf] at kf
  have kh := fun (W : World) (hB : Below w.heap.size w W) => holds_is s W (hs.up hB) h1 h2 h3
  rw [decide_eq_true hd] at kh
  obtain ⟨ht, hu⟩ := holds_small hd
  have hg : s.gen + s.mint ≤ 4611686018427387904 := Nat.le_trans hd.1 hd.2.1
  have hmo := hd.2.1
  have kc := fun (W : World) (hB : Below w.heap.size w W) => holds_is (s.coins s.mint s.burn (s.treas + 1)) W (coins_at (hs.up hB) (by omega) (by omega) (by omega)) h1 h2 h3
  rw [decide_eq_false (holds_more hd)] at kc
  have kd := fun (W : World) (hB : Below w.heap.size w W) => holds_is (s.coins s.mint (s.burn + 1) s.treas) W (coins_at (hs.up hB) (by omega) (by omega) (by omega)) h1 h2 h3
  rw [decide_eq_false (holds_less hd)] at kd
  have km := fun (W : World) (hB : Below w.heap.size w W) => mint_ok s a W (hs.up hB) ha m1 (by omega) (by omega)
  have kx := fun (t : Sta) (W : World) (L : Nat) (hp : t.pure = s.pure.coins (s.mint + a) s.burn (s.treas + a)) (ho : StaOwn W L t) => own_holds hs hf hp ho (by omega) (by omega) (by omega) (holds_mint hd m1)
  have KX := Lib.hid kx
  clear kx
  have kb := fun (W : World) (hB : Below w.heap.size w W) => burn_no0 s a W (hs.up hB) ha b1
  have e1 : (s.treas : Int) + 1 = ((s.treas + 1 : Nat) : Int) := by omega
  have e2 : (s.burn : Int) + 1 = ((s.burn + 1 : Nat) : Int) := by omega
  have ht' : (s.treas : Int) ≤ 4611686018427387904 := by omega
  have hu' : (s.burn : Int) ≤ 4611686018427387904 := by omega
  have KF := Lib.hid kf
  have KH := Lib.hid kh
  have KM := Lib.hid km
  have KB := Lib.hid kb
  have KC := Lib.hid kc
  have KD := Lib.hid kd
  have E1 := Lib.hid e1
  have E2 := Lib.hid e2
  clear kf kh km kb kc kd hf hd m1 b1 ha h1 h2 h3 ht hu hg hmo hs e1 e2
  go_enter Try.func4, Try.ntmps4
  go_upto_region 1 with fail
  generalize hw0 : World.alloc _ _ = w0
  have hS : RecAt w0 w.heap.size (Rec.vals s) 34 := by rw [← hw0]; exact RecAt.new w (Rec.vals s) 34
  have hB : Below w.heap.size w w0 := by rw [← hw0]; exact (Below.refl _ _).alloc (Nat.le_refl _) _
  clear hw0
  go_wp2_with (first
    | (go_at_call 5; refine (supply_awake w0).mono ?_; rintro e w1 ⟨rfl, hb⟩; have hS := hS.up hb; have hB := Below.then hB hb; clear hb)
    | ((with_reducible refine slot_is 13 rfl ?_); refine load_rec 34 _ rfl rfl _ (Rec.vals s) rfl hS.lies Try.underlying34 size_sta ?_)
    | (go_at_call 6; refine (KF.out _).mono ?_; clear KF; rintro e w2 ⟨rfl, hb⟩; have hS := hS.up hb; have hB := Below.then hB hb; clear hb)
    | ((with_reducible refine slot_is 17 rfl ?_); refine load_rec 34 _ rfl rfl _ (Rec.vals s) rfl hS.lies Try.underlying34 size_sta ?_)
    | (go_at_call 9; refine (KH.out _ hB).mono ?_; clear KH; rintro e w3 ⟨rfl, hb⟩; have hS := hS.up hb; have hB := Below.then hB hb; clear hb)
    | ((with_reducible refine slot_is 22 rfl ?_); refine load_rec 34 _ rfl rfl _ (Rec.vals s) rfl hS.lies Try.underlying34 size_sta ?_)
    | (go_at_call 16; refine (KM.out w3 hB).mono ?_; clear KM; rintro e w4 ⟨t, rfl, hp, ho, hb⟩; have hS := hS.up hb; have hB := Below.then hB hb; have HP := Lib.hid hp; have HO := Lib.hid ho; clear hb hp ho)
    | (refine store_rec 34 _ _ rfl rfl _ (Rec.vals t) (Rec.vals Sta.zero) 34 rfl rfl (RecAt.new w4 _ _) size_sta rfl (Rec.one t) ?_; intro w5 hX hb5 hz5 hk5; clear hz5 hk5; have hb5 := rec_made (Below.refl _ _) hb5; have hS := hS.up hb5; have hB := Below.then hB hb5; have HO := Lib.hid (HO.out.up hb5); clear hb5)
    | ((with_reducible refine slot_is 28 rfl ?_); refine load_rec 34 _ rfl rfl _ (Rec.vals s) rfl hS.lies Try.underlying34 size_sta ?_)
    | (go_at_call 17; refine (KB.out w5 hB).mono ?_; clear KB; rintro e w6 ⟨rfl, hb⟩; have hS := hS.up hb; have hB := Below.then hB hb; have hX := hX.up hb; have HO := Lib.hid (HO.out.up hb); clear hb)
    | (refine store_rec 34 _ _ rfl rfl _ (Rec.vals Sta.zero) (Rec.vals Sta.zero) 34 rfl rfl (RecAt.new w6 _ _) size_sta rfl (Rec.one Sta.zero) ?_; intro w7 hY hb7 hz7 hk7; clear hz7 hk7; have hb7 := rec_made (Below.refl _ _) hb7; have hS := hS.up hb7; have hB := Below.then hB hb7; have hX := hX.up hb7; have HO := Lib.hid (HO.out.up hb7); clear hb7)
    | ((with_reducible refine slot_is 33 rfl ?_); refine load_rec 34 _ rfl rfl _ (Rec.vals s) rfl hS.lies Try.underlying34 size_sta ?_)
    | (refine store_rec 34 _ _ rfl rfl _ (Rec.vals s) (Rec.vals Sta.zero) 34 rfl rfl (RecAt.new w7 _ _) size_sta rfl (Rec.one s) ?_; intro w8 hC hb8 hz8 hk8; clear hz8 hk8; have hb8 := rec_made (Below.refl _ _) hb8; have c28 : w8.cell? ⟨w7.heap.size, 28, none⟩ = some (.int .u64 (s.treas : Int)) := hC.cell 28)
    | (rw [E1.out]; refine store_slot 22 _ _ rfl rfl _ 28 (Rec.vals s) (Rec.vals (s.coins s.mint s.burn (s.treas + 1))) 34 (.int .u64 ((s.treas + 1 : Nat) : Int)) rfl rfl hC (by show 28 < 41; decide) rfl rfl size_word rfl ?_; intro w9 hC9 hb9 hz9 hk9; clear hz9 hk9 c28; have hb9 := hb8.trans hb9; have hS := hS.up hb9; have hB := Below.then hB hb9; have hX := hX.up hb9; have hY := hY.up hb9; have HO := Lib.hid (HO.out.up hb9); clear hb8 hb9 hC)
    | ((with_reducible refine slot_is 38 rfl ?_); refine load_rec 34 _ rfl rfl _ (Rec.vals s) rfl hS.lies Try.underlying34 size_sta ?_)
    | (refine store_rec 34 _ _ rfl rfl _ (Rec.vals s) (Rec.vals Sta.zero) 34 rfl rfl (RecAt.new w9 _ _) size_sta rfl (Rec.one s) ?_; intro wa hD hba hza hka; clear hza hka; have hba := rec_made (Below.refl _ _) hba; have c27 : wa.cell? ⟨w9.heap.size, 27, none⟩ = some (.int .u64 (s.burn : Int)) := hD.cell 27)
    | (rw [E2.out]; refine store_slot 22 _ _ rfl rfl _ 27 (Rec.vals s) (Rec.vals (s.coins s.mint (s.burn + 1) s.treas)) 34 (.int .u64 ((s.burn + 1 : Nat) : Int)) rfl rfl hD (by show 27 < 41; decide) rfl rfl size_word rfl ?_; intro wb hD9 hbb hzb hkb; clear hzb hkb c27; have hbb := hba.trans hbb; have hS := hS.up hbb; have hB := Below.then hB hbb; have hX := hX.up hbb; have hY := hY.up hbb; have hC9 := hC9.up hbb; have HO := Lib.hid (HO.out.up hbb); clear hba hbb hD)
    | ((with_reducible refine slot_is 46 rfl ?_); refine load_rec 34 _ rfl rfl _ (Rec.vals t) rfl hX.lies Try.underlying34 size_sta ?_)
    | (go_at_call 9; refine (KX.out t wb _ HP.out HO.out).mono ?_; clear KX HO HP; rintro e wc ⟨rfl, hb⟩; have hB := Below.then hB hb; have hY := hY.up hb; have hC9 := hC9.up hb; have hD9 := hD9.up hb; clear hb)
    | ((with_reducible refine slot_is 58 rfl ?_); refine load_rec 34 _ rfl rfl _ (Rec.vals (s.coins s.mint s.burn (s.treas + 1))) rfl hC9.lies Try.underlying34 size_sta ?_)
    | (go_at_call 9; refine (KC.out wc hB).mono ?_; clear KC; rintro e we ⟨rfl, hb⟩; have hB := Below.then hB hb; have hD9 := hD9.up hb; clear hb)
    | ((with_reducible refine slot_is 63 rfl ?_); refine load_rec 34 _ rfl rfl _ (Rec.vals (s.coins s.mint (s.burn + 1) s.treas)) rfl hD9.lies Try.underlying34 size_sta ?_)
    | (go_at_call 9; refine (KD.out we hB).mono ?_; clear KD; rintro e wf ⟨rfl, hb⟩; have hB := Below.then hB hb; clear hb))
  go_ret
  exact ⟨by first | rfl | simp, hB⟩

set_option maxRecDepth 100000 in
set_option maxHeartbeats 4000000 in
theorem walk_mb (s : Sta) (a : Nat) (w : World) (hs : StaAt w s) (ha : a ≤ 18446744073709551615) (hf : s.Few) (hd : s.Holds) (m1 : s.gen + s.mint + a ≤ s.most) (b1 : a ≤ s.treas) :
    Calls Try.prog 4 #[.agg (Rec.vals s), .int .u64 (a : Int)] w fun e w' => e = .returned (.bool true) ∧ Below w.heap.size w w' := by
  have h1 : s.mems.l.length ≤ 1000000 := by have := hf.2.1; omega
  have h2 : s.pool.l.length ≤ 1000000 := by have := hf.2.2.1; omega
  have h3 : s.dues.l.length ≤ 1000000 := by have := hf.2.2.2; omega
  have kf := fun W => few21_is s W
  rw [decide_eq_true hf] at kf
  have kh := fun (W : World) (hB : Below w.heap.size w W) => holds_is s W (hs.up hB) h1 h2 h3
  rw [decide_eq_true hd] at kh
  obtain ⟨ht, hu⟩ := holds_small hd
  have hg : s.gen + s.mint ≤ 4611686018427387904 := Nat.le_trans hd.1 hd.2.1
  have hmo := hd.2.1
  have kc := fun (W : World) (hB : Below w.heap.size w W) => holds_is (s.coins s.mint s.burn (s.treas + 1)) W (coins_at (hs.up hB) (by omega) (by omega) (by omega)) h1 h2 h3
  rw [decide_eq_false (holds_more hd)] at kc
  have kd := fun (W : World) (hB : Below w.heap.size w W) => holds_is (s.coins s.mint (s.burn + 1) s.treas) W (coins_at (hs.up hB) (by omega) (by omega) (by omega)) h1 h2 h3
  rw [decide_eq_false (holds_less hd)] at kd
  have km := fun (W : World) (hB : Below w.heap.size w W) => mint_ok s a W (hs.up hB) ha m1 (by omega) (by omega)
  have kx := fun (t : Sta) (W : World) (L : Nat) (hp : t.pure = s.pure.coins (s.mint + a) s.burn (s.treas + a)) (ho : StaOwn W L t) => own_holds hs hf hp ho (by omega) (by omega) (by omega) (holds_mint hd m1)
  have KX := Lib.hid kx
  clear kx
  have kb := fun (W : World) (hB : Below w.heap.size w W) => burn_ok s a W (hs.up hB) ha b1 (by omega)
  have ky := fun (t : Sta) (W : World) (L : Nat) (hp : t.pure = s.pure.coins s.mint (s.burn + a) (s.treas - a)) (ho : StaOwn W L t) => own_holds hs hf hp ho (by omega) (by omega) (by omega) (holds_burn hd b1)
  have KY := Lib.hid ky
  clear ky
  have e1 : (s.treas : Int) + 1 = ((s.treas + 1 : Nat) : Int) := by omega
  have e2 : (s.burn : Int) + 1 = ((s.burn + 1 : Nat) : Int) := by omega
  have ht' : (s.treas : Int) ≤ 4611686018427387904 := by omega
  have hu' : (s.burn : Int) ≤ 4611686018427387904 := by omega
  have KF := Lib.hid kf
  have KH := Lib.hid kh
  have KM := Lib.hid km
  have KB := Lib.hid kb
  have KC := Lib.hid kc
  have KD := Lib.hid kd
  have E1 := Lib.hid e1
  have E2 := Lib.hid e2
  clear kf kh km kb kc kd hf hd m1 b1 ha h1 h2 h3 ht hu hg hmo hs e1 e2
  go_enter Try.func4, Try.ntmps4
  go_upto_region 1 with fail
  generalize hw0 : World.alloc _ _ = w0
  have hS : RecAt w0 w.heap.size (Rec.vals s) 34 := by rw [← hw0]; exact RecAt.new w (Rec.vals s) 34
  have hB : Below w.heap.size w w0 := by rw [← hw0]; exact (Below.refl _ _).alloc (Nat.le_refl _) _
  clear hw0
  go_wp2_with (first
    | (go_at_call 5; refine (supply_awake w0).mono ?_; rintro e w1 ⟨rfl, hb⟩; have hS := hS.up hb; have hB := Below.then hB hb; clear hb)
    | ((with_reducible refine slot_is 13 rfl ?_); refine load_rec 34 _ rfl rfl _ (Rec.vals s) rfl hS.lies Try.underlying34 size_sta ?_)
    | (go_at_call 6; refine (KF.out _).mono ?_; clear KF; rintro e w2 ⟨rfl, hb⟩; have hS := hS.up hb; have hB := Below.then hB hb; clear hb)
    | ((with_reducible refine slot_is 17 rfl ?_); refine load_rec 34 _ rfl rfl _ (Rec.vals s) rfl hS.lies Try.underlying34 size_sta ?_)
    | (go_at_call 9; refine (KH.out _ hB).mono ?_; clear KH; rintro e w3 ⟨rfl, hb⟩; have hS := hS.up hb; have hB := Below.then hB hb; clear hb)
    | ((with_reducible refine slot_is 22 rfl ?_); refine load_rec 34 _ rfl rfl _ (Rec.vals s) rfl hS.lies Try.underlying34 size_sta ?_)
    | (go_at_call 16; refine (KM.out w3 hB).mono ?_; clear KM; rintro e w4 ⟨t, rfl, hp, ho, hb⟩; have hS := hS.up hb; have hB := Below.then hB hb; have HP := Lib.hid hp; have HO := Lib.hid ho; clear hb hp ho)
    | (refine store_rec 34 _ _ rfl rfl _ (Rec.vals t) (Rec.vals Sta.zero) 34 rfl rfl (RecAt.new w4 _ _) size_sta rfl (Rec.one t) ?_; intro w5 hX hb5 hz5 hk5; clear hz5 hk5; have hb5 := rec_made (Below.refl _ _) hb5; have hS := hS.up hb5; have hB := Below.then hB hb5; have HO := Lib.hid (HO.out.up hb5); clear hb5)
    | ((with_reducible refine slot_is 28 rfl ?_); refine load_rec 34 _ rfl rfl _ (Rec.vals s) rfl hS.lies Try.underlying34 size_sta ?_)
    | (go_at_call 17; refine (KB.out w5 hB).mono ?_; clear KB; rintro e w6 ⟨u, rfl, hp, ho, hb⟩; have hS := hS.up hb; have hB := Below.then hB hb; have hX := hX.up hb; have HO := Lib.hid (HO.out.up hb); have HP2 := Lib.hid hp; have HO2 := Lib.hid ho; clear hb hp ho)
    | (refine store_rec 34 _ _ rfl rfl _ (Rec.vals u) (Rec.vals Sta.zero) 34 rfl rfl (RecAt.new w6 _ _) size_sta rfl (Rec.one u) ?_; intro w7 hY hb7 hz7 hk7; clear hz7 hk7; have hb7 := rec_made (Below.refl _ _) hb7; have hS := hS.up hb7; have hB := Below.then hB hb7; have hX := hX.up hb7; have HO := Lib.hid (HO.out.up hb7); have HO2 := Lib.hid (HO2.out.up hb7); clear hb7)
    | ((with_reducible refine slot_is 33 rfl ?_); refine load_rec 34 _ rfl rfl _ (Rec.vals s) rfl hS.lies Try.underlying34 size_sta ?_)
    | (refine store_rec 34 _ _ rfl rfl _ (Rec.vals s) (Rec.vals Sta.zero) 34 rfl rfl (RecAt.new w7 _ _) size_sta rfl (Rec.one s) ?_; intro w8 hC hb8 hz8 hk8; clear hz8 hk8; have hb8 := rec_made (Below.refl _ _) hb8; have c28 : w8.cell? ⟨w7.heap.size, 28, none⟩ = some (.int .u64 (s.treas : Int)) := hC.cell 28)
    | (rw [E1.out]; refine store_slot 22 _ _ rfl rfl _ 28 (Rec.vals s) (Rec.vals (s.coins s.mint s.burn (s.treas + 1))) 34 (.int .u64 ((s.treas + 1 : Nat) : Int)) rfl rfl hC (by show 28 < 41; decide) rfl rfl size_word rfl ?_; intro w9 hC9 hb9 hz9 hk9; clear hz9 hk9 c28; have hb9 := hb8.trans hb9; have hS := hS.up hb9; have hB := Below.then hB hb9; have hX := hX.up hb9; have hY := hY.up hb9; have HO := Lib.hid (HO.out.up hb9); have HO2 := Lib.hid (HO2.out.up hb9); clear hb8 hb9 hC)
    | ((with_reducible refine slot_is 38 rfl ?_); refine load_rec 34 _ rfl rfl _ (Rec.vals s) rfl hS.lies Try.underlying34 size_sta ?_)
    | (refine store_rec 34 _ _ rfl rfl _ (Rec.vals s) (Rec.vals Sta.zero) 34 rfl rfl (RecAt.new w9 _ _) size_sta rfl (Rec.one s) ?_; intro wa hD hba hza hka; clear hza hka; have hba := rec_made (Below.refl _ _) hba; have c27 : wa.cell? ⟨w9.heap.size, 27, none⟩ = some (.int .u64 (s.burn : Int)) := hD.cell 27)
    | (rw [E2.out]; refine store_slot 22 _ _ rfl rfl _ 27 (Rec.vals s) (Rec.vals (s.coins s.mint (s.burn + 1) s.treas)) 34 (.int .u64 ((s.burn + 1 : Nat) : Int)) rfl rfl hD (by show 27 < 41; decide) rfl rfl size_word rfl ?_; intro wb hD9 hbb hzb hkb; clear hzb hkb c27; have hbb := hba.trans hbb; have hS := hS.up hbb; have hB := Below.then hB hbb; have hX := hX.up hbb; have hY := hY.up hbb; have hC9 := hC9.up hbb; have HO := Lib.hid (HO.out.up hbb); have HO2 := Lib.hid (HO2.out.up hbb); clear hba hbb hD)
    | ((with_reducible refine slot_is 46 rfl ?_); refine load_rec 34 _ rfl rfl _ (Rec.vals t) rfl hX.lies Try.underlying34 size_sta ?_)
    | (go_at_call 9; refine (KX.out t wb _ HP.out HO.out).mono ?_; clear KX HO HP; rintro e wc ⟨rfl, hb⟩; have hB := Below.then hB hb; have hY := hY.up hb; have hC9 := hC9.up hb; have hD9 := hD9.up hb; have HO2 := Lib.hid (HO2.out.up hb); clear hb)
    | ((with_reducible refine slot_is 53 rfl ?_); refine load_rec 34 _ rfl rfl _ (Rec.vals u) rfl hY.lies Try.underlying34 size_sta ?_)
    | (go_at_call 9; refine (KY.out u wc _ HP2.out HO2.out).mono ?_; clear KY HO2 HP2; rintro e wd ⟨rfl, hb⟩; have hB := Below.then hB hb; have hC9 := hC9.up hb; have hD9 := hD9.up hb; clear hb)
    | ((with_reducible refine slot_is 58 rfl ?_); refine load_rec 34 _ rfl rfl _ (Rec.vals (s.coins s.mint s.burn (s.treas + 1))) rfl hC9.lies Try.underlying34 size_sta ?_)
    | (go_at_call 9; refine (KC.out wd hB).mono ?_; clear KC; rintro e we ⟨rfl, hb⟩; have hB := Below.then hB hb; have hD9 := hD9.up hb; clear hb)
    | ((with_reducible refine slot_is 63 rfl ?_); refine load_rec 34 _ rfl rfl _ (Rec.vals (s.coins s.mint (s.burn + 1) s.treas)) rfl hD9.lies Try.underlying34 size_sta ?_)
    | (go_at_call 9; refine (KD.out we hB).mono ?_; clear KD; rintro e wf ⟨rfl, hb⟩; have hB := Below.then hB hb; clear hb))
  go_ret
  exact ⟨by first | rfl | simp, hB⟩

theorem walk (s : Sta) (a : Nat) (w : World) (hs : StaAt w s) (ha : a ≤ 18446744073709551615) :
    Calls Try.prog 4 #[.agg (Rec.vals s), .int .u64 (a : Int)] w fun e w' => e = .returned (.bool true) ∧ Below w.heap.size w w' := by
  by_cases hf : s.Few
  · by_cases hd : s.Holds
    · by_cases m1 : s.gen + s.mint + a ≤ s.most
      · by_cases b1 : a ≤ s.treas
        · exact walk_mb s a w hs ha hf hd m1 b1
        · exact walk_mc s a w hs ha hf hd m1 (by omega)
      · by_cases b1 : a ≤ s.treas
        · exact walk_nb s a w hs ha hf hd (by omega) b1
        · exact walk_nc s a w hs ha hf hd (by omega) (by omega)
    · exact walk_not s a w hs ha hf hd
  · exact walk_many s a w hs ha hf

theorem own : ownKnob Try.prog.godebug = none := by kernel_rfl
theorem laidOut : laidOutB Try.prog = true := by kernel_rfl

set_option maxRecDepth 100000 in
theorem lifted (os : Os) (started : os.Started) (H : Type) (enc : TypeId × Value → H) :
    ReturnsInHanded {} Try.checked os 4 .any (Rows.supplyHoldsSpec.pre6 enc Try.prog Try.f4 Rows.supplyHoldsRow.domain false) (Rows.supplyHoldsSpec.post enc Try.prog Try.f4 false true false false) := by
  refine returnsInHanded_of_change_sized (C := Try.checked) own started (by kernel_rfl) Try.func4
    (ChangeSpec.witness6 (enc := enc) (C := Try.checked) false ⟨#[], #[.agg #[.int .u64 0, .int .u64 0, .int .u64 0, .int .u64 0, .int .u64 0, .int .u64 0, .int .u64 0, .int .u64 0, .int .u64 0, .int .u64 0, .int .u64 0, .int .u64 0, .int .u64 0, .int .u64 0, .int .i64 0, .int .i64 0, .int .i64 0, .int .i64 0, .int .i64 0, .int .i64 0, .int .i64 0, .int .i64 0, .int .i64 0, .int .i64 0, .int .u64 0, .int .u64 0, .int .u64 0, .int .u64 0, .int .u64 0, .int .i64 0, .int .i64 0, .bool false, .slice none 0 0, .slice none 0 0, .slice none 0 0, .slice none 0 0, .slice none 0 0, .slice none 0 0, .slice none 0 0, .slice none 0 0, .slice none 0 0], .int .u64 0], []⟩ 8 (by kernel_rfl) (by kernel_rfl) (by kernel_rfl) (by kernel_rfl)) ?_
  intro W base args ds gs before hval0 hW hcnd hsz0 _
  have hval : ∀ (j : Nat) t v, Try.f4.params[j]? = some t → args[j]? = some v → Value.okWide Try.prog W .any base t v := hval0
  have hW' := hW
  obtain ⟨p, q, hA0, hV, rfl, hfz, hnd⟩ := hW
  have hlt : ∀ x ∈ p ++ q, x.block < W.heap.size := fun x hx => hW'.lt x hx
  have hA : DataW.TrodAll enc Try.prog W 0 (fun _ => true) true Try.f4.params.toList args.toList ds p := hA0
  rw [Try.params4] at hA hval
  have hlight : ∀ (j : Nat) t (d : DataW H), (Try.f4.params.toList ++ Rows.supplyHoldsSpec.plain.varTypes Try.prog)[j]? = some t → (ds ++ gs)[j]? = some d → ∀ k ∈ d.weights Try.prog t, k ≤ reachBytes := fun j t d ht hd k hk => by simpa using List.all_eq_true.1 hsz0 _ (DataW.weights_mem_each ht hd k hk)
  rw [Try.params4] at hlight
  obtain ⟨v0, vs0, d0, ds0, p0, q0, hargs, rfl, rfl, h0, r0⟩ := trodAll_cons hA
  obtain ⟨v1, vs1, d1, ds1, p1, q1, rfl, rfl, rfl, h1, r1⟩ := trodAll_cons r0
  obtain ⟨rfl, rfl, rfl⟩ := trodAll_nil r1
  obtain rfl : args = #[v0, v1] := by cases args; simp_all
  obtain ⟨rfl, rfl⟩ := trodVars_none hV
  obtain ⟨s0, rfl, f0⟩ := open_sta (hval 0 34 v0 rfl rfl) h0 (hlight 0 _ _ rfl rfl)
  obtain ⟨a1, rfl, rfl, rfl, w1⟩ := open_int Try.underlying22 (hval 1 22 v1 rfl rfl) h1
  have b1 := u64_fits w1
  obtain ⟨n1, rfl⟩ := Int.eq_ofNat_of_zero_le b1.1
  clear hA0 hval0
  refine (walk s0 n1 W f0 (by have := b1.2; omega)).mono fun e W' ⟨he, hg⟩ => ?_
  subst he
  exact ⟨_, rfl, law_post laidOut (by kernel_rfl) rfl rfl Try.underlying4 rfl hW' hg⟩

theorem over : Rows.supplyHoldsRow.holds Try.pinned (OpenSpec.ofChange Rows.supplyHoldsSpec) :=
  OpenClaim.holds_of_wide 4 Try.f4 rfl rfl rfl rfl rfl rfl rfl ⟨rfl, rfl, rfl, rfl, rfl⟩ rfl rfl rfl rfl rfl (by kernel_rfl) Try.func4 (by kernel_rfl)
    (of_decide_eq_true (by kernel_rfl)) (by unfold Func.isWrapper; first | (rw [if_pos (by decide +kernel)]; kernel_rfl) | (rw [if_neg (by decide +kernel)]; exact ⟨rfl, rfl⟩))
    (fun os started H enc _ => lifted os started H enc)

/-- The statement. -/
theorem proved : Rows.SupplyHoldsSaid := over
#print axioms proved

end Go.Proofs.Ytoaeckfppoaljaa.SupplyHolds
