/- Law PoolAdds (P18.1, P18.4): any deposit waits behind any others as the document says, or is refused; what was handed in stays. No condition. -/
import Derived.Test.YtaaildlopknbjaaRows
import Derived.Test.YtaaildlopknbjaaPoolC
import Derived.Test.YtaaildlopknbjaaPoolS
import Derived.Test.YtaaildlopknbjaaSeqR
namespace Go.Proofs.Ytaaildlopknbjaa.PoolAdds
open Go.ChangeShapes Go.WideShapes Go.ChangeAt Go.RowKit
set_option linter.unusedVariables false
set_option linter.unusedSimpArgs false

theorem padded_len (l : List Dep) (d : Dep) (h : l.length ≤ 400) : (padded l d).1.length ≤ 1000000 := by
  unfold padded
  split
  · simp
  · split
    · simp
    · simp; omega

set_option maxRecDepth 100000 in
theorem walk_many (l : List Dep) (d : Dep) (A : Option Addr) (c : Nat) (w : World) (hl : l.length ≤ maxLen) (h : 400 < l.length) :
    Calls Try.prog 3 #[.slice A l.length c, .agg (Rec.vals d)] w fun e w' => e = .returned (.bool true) ∧ Below w.heap.size w w' := by
  have hB : Below w.heap.size w (w.alloc (.cells (Rec.vals d) 25)) := (Below.refl _ _).alloc (Nat.le_refl _) _
  unfold maxLen at hl
  go_enter Try.func3, Try.ntmps3
  go_wp2_with (go_at_call 6; refine (pool_awake _).mono ?_; rintro e w1 ⟨rfl, hb1⟩)
  go_ret
  exact ⟨rfl, Below.then hB hb1⟩

set_option maxRecDepth 100000 in
set_option maxHeartbeats 4000000 in
theorem walk_few (l : List Dep) (d : Dep) (A : Option Addr) (c : Nat) (w : World) (hr : Row w w.heap.size A (rows l)) (hz : A = none → c = 0) (h : l.length ≤ 400) :
    Calls Try.prog 3 #[.slice A l.length c, .agg (Rec.vals d)] w fun e w' => e = .returned (.bool true) ∧ Below w.heap.size w w' := by
  obtain ⟨i0, hi0, hz0, hz1, hz2⟩ := info_parts info_dep
  have hB0 : Below w.heap.size w (w.alloc (.cells (Rec.vals d) 25)) := (Below.refl _ _).alloc (Nat.le_refl _) _
  have hS0 := RecAt.new w (Rec.vals d) 25
  have hm := padded_len l d h
  have ka := fun (A : Option Addr) (c : Nat) (w : World) h1 h2 => padd_is l d A c w h1 h2 (by omega)
  have kr := fun (A : Option Addr) (c : Nat) (w : World) h1 h2 => radd_is l d A c w h1 (by omega) h2
  have kd := fun (l : List Dep) (A : Option Addr) (c : Nat) (w : World) (h1 : Row w w.heap.size A (rows l)) h2 => deposits_is l _ A c w h1 (Nat.le_refl _) h2
  obtain ⟨⟨m, y⟩, e0⟩ : ∃ r, padded l d = r := ⟨_, rfl⟩
  rw [e0] at ka kr hm
  have KA := Lib.hid ka
  have KR := Lib.hid kr
  have KD := Lib.hid kd
  have HM : Hid (m.length ≤ 1000000) := hm
  have HRL := Lib.hid (rows_len l)
  clear ka kr kd hm e0
  rcases A with _ | a
  · obtain rfl := rows_none hr
    obtain rfl := hz rfl
    clear hr hz
    go_enter Try.func3, Try.ntmps3
    go_upto_region 6 with (first
      | (go_at_call 6; refine (pool_awake _).mono ?_; rintro e w1 ⟨rfl, hb1⟩)
      | (at_builtin; refine wpList_append_own_none rfl _ _ 22 rfl w1.heap.size 25 i0 (Rec.z Dep) Try.underlying22 hi0 (.slice (some ⟨w1.heap.size, 0, none⟩) 0 0) 0 [] rfl (World.ownsRow_made w1 #[] 0 (Nat.le_refl _) (Nat.zero_le _) rfl) rfl ?_))
    obtain ⟨w5, hw5⟩ : ∃ w5, w1.alloc (.cells #[] 25) = w5 := ⟨_, rfl⟩
    have hb5 : Below w1.heap.size w1 w5 := by subst hw5; exact (Below.refl _ _).alloc (Nat.le_refl _) _
    have hS5 := (hS0.up hb1).up hb5
    have hB5 := Below.then (Below.then hB0 hb1) hb5
    have HG : Hid (Row w5 w5.heap.size (some ⟨w1.heap.size, 0, none⟩) (rows ([] : List Dep))) := Lib.hid (Row.nil _ _ _)
    have HZ5 : Hid ((some (⟨w1.heap.size, 0, none⟩ : Addr)) = none → 0 = 0) := Lib.hid (fun _ => rfl)
    have HL5 : Hid (Row w5 w5.heap.size none (rows ([] : List Dep))) := Lib.hid (Row.nil _ _ _)
    rw [hw5]
    clear hw5 hb5 hb1 hS0 hB0 HRL
    go_wp2_with (first
      | (refine load_rec 25 _ rfl rfl _ (Rec.vals d) rfl hS5.lies Try.underlying25 size_dep ?_)
      | (go_at_call 7; refine (KA.out _ _ w5 HG.out HZ5.out).mono ?_; clear KA; rintro e w6 ⟨A6, c6, rfl, hc6, hm6, hz6, hr6, hb6⟩; have hS6 := hS5.up hb6; have HR6 := Lib.hid hr6; have HG6 := Lib.hid (HG.out.kept hb6); have HL6 := Lib.hid (HL5.out.kept hb6); have hB6 := Below.then hB5 hb6; clear hc6 hm6 hz6 hr6 hb6 hS5))
    clear HG HL5 HZ5 hB5
    have cells : ∀ w', Below w6.heap.size w6 w' → LiesAt w' ⟨w.heap.size, 0, none⟩ (Rec.vals d) := fun w' h => (hS6.up h).lies
    clear hS6
    refine region_vary [] 9 (fun w' => Below w6.heap.size w6 w') (by kernel_rfl) (by kernel_rfl) (Below.refl _ _).drew ?_
    simp only [List.take_succ_cons, List.take_zero, List.drop_succ_cons, List.drop_zero]
    (refine' SeqV.calm0 _ (by rfl) (by rfl) (fun w => ?_) ?_; rotate_left; · (go_simp <;> with_reducible rfl))
    simp only [Act.put, List.setIfInBounds_toArray, List.set_cons_zero, List.set_cons_succ]
    refine SeqV.make (f := 9) (args := fun _ => #[.slice none ([] : List Dep).length 0]) (fun _ v w' => ∃ A' c', v = .slice A' ([] : List Dep).length c' ∧ (A' = none → c' = 0) ∧ Row w' w'.heap.size A' (rows ([] : List Dep))) (fun val w' hS hR => ?_) (fun _ => by rfl) (by rfl) (fun _ _ _ v w h => h) (fun _ v w w' ⟨A', c', h1, h2, h3⟩ hb => ⟨A', c', h1, h2, h3.kept hb⟩) (fun val w => ?_) ?_
    · refine (KD.out [] none 0 w' (HL6.out.kept hS) (by omega)).mono ?_
      rintro e w2 ⟨A', c', rfl, -, -, hz, hr, hb⟩
      exact ⟨_, rfl, ⟨A', c', rfl, hz, hr⟩, hS.trans (hb.mono hS.size), hb⟩
    · go_simp
    simp only [Act.put, List.setIfInBounds_toArray, List.set_cons_zero, List.set_cons_succ]
    refine SeqV.take (fun _ => .agg (Rec.vals d)) (fun _ => by rfl) (by rfl) (fun _ _ _ => rfl) (fun val w' hS hR => exec_load_rec 25 _ rfl _ (Rec.vals d) rfl (cells w' hS) Try.underlying25 size_dep) ?_
    simp only [Act.put, List.setIfInBounds_toArray, List.set_cons_zero, List.set_cons_succ]
    refine SeqV.make (f := 8) (args := fun val => #[val 1, .agg (Rec.vals d)]) (fun _ v w' => ∃ A' c', v = .tuple #[.slice A' m.length c', .int .i64 (y : Int)] ∧ Row w' w'.heap.size A' (rows m)) (fun val w' hS hR => ?_) (fun _ => by rfl) (by rfl) (fun _ _ _ v w h => h) (fun _ v w w' ⟨A', c', h1, h3⟩ hb => ⟨A', c', h1, h3.kept hb⟩) (fun val w => ?_) ?_
    · obtain ⟨A', c', e1, hz', hr'⟩ := hR 1 (by kernel_rfl)
      rw [e1]
      refine (KR.out A' c' w' hr' hz').mono ?_
      rintro e w2 ⟨A2, c2, rfl, -, -, -, h, hb⟩
      exact ⟨_, rfl, ⟨A2, c2, rfl, h⟩, hS.trans (hb.mono hS.size), hb⟩
    · go_simp
    simp only [Act.put, List.setIfInBounds_toArray, List.set_cons_zero, List.set_cons_succ]
    refine SeqV.some (fun _ v w' => ∃ A' c', v = .tuple #[.slice A' m.length c', .int .i64 (y : Int)] ∧ Row w' w'.heap.size A' (rows m)) (fun _ => by rfl) (by rfl) (fun _ _ _ v w h => h) (fun _ v w w' ⟨A', c', h1, h3⟩ hb => ⟨A', c', h1, h3.kept hb⟩) (fun val w' hS hR => ?_) ?_
    · obtain ⟨A', c', e1, hr'⟩ := hR 3 (by kernel_rfl)
      refine ⟨val 3, ?_, A', c', e1, hr'⟩
      go_simp
    simp only [Act.put, List.setIfInBounds_toArray, List.set_cons_zero, List.set_cons_succ]
    refine SeqV.some (fun _ v w' => ∃ A' c', v = .slice A' m.length c' ∧ Row w' w'.heap.size A' (rows m)) (fun _ => by rfl) (by rfl) (fun _ _ _ v w h => h) (fun _ v w w' ⟨A', c', h1, h3⟩ hb => ⟨A', c', h1, h3.kept hb⟩) (fun val w' hS hR => ?_) ?_
    · obtain ⟨A', c', e1, hr'⟩ := hR 4 (by kernel_rfl)
      refine ⟨.slice A' m.length c', ?_, A', c', rfl, hr'⟩
      simp only [e1]
      go_simp
    simp only [Act.put, List.setIfInBounds_toArray, List.set_cons_zero, List.set_cons_succ]
    refine SeqV.some (fun _ v w' => v = .int .i64 (y : Int)) (fun _ => by rfl) (by rfl) (fun _ _ _ v w h => h) (fun _ v w w' h hb => h) (fun val w' hS hR => ?_) ?_
    · obtain ⟨A', c', e1, hr'⟩ := hR 4 (by kernel_rfl)
      refine ⟨.int .i64 (y : Int), ?_, rfl⟩
      simp only [e1]
      go_simp
    simp only [Act.put, List.setIfInBounds_toArray, List.set_cons_zero, List.set_cons_succ]
    refine SeqV.some (fun _ v w' => ∃ A' c', v = .slice A' m.length c' ∧ Row w' w'.heap.size A' (rows m)) (fun _ => by rfl) (by rfl) (fun _ _ _ v w h => h) (fun _ v w w' ⟨A', c', h1, h3⟩ hb => ⟨A', c', h1, h3.kept hb⟩) (fun val w' hS hR => ?_) ?_
    · obtain ⟨A', c', e1, hr'⟩ := hR 5 (by kernel_rfl)
      refine ⟨.slice A' m.length c', ?_, A', c', rfl, hr'⟩
      simp only [e1]
      go_simp
    simp only [Act.put, List.setIfInBounds_toArray, List.set_cons_zero, List.set_cons_succ]
    refine SeqV.some (fun _ v w' => v = .int .i64 (y : Int)) (fun _ => by rfl) (by rfl) (fun _ _ _ v w h => h) (fun _ v w w' h hb => h) (fun val w' hS hR => ?_) ?_
    · have e1 : val 6 = .int .i64 (y : Int) := hR 6 (by kernel_rfl)
      refine ⟨.int .i64 (y : Int), ?_, rfl⟩
      simp only [e1]
      go_simp
    simp only [Act.put, List.setIfInBounds_toArray, List.set_cons_zero, List.set_cons_succ]
    intro val w7 hS7 hR7 hD7
    obtain ⟨A7, c7, e7, hr7⟩ : ∃ A' c', val 7 = .slice A' m.length c' ∧ Row w7 w7.heap.size A' (rows m) := hR7 7 (by decide)
    have e8 : val 8 = .int .i64 (y : Int) := hR7 8 (by decide)
    simp only [e7, e8]
    have HR7 := Lib.hid hr7
    have HR67 := Lib.hid (HR6.out.kept hS7)
    have HG7 := Lib.hid (HG6.out.kept hS7)
    have HL7 := Lib.hid (HL6.out.kept hS7)
    have hB7 := Below.then hB6 hS7
    clear hR7 hD7 cells hr7 HR6 HG6 HL6 hB6 hS7 e7 e8 KR
    refine wpList_nil ?_
    have KD1 := KD
    have KD2 := KD
    have ks := same_deps
    have KS1 := Lib.hid ks
    have KS2 := KS1
    clear ks
    go_wp2_with (first
      | (go_at_call 9; refine (KD1.out m A6 c6 w7 HR67.out HM.out).mono ?_; clear KD1; rintro e w8 ⟨A8, c8, rfl, -, -, -, hr8, hb8⟩; have HR8 := Lib.hid hr8; have HR78 := Lib.hid (HR7.out.kept hb8); have HG8 := Lib.hid (HG7.out.kept hb8); have HL8 := Lib.hid (HL7.out.kept hb8); have hB8 := Below.then hB7 hb8; clear hb8 hr8)
      | (go_at_call 10; refine (KS1.out m A8 A7 c8 c7 w8 HR8.out HR78.out HM.out).mono ?_; clear KS1; rintro e w9 ⟨rfl, hb9⟩; have HG9 := Lib.hid (HG8.out.kept hb9); have HL9 := Lib.hid (HL8.out.kept hb9); have hB9 := Below.then hB8 hb9; clear hb9)
      | (go_at_call 9; refine (KD2.out [] _ _ w9 HG9.out (by omega)).mono ?_; clear KD2; rintro e w10 ⟨A10, c10, rfl, -, -, -, hr10, hb10⟩; have HR10 := Lib.hid hr10; have HL10 := Lib.hid (HL9.out.kept hb10); have hB10 := Below.then hB9 hb10; clear hb10 hr10)
      | (go_at_call 9; refine (KD.out [] _ _ w10 HL10.out (by omega)).mono ?_; clear KD; rintro e w11 ⟨A11, c11, rfl, -, -, -, hr11, hb11⟩; have HR11 := Lib.hid hr11; have HR1011 := Lib.hid (HR10.out.kept hb11); have hB11 := Below.then hB10 hb11; clear hb11 hr11)
      | (go_at_call 10; refine (KS2.out [] A10 A11 c10 c11 w11 HR1011.out HR11.out (by omega)).mono ?_; rintro e w12 ⟨rfl, hb12⟩; have hB12 := Below.then hB11 hb12; clear hb12))
    go_ret
    exact ⟨by first | rfl | simp, hB12⟩
  · have hsrc : ∀ w', Below w.heap.size w w' → ∀ q v, (rows l)[q]? = some v → w'.cell? (a.add q) = some v := fun w' hb q v hq => by
      obtain ⟨a', ha', _, hc'⟩ := hr.kept hb q v hq
      cases ha'
      exact hc'
    have HSRC := Lib.hid hsrc
    have HR := Lib.hid hr
    clear hsrc hr hz
    go_enter Try.func3, Try.ntmps3
    go_upto_region 6 with (first
      | (go_at_call 6; refine (pool_awake _).mono ?_; rintro e w1 ⟨rfl, hb1⟩; have hB1 := Below.then hB0 hb1; have hb5 : Below w1.heap.size w1 (w1.alloc (.cells #[] 25)) := (Below.refl _ _).alloc (Nat.le_refl _) _)
      | (at_builtin; refine wpList_append_own _ rfl _ _ 22 rfl w1.heap.size 25 i0 _ (Rec.z Dep) 32 Try.underlying22 hi0 hz0 hz1 hz2 rfl (by decide) _ _ _ rfl (World.ownsRow_made w1 #[] 0 (Nat.le_refl _) (Nat.zero_le _) rfl) a l.length c (rows l) rfl HRL.out (HSRC.out _ (Below.then hB1 hb5)) (rows_onecell l) (by simp only [maxLen]; omega) (by omega) hb5.size ?_))
    intro v5 w5 hown5 hg5 _
    have hb15 : Below w1.heap.size w1 w5 := hb5.grown hg5 hb5.size (by intro k hk; simp [Value.ownBlock] at hk; omega)
    obtain ⟨A5, c5, e5, -, -, hz5, hr5⟩ := rows_of_own (l := l) (n := 0 + l.length) (by omega) (by simpa using hown5)
    simp only [e5]
    have hS5 := (hS0.up hb1).up hb15
    have hB5 := Below.then hB1 hb15
    have HG := Lib.hid hr5
    have HZ5 := Lib.hid hz5
    have HL5 := Lib.hid (HR.out.kept hB5)
    clear hown5 hg5 hb5 hb15 e5 hr5 hz5 hb1 hB1 hB0 hS0 HRL HSRC HR
    go_wp2_with (first
      | (refine load_rec 25 _ rfl rfl _ (Rec.vals d) rfl hS5.lies Try.underlying25 size_dep ?_)
      | (go_at_call 7; refine (KA.out _ _ w5 HG.out HZ5.out).mono ?_; clear KA; rintro e w6 ⟨A6, c6, rfl, hc6, hm6, hz6, hr6, hb6⟩; have hS6 := hS5.up hb6; have HR6 := Lib.hid hr6; have HG6 := Lib.hid (HG.out.kept hb6); have HL6 := Lib.hid (HL5.out.kept hb6); have hB6 := Below.then hB5 hb6; clear hc6 hm6 hz6 hr6 hb6 hS5))
    clear HG HL5 HZ5 hB5
    have cells : ∀ w', Below w6.heap.size w6 w' → LiesAt w' ⟨w.heap.size, 0, none⟩ (Rec.vals d) := fun w' h => (hS6.up h).lies
    clear hS6
    refine region_vary [] 9 (fun w' => Below w6.heap.size w6 w') (by kernel_rfl) (by kernel_rfl) (Below.refl _ _).drew ?_
    simp only [List.take_succ_cons, List.take_zero, List.drop_succ_cons, List.drop_zero]
    (refine' SeqV.calm0 _ (by rfl) (by rfl) (fun w => ?_) ?_; rotate_left; · (go_simp <;> with_reducible rfl))
    simp only [Act.put, List.setIfInBounds_toArray, List.set_cons_zero, List.set_cons_succ]
    refine SeqV.make (f := 9) (args := fun _ => #[.slice (some a) l.length c]) (fun _ v w' => ∃ A' c', v = .slice A' l.length c' ∧ (A' = none → c' = 0) ∧ Row w' w'.heap.size A' (rows l)) (fun val w' hS hR => ?_) (fun _ => by rfl) (by rfl) (fun _ _ _ v w h => h) (fun _ v w w' ⟨A', c', h1, h2, h3⟩ hb => ⟨A', c', h1, h2, h3.kept hb⟩) (fun val w => ?_) ?_
    · refine (KD.out l (some a) c w' (HL6.out.kept hS) (by omega)).mono ?_
      rintro e w2 ⟨A', c', rfl, -, -, hz, hr, hb⟩
      exact ⟨_, rfl, ⟨A', c', rfl, hz, hr⟩, hS.trans (hb.mono hS.size), hb⟩
    · go_simp
    simp only [Act.put, List.setIfInBounds_toArray, List.set_cons_zero, List.set_cons_succ]
    refine SeqV.take (fun _ => .agg (Rec.vals d)) (fun _ => by rfl) (by rfl) (fun _ _ _ => rfl) (fun val w' hS hR => exec_load_rec 25 _ rfl _ (Rec.vals d) rfl (cells w' hS) Try.underlying25 size_dep) ?_
    simp only [Act.put, List.setIfInBounds_toArray, List.set_cons_zero, List.set_cons_succ]
    refine SeqV.make (f := 8) (args := fun val => #[val 1, .agg (Rec.vals d)]) (fun _ v w' => ∃ A' c', v = .tuple #[.slice A' m.length c', .int .i64 (y : Int)] ∧ Row w' w'.heap.size A' (rows m)) (fun val w' hS hR => ?_) (fun _ => by rfl) (by rfl) (fun _ _ _ v w h => h) (fun _ v w w' ⟨A', c', h1, h3⟩ hb => ⟨A', c', h1, h3.kept hb⟩) (fun val w => ?_) ?_
    · obtain ⟨A', c', e1, hz', hr'⟩ := hR 1 (by kernel_rfl)
      rw [e1]
      refine (KR.out A' c' w' hr' hz').mono ?_
      rintro e w2 ⟨A2, c2, rfl, -, -, -, h, hb⟩
      exact ⟨_, rfl, ⟨A2, c2, rfl, h⟩, hS.trans (hb.mono hS.size), hb⟩
    · go_simp
    simp only [Act.put, List.setIfInBounds_toArray, List.set_cons_zero, List.set_cons_succ]
    refine SeqV.some (fun _ v w' => ∃ A' c', v = .tuple #[.slice A' m.length c', .int .i64 (y : Int)] ∧ Row w' w'.heap.size A' (rows m)) (fun _ => by rfl) (by rfl) (fun _ _ _ v w h => h) (fun _ v w w' ⟨A', c', h1, h3⟩ hb => ⟨A', c', h1, h3.kept hb⟩) (fun val w' hS hR => ?_) ?_
    · obtain ⟨A', c', e1, hr'⟩ := hR 3 (by kernel_rfl)
      refine ⟨val 3, ?_, A', c', e1, hr'⟩
      go_simp
    simp only [Act.put, List.setIfInBounds_toArray, List.set_cons_zero, List.set_cons_succ]
    refine SeqV.some (fun _ v w' => ∃ A' c', v = .slice A' m.length c' ∧ Row w' w'.heap.size A' (rows m)) (fun _ => by rfl) (by rfl) (fun _ _ _ v w h => h) (fun _ v w w' ⟨A', c', h1, h3⟩ hb => ⟨A', c', h1, h3.kept hb⟩) (fun val w' hS hR => ?_) ?_
    · obtain ⟨A', c', e1, hr'⟩ := hR 4 (by kernel_rfl)
      refine ⟨.slice A' m.length c', ?_, A', c', rfl, hr'⟩
      simp only [e1]
      go_simp
    simp only [Act.put, List.setIfInBounds_toArray, List.set_cons_zero, List.set_cons_succ]
    refine SeqV.some (fun _ v w' => v = .int .i64 (y : Int)) (fun _ => by rfl) (by rfl) (fun _ _ _ v w h => h) (fun _ v w w' h hb => h) (fun val w' hS hR => ?_) ?_
    · obtain ⟨A', c', e1, hr'⟩ := hR 4 (by kernel_rfl)
      refine ⟨.int .i64 (y : Int), ?_, rfl⟩
      simp only [e1]
      go_simp
    simp only [Act.put, List.setIfInBounds_toArray, List.set_cons_zero, List.set_cons_succ]
    refine SeqV.some (fun _ v w' => ∃ A' c', v = .slice A' m.length c' ∧ Row w' w'.heap.size A' (rows m)) (fun _ => by rfl) (by rfl) (fun _ _ _ v w h => h) (fun _ v w w' ⟨A', c', h1, h3⟩ hb => ⟨A', c', h1, h3.kept hb⟩) (fun val w' hS hR => ?_) ?_
    · obtain ⟨A', c', e1, hr'⟩ := hR 5 (by kernel_rfl)
      refine ⟨.slice A' m.length c', ?_, A', c', rfl, hr'⟩
      simp only [e1]
      go_simp
    simp only [Act.put, List.setIfInBounds_toArray, List.set_cons_zero, List.set_cons_succ]
    refine SeqV.some (fun _ v w' => v = .int .i64 (y : Int)) (fun _ => by rfl) (by rfl) (fun _ _ _ v w h => h) (fun _ v w w' h hb => h) (fun val w' hS hR => ?_) ?_
    · have e1 : val 6 = .int .i64 (y : Int) := hR 6 (by kernel_rfl)
      refine ⟨.int .i64 (y : Int), ?_, rfl⟩
      simp only [e1]
      go_simp
    simp only [Act.put, List.setIfInBounds_toArray, List.set_cons_zero, List.set_cons_succ]
    intro val w7 hS7 hR7 hD7
    obtain ⟨A7, c7, e7, hr7⟩ : ∃ A' c', val 7 = .slice A' m.length c' ∧ Row w7 w7.heap.size A' (rows m) := hR7 7 (by decide)
    have e8 : val 8 = .int .i64 (y : Int) := hR7 8 (by decide)
    simp only [e7, e8]
    have HR7 := Lib.hid hr7
    have HR67 := Lib.hid (HR6.out.kept hS7)
    have HG7 := Lib.hid (HG6.out.kept hS7)
    have HL7 := Lib.hid (HL6.out.kept hS7)
    have hB7 := Below.then hB6 hS7
    clear hR7 hD7 cells hr7 HR6 HG6 HL6 hB6 hS7 e7 e8 KR
    refine wpList_nil ?_
    have KD1 := KD
    have KD2 := KD
    have ks := same_deps
    have KS1 := Lib.hid ks
    have KS2 := KS1
    clear ks
    go_wp2_with (first
      | (go_at_call 9; refine (KD1.out m A6 c6 w7 HR67.out HM.out).mono ?_; clear KD1; rintro e w8 ⟨A8, c8, rfl, -, -, -, hr8, hb8⟩; have HR8 := Lib.hid hr8; have HR78 := Lib.hid (HR7.out.kept hb8); have HG8 := Lib.hid (HG7.out.kept hb8); have HL8 := Lib.hid (HL7.out.kept hb8); have hB8 := Below.then hB7 hb8; clear hb8 hr8)
      | (go_at_call 10; refine (KS1.out m A8 A7 c8 c7 w8 HR8.out HR78.out HM.out).mono ?_; clear KS1; rintro e w9 ⟨rfl, hb9⟩; have HG9 := Lib.hid (HG8.out.kept hb9); have HL9 := Lib.hid (HL8.out.kept hb9); have hB9 := Below.then hB8 hb9; clear hb9)
      | (go_at_call 9; refine (KD2.out l _ _ w9 HG9.out (by omega)).mono ?_; clear KD2; rintro e w10 ⟨A10, c10, rfl, -, -, -, hr10, hb10⟩; have HR10 := Lib.hid hr10; have HL10 := Lib.hid (HL9.out.kept hb10); have hB10 := Below.then hB9 hb10; clear hb10 hr10)
      | (go_at_call 9; refine (KD.out l _ _ w10 HL10.out (by omega)).mono ?_; clear KD; rintro e w11 ⟨A11, c11, rfl, -, -, -, hr11, hb11⟩; have HR11 := Lib.hid hr11; have HR1011 := Lib.hid (HR10.out.kept hb11); have hB11 := Below.then hB10 hb11; clear hb11 hr11)
      | (go_at_call 10; refine (KS2.out l A10 A11 c10 c11 w11 HR1011.out HR11.out (by omega)).mono ?_; rintro e w12 ⟨rfl, hb12⟩; have hB12 := Below.then hB11 hb12; clear hb12))
    go_ret
    exact ⟨by first | rfl | simp, hB12⟩

theorem walk (l : List Dep) (A : Option Addr) (c : Nat) (d : Dep) (w : World) (hr : Row w w.heap.size A (rows l)) (hx : ∀ s ∈ l, s.amt ≤ 18446744073709551615) (hc : l.length ≤ c) (hm : c ≤ maxLen) (hz : A = none → c = 0) (hd : d.amt ≤ 18446744073709551615) :
    Calls Try.prog 3 #[.slice A l.length c, .agg (Rec.vals d)] w fun e w' => e = .returned (.bool true) ∧ Below w.heap.size w w' := by
  by_cases h : 400 < l.length
  · exact walk_many l d A c w (Nat.le_trans hc hm) h
  · exact walk_few l d A c w hr hz (by omega)

theorem own : ownKnob Try.prog.godebug = none := by kernel_rfl
theorem laidOut : laidOutB Try.prog = true := by kernel_rfl

set_option maxRecDepth 100000 in
theorem lifted (os : Os) (started : os.Started) (H : Type) (enc : TypeId × Value → H) :
    ReturnsInHanded {} Try.checked os 3 .any (Rows.poolAddsSpec.pre6 enc Try.prog Try.f3 Rows.poolAddsRow.domain false) (Rows.poolAddsSpec.post enc Try.prog Try.f3 false true false false) := by
  refine returnsInHanded_of_change (C := Try.checked) own started (by kernel_rfl) Try.func3
    (ChangeSpec.witness6 (enc := enc) (C := Try.checked) false ⟨#[], #[.slice none 0 0, .agg #[.int .i64 0, .int .i64 0, .int .u64 0, .bool false]], []⟩ 8 (by kernel_rfl) (by kernel_rfl) (by kernel_rfl) (by kernel_rfl)) ?_
  intro W base args ds gs before hval0 hW hcnd _
  have hval : ∀ (j : Nat) t v, Try.f3.params[j]? = some t → args[j]? = some v → Value.okWide Try.prog W .any base t v := hval0
  have hW' := hW
  obtain ⟨p, q, hA0, hV, rfl, hfz, hnd⟩ := hW
  have hlt : ∀ x ∈ p ++ q, x.block < W.heap.size := fun x hx => hW'.lt x hx
  have hA : DataW.TrodAll enc Try.prog W 0 (fun _ => true) true Try.f3.params.toList args.toList ds p := hA0
  rw [Try.params3] at hA hval
  obtain ⟨v0, vs0, d0, ds0, p0, q0, hargs, rfl, rfl, h0, r0⟩ := trodAll_cons hA
  obtain ⟨v1, vs1, d1, ds1, p1, q1, rfl, rfl, rfl, h1, r1⟩ := trodAll_cons r0
  obtain ⟨rfl, rfl, rfl⟩ := trodAll_nil r1
  obtain rfl : args = #[v0, v1] := by cases args; simp_all
  obtain ⟨rfl, rfl⟩ := trodVars_none hV
  obtain ⟨A0, n0, c0, rfl⟩ := okWide_slice Try.underlying22 (hval 0 22 v0 rfl rfl)
  obtain ⟨l0, hl0, hf0, hc0, hm0, hz0, hr0⟩ := open_deps h0
  subst hl0
  obtain ⟨a1, rfl, f1⟩ := open_dep (hval 1 25 v1 rfl rfl) h1
  clear hA0 hval0
  refine (walk l0 A0 c0 a1 W hr0 hf0 hc0 hm0 hz0 f1).mono fun e W' ⟨he, hg⟩ => ?_
  subst he
  exact ⟨_, rfl, law_post laidOut (by kernel_rfl) rfl rfl Try.underlying4 rfl hW' hg⟩

theorem over : Rows.poolAddsRow.holds Try.pinned (OpenSpec.ofChange Rows.poolAddsSpec) :=
  OpenClaim.holds_of_wide 3 Try.f3 rfl rfl rfl rfl rfl rfl rfl ⟨rfl, rfl, rfl, rfl, rfl⟩ rfl rfl rfl rfl rfl (by kernel_rfl) Try.func3 (by kernel_rfl)
    (of_decide_eq_true (by kernel_rfl)) (by unfold Func.isWrapper; first | (rw [if_pos (by decide +kernel)]; kernel_rfl) | (rw [if_neg (by decide +kernel)]; exact ⟨rfl, rfl⟩))
    (fun os started H enc _ => lifted os started H enc)

/-- The statement. -/
theorem proved : Rows.PoolAddsSaid := over
#print axioms proved
end Go.Proofs.Ytaaildlopknbjaa.PoolAdds
