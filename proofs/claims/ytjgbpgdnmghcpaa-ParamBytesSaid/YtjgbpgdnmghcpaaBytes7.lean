/- Law ParamBytes (P7.3): any parameters have the document's bytes, or are refused; any bytes are the document's parameters, or refused. No condition. -/
import Derived.Test.YtjgbpgdnmghcpaaAwake7
import Derived.Test.YtjgbpgdnmghcpaaLawP
import Derived.Test.YtjgbpgdnmghcpaaParSt
import Derived.Test.YtjgbpgdnmghcpaaParK
import Derived.Test.YtjgbpgdnmghcpaaParG
import Derived.Test.YtjgbpgdnmghcpaaRows
namespace Go.Proofs.Ytjgbpgdnmghcpaa.ParamBytes
open Go.RowKit Go.ChangeShapes Go.WideShapes Go.ChangeAt
set_option linter.unusedVariables false
set_option linter.unusedSimpArgs false

set_option maxRecDepth 100000 in
theorem walk_long (p : Par) (bs : List Nat) (A : Option Addr) (c : Nat) (w : World) (h : 2000 < bs.length) :
    Calls Try.prog 5 #[.agg p.vals, .slice A bs.length c] w fun e w' => e = .returned (.bool true) ∧ Below w.heap.size w w' := by
  have hB : Below w.heap.size w (w.alloc (.cells p.vals 24)) := (Below.refl _ _).alloc (Nat.le_refl _) _
  have dl : decide ((2000 : Int) < (bs.length : Int)) = true := by simp; omega
  clear h
  go_enter Try.func5, Try.ntmps5
  go_wp2_with (go_at_call 8; refine (param_awake _).mono ?_; rintro e w1 ⟨rfl, hb1⟩; have hB1 := Below.then hB hb1)
  go_ret
  exact ⟨rfl, hB1⟩


set_option maxRecDepth 100000 in
set_option maxHeartbeats 4000000 in
theorem walk_nok (p : Par) (bs : List Nat) (A : Option Addr) (c : Nat) (q : Par) (st : Nat × Nat) (w : World) (hf : p.Fits) (hR : ¬ ∃ N, Par.Right p N) (hx : Lies w (· < w.heap.size) A bs) (hl : bs.length ≤ 2000) (hc : bs.length ≤ c) (hcm : c ≤ maxLen) (hb : ∀ x ∈ bs, x < 256) (hA : A = none → c = 0) (h : PRes bs (0, 0) q 0 st) :
    Calls Try.prog 5 #[.agg p.vals, .slice A bs.length c] w fun e w' => e = .returned (.bool true) ∧ Below w.heap.size w w' := by
  have hP := ParAt.new w p 24
  have hB : Below w.heap.size w (w.alloc (.cells p.vals 24)) := (Below.refl _ _).alloc (Nat.le_refl _) _
  have dl : decide ((2000 : Int) < (bs.length : Int)) = false := by simp; omega
  have ke := fun w => encode_no p w hf hR
  have kq := fun w => refright_no p w hR
  have kst : ∀ w', Lies w' (· < w'.heap.size) A bs → Calls Try.prog 24 #[.agg p.vals, .slice A bs.length c] w' fun e w'' => e = .returned (.bool true) ∧ Below w'.heap.size w' w'' := fun w' hx => streams_nok p bs A c st.1 q st w' hf hR hx hl hc hcm hb hA h rfl
  have kd := fun w hx => rpdec_is bs A c q 0 st.1 st w hx (by omega) hc hcm hb h rfl
  have kD := fun w (hx : Lies w (· < w.heap.size) A bs) => decode_ok bs _ A c q st w hx (by omega) hb (Lib.hid h)
  have HX := Lib.hid hx
  clear hx hl hc hcm hb hA h hR hf
  go_enter Try.func5, Try.ntmps5
  go_upto_region 8 with (first
    | (refine load_par _ rfl rfl w.heap.size p _ rfl (by assumption) ?_)
    | (go_at_call 8; refine (param_awake _).mono ?_; rintro e w1 ⟨rfl, hb1⟩; have hP1 := hP.up hb1; have hB1 := Below.then hB hb1; clear hP)
    | (go_at_call 19; refine (ke _).mono ?_; clear ke; rintro e w2 ⟨rfl, hb2⟩; have hP2 := hP1.up hb2; have hB2 := Below.then hB1 hb2; clear hP1)
    | (go_at_call 10; refine (kq _).mono ?_; clear kq; rintro e w7 ⟨rfl, hb7⟩; have hP7 := hP3.up hb7; have hB7 := Below.then hB3 hb7; clear hP3)
    | (go_at_call 11; refine (plain_is p _).mono ?_; rintro e w3 ⟨rfl, hb3⟩; have hP3 := hP2.up hb3; have hB3 := Below.then hB2 hb3; clear hP2))
  have x7 := (HX.out.hold fun a ha => hB7.cell ha).imp (S' := (· < w7.heap.size)) (fun k h _ => h)
  go_upto_region 9 with (first
    | (go_at_call 22; refine (kD _ x7).mono ?_; clear kD; rintro e w8 ⟨rfl, hb8⟩)
    | (refine store_par _ _ rfl rfl w8.heap.size q Par.none 24 rfl rfl (ParAt.new w8 Par.none 24) ?_))
  generalize hW9 : World.setRow _ _ _ = w9
  have hQ9 : ParAt w9 w8.heap.size q 24 := by rw [← hW9]; exact (ParAt.new w8 Par.none 24).set
  have hb9 : Below w7.heap.size w7 w9 := by rw [← hW9]; exact below_setRow (hb8.alloc hb8.size _) hb8.size _
  have hP9 := hP7.up hb9
  have hB9 := Below.then hB7 hb9
  have x9 := (HX.out.hold fun a ha => hB9.cell ha).imp (S' := (· < w9.heap.size)) (fun k h _ => h)
  clear hW9 hb8 hb9 hP7 x7
  go_upto_region 10 with (first
    | (go_at_call 23; refine (kd _ x9).mono ?_; clear kd; rintro e w10 ⟨rfl, hb10⟩)
    | (refine store_rpar2 _ _ rfl rfl w10.heap.size q Par.none 30 rfl rfl (ParAt.new w10 Par.none 30) ?_))
  generalize hW11 : World.setRow _ _ _ = w11
  have hS11 : ParAt w11 w10.heap.size q 30 := by rw [← hW11]; exact (ParAt.new w10 Par.none 30).set
  have hb11 : Below w9.heap.size w9 w11 := by rw [← hW11]; exact below_setRow (hb10.alloc hb10.size _) hb10.size _
  have hP11 := hP9.up hb11
  have hQ11 := hQ9.up hb11
  have hB11 := Below.then hB9 hb11
  clear hW11 hb10 hb11 hP9 hQ9 x9
  have KST : ∀ (ph : Nat) w', Below w11.heap.size w11 w' → Calls Try.prog 24 #[.agg p.vals, .slice A bs.length c] w' fun e w'' => e = .returned (.bool true) ∧ Below w11.heap.size w11 w'' := fun _ w' h => by
    have hB' := Below.then hB11 h
    exact (kst w' ((HX.out.hold fun a ha => hB'.cell ha).imp (fun k h _ => h))).mono (by rintro e w'' ⟨rfl, hb⟩; exact ⟨rfl, Below.then h hb⟩)
  clear kst
  refine region_list [] (fun _ w' => Below w11.heap.size w11 w') (by kernel_rfl) (by kernel_rfl) (Below.refl _ _).drew ?_
  refine SeqS.take _ (by rfl) (by rfl) (fun ph w' hS => exec_load_par _ rfl _ _ _ rfl (hQ11.up hS)) ?_
  simp only [Act.put, List.setIfInBounds_toArray, List.set_cons_zero, List.set_cons_succ]
  refine SeqS.call (below_call (Nat.le_refl _) (fun w _ => plain_is q w)) (by rfl) (by rfl) (fun w => ?_) ?_; · go_simp
  simp only [Act.put, List.setIfInBounds_toArray, List.set_cons_zero, List.set_cons_succ]
  refine SeqS.take _ (by rfl) (by rfl) (fun ph w' hS => exec_load_rpar2 _ rfl _ _ _ rfl (hS11.up hS)) ?_
  simp only [Act.put, List.setIfInBounds_toArray, List.set_cons_zero, List.set_cons_succ]
  refine SeqS.calm (.bool true) (by rfl) (by rfl) (fun w => exec_eqr _ _ _ rfl q rfl rfl) ?_
  simp only [Act.put, List.setIfInBounds_toArray, List.set_cons_zero, List.set_cons_succ]
  refine' SeqS.calm _ (by rfl) (by rfl) (fun w => ?_) ?_; rotate_left; · (go_simp <;> with_reducible rfl)
  simp only [Act.put, List.setIfInBounds_toArray, List.set_cons_zero, List.set_cons_succ]
  refine' SeqS.calm _ (by rfl) (by rfl) (fun w => ?_) ?_; rotate_left; · (go_simp <;> with_reducible rfl)
  simp only [Act.put, List.setIfInBounds_toArray, List.set_cons_zero, List.set_cons_succ]
  refine' SeqS.calm _ (by rfl) (by rfl) (fun w => ?_) ?_; rotate_left; · (go_simp <;> with_reducible rfl)
  simp only [Act.put, List.setIfInBounds_toArray, List.set_cons_zero, List.set_cons_succ]
  refine' SeqS.calm _ (by rfl) (by rfl) (fun w => ?_) ?_; rotate_left; · (go_simp <;> with_reducible rfl)
  simp only [Act.put, List.setIfInBounds_toArray, List.set_cons_zero, List.set_cons_succ]
  refine' SeqS.calm _ (by rfl) (by rfl) (fun w => ?_) ?_; rotate_left; · (go_simp <;> with_reducible rfl)
  simp only [Act.put, List.setIfInBounds_toArray, List.set_cons_zero, List.set_cons_succ]
  refine' SeqS.calm _ (by rfl) (by rfl) (fun w => ?_) ?_; rotate_left; · (go_simp <;> with_reducible rfl)
  simp only [Act.put, List.setIfInBounds_toArray, List.set_cons_zero, List.set_cons_succ]
  refine' SeqS.calm _ (by rfl) (by rfl) (fun w => ?_) ?_; rotate_left; · (go_simp <;> with_reducible rfl)
  simp only [Act.put, List.setIfInBounds_toArray, List.set_cons_zero, List.set_cons_succ]
  refine' SeqS.calm _ (by rfl) (by rfl) (fun w => ?_) ?_; rotate_left; · (go_simp <;> with_reducible rfl)
  simp only [Act.put, List.setIfInBounds_toArray, List.set_cons_zero, List.set_cons_succ]
  refine' SeqS.calm _ (by rfl) (by rfl) (fun w => ?_) ?_; rotate_left; · (go_simp <;> with_reducible rfl)
  simp only [Act.put, List.setIfInBounds_toArray, List.set_cons_zero, List.set_cons_succ]
  refine' SeqS.calm _ (by rfl) (by rfl) (fun w => ?_) ?_; rotate_left; · (go_simp <;> with_reducible rfl)
  simp only [Act.put, List.setIfInBounds_toArray, List.set_cons_zero, List.set_cons_succ]
  refine' SeqS.calm _ (by rfl) (by rfl) (fun w => ?_) ?_; rotate_left; · (go_simp <;> with_reducible rfl)
  simp only [Act.put, List.setIfInBounds_toArray, List.set_cons_zero, List.set_cons_succ]
  refine SeqS.take _ (by rfl) (by rfl) (fun ph w' hS => exec_load_par _ rfl _ _ _ rfl (hP11.up hS)) ?_
  simp only [Act.put, List.setIfInBounds_toArray, List.set_cons_zero, List.set_cons_succ]
  refine' SeqS.calm _ (by rfl) (by rfl) (fun w => ?_) ?_; rotate_left; · (go_simp <;> with_reducible rfl)
  simp only [Act.put, List.setIfInBounds_toArray, List.set_cons_zero, List.set_cons_succ]
  refine SeqS.call KST (by rfl) (by rfl) (fun w => ?_) ?_; · go_simp
  simp only [Act.put, List.setIfInBounds_toArray, List.set_cons_zero, List.set_cons_succ]
  refine' SeqS.calm _ (by rfl) (by rfl) (fun w => ?_) ?_; rotate_left; · (go_simp <;> with_reducible rfl)
  simp only [Act.put, List.setIfInBounds_toArray, List.set_cons_zero, List.set_cons_succ]
  refine' SeqS.calm _ (by rfl) (by rfl) (fun w => ?_) ?_; rotate_left; · (go_simp <;> with_reducible rfl)
  simp only [Act.put, List.setIfInBounds_toArray, List.set_cons_zero, List.set_cons_succ]
  intro w12 hw12
  have hB12 := Below.then hB11 hw12
  go_wp2
  go_ret
  exact ⟨rfl, hB12⟩


set_option maxRecDepth 100000 in
set_option maxHeartbeats 4000000 in
theorem walk_nno (p : Par) (bs : List Nat) (A : Option Addr) (c : Nat) (st : Nat × Nat) (w : World) (hf : p.Fits) (hR : ¬ ∃ N, Par.Right p N) (hx : Lies w (· < w.heap.size) A bs) (hl : bs.length ≤ 2000) (hc : bs.length ≤ c) (hcm : c ≤ maxLen) (hb : ∀ x ∈ bs, x < 256) (hA : A = none → c = 0) (ee : Nat) (hee : ee ≠ 0) (h : PRes bs (0, 0) Par.none ee st) :
    Calls Try.prog 5 #[.agg p.vals, .slice A bs.length c] w fun e w' => e = .returned (.bool true) ∧ Below w.heap.size w w' := by
  have hP := ParAt.new w p 24
  have hB : Below w.heap.size w (w.alloc (.cells p.vals 24)) := (Below.refl _ _).alloc (Nat.le_refl _) _
  have dl : decide ((2000 : Int) < (bs.length : Int)) = false := by simp; omega
  have ke := fun w => encode_no p w hf hR
  have kq := fun w => refright_no p w hR
  have kst : ∀ w', Lies w' (· < w'.heap.size) A bs → Calls Try.prog 24 #[.agg p.vals, .slice A bs.length c] w' fun e w'' => e = .returned (.bool true) ∧ Below w'.heap.size w' w'' := fun w' hx => streams_nno p bs A c 0 ee Par.none st w' hf hR hx hl hc hcm hb hA h rfl hee
  have kd := fun w hx => rpdec_is bs A c Par.none ee 0 st w hx (by omega) hc hcm hb h (by rw [if_neg hee])
  have kD := fun w (hx : Lies w (· < w.heap.size) A bs) => decode_bad bs _ A c ee st w hx (by omega) hb (Lib.hid h) hee
  have HX := Lib.hid hx
  clear hx hl hc hcm hb hA h hR hf hee
  go_enter Try.func5, Try.ntmps5
  go_upto_region 8 with (first
    | (refine load_par _ rfl rfl w.heap.size p _ rfl (by assumption) ?_)
    | (go_at_call 8; refine (param_awake _).mono ?_; rintro e w1 ⟨rfl, hb1⟩; have hP1 := hP.up hb1; have hB1 := Below.then hB hb1; clear hP)
    | (go_at_call 19; refine (ke _).mono ?_; clear ke; rintro e w2 ⟨rfl, hb2⟩; have hP2 := hP1.up hb2; have hB2 := Below.then hB1 hb2; clear hP1)
    | (go_at_call 10; refine (kq _).mono ?_; clear kq; rintro e w7 ⟨rfl, hb7⟩; have hP7 := hP3.up hb7; have hB7 := Below.then hB3 hb7; clear hP3)
    | (go_at_call 11; refine (plain_is p _).mono ?_; rintro e w3 ⟨rfl, hb3⟩; have hP3 := hP2.up hb3; have hB3 := Below.then hB2 hb3; clear hP2))
  have x7 := (HX.out.hold fun a ha => hB7.cell ha).imp (S' := (· < w7.heap.size)) (fun k h _ => h)
  go_upto_region 9 with (first
    | (go_at_call 22; refine (kD _ x7).mono ?_; clear kD; rintro e w8 ⟨rfl, hb8⟩)
    | (refine store_par _ _ rfl rfl w8.heap.size Par.none Par.none 24 rfl rfl (ParAt.new w8 Par.none 24) ?_))
  generalize hW9 : World.setRow _ _ _ = w9
  have hQ9 : ParAt w9 w8.heap.size Par.none 24 := by rw [← hW9]; exact (ParAt.new w8 Par.none 24).set
  have hb9 : Below w7.heap.size w7 w9 := by rw [← hW9]; exact below_setRow (hb8.alloc hb8.size _) hb8.size _
  have hP9 := hP7.up hb9
  have hB9 := Below.then hB7 hb9
  have x9 := (HX.out.hold fun a ha => hB9.cell ha).imp (S' := (· < w9.heap.size)) (fun k h _ => h)
  clear hW9 hb8 hb9 hP7 x7
  go_upto_region 10 with (first
    | (go_at_call 23; refine (kd _ x9).mono ?_; clear kd; rintro e w10 ⟨rfl, hb10⟩)
    | (refine store_rpar2 _ _ rfl rfl w10.heap.size Par.none Par.none 30 rfl rfl (ParAt.new w10 Par.none 30) ?_))
  generalize hW11 : World.setRow _ _ _ = w11
  have hS11 : ParAt w11 w10.heap.size Par.none 30 := by rw [← hW11]; exact (ParAt.new w10 Par.none 30).set
  have hb11 : Below w9.heap.size w9 w11 := by rw [← hW11]; exact below_setRow (hb10.alloc hb10.size _) hb10.size _
  have hP11 := hP9.up hb11
  have hQ11 := hQ9.up hb11
  have hB11 := Below.then hB9 hb11
  clear hW11 hb10 hb11 hP9 hQ9 x9
  have KST : ∀ (ph : Nat) w', Below w11.heap.size w11 w' → Calls Try.prog 24 #[.agg p.vals, .slice A bs.length c] w' fun e w'' => e = .returned (.bool true) ∧ Below w11.heap.size w11 w'' := fun _ w' h => by
    have hB' := Below.then hB11 h
    exact (kst w' ((HX.out.hold fun a ha => hB'.cell ha).imp (fun k h _ => h))).mono (by rintro e w'' ⟨rfl, hb⟩; exact ⟨rfl, Below.then h hb⟩)
  clear kst
  refine region_list [] (fun _ w' => Below w11.heap.size w11 w') (by kernel_rfl) (by kernel_rfl) (Below.refl _ _).drew ?_
  refine SeqS.take _ (by rfl) (by rfl) (fun ph w' hS => exec_load_par _ rfl _ _ _ rfl (hQ11.up hS)) ?_
  simp only [Act.put, List.setIfInBounds_toArray, List.set_cons_zero, List.set_cons_succ]
  refine SeqS.call (below_call (Nat.le_refl _) (fun w _ => plain_is Par.none w)) (by rfl) (by rfl) (fun w => ?_) ?_; · go_simp
  simp only [Act.put, List.setIfInBounds_toArray, List.set_cons_zero, List.set_cons_succ]
  refine SeqS.take _ (by rfl) (by rfl) (fun ph w' hS => exec_load_rpar2 _ rfl _ _ _ rfl (hS11.up hS)) ?_
  simp only [Act.put, List.setIfInBounds_toArray, List.set_cons_zero, List.set_cons_succ]
  refine SeqS.calm (.bool true) (by rfl) (by rfl) (fun w => exec_eqr _ _ _ rfl Par.none rfl rfl) ?_
  simp only [Act.put, List.setIfInBounds_toArray, List.set_cons_zero, List.set_cons_succ]
  refine' SeqS.calm _ (by rfl) (by rfl) (fun w => ?_) ?_; rotate_left; · (go_simp <;> with_reducible rfl)
  simp only [Act.put, List.setIfInBounds_toArray, List.set_cons_zero, List.set_cons_succ]
  refine' SeqS.calm _ (by rfl) (by rfl) (fun w => ?_) ?_; rotate_left; · (go_simp <;> with_reducible rfl)
  simp only [Act.put, List.setIfInBounds_toArray, List.set_cons_zero, List.set_cons_succ]
  refine' SeqS.calm _ (by rfl) (by rfl) (fun w => ?_) ?_; rotate_left; · (go_simp <;> with_reducible rfl)
  simp only [Act.put, List.setIfInBounds_toArray, List.set_cons_zero, List.set_cons_succ]
  refine' SeqS.calm _ (by rfl) (by rfl) (fun w => ?_) ?_; rotate_left; · (go_simp <;> with_reducible rfl)
  simp only [Act.put, List.setIfInBounds_toArray, List.set_cons_zero, List.set_cons_succ]
  refine' SeqS.calm _ (by rfl) (by rfl) (fun w => ?_) ?_; rotate_left; · (go_simp <;> with_reducible rfl)
  simp only [Act.put, List.setIfInBounds_toArray, List.set_cons_zero, List.set_cons_succ]
  refine' SeqS.calm _ (by rfl) (by rfl) (fun w => ?_) ?_; rotate_left; · (go_simp <;> with_reducible rfl)
  simp only [Act.put, List.setIfInBounds_toArray, List.set_cons_zero, List.set_cons_succ]
  refine' SeqS.calm _ (by rfl) (by rfl) (fun w => ?_) ?_; rotate_left; · (go_simp <;> with_reducible rfl)
  simp only [Act.put, List.setIfInBounds_toArray, List.set_cons_zero, List.set_cons_succ]
  refine' SeqS.calm _ (by rfl) (by rfl) (fun w => ?_) ?_; rotate_left; · (go_simp <;> with_reducible rfl)
  simp only [Act.put, List.setIfInBounds_toArray, List.set_cons_zero, List.set_cons_succ]
  refine' SeqS.calm _ (by rfl) (by rfl) (fun w => ?_) ?_; rotate_left; · (go_simp <;> with_reducible rfl)
  simp only [Act.put, List.setIfInBounds_toArray, List.set_cons_zero, List.set_cons_succ]
  refine' SeqS.calm _ (by rfl) (by rfl) (fun w => ?_) ?_; rotate_left; · (go_simp <;> with_reducible rfl)
  simp only [Act.put, List.setIfInBounds_toArray, List.set_cons_zero, List.set_cons_succ]
  refine' SeqS.calm _ (by rfl) (by rfl) (fun w => ?_) ?_; rotate_left; · (go_simp <;> with_reducible rfl)
  simp only [Act.put, List.setIfInBounds_toArray, List.set_cons_zero, List.set_cons_succ]
  refine SeqS.take _ (by rfl) (by rfl) (fun ph w' hS => exec_load_par _ rfl _ _ _ rfl (hP11.up hS)) ?_
  simp only [Act.put, List.setIfInBounds_toArray, List.set_cons_zero, List.set_cons_succ]
  refine' SeqS.calm _ (by rfl) (by rfl) (fun w => ?_) ?_; rotate_left; · (go_simp <;> with_reducible rfl)
  simp only [Act.put, List.setIfInBounds_toArray, List.set_cons_zero, List.set_cons_succ]
  refine SeqS.call KST (by rfl) (by rfl) (fun w => ?_) ?_; · go_simp
  simp only [Act.put, List.setIfInBounds_toArray, List.set_cons_zero, List.set_cons_succ]
  refine' SeqS.calm _ (by rfl) (by rfl) (fun w => ?_) ?_; rotate_left; · (go_simp <;> with_reducible rfl)
  simp only [Act.put, List.setIfInBounds_toArray, List.set_cons_zero, List.set_cons_succ]
  refine' SeqS.calm _ (by rfl) (by rfl) (fun w => ?_) ?_; rotate_left; · (go_simp <;> with_reducible rfl)
  simp only [Act.put, List.setIfInBounds_toArray, List.set_cons_zero, List.set_cons_succ]
  intro w12 hw12
  have hB12 := Below.then hB11 hw12
  go_wp2
  go_ret
  exact ⟨rfl, hB12⟩


set_option maxRecDepth 100000 in
set_option maxHeartbeats 4000000 in
theorem walk_yok (p : Par) (bs : List Nat) (A : Option Addr) (c : Nat) (q : Par) (st : Nat × Nat) (w : World) (hf : p.Fits) (N : Nat) (hR : Par.Right p N) (hx : Lies w (· < w.heap.size) A bs) (hl : bs.length ≤ 2000) (hc : bs.length ≤ c) (hcm : c ≤ maxLen) (hb : ∀ x ∈ bs, x < 256) (hA : A = none → c = 0) (h : PRes bs (0, 0) q 0 st) :
    Calls Try.prog 5 #[.agg p.vals, .slice A bs.length c] w fun e w' => e = .returned (.bool true) ∧ Below w.heap.size w w' := by
  have hP := ParAt.new w p 24
  have hB : Below w.heap.size w (w.alloc (.cells p.vals 24)) := (Below.refl _ _).alloc (Nat.le_refl _) _
  have dl : decide ((2000 : Int) < (bs.length : Int)) = false := by simp; omega
  have ke := fun w => encode_ok p N w hR hf
  have kq := fun w => refright_ok p N w hR
  have kf := fun w => rparform_is p N w hR
  have hpl := (bytes_is hf [] (by simp)).2
  obtain ⟨PB, hPB⟩ : ∃ PB, Hid (p.bytes = PB) := ⟨_, rfl⟩
  rw [hPB.out] at ke kf hpl
  have ks : ∀ (W : World) (S S' : Nat → Prop) (A A' : Option Addr) (c c' : Nat), Lies W S A PB → Lies W S' A' PB → Calls Try.prog 20 #[.slice A PB.length c, .slice A' PB.length c'] W fun e w' => e = .returned (.bool true) ∧ Below W.heap.size W w' := fun W S S' A A' c c' h h' => same_true PB S S' A A' c c' W h h' (by unfold maxLen; omega)
  have kst : ∀ w', Lies w' (· < w'.heap.size) A bs → Calls Try.prog 24 #[.agg p.vals, .slice A bs.length c] w' fun e w'' => e = .returned (.bool true) ∧ Below w'.heap.size w' w'' := fun w' hx => streams_yok p bs A c st.1 q st w' N hR hx hl hc hcm hb hA h rfl
  have kd := fun w hx => rpdec_is bs A c q 0 st.1 st w hx (by omega) hc hcm hb h rfl
  have kD := fun w (hx : Lies w (· < w.heap.size) A bs) => decode_ok bs _ A c q st w hx (by omega) hb (Lib.hid h)
  have HX := Lib.hid hx
  clear hx hl hc hcm hb hA h hR hf
  go_enter Try.func5, Try.ntmps5
  go_upto_region 8 with (first
    | (refine load_par _ rfl rfl w.heap.size p _ rfl (by assumption) ?_)
    | (go_at_call 8; refine (param_awake _).mono ?_; rintro e w1 ⟨rfl, hb1⟩; have hP1 := hP.up hb1; have hB1 := Below.then hB hb1; clear hP)
    | (go_at_call 19; refine (ke _).mono ?_; clear ke; rintro e w2 ⟨v2, rfl, hown2, hb2⟩; obtain ⟨A2, c2, rfl, -, -, -, hL2⟩ := Lies.own hown2; have hP2 := hP1.up hb2; have hB2 := Below.then hB1 hb2; clear hown2 hP1)
    | (go_at_call 10; refine (kq _).mono ?_; clear kq; rintro e w4 ⟨rfl, hb4⟩; have hP4 := hP3.up hb4; have hB4 := Below.then hB3 hb4; have hL4 := hL3.grown (grown_below hb4 none) (by simp); clear hP3 hL3)
    | (go_at_call 21; refine (kf _).mono ?_; clear kf; rintro e w6 ⟨v6, rfl, hown6, hb6⟩; obtain ⟨A6, c6, rfl, -, -, -, hM6⟩ := Lies.own hown6; have hP6 := hP5.up hb6; have hB6 := Below.then hB5 hb6; have hL6 := hL5.grown (grown_below hb6 none) (by simp); clear hown6 hP5 hL5)
    | (go_at_call 20; refine (ks _ _ _ _ _ _ _ hL6 hM6).mono ?_; clear ks; rintro e w7 ⟨rfl, hb7⟩; have hP7 := hP6.up hb7; have hB7 := Below.then hB6 hb7; clear hP6 hL6 hM6)
    | (go_at_call 11; refine (plain_is p _).mono ?_; rintro e w5 ⟨rfl, hb5⟩; have hP5 := hP4.up hb5; have hB5 := Below.then hB4 hb5; have hL5 := hL4.grown (grown_below hb5 none) (by simp); clear hP4 hL4)
    | (go_at_call 11; refine (plain_is p _).mono ?_; rintro e w3 ⟨rfl, hb3⟩; have hP3 := hP2.up hb3; have hB3 := Below.then hB2 hb3; have hL3 := hL2.grown (grown_below hb3 none) (by simp); clear hP2 hL2))
  have x7 := (HX.out.hold fun a ha => hB7.cell ha).imp (S' := (· < w7.heap.size)) (fun k h _ => h)
  go_upto_region 9 with (first
    | (go_at_call 22; refine (kD _ x7).mono ?_; clear kD; rintro e w8 ⟨rfl, hb8⟩)
    | (refine store_par _ _ rfl rfl w8.heap.size q Par.none 24 rfl rfl (ParAt.new w8 Par.none 24) ?_))
  generalize hW9 : World.setRow _ _ _ = w9
  have hQ9 : ParAt w9 w8.heap.size q 24 := by rw [← hW9]; exact (ParAt.new w8 Par.none 24).set
  have hb9 : Below w7.heap.size w7 w9 := by rw [← hW9]; exact below_setRow (hb8.alloc hb8.size _) hb8.size _
  have hP9 := hP7.up hb9
  have hB9 := Below.then hB7 hb9
  have x9 := (HX.out.hold fun a ha => hB9.cell ha).imp (S' := (· < w9.heap.size)) (fun k h _ => h)
  clear hW9 hb8 hb9 hP7 x7
  go_upto_region 10 with (first
    | (go_at_call 23; refine (kd _ x9).mono ?_; clear kd; rintro e w10 ⟨rfl, hb10⟩)
    | (refine store_rpar2 _ _ rfl rfl w10.heap.size q Par.none 30 rfl rfl (ParAt.new w10 Par.none 30) ?_))
  generalize hW11 : World.setRow _ _ _ = w11
  have hS11 : ParAt w11 w10.heap.size q 30 := by rw [← hW11]; exact (ParAt.new w10 Par.none 30).set
  have hb11 : Below w9.heap.size w9 w11 := by rw [← hW11]; exact below_setRow (hb10.alloc hb10.size _) hb10.size _
  have hP11 := hP9.up hb11
  have hQ11 := hQ9.up hb11
  have hB11 := Below.then hB9 hb11
  clear hW11 hb10 hb11 hP9 hQ9 x9
  have KST : ∀ (ph : Nat) w', Below w11.heap.size w11 w' → Calls Try.prog 24 #[.agg p.vals, .slice A bs.length c] w' fun e w'' => e = .returned (.bool true) ∧ Below w11.heap.size w11 w'' := fun _ w' h => by
    have hB' := Below.then hB11 h
    exact (kst w' ((HX.out.hold fun a ha => hB'.cell ha).imp (fun k h _ => h))).mono (by rintro e w'' ⟨rfl, hb⟩; exact ⟨rfl, Below.then h hb⟩)
  clear kst
  refine region_list [] (fun _ w' => Below w11.heap.size w11 w') (by kernel_rfl) (by kernel_rfl) (Below.refl _ _).drew ?_
  refine SeqS.take _ (by rfl) (by rfl) (fun ph w' hS => exec_load_par _ rfl _ _ _ rfl (hQ11.up hS)) ?_
  simp only [Act.put, List.setIfInBounds_toArray, List.set_cons_zero, List.set_cons_succ]
  refine SeqS.call (below_call (Nat.le_refl _) (fun w _ => plain_is q w)) (by rfl) (by rfl) (fun w => ?_) ?_; · go_simp
  simp only [Act.put, List.setIfInBounds_toArray, List.set_cons_zero, List.set_cons_succ]
  refine SeqS.take _ (by rfl) (by rfl) (fun ph w' hS => exec_load_rpar2 _ rfl _ _ _ rfl (hS11.up hS)) ?_
  simp only [Act.put, List.setIfInBounds_toArray, List.set_cons_zero, List.set_cons_succ]
  refine SeqS.calm (.bool true) (by rfl) (by rfl) (fun w => exec_eqr _ _ _ rfl q rfl rfl) ?_
  simp only [Act.put, List.setIfInBounds_toArray, List.set_cons_zero, List.set_cons_succ]
  refine' SeqS.calm _ (by rfl) (by rfl) (fun w => ?_) ?_; rotate_left; · (go_simp <;> with_reducible rfl)
  simp only [Act.put, List.setIfInBounds_toArray, List.set_cons_zero, List.set_cons_succ]
  refine' SeqS.calm _ (by rfl) (by rfl) (fun w => ?_) ?_; rotate_left; · (go_simp <;> with_reducible rfl)
  simp only [Act.put, List.setIfInBounds_toArray, List.set_cons_zero, List.set_cons_succ]
  refine' SeqS.calm _ (by rfl) (by rfl) (fun w => ?_) ?_; rotate_left; · (go_simp <;> with_reducible rfl)
  simp only [Act.put, List.setIfInBounds_toArray, List.set_cons_zero, List.set_cons_succ]
  refine' SeqS.calm _ (by rfl) (by rfl) (fun w => ?_) ?_; rotate_left; · (go_simp <;> with_reducible rfl)
  simp only [Act.put, List.setIfInBounds_toArray, List.set_cons_zero, List.set_cons_succ]
  refine' SeqS.calm _ (by rfl) (by rfl) (fun w => ?_) ?_; rotate_left; · (go_simp <;> with_reducible rfl)
  simp only [Act.put, List.setIfInBounds_toArray, List.set_cons_zero, List.set_cons_succ]
  refine' SeqS.calm _ (by rfl) (by rfl) (fun w => ?_) ?_; rotate_left; · (go_simp <;> with_reducible rfl)
  simp only [Act.put, List.setIfInBounds_toArray, List.set_cons_zero, List.set_cons_succ]
  refine' SeqS.calm _ (by rfl) (by rfl) (fun w => ?_) ?_; rotate_left; · (go_simp <;> with_reducible rfl)
  simp only [Act.put, List.setIfInBounds_toArray, List.set_cons_zero, List.set_cons_succ]
  refine' SeqS.calm _ (by rfl) (by rfl) (fun w => ?_) ?_; rotate_left; · (go_simp <;> with_reducible rfl)
  simp only [Act.put, List.setIfInBounds_toArray, List.set_cons_zero, List.set_cons_succ]
  refine' SeqS.calm _ (by rfl) (by rfl) (fun w => ?_) ?_; rotate_left; · (go_simp <;> with_reducible rfl)
  simp only [Act.put, List.setIfInBounds_toArray, List.set_cons_zero, List.set_cons_succ]
  refine' SeqS.calm _ (by rfl) (by rfl) (fun w => ?_) ?_; rotate_left; · (go_simp <;> with_reducible rfl)
  simp only [Act.put, List.setIfInBounds_toArray, List.set_cons_zero, List.set_cons_succ]
  refine' SeqS.calm _ (by rfl) (by rfl) (fun w => ?_) ?_; rotate_left; · (go_simp <;> with_reducible rfl)
  simp only [Act.put, List.setIfInBounds_toArray, List.set_cons_zero, List.set_cons_succ]
  refine SeqS.take _ (by rfl) (by rfl) (fun ph w' hS => exec_load_par _ rfl _ _ _ rfl (hP11.up hS)) ?_
  simp only [Act.put, List.setIfInBounds_toArray, List.set_cons_zero, List.set_cons_succ]
  refine' SeqS.calm _ (by rfl) (by rfl) (fun w => ?_) ?_; rotate_left; · (go_simp <;> with_reducible rfl)
  simp only [Act.put, List.setIfInBounds_toArray, List.set_cons_zero, List.set_cons_succ]
  refine SeqS.call KST (by rfl) (by rfl) (fun w => ?_) ?_; · go_simp
  simp only [Act.put, List.setIfInBounds_toArray, List.set_cons_zero, List.set_cons_succ]
  refine' SeqS.calm _ (by rfl) (by rfl) (fun w => ?_) ?_; rotate_left; · (go_simp <;> with_reducible rfl)
  simp only [Act.put, List.setIfInBounds_toArray, List.set_cons_zero, List.set_cons_succ]
  refine' SeqS.calm _ (by rfl) (by rfl) (fun w => ?_) ?_; rotate_left; · (go_simp <;> with_reducible rfl)
  simp only [Act.put, List.setIfInBounds_toArray, List.set_cons_zero, List.set_cons_succ]
  intro w12 hw12
  have hB12 := Below.then hB11 hw12
  go_wp2
  go_ret
  exact ⟨rfl, hB12⟩


set_option maxRecDepth 100000 in
set_option maxHeartbeats 4000000 in
theorem walk_yno (p : Par) (bs : List Nat) (A : Option Addr) (c : Nat) (st : Nat × Nat) (w : World) (hf : p.Fits) (N : Nat) (hR : Par.Right p N) (hx : Lies w (· < w.heap.size) A bs) (hl : bs.length ≤ 2000) (hc : bs.length ≤ c) (hcm : c ≤ maxLen) (hb : ∀ x ∈ bs, x < 256) (hA : A = none → c = 0) (ee : Nat) (hee : ee ≠ 0) (h : PRes bs (0, 0) Par.none ee st) :
    Calls Try.prog 5 #[.agg p.vals, .slice A bs.length c] w fun e w' => e = .returned (.bool true) ∧ Below w.heap.size w w' := by
  have hP := ParAt.new w p 24
  have hB : Below w.heap.size w (w.alloc (.cells p.vals 24)) := (Below.refl _ _).alloc (Nat.le_refl _) _
  have dl : decide ((2000 : Int) < (bs.length : Int)) = false := by simp; omega
  have ke := fun w => encode_ok p N w hR hf
  have kq := fun w => refright_ok p N w hR
  have kf := fun w => rparform_is p N w hR
  have hpl := (bytes_is hf [] (by simp)).2
  obtain ⟨PB, hPB⟩ : ∃ PB, Hid (p.bytes = PB) := ⟨_, rfl⟩
  rw [hPB.out] at ke kf hpl
  have ks : ∀ (W : World) (S S' : Nat → Prop) (A A' : Option Addr) (c c' : Nat), Lies W S A PB → Lies W S' A' PB → Calls Try.prog 20 #[.slice A PB.length c, .slice A' PB.length c'] W fun e w' => e = .returned (.bool true) ∧ Below W.heap.size W w' := fun W S S' A A' c c' h h' => same_true PB S S' A A' c c' W h h' (by unfold maxLen; omega)
  have kst : ∀ w', Lies w' (· < w'.heap.size) A bs → Calls Try.prog 24 #[.agg p.vals, .slice A bs.length c] w' fun e w'' => e = .returned (.bool true) ∧ Below w'.heap.size w' w'' := fun w' hx => streams_yno p bs A c 0 ee Par.none st w' N hR hx hl hc hcm hb hA h rfl hee
  have kd := fun w hx => rpdec_is bs A c Par.none ee 0 st w hx (by omega) hc hcm hb h (by rw [if_neg hee])
  have kD := fun w (hx : Lies w (· < w.heap.size) A bs) => decode_bad bs _ A c ee st w hx (by omega) hb (Lib.hid h) hee
  have HX := Lib.hid hx
  clear hx hl hc hcm hb hA h hR hf hee
  go_enter Try.func5, Try.ntmps5
  go_upto_region 8 with (first
    | (refine load_par _ rfl rfl w.heap.size p _ rfl (by assumption) ?_)
    | (go_at_call 8; refine (param_awake _).mono ?_; rintro e w1 ⟨rfl, hb1⟩; have hP1 := hP.up hb1; have hB1 := Below.then hB hb1; clear hP)
    | (go_at_call 19; refine (ke _).mono ?_; clear ke; rintro e w2 ⟨v2, rfl, hown2, hb2⟩; obtain ⟨A2, c2, rfl, -, -, -, hL2⟩ := Lies.own hown2; have hP2 := hP1.up hb2; have hB2 := Below.then hB1 hb2; clear hown2 hP1)
    | (go_at_call 10; refine (kq _).mono ?_; clear kq; rintro e w4 ⟨rfl, hb4⟩; have hP4 := hP3.up hb4; have hB4 := Below.then hB3 hb4; have hL4 := hL3.grown (grown_below hb4 none) (by simp); clear hP3 hL3)
    | (go_at_call 21; refine (kf _).mono ?_; clear kf; rintro e w6 ⟨v6, rfl, hown6, hb6⟩; obtain ⟨A6, c6, rfl, -, -, -, hM6⟩ := Lies.own hown6; have hP6 := hP5.up hb6; have hB6 := Below.then hB5 hb6; have hL6 := hL5.grown (grown_below hb6 none) (by simp); clear hown6 hP5 hL5)
    | (go_at_call 20; refine (ks _ _ _ _ _ _ _ hL6 hM6).mono ?_; clear ks; rintro e w7 ⟨rfl, hb7⟩; have hP7 := hP6.up hb7; have hB7 := Below.then hB6 hb7; clear hP6 hL6 hM6)
    | (go_at_call 11; refine (plain_is p _).mono ?_; rintro e w5 ⟨rfl, hb5⟩; have hP5 := hP4.up hb5; have hB5 := Below.then hB4 hb5; have hL5 := hL4.grown (grown_below hb5 none) (by simp); clear hP4 hL4)
    | (go_at_call 11; refine (plain_is p _).mono ?_; rintro e w3 ⟨rfl, hb3⟩; have hP3 := hP2.up hb3; have hB3 := Below.then hB2 hb3; have hL3 := hL2.grown (grown_below hb3 none) (by simp); clear hP2 hL2))
  have x7 := (HX.out.hold fun a ha => hB7.cell ha).imp (S' := (· < w7.heap.size)) (fun k h _ => h)
  go_upto_region 9 with (first
    | (go_at_call 22; refine (kD _ x7).mono ?_; clear kD; rintro e w8 ⟨rfl, hb8⟩)
    | (refine store_par _ _ rfl rfl w8.heap.size Par.none Par.none 24 rfl rfl (ParAt.new w8 Par.none 24) ?_))
  generalize hW9 : World.setRow _ _ _ = w9
  have hQ9 : ParAt w9 w8.heap.size Par.none 24 := by rw [← hW9]; exact (ParAt.new w8 Par.none 24).set
  have hb9 : Below w7.heap.size w7 w9 := by rw [← hW9]; exact below_setRow (hb8.alloc hb8.size _) hb8.size _
  have hP9 := hP7.up hb9
  have hB9 := Below.then hB7 hb9
  have x9 := (HX.out.hold fun a ha => hB9.cell ha).imp (S' := (· < w9.heap.size)) (fun k h _ => h)
  clear hW9 hb8 hb9 hP7 x7
  go_upto_region 10 with (first
    | (go_at_call 23; refine (kd _ x9).mono ?_; clear kd; rintro e w10 ⟨rfl, hb10⟩)
    | (refine store_rpar2 _ _ rfl rfl w10.heap.size Par.none Par.none 30 rfl rfl (ParAt.new w10 Par.none 30) ?_))
  generalize hW11 : World.setRow _ _ _ = w11
  have hS11 : ParAt w11 w10.heap.size Par.none 30 := by rw [← hW11]; exact (ParAt.new w10 Par.none 30).set
  have hb11 : Below w9.heap.size w9 w11 := by rw [← hW11]; exact below_setRow (hb10.alloc hb10.size _) hb10.size _
  have hP11 := hP9.up hb11
  have hQ11 := hQ9.up hb11
  have hB11 := Below.then hB9 hb11
  clear hW11 hb10 hb11 hP9 hQ9 x9
  have KST : ∀ (ph : Nat) w', Below w11.heap.size w11 w' → Calls Try.prog 24 #[.agg p.vals, .slice A bs.length c] w' fun e w'' => e = .returned (.bool true) ∧ Below w11.heap.size w11 w'' := fun _ w' h => by
    have hB' := Below.then hB11 h
    exact (kst w' ((HX.out.hold fun a ha => hB'.cell ha).imp (fun k h _ => h))).mono (by rintro e w'' ⟨rfl, hb⟩; exact ⟨rfl, Below.then h hb⟩)
  clear kst
  refine region_list [] (fun _ w' => Below w11.heap.size w11 w') (by kernel_rfl) (by kernel_rfl) (Below.refl _ _).drew ?_
  refine SeqS.take _ (by rfl) (by rfl) (fun ph w' hS => exec_load_par _ rfl _ _ _ rfl (hQ11.up hS)) ?_
  simp only [Act.put, List.setIfInBounds_toArray, List.set_cons_zero, List.set_cons_succ]
  refine SeqS.call (below_call (Nat.le_refl _) (fun w _ => plain_is Par.none w)) (by rfl) (by rfl) (fun w => ?_) ?_; · go_simp
  simp only [Act.put, List.setIfInBounds_toArray, List.set_cons_zero, List.set_cons_succ]
  refine SeqS.take _ (by rfl) (by rfl) (fun ph w' hS => exec_load_rpar2 _ rfl _ _ _ rfl (hS11.up hS)) ?_
  simp only [Act.put, List.setIfInBounds_toArray, List.set_cons_zero, List.set_cons_succ]
  refine SeqS.calm (.bool true) (by rfl) (by rfl) (fun w => exec_eqr _ _ _ rfl Par.none rfl rfl) ?_
  simp only [Act.put, List.setIfInBounds_toArray, List.set_cons_zero, List.set_cons_succ]
  refine' SeqS.calm _ (by rfl) (by rfl) (fun w => ?_) ?_; rotate_left; · (go_simp <;> with_reducible rfl)
  simp only [Act.put, List.setIfInBounds_toArray, List.set_cons_zero, List.set_cons_succ]
  refine' SeqS.calm _ (by rfl) (by rfl) (fun w => ?_) ?_; rotate_left; · (go_simp <;> with_reducible rfl)
  simp only [Act.put, List.setIfInBounds_toArray, List.set_cons_zero, List.set_cons_succ]
  refine' SeqS.calm _ (by rfl) (by rfl) (fun w => ?_) ?_; rotate_left; · (go_simp <;> with_reducible rfl)
  simp only [Act.put, List.setIfInBounds_toArray, List.set_cons_zero, List.set_cons_succ]
  refine' SeqS.calm _ (by rfl) (by rfl) (fun w => ?_) ?_; rotate_left; · (go_simp <;> with_reducible rfl)
  simp only [Act.put, List.setIfInBounds_toArray, List.set_cons_zero, List.set_cons_succ]
  refine' SeqS.calm _ (by rfl) (by rfl) (fun w => ?_) ?_; rotate_left; · (go_simp <;> with_reducible rfl)
  simp only [Act.put, List.setIfInBounds_toArray, List.set_cons_zero, List.set_cons_succ]
  refine' SeqS.calm _ (by rfl) (by rfl) (fun w => ?_) ?_; rotate_left; · (go_simp <;> with_reducible rfl)
  simp only [Act.put, List.setIfInBounds_toArray, List.set_cons_zero, List.set_cons_succ]
  refine' SeqS.calm _ (by rfl) (by rfl) (fun w => ?_) ?_; rotate_left; · (go_simp <;> with_reducible rfl)
  simp only [Act.put, List.setIfInBounds_toArray, List.set_cons_zero, List.set_cons_succ]
  refine' SeqS.calm _ (by rfl) (by rfl) (fun w => ?_) ?_; rotate_left; · (go_simp <;> with_reducible rfl)
  simp only [Act.put, List.setIfInBounds_toArray, List.set_cons_zero, List.set_cons_succ]
  refine' SeqS.calm _ (by rfl) (by rfl) (fun w => ?_) ?_; rotate_left; · (go_simp <;> with_reducible rfl)
  simp only [Act.put, List.setIfInBounds_toArray, List.set_cons_zero, List.set_cons_succ]
  refine' SeqS.calm _ (by rfl) (by rfl) (fun w => ?_) ?_; rotate_left; · (go_simp <;> with_reducible rfl)
  simp only [Act.put, List.setIfInBounds_toArray, List.set_cons_zero, List.set_cons_succ]
  refine' SeqS.calm _ (by rfl) (by rfl) (fun w => ?_) ?_; rotate_left; · (go_simp <;> with_reducible rfl)
  simp only [Act.put, List.setIfInBounds_toArray, List.set_cons_zero, List.set_cons_succ]
  refine SeqS.take _ (by rfl) (by rfl) (fun ph w' hS => exec_load_par _ rfl _ _ _ rfl (hP11.up hS)) ?_
  simp only [Act.put, List.setIfInBounds_toArray, List.set_cons_zero, List.set_cons_succ]
  refine' SeqS.calm _ (by rfl) (by rfl) (fun w => ?_) ?_; rotate_left; · (go_simp <;> with_reducible rfl)
  simp only [Act.put, List.setIfInBounds_toArray, List.set_cons_zero, List.set_cons_succ]
  refine SeqS.call KST (by rfl) (by rfl) (fun w => ?_) ?_; · go_simp
  simp only [Act.put, List.setIfInBounds_toArray, List.set_cons_zero, List.set_cons_succ]
  refine' SeqS.calm _ (by rfl) (by rfl) (fun w => ?_) ?_; rotate_left; · (go_simp <;> with_reducible rfl)
  simp only [Act.put, List.setIfInBounds_toArray, List.set_cons_zero, List.set_cons_succ]
  refine' SeqS.calm _ (by rfl) (by rfl) (fun w => ?_) ?_; rotate_left; · (go_simp <;> with_reducible rfl)
  simp only [Act.put, List.setIfInBounds_toArray, List.set_cons_zero, List.set_cons_succ]
  intro w12 hw12
  have hB12 := Below.then hB11 hw12
  go_wp2
  go_ret
  exact ⟨rfl, hB12⟩


/-- Whatever parameters and bytes. -/
theorem walk (p : Par) (bs : List Nat) (A : Option Addr) (c : Nat) (w : World) (hf : p.Fits) (hx : Lies w (· < w.heap.size) A bs) (hb : ∀ x ∈ bs, x < 256) (hc : bs.length ≤ c) (hcm : c ≤ maxLen) (hA : A = none → c = 0) :
    Calls Try.prog 5 #[.agg p.vals, .slice A bs.length c] w fun e w' => e = .returned (.bool true) ∧ Below w.heap.size w w' := by
  by_cases h : 2000 < bs.length
  · exact walk_long p bs A c w h
  · obtain ⟨q, ee, st, hr⟩ := pres_is bs (0, 0)
    by_cases he : ee = 0
    · subst he
      by_cases hR : ∃ N, Par.Right p N
      · obtain ⟨N, hN⟩ := hR
        exact walk_yok p bs A c q st w hf N hN hx (by omega) hc hcm hb hA hr
      · exact walk_nok p bs A c q st w hf hR hx (by omega) hc hcm hb hA hr
    · obtain rfl := pres_bad hr he
      by_cases hR : ∃ N, Par.Right p N
      · obtain ⟨N, hN⟩ := hR
        exact walk_yno p bs A c st w hf N hN hx (by omega) hc hcm hb hA ee he hr
      · exact walk_nno p bs A c st w hf hR hx (by omega) hc hcm hb hA ee he hr

theorem own : ownKnob Try.prog.godebug = none := by kernel_rfl
theorem laidOut : laidOutB Try.prog = true := by kernel_rfl

set_option maxRecDepth 100000 in
theorem lifted (os : Os) (started : os.Started) (H : Type) (enc : TypeId × Value → H) :
    ReturnsInHanded {} Try.checked os 5 .any (Rows.paramBytesSpec.pre6 enc Try.prog Try.f5 Rows.paramBytesRow.domain false) (Rows.paramBytesSpec.post enc Try.prog Try.f5 false true false false) := by
  refine returnsInHanded_of_change (C := Try.checked) own started (by kernel_rfl) Try.func5
    (ChangeSpec.witness6 (enc := enc) (C := Try.checked) false ⟨#[], #[.agg #[.int .u64 0, .int .u64 0, .int .u64 0, .int .u64 0, .int .u64 0, .int .u64 0, .int .u64 0, .int .u64 0, .int .u64 0, .int .u64 0, .int .u64 0, .int .u64 0, .int .u64 0, .int .u64 0, .int .i64 0, .int .i64 0, .int .i64 0, .int .i64 0, .int .i64 0, .int .i64 0, .int .i64 0, .int .i64 0, .int .i64 0, .int .i64 0], .slice none 0 0], []⟩ 8 (by kernel_rfl) (by kernel_rfl) (by kernel_rfl) (by kernel_rfl)) ?_
  intro W base args ds gs before hval0 hW hcnd _
  have hval : ∀ (j : Nat) t v, Try.f5.params[j]? = some t → args[j]? = some v → Value.okWide Try.prog W .any base t v := hval0
  have hW' := hW
  obtain ⟨p, q, hA0, hV, rfl, hfz, hnd⟩ := hW
  have hlt : ∀ x ∈ p ++ q, x.block < W.heap.size := fun x hx => hW'.lt x hx
  have hA : DataW.TrodAll enc Try.prog W 0 (fun _ => true) true Try.f5.params.toList args.toList ds p := hA0
  rw [Try.params5] at hA hval
  obtain ⟨v0, vs0, d0, ds0, p0, q0, hargs, rfl, rfl, h0, r0⟩ := trodAll_cons hA
  obtain ⟨v1, vs1, d1, ds1, p1, q1, rfl, rfl, rfl, h1, r1⟩ := trodAll_cons r0
  obtain ⟨rfl, rfl, rfl⟩ := trodAll_nil r1
  obtain rfl : args = #[v0, v1] := by cases args; simp_all
  obtain ⟨rfl, rfl⟩ := trodVars_none hV
  obtain ⟨a0, rfl, f0⟩ := open_par (hval 0 24 v0 rfl rfl) h0
  obtain ⟨A1, n1, c1, rfl⟩ := okWide_slice Try.underlying40 (hval 1 40 v1 rfl rfl)
  obtain ⟨ns1, hl1, hn1, hc1, hm1, hr1, hA1⟩ := open_u8s Try.underlying40 Try.underlying5 (by kernel_rfl) h1
  subst hl1
  clear hA0 hval0
  refine (walk a0 ns1 A1 c1 W f0 (Lies.ofRow hr1) hn1 hc1 hm1 hA1).mono fun e W' ⟨he, hg⟩ => ?_
  subst he
  exact ⟨_, rfl, law_post laidOut (by kernel_rfl) rfl rfl Try.underlying4 rfl hW' hg⟩

theorem over : Rows.paramBytesRow.holds Try.pinned (OpenSpec.ofChange Rows.paramBytesSpec) :=
  OpenClaim.holds_of_wide 5 Try.f5 rfl rfl rfl rfl rfl rfl rfl ⟨rfl, rfl, rfl, rfl, rfl⟩ rfl rfl rfl rfl rfl (by kernel_rfl) Try.func5 (by kernel_rfl)
    (of_decide_eq_true (by kernel_rfl)) (by unfold Func.isWrapper; first | (rw [if_pos (by decide +kernel)]; kernel_rfl) | (rw [if_neg (by decide +kernel)]; exact ⟨rfl, rfl⟩))
    (fun os started H enc _ => lifted os started H enc)

/-- The statement. -/
theorem proved : Rows.ParamBytesSaid := over
#print axioms proved
end Go.Proofs.Ytjgbpgdnmghcpaa.ParamBytes
