/- Law CoderOne (P5.4): of any bytes what is read as a number has just the bytes that are written for it. -/
import Derived.Test.YtmagjfjmaojemaaAwake5
import Derived.Test.YtmagjfjmaojemaaLaw8
import Derived.Test.YtmagjfjmaojemaaRows
namespace Go.Proofs.Ytmagjfjmaojemaa.CoderOne
open Go.RowKit Go.ChangeShapes Go.WideShapes Go.ChangeAt
set_option linter.unusedVariables false
set_option linter.unusedSimpArgs false

/-- What the greatest number lets by. -/
theorem rdNum_bad {bs : List Nat} {p n c e : Nat} (hs : scan 0 0 (bs.drop p) = (n, c, e)) (he : e ≠ 0) (m : Nat) : rdNum bs (p, 0) m = (0, (p, e)) := by
  unfold rdNum
  rw [if_neg (by simp)]
  simp only [hs]
  rw [if_pos he]
theorem rdNum_ok {bs : List Nat} {p n c m : Nat} (hs : scan 0 0 (bs.drop p) = (n, c, 0)) (hm : n ≤ m) : rdNum bs (p, 0) m = (n, (p + c, 0)) := by
  unfold rdNum
  rw [if_neg (by simp)]
  simp only [hs]
  rw [if_neg (by simp), if_neg (by omega)]

theorem rmax_is (b : Nat) (F : Nat → Prop) (bs : List Nat) (p : Nat) (A : Option Addr) (cp : Nat) (w : World) (hR : ReaderAt w b F bs (p, 0) A cp) (x : Nat) (s : Nat × Nat) (h : rdNum bs (p, 0) 18446744073709551615 = (x, s)) :
    Calls Try.prog 21 #[.pointer (some ⟨b, 0, none⟩), .int .u64 18446744073709551615] w fun ev w' => ev = .returned (.int .u64 (x : Int)) ∧ Rd w b F bs s A cp w' := by
  have k := rnum_is b F bs (p, 0) A cp 18446744073709551615 w hR (by omega)
  rw [h] at k
  exact k

theorem wput_form {n : Nat} (h : n < 18446744073709551616) : wput ([], 0) (form n) = (form n, 0) := by
  unfold wput
  have := form_word h
  rw [if_neg (by simp), if_neg (by simp; omega)]
  rfl

theorem Lies.upto {w : World} {S : Nat → Prop} {A : Option Addr} {xs : List Nat} (h : Lies w S A xs) (n : Nat) : Lies w S A (xs.take n) := fun k x hx => by
  rw [List.getElem?_take] at hx
  split at hx
  · exact h k x hx
  · cases hx

theorem same_back {w : World} {S S' : Nat → Prop} {A A2 : Option Addr} {n c : Nat} {ys : List Nat} (hf : form n = ys.take c) (hc : c ≤ ys.length) (h : Lies w S A (form n)) (h2 : Lies w S' A2 ys) (hl : (form n).length ≤ 10) (c1 c2 : Nat) :
    Calls Try.prog 19 #[.slice A (form n).length c1, .slice A2 c c2] w fun e w' => e = .returned (.bool true) ∧ Below w.heap.size w w' := by
  have e : c = (form n).length := by rw [hf, List.length_take]; omega
  rw [e]
  exact same_true (form n) S S' A A2 c1 c2 w h (by rw [hf]; exact Lies.upto h2 c) (by unfold maxLen; omega)

theorem after_out {B br : Nat} {w w3 w4 w5 : World} {o : Obj} (h1 : w.grownBy w3 (some br)) (h2 : (w3.alloc o).grownBy w4 (some w3.heap.size)) (h3 : Below w4.heap.size w4 w5) (hb : B ≤ br) (hw : B ≤ w.heap.size) : Below B w w5 := by
  have e1 := below_of_grown h1 hb hw
  have e3 : B ≤ w3.heap.size := Nat.le_trans hw e1.size
  have e2 : Below B w3 w4 := ((Below.refl _ w3).alloc e3 o).trans (below_of_grown h2 e3 (Nat.le_trans e3 (by simp)))
  exact (e1.trans e2).trans (h3.mono (Nat.le_trans e3 e2.size))

set_option maxRecDepth 100000 in
set_option maxHeartbeats 6000000 in
theorem walk (xs : List Nat) (A : Option Addr) (cap : Nat) (w : World) (hx : Lies w (· < w.heap.size) A xs) (hxb : ∀ x ∈ xs, x < 256) (hxc : xs.length ≤ cap) (hcm : cap ≤ maxLen) (hA0 : A = none → cap = 0) :
    Calls Try.prog 7 #[.slice A xs.length cap] w fun e w' => e = .returned (.bool true) ∧ Below w.heap.size w w' := by
  clear hA0
  unfold maxLen at hcm
  have hz := run_zero
  by_cases hl : xs.length ≤ 3000
  · have hlI : (xs.length : Int) ≤ 3000 := by omega
    have HXB := Lib.hid hxb
    clear hxb
    go_enter Try.func7, Try.ntmps7
    go_wp2_with (first
      | (go_at_call 8; refine (coder_awake _).mono ?_; rintro e w1 ⟨rfl, hb1⟩; have hx1 := hx.hold (w' := w1) (fun p hp => hb1.cell hp))
      | (go_at_call 20; refine (open_is xs _ A cap _ hx1 (by omega) HXB.out).mono ?_; rintro e w2 ⟨br, A', c', rfl, hR, hbr, hb2⟩))
    have hB2 : Below w.heap.size w w2 := hb1.trans (hb2.mono hb1.size)
    have hbr0 : w.heap.size ≤ br := Nat.le_trans hb1.size hbr
    go_loopw [18] (fun iv wr => ∃ (i p : Nat), iv = .int .i64 (i : Int) ∧ i ≤ xs.length ∧ i ≤ p ∧ (0 < xs.length → p < xs.length) ∧ ReaderAt wr br (fun k => w1.heap.size ≤ k ∧ k < br) xs (p, 0) A' c' ∧ Below w.heap.size w wr) (fun iv _ => xs.length - (intOf iv).toNat)
    case atStart => exact ⟨0, 0, rfl, Nat.zero_le _, Nat.le_refl _, fun h => h, hR, hB2⟩
    case round =>
      obtain ⟨i, p, rfl, hi, hip, hp, hRc, hBr⟩ := hrel
      by_cases hlt : i < xs.length
      · have hpl := hp (by omega)
        have hiI : (i : Int) < (xs.length : Int) := by omega
        obtain ⟨n, c, e, hs, hcs⟩ := scan_two (l := xs.drop p) (fun x hx => HXB.out x (List.mem_of_mem_drop hx))
        rcases hcs with ⟨rfl, hn, hc0, hcl⟩ | ⟨he0, he1, rfl, rfl⟩
        · have kn := fun W (h : ReaderAt W br (fun k => w1.heap.size ≤ k ∧ k < br) xs (p, 0) A' c') => rmax_is br _ xs p A' c' W h n (p + c, 0) (rdNum_ok hs (by omega))
          have hf := (scan_fits (fun x hx => HXB.out x (List.mem_of_mem_drop hx)) hs).2.2.2
          rw [List.length_drop] at hcl
          have HF := Lib.hid hf
          have HN := Lib.hid hn
          have hxr := hx.hold (w' := wr) (fun p hp => hBr.cell hp)
          obtain ⟨a, rfl, hab, _⟩ := hxr.get (k := p) hpl
          have hcap : ¬ (cap = p) := by omega
          have hpc : ((p + c : Nat) : Int) = (p : Int) + (c : Int) := by omega
          have hsub := hxr.behind (j := p) (by omega) hxc
          rw [if_neg hcap] at hsub
          have HSUB := Lib.hid hsub
          have hpcI : (p : Int) < (p : Int) + (c : Int) := by omega
          have hpcL : (p : Int) + (c : Int) ≤ (xs.length : Int) := by omega
          have hcapI : (xs.length : Int) ≤ (cap : Int) := by omega
          have hfl := form_word hn
          have hcl2 : c ≤ (xs.drop p).length := by rw [List.length_drop]; omega
          have HCL := Lib.hid hcl2
          clear hf hs hsub hn hp hlt hcl2
          by_cases hE : p + c = xs.length
          · have hEI : ((p : Int) + (c : Int) == (xs.length : Int)) = true := by simp; omega
            have hD : rdDone xs (p + c, 0) = 0 := by unfold rdDone; rw [if_neg (fun h => by have := h.2; simp at this; omega)]
            have HD := Lib.hid hD
            clear hxc hE hD
            go_wp2_with (first
              | (go_at_call 28; refine (rat_is br _ xs _ A' c' _ hRc).mono ?_; rintro e w' ⟨rfl, rfl⟩)
              | (go_at_call 21; refine (kn _ hRc).mono ?_; clear kn; rintro e w3 ⟨rfl, hRc, hg3⟩; have hnw := writer_new w3)
              | (go_at_call 29; refine (rerr_is br _ xs _ A' c' _ hRc).mono ?_; rintro e w' ⟨rfl, rfl⟩)
              | (go_at_call 10; refine (num_is w3.heap.size _ ([], 0) n _ hnw HN.out).mono ?_; clear hnw; rintro e w4 ⟨rfl, ⟨F4, hW4, _⟩, hg4⟩; rw [wput_form HN.out] at hW4; have hbl3 := hRc.lt; have hRc := (hRc.grown (grown_alloc w3 _ none) (by simp) (by simp)).grown hg4 (by intro e; injection e with e; omega) (fun k hk e => by injection e with e; have := hk.2; omega))
              | (go_at_call 18; refine (out_ok _ _ _ _ hW4).mono ?_; rintro e w5 ⟨v, rfl, hown, hb5⟩; have hB5 : Below w.heap.size wr w5 := after_out hg3 hg4 hb5 hbr0 hBr.size; have hRc := hRc.below hb5 (Nat.lt_of_lt_of_le (Nat.lt_of_lt_of_le hbl3 (grown_alloc w3 _ none).size) hg4.size) (fun k hk => Nat.lt_of_lt_of_le hk.2 (Nat.le_trans (Nat.le_of_lt hbl3) (Nat.le_trans (grown_alloc w3 _ none).size hg4.size))); obtain ⟨Av, cv, rfl, hl1, hl2, hl3, hLv⟩ := Lies.own hown; clear hl3; have kS := same_back HF.out HCL.out hLv (HSUB.out.hold (fun q hq => hB5.cell hq)) (by omega) cv (cap - p))
              | (go_at_call 19; refine kS.mono ?_; clear kS; rintro e w6 ⟨rfl, hb6⟩; have hRc := hRc.grown (grown_below hb6 none) (by simp) (by simp))
              | (go_at_call 30; refine (rdone_is br _ xs _ A' c' _ hRc).mono ?_; rintro e w7 ⟨rfl, kq, rfl⟩))
            go_ret
            refine ⟨?_, below_drewN ((hBr.trans hB5).trans (hb6.mono (Nat.le_trans hBr.size hB5.size))) _⟩
            rw [HD.out]
            rfl
          · have hEI : ((p : Int) + (c : Int) == (xs.length : Int)) = false := by simp; omega
            clear hxc
            go_wp2_with (first
              | (go_at_call 28; refine (rat_is br _ xs _ A' c' _ hRc).mono ?_; rintro e w' ⟨rfl, rfl⟩)
              | (go_at_call 21; refine (kn _ hRc).mono ?_; clear kn; rintro e w3 ⟨rfl, hRc, hg3⟩; have hnw := writer_new w3)
              | (go_at_call 29; refine (rerr_is br _ xs _ A' c' _ hRc).mono ?_; rintro e w' ⟨rfl, rfl⟩)
              | (go_at_call 10; refine (num_is w3.heap.size _ ([], 0) n _ hnw HN.out).mono ?_; clear hnw; rintro e w4 ⟨rfl, ⟨F4, hW4, _⟩, hg4⟩; rw [wput_form HN.out] at hW4; have hbl3 := hRc.lt; have hRc := (hRc.grown (grown_alloc w3 _ none) (by simp) (by simp)).grown hg4 (by intro e; injection e with e; omega) (fun k hk e => by injection e with e; have := hk.2; omega))
              | (go_at_call 18; refine (out_ok _ _ _ _ hW4).mono ?_; rintro e w5 ⟨v, rfl, hown, hb5⟩; have hB5 : Below w.heap.size wr w5 := after_out hg3 hg4 hb5 hbr0 hBr.size; have hRc := hRc.below hb5 (Nat.lt_of_lt_of_le (Nat.lt_of_lt_of_le hbl3 (grown_alloc w3 _ none).size) hg4.size) (fun k hk => Nat.lt_of_lt_of_le hk.2 (Nat.le_trans (Nat.le_of_lt hbl3) (Nat.le_trans (grown_alloc w3 _ none).size hg4.size))); obtain ⟨Av, cv, rfl, hl1, hl2, hl3, hLv⟩ := Lies.own hown; clear hl3; have kS := same_back HF.out HCL.out hLv (HSUB.out.hold (fun q hq => hB5.cell hq)) (by omega) cv (cap - p))
              | (go_at_call 19; refine kS.mono ?_; clear kS; rintro e w6 ⟨rfl, hb6⟩; have hRc := hRc.grown (grown_below hb6 none) (by simp) (by simp))
              | (go_at_call 30; refine (rdone_is br _ xs _ A' c' _ hRc).mono ?_; rintro e w7 ⟨rfl, kq, rfl⟩))
            go_roundw
            case rel => exact ⟨i + 1, p + c, by go_num, by omega, by omega, fun _ => by omega, hRc, (hBr.trans hB5).trans (hb6.mono (Nat.le_trans hBr.size hB5.size))⟩
            case measure => simp [intOf]; omega
        · have kn := fun W (h : ReaderAt W br (fun k => w1.heap.size ≤ k ∧ k < br) xs (p, 0) A' c') => rmax_is br _ xs p A' c' W h 0 (p, e) (rdNum_bad hs he0 _)
          have he1I : ((e : Int) != 0) = true := by simp; omega
          have he2I : ((e : Int) == 0) = false := by simp; omega
          clear he0 hs hp hlt
          go_wp2_with (first
            | (go_at_call 28; refine (rat_is br _ xs _ A' c' _ hRc).mono ?_; rintro e w' ⟨rfl, rfl⟩)
            | (go_at_call 21; refine (kn _ hRc).mono ?_; clear kn; rintro e w3 ⟨rfl, hRc, hg3⟩)
            | (go_at_call 29; refine (rerr_is br _ xs _ A' c' _ hRc).mono ?_; rintro e w' ⟨rfl, rfl⟩))
          go_ret
          exact ⟨rfl, hBr.trans (below_of_grown hg3 hbr0 hBr.size)⟩
      · obtain rfl : i = xs.length := by omega
        have h0 : xs.length = 0 := by
          rcases Nat.eq_zero_or_pos xs.length with h | h
          · exact h
          · have := hp h; omega
        have h0I : ((xs.length : Int) == 0) = true := by rw [h0]; rfl
        clear hlt hp
        go_wp2
        go_ret
        exact ⟨rfl, hBr⟩
  · have hlI : (3000 : Int) < (xs.length : Int) := by omega
    clear hl hxb
    go_enter Try.func7, Try.ntmps7
    go_wp2_with (go_at_call 8; refine (coder_awake _).mono ?_; rintro e w1 ⟨rfl, hb1⟩)
    go_ret
    exact ⟨rfl, hb1⟩

theorem own : ownKnob Try.prog.godebug = none := by kernel_rfl
theorem laidOut : laidOutB Try.prog = true := by kernel_rfl

set_option maxRecDepth 100000 in
theorem lifted (os : Os) (started : os.Started) (H : Type) (enc : TypeId × Value → H) :
    ReturnsInHanded {} Try.checked os 7 .any (Rows.coderOneSpec.pre6 enc Try.prog Try.f7 Rows.coderOneRow.domain false) (Rows.coderOneSpec.post enc Try.prog Try.f7 false true false false) := by
  refine returnsInHanded_of_change (C := Try.checked) own started (by kernel_rfl) Try.func7
    (ChangeSpec.witness6 (enc := enc) (C := Try.checked) false ⟨#[], #[.slice none 0 0], []⟩ 8 (by kernel_rfl) (by kernel_rfl) (by kernel_rfl) (by kernel_rfl)) ?_
  intro W base args ds gs before hval0 hW hcnd _
  have hval : ∀ (j : Nat) t v, Try.f7.params[j]? = some t → args[j]? = some v → Value.okWide Try.prog W .any base t v := hval0
  have hW' := hW
  obtain ⟨p, q, hA0, hV, rfl, hfz, hnd⟩ := hW
  have hlt : ∀ x ∈ p ++ q, x.block < W.heap.size := fun x hx => hW'.lt x hx
  have hA : DataW.TrodAll enc Try.prog W 0 (fun _ => true) true Try.f7.params.toList args.toList ds p := hA0
  rw [Try.params7] at hA hval
  obtain ⟨v0, vs0, d0, ds0, p0, q0, hargs, rfl, rfl, h0, r0⟩ := trodAll_cons hA
  obtain ⟨rfl, rfl, rfl⟩ := trodAll_nil r0
  obtain rfl : args = #[v0] := by cases args; simp_all
  obtain ⟨rfl, rfl⟩ := trodVars_none hV
  obtain ⟨A0, n0, c0, rfl⟩ := okWide_slice Try.underlying34 (hval 0 34 v0 rfl rfl)
  obtain ⟨ns0, hl0, hn0, hc0, hm0, hr0, hA0⟩ := open_u8s Try.underlying34 Try.underlying5 (by kernel_rfl) h0
  subst hl0
  clear hA0 hval0
  refine (walk ns0 A0 c0 W (Lies.ofRow hr0) hn0 hc0 hm0 hA0).mono fun e W' ⟨he, hg⟩ => ?_
  subst he
  exact ⟨_, rfl, law_post laidOut (by kernel_rfl) rfl rfl Try.underlying4 rfl hW' hg⟩

theorem over : Rows.coderOneRow.holds Try.pinned (OpenSpec.ofChange Rows.coderOneSpec) :=
  OpenClaim.holds_of_wide 7 Try.f7 rfl rfl rfl rfl rfl rfl rfl ⟨rfl, rfl, rfl, rfl, rfl⟩ rfl rfl rfl rfl rfl (by kernel_rfl) Try.func7 (by kernel_rfl)
    (of_decide_eq_true (by kernel_rfl)) (by unfold Func.isWrapper; first | (rw [if_pos (by decide +kernel)]; kernel_rfl) | (rw [if_neg (by decide +kernel)]; exact ⟨rfl, rfl⟩))
    (fun os started H enc _ => lifted os started H enc)

/-- The statement. -/
theorem proved : Rows.CoderOneSaid := over
#print axioms proved

end Go.Proofs.Ytmagjfjmaojemaa.CoderOne
