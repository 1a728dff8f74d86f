/- Layer 20 (roll): a ring turned, by the program and by the document. By contracts. -/
import Derived.Test.YtbahcbnnogdmfaaRolA
import Derived.Test.YtbahcbnnogdmfaaPart
namespace Go.Proofs.Ytbahcbnnogdmfaa
open Go.RowKit
set_option linter.unusedVariables false
set_option linter.unusedSimpArgs false

theorem made_snoc {w1 w3 : World} {lo : Nat} {v v' : Value} {l : List BV} {b : BV} {o : Obj} (hown : w1.ownsRow lo 22 1 v l.length (bvs l)) (he : ∀ b ∈ l, w1.ownsRow lo 5 1 b.val b.bs.length (u8s b.bs)) (hb : w1.ownsRow lo 5 1 b.val b.bs.length (u8s b.bs))
    (hgrow : (w1.alloc o).grownBy w3 v.ownBlock) (hown' : w3.ownsRow lo 22 1 v' (l.length + 1) (bvs l ++ [b.val])) :
    w3.ownsRow lo 22 1 v' (l ++ [b]).length (bvs (l ++ [b])) ∧ ∀ b' ∈ l ++ [b], w3.ownsRow lo 5 1 b'.val b'.bs.length (u8s b'.bs) := by
  refine ⟨by rw [bvs_snoc, List.length_append]; exact hown', fun b' hm => ?_⟩
  have h1 : w1.ownsRow lo 5 1 b'.val b'.bs.length (u8s b'.bs) := by
    rcases List.mem_append.1 hm with h | h
    · exact he b' h
    · simp at h; subst h; exact hb
  exact own_apart (h1.alloc o) hgrow fun g hg hv => own_differ hown h1 g hv hg

section
variable {P : Program} {w : World} {ops : Array Oper} {rest : List Oper} {o : Oper} {a : Act} {Q : Exit → Act → World → Prop}
/-- The less of a number and a given one, as one value. -/
theorem min_arm (x : Operand) (k : Int) (t : TypeId) (ho : o.op = .call { callee := .builtin .min, args := #[x, .const (.int .i64 k)], argTypes := #[t, t] }) (hgd : o.guard = none) {n : Int} (hx : a.eval x = .int .i64 n)
    (h : wpList P ops Q rest (a.put o.dst (.int .i64 (min n k))) w) : wpList P ops Q (o :: rest) a w := by
  refine wpList_plain hgd fun K hK => ?_
  have e : min n k = if k < n then k else n := by split <;> omega
  rw [e] at h
  unfold Oper.wp
  simp [execOp, ho, resolve, invoke, builtin, hx, Builtin.min_, Builtin.min2, Result.andThen]
  exact hK _ _ h
end

set_option maxRecDepth 100000 in
set_option maxHeartbeats 1000000 in
theorem turn_is (l : List BV) (ms : List Nat) (A Am : Option Addr) (c cm : Nat) (w : World) (hr : Ring w A l) (hm : Row w w.heap.size Am (u8s ms)) (hs : ∀ b ∈ l, b.bs.length ≤ 1000) (hms : ms.length ≤ 1000) (hl : l.length ≤ c) (hc : c ≤ maxLen) :
    Calls Try.prog 14 #[.slice A l.length c, .slice Am ms.length cm] w fun e w' => ∃ v, e = .returned v ∧ Made w' w.heap.size v (turned (l.map BV.bs) ms) ∧ Below w.heap.size w w' := by
  have hlm : (l.length : Int) ≤ 9223372036854775807 := by unfold maxLen at hc; omega
  obtain ⟨i0, hi0, hz0, hz1, hz2⟩ := info_parts bv_info
  have k1 := clone_is ms _ Am cm w (row_lies hm) (by omega)
  obtain ⟨m, hmn⟩ : ∃ m, min l.length 7 = m := ⟨_, rfl⟩
  have hm7 : m ≤ 7 := by omega
  have hml : m ≤ l.length := by omega
  have hmI : min (l.length : Int) 7 = (m : Int) := by omega
  have hmc : m ≤ c := by omega
  have HT : Hid (turned (l.map BV.bs) ms = ms :: (l.take m).map BV.bs) := by
    show _ = _
    unfold turned
    rw [← List.map_take]
    congr 2
    by_cases h : l.length ≤ 7
    · rw [List.take_of_length_le h, List.take_of_length_le (by omega)]
    · rw [show m = 7 by omega]
  have HR := Lib.hid hr
  have HS := Lib.hid hs
  have HML := Lib.hid hml
  clear hr hm hs hmn hc
  go_enter Try.func14, Try.ntmps14
  go_wp2_with (first
    | (go_at_call 25; refine k1.mono ?_; clear k1; rintro e w1 ⟨v1, rfl, ho1, hb1⟩; obtain ⟨A1, c1, rfl, hc1, hm1, hr1⟩ := Row.of_own ho1; have HO1 := Lib.hid ho1; clear ho1 hc1 hm1 hr1)
    | ((with_reducible refine slot_is 14 rfl ?_); refine min_arm (.tmp 13) 7 _ rfl rfl rfl ?_; rw [hmI])
    | (refine part_to_arm (.tmp 11) (.tmp 14) rfl rfl Try.underlying33 bv_size rfl rfl hmc ?_))
  have hst := World.ownsRow_lit w1 #[.slice A1 ms.length c1] (base := w.heap.size) (e := 22) (size := 1) 1 hb1.size (by decide) rfl
  have hO0 := HO1.out.alloc (.cells #[.slice A1 ms.length c1] 22)
  have hB0 := hb1.alloc hb1.size (.cells #[.slice A1 ms.length c1] 22)
  clear HO1
  go_loopw [5, 17] (fun tv iv wr => ∃ (k : Nat) (vo : Value) (l' : List BV), k ≤ m ∧ iv = .int .i64 (k : Int) ∧ vo = tv ∧ Hid (l'.map BV.bs = ms :: (l.take k).map BV.bs) ∧ wr.ownsRow w.heap.size 22 1 vo l'.length (bvs l') ∧ Hid (∀ b ∈ l', wr.ownsRow w.heap.size 5 1 b.val b.bs.length (u8s b.bs)) ∧ Below w.heap.size w wr) (fun _ iv _ => m - (intOf iv).toNat)
  case atStart => exact ⟨0, _, [⟨A1, ms, c1⟩], Nat.zero_le _, rfl, rfl, Lib.hid (by simp), hst, Lib.hid (fun b hb => by simp at hb; subst hb; exact hO0), hB0⟩
  case round =>
    clear hst hO0 hB0 hb1
    obtain ⟨k, vo, l', hk, rfl, rfl, HL, hown, HE, hBr⟩ := hrel
    have hln : l'.length = k + 1 := by
      have := congrArg List.length HL.out
      have h2 := HML.out
      simp at this
      omega
    by_cases hlt : k < m
    · have hkl : k < l.length := by have := HML.out; omega
      obtain ⟨a, rfl, hab, hcell, hrow, hx⟩ := (HR.out.up hBr).at hkl
      have hbl := HS.out _ (List.getElem_mem hkl)
      have htk : (l.take (k + 1)).map BV.bs = (l.take k).map BV.bs ++ [(l[k]).bs] := by rw [List.take_succ_eq_append_getElem hkl, List.map_append]; rfl
      obtain ⟨b, hbb⟩ : ∃ b, l[k] = b := ⟨_, rfl⟩
      rw [hbb] at hcell hrow hx hbl htk
      obtain ⟨Ab, bs, cb⟩ := b
      simp only at hcell hrow hx hbl htk
      have kc := clone_is bs _ Ab cb wr (row_lies hrow) (by omega)
      have hkI : (k : Int) < (m : Int) := by omega
      have hkI2 : (k : Int) < (l.length : Int) := by omega
      have hsz := hBr.size
      have hl8 : l'.length ≤ 8 := by omega
      have HTK := Lib.hid htk
      have HLN := Lib.hid hln
      clear htk hln hbb hx hrow hab
      go_wp2_with (first
        | (go_at_call 25; refine kc.mono ?_; clear kc; rintro e w2 ⟨v2, rfl, ho2, hb2⟩; obtain ⟨A2, c2, rfl, -, -, -⟩ := Row.of_own ho2; have hown2 := own_kept hown hb2; have ho3 := own_base ho2 hsz; have hB2 : Below w.heap.size w w2 := hBr.trans (hb2.mono hsz); have hsz2 := hB2.size; have HE2 := Lib.hid (fun b (hm : b ∈ l') => own_kept (HE.out b hm) hb2))
        | (at_builtin; refine wpList_append_own _ rfl _ _ 33 rfl w.heap.size 22 i0 (.slice none 0 0) 1 24 Try.underlying33 hi0 hz0 hz1 hz2 rfl (by decide) _ _ _ rfl (hown2.alloc _) ⟨w2.heap.size, 0, none⟩ 1 1 [.slice A2 bs.length c2] rfl rfl ?c1 ?c2 ?c3 ?c4 ?c5 ?_))
      case c1 => exact new_first _ _ _
      case c2 => intro u hu; simp at hu; subst hu; rfl
      case c3 => simp only [maxLen]; omega
      case c4 => omega
      case c5 => simp; omega
      intro v' w3 hown' hgrow _
      have hb' := app_below hB2 hsz2 hown2 hgrow
      have hmk := made_snoc (b := ⟨A2, bs, c2⟩) hown2 HE2.out ho3 hgrow hown'
      have HMK := Lib.hid hmk
      clear hgrow hown hown2 ho2 ho3 hmk
      go_wp2
      go_roundw
      case rel =>
        refine ⟨k + 1, _, l' ++ [⟨A2, bs, c2⟩], by omega, by go_num, rfl, ?_, HMK.out.1, Lib.hid HMK.out.2, hb'⟩
        show _ = _
        rw [List.map_append, HL.out, HTK.out]
        rfl
      case measure => simp [intOf]; omega
    · obtain rfl : k = m := by omega
      have HLN := Lib.hid hln
      clear hln
      go_wp2
      refine bodyPost_ret (v := vo) (by simp [results, Try.results14, go_sem]) rfl ⟨_, rfl, ?_, hBr⟩
      rw [HT.out]
      exact ⟨l', HL.out, hown, HE.out⟩

set_option maxRecDepth 100000 in
set_option maxHeartbeats 1000000 in
theorem rturn_is (l : List BV) (ms : List Nat) (A Am : Option Addr) (c cm : Nat) (w : World) (hr : Ring w A l) (hl : l.length ≤ c) (hc : c ≤ maxLen) :
    Calls Try.prog 15 #[.slice A l.length c, .slice Am ms.length cm] w fun e w' => ∃ v, e = .returned v ∧ w'.ownsRow w.heap.size 22 1 v (⟨Am, ms, cm⟩ :: l.take 7 : List BV).length (bvs (⟨Am, ms, cm⟩ :: l.take 7)) ∧ Below w.heap.size w w' := by
  have hlm : (l.length : Int) ≤ 9223372036854775807 := by unfold maxLen at hc; omega
  obtain ⟨i0, hi0, hz0, hz1, hz2⟩ := info_parts bv_info
  have hst := World.ownsRow_nil w w.heap.size 22 1
  have HR := Lib.hid hr
  clear hr hc hl
  go_enter Try.func15, Try.ntmps15
  go_wp2_with (at_builtin; refine wpList_append_own _ rfl _ _ 33 rfl w.heap.size 22 i0 (.slice none 0 0) 1 24 Try.underlying33 hi0 hz0 hz1 hz2 rfl (by decide) _ _ _ rfl (hst.alloc _) ⟨w.heap.size, 0, none⟩ 1 1 [.slice Am ms.length cm] rfl rfl ?c1 ?c2 ?c3 ?c4 ?c5 ?_)
  case c1 => exact new_first _ _ _
  case c2 => intro u hu; simp at hu; subst hu; rfl
  case c3 => simp only [maxLen]; omega
  case c4 => omega
  case c5 => simp
  intro v0 w0 hown0 hgrow0 _
  have hB0 := app_below (Below.refl w.heap.size w) (Nat.le_refl _) hst hgrow0
  clear hgrow0 hst
  go_wp2
  go_loopw [5, 6] (fun tv iv wr => ∃ (k : Nat) (vo : Value), k ≤ 7 ∧ k ≤ l.length ∧ iv = .int .i64 (k : Int) ∧ vo = tv ∧ wr.ownsRow w.heap.size 22 1 vo (k + 1) (bvs (⟨Am, ms, cm⟩ :: l.take k)) ∧ Below w.heap.size w wr) (fun _ iv _ => 7 - (intOf iv).toNat)
  case atStart => exact ⟨0, _, Nat.zero_le _, Nat.zero_le _, rfl, rfl, hown0, hB0⟩
  case round =>
    clear hown0 hB0
    obtain ⟨k, vo, hk7, hkl, rfl, rfl, hown, hBr⟩ := hrel
    by_cases hlt : k < 7 ∧ k < l.length
    · obtain ⟨a, rfl, hab, hcell, hrow, hx⟩ := (HR.out.up hBr).at hlt.2
      have htk : (⟨Am, ms, cm⟩ :: l.take (k + 1) : List BV) = (⟨Am, ms, cm⟩ :: l.take k) ++ [l[k]'hlt.2] := by rw [List.take_succ_eq_append_getElem hlt.2]; rfl
      obtain ⟨b, hbb⟩ : ∃ b, l[k]'hlt.2 = b := ⟨_, rfl⟩
      rw [hbb] at hcell hrow hx htk
      obtain ⟨Ab, bs, cb⟩ := b
      simp only at hcell hrow hx
      have hkI : (k : Int) < (l.length : Int) := by omega
      have hD1 : decide ((k : Int) < 7) = true := decide_eq_true (by omega)
      have hk6 : k ≤ 6 := by omega
      have hsz := hBr.size
      have HTK := Lib.hid htk
      clear htk hbb hx hrow hab hlt hk7 hkl
      go_wp2_with (at_builtin; refine wpList_append_own _ rfl _ _ 33 rfl w.heap.size 22 i0 (.slice none 0 0) 1 24 Try.underlying33 hi0 hz0 hz1 hz2 rfl (by decide) _ _ _ rfl (hown.alloc _) ⟨wr.heap.size, 0, none⟩ 1 1 [.slice Ab bs.length cb] rfl rfl ?c1 ?c2 ?c3 ?c4 ?c5 ?_)
      case c1 => exact new_first _ _ _
      case c2 => intro u hu; simp at hu; subst hu; rfl
      case c3 => simp only [maxLen]; omega
      case c4 => omega
      case c5 => simp; omega
      intro v' w3 hown' hgrow _
      have hb' := app_below hBr hsz hown hgrow
      clear hgrow hown
      have HO := Lib.hid hown'
      clear hown'
      go_wp2
      go_roundw
      case rel =>
        refine ⟨k + 1, _, by omega, by omega, by go_num, rfl, ?_, hb'⟩
        rw [HTK.out, bvs_snoc]
        exact HO.out
      case measure => simp [intOf]; omega
    · have hend : Hid ((⟨Am, ms, cm⟩ :: l.take k : List BV) = ⟨Am, ms, cm⟩ :: l.take 7 ∧ k + 1 = (l.take 7).length + 1) := by
        refine Lib.hid ?_
        by_cases h7 : k < 7
        · have : k = l.length := by omega
          rw [List.take_of_length_le (by omega), List.take_of_length_le (by omega)]
          exact ⟨rfl, by simp; omega⟩
        · obtain rfl : k = 7 := by omega
          exact ⟨rfl, by simp; omega⟩
      by_cases hkl2 : k < l.length
      · have hkI : (k : Int) < (l.length : Int) := by omega
        have hD1 : decide ((k : Int) < 7) = false := decide_eq_false (by omega)
        have HO := Lib.hid hown
        clear hown hlt
        go_wp2
        refine bodyPost_ret (v := vo) (by simp [results, Try.results15, go_sem]) rfl ⟨_, rfl, ?_, hBr⟩
        rw [← hend.out.1, ← hend.out.2]
        exact HO.out
      · obtain rfl : k = l.length := by omega
        have HO := Lib.hid hown
        clear hown hlt
        go_wp2
        refine bodyPost_ret (v := vo) (by simp [results, Try.results15, go_sem]) rfl ⟨_, rfl, ?_, hBr⟩
        rw [← hend.out.1, ← hend.out.2]
        exact HO.out
end Go.Proofs.Ytbahcbnnogdmfaa
