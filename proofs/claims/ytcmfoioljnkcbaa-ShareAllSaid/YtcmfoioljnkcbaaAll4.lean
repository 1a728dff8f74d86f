/- ShareAll: for every sum and every list of weights the law of layer 4 that without a rest all of the sum is given returns true, and leaves the list as it was. No condition. -/
import Derived.Test.YtcmfoioljnkcbaaRows
import Derived.Test.YtcmfoioljnkcbaaLaw
import Derived.Test.YtcmfoioljnkcbaaAwake4
import Derived.Test.YtcmfoioljnkcbaaShareD
namespace Go.Proofs.Ytcmfoioljnkcbaa.ShareAll
open Go.ChangeShapes Go.WideShapes Go.ChangeAt Go.RowKit
set_option linter.unusedVariables false


theorem u64s_at {l : List Nat} {k x : Nat} (h : l[k]? = some x) : (u64s l)[k]? = some (.int .u64 (x : Int)) := by unfold u64s; rw [List.getElem?_map, h]; rfl
theorem row_at {w : World} {B : Nat} {a : Addr} {xs : List Value} {k : Nat} {v : Value} (h : Row w B (some a) xs) (hk : xs[k]? = some v) : w.cell? (a.add k) = some v := by
  obtain ⟨a', e, _, hc⟩ := h k v hk
  cases e
  exact hc
theorem spr_get (T W : Nat) (ws : List Nat) : ∀ (r i : Nat) (h : i < ws.length), ∃ n, (spr T W r ws)[i]? = some n ∧ (n = prt T W ws[i] ∨ n = prt T W ws[i] + 1 ∧ 0 < ws[i]) := by
  induction ws with
  | nil => intro r i h; simp at h
  | cons y ws ih =>
    intro r i h
    unfold spr
    cases i with
    | zero =>
      by_cases hc : 0 < y ∧ 0 < r
      · rw [if_pos hc]; exact ⟨_, rfl, .inr ⟨rfl, hc.1⟩⟩
      · rw [if_neg hc]; exact ⟨_, rfl, .inl rfl⟩
    | succ i =>
      have hi : i < ws.length := by simpa using h
      by_cases hc : 0 < y ∧ 0 < r
      · rw [if_pos hc]; exact ih (r - 1) i hi
      · rw [if_neg hc]; exact ih r i hi
theorem spr_whole (T : Nat) (ws : List Nat) (h : 0 < tot ws) : tot (spr T (tot ws) (T - tot (ws.map (prt T (tot ws)))) ws) = T := by
  have h1 := spr_tot T (tot ws) ws (T - tot (ws.map (prt T (tot ws))))
  have h2 := lft_nz ws (T - tot (ws.map (prt T (tot ws))))
  have h3 := rest_lt T ws h
  have h4 := tot_parts T ws
  omega

set_option maxRecDepth 100000 in
set_option maxHeartbeats 4000000 in
theorem walk (T : Nat) (ns : List Nat) (A : Option Addr) (c : Nat) (w : World) (hT : T < 18446744073709551616) (hn : ∀ x ∈ ns, x ≤ 18446744073709551615) (hc : ns.length ≤ c) (hm : c ≤ maxLen) (hr : Row w w.heap.size A (u64s ns)) :
    Calls Try.prog 7 #[.int .u64 T, .slice A ns.length c] w fun e w' => e = .returned (.bool true) ∧ Below w.heap.size w w' := by
  have hl := Nat.le_trans hc hm
  have hl' := hl
  unfold maxLen at hl'
  by_cases h400 : 100 < ns.length
  · have HN := Lib.hid hn
    clear hn
    go_enter Try.func7, Try.ntmps7
    go_wp2_with (go_at_call 8; refine (share_awake _).mono ?_; rintro e w1 ⟨rfl, hb1⟩)
    go_ret
    exact ⟨rfl, hb1⟩
  · by_cases hf : Fits ns
    · rcases Nat.eq_zero_or_pos (tot ns) with h0 | h0
      · have k4 : ∀ v, Below w.heap.size w v → Calls Try.prog 14 #[.int .u64 T, .slice A ns.length c] v fun e w' => e = .returned (.tuple #[.slice none 0 0, .int .i64 20]) ∧ Below v.heap.size v w' :=
          fun v hv => share_spread_zero T ns A c v ((hr.below hv).up hv.size) hf h0
        have k3 : ∀ v, Below w.heap.size w v → Calls Try.prog 11 #[.int .u64 T, .slice A ns.length c] v fun e w' => ∃ A' c', e = .returned (.tuple #[.slice A' ns.length c', .int .u64 (T - tot (ns.map (prt T (tot ns))) : Nat), .int .i64 0]) ∧ Row w' w'.heap.size A' (u64s (ns.map (prt T (tot ns)))) ∧ Below v.heap.size v w' := by
          intro v hv
          refine (share_split_ok T ns A c v hT ((hr.below hv).up hv.size) hf).mono ?_
          rintro e w' ⟨u, rfl, hown, hb⟩
          obtain ⟨A', c', rfl, _, _, hrow⟩ := Row.of_own hown
          exact ⟨A', c', rfl, hrow, hb⟩
        obtain ⟨r, hrn⟩ : ∃ r, Hid (T - tot (ns.map (prt T (tot ns))) = r) := ⟨_, rfl⟩
        rw [hrn.out] at k3
        have HN := Lib.hid hn
        have HF := Lib.hid hf
        have H0 := Lib.hid h0
        clear hn hf h0
        go_enter Try.func7, Try.ntmps7
        go_wp2_with (first
          | (go_at_call 8; refine (share_awake _).mono ?_; rintro e w1 ⟨rfl, hb1⟩)
          | (go_at_call 14; refine (k4 _ hb1).mono ?_; clear k4; rintro e w2 ⟨rfl, hb2⟩; replace hb1 := Below.then hb1 hb2; clear hb2)
          | (go_at_call 11; refine (k3 _ hb1).mono ?_; clear k3; rintro e w3 ⟨A1, c1, rfl, hr1, hb2⟩; replace hb1 := Below.then hb1 hb2; clear hb2))
        go_ret
        exact ⟨rfl, hb1⟩
      · have k4 : ∀ v, Below w.heap.size w v → Calls Try.prog 14 #[.int .u64 T, .slice A ns.length c] v fun e w' => ∃ A' c', e = .returned (.tuple #[.slice A' ns.length c', .int .i64 0]) ∧ Row w' w'.heap.size A' (u64s (spr T (tot ns) (T - tot (ns.map (prt T (tot ns)))) ns)) ∧ Below v.heap.size v w' := by
          intro v hv
          refine (share_spread_ok T ns A c v hT ((hr.below hv).up hv.size) hf h0).mono ?_
          rintro e w' ⟨u, rfl, hown, hb⟩
          obtain ⟨A', c', rfl, _, _, hrow⟩ := Row.of_own hown
          exact ⟨A', c', rfl, hrow, hb⟩
        have k3 : ∀ v, Below w.heap.size w v → Calls Try.prog 11 #[.int .u64 T, .slice A ns.length c] v fun e w' => ∃ A' c', e = .returned (.tuple #[.slice A' ns.length c', .int .u64 (T - tot (ns.map (prt T (tot ns))) : Nat), .int .i64 0]) ∧ Row w' w'.heap.size A' (u64s (ns.map (prt T (tot ns)))) ∧ Below v.heap.size v w' := by
          intro v hv
          refine (share_split_ok T ns A c v hT ((hr.below hv).up hv.size) hf).mono ?_
          rintro e w' ⟨u, rfl, hown, hb⟩
          obtain ⟨A', c', rfl, _, _, hrow⟩ := Row.of_own hown
          exact ⟨A', c', rfl, hrow, hb⟩
        have hall := spr_whole T ns h0
        have hget := spr_get T (tot ns) ns (T - tot (ns.map (prt T (tot ns))))
        have hRl := spr_len T (tot ns) ns (T - tot (ns.map (prt T (tot ns))))
        obtain ⟨V, hV⟩ : ∃ V, Hid (tot ns = V) := ⟨_, rfl⟩
        rw [hV.out] at k3 k4 hall hget hRl h0
        have hmi : ∀ i (hi : i < ns.length), (ns.map (prt T V))[i]? = some (prt T V ns[i]) := fun i hi => by simp [hi]
        obtain ⟨M, hM⟩ : ∃ M, Hid (ns.map (prt T V) = M) := ⟨_, rfl⟩
        rw [hM.out] at k3 k4 hall hget hRl hmi
        obtain ⟨r, hrn⟩ : ∃ r, Hid (T - tot M = r) := ⟨_, rfl⟩
        rw [hrn.out] at k3 k4 hall hget hRl
        obtain ⟨R, hR⟩ : ∃ R, Hid (spr T V r ns = R) := ⟨_, rfl⟩
        rw [hR.out] at k4 hall hget hRl
        have HML : Hid (M.length = ns.length) := by show _ = _; rw [← hM.out]; simp
        have HRL := Lib.hid hRl
        have HALL := Lib.hid hall
        have HGET := Lib.hid hget
        have HMI := Lib.hid hmi
        have HN := Lib.hid hn
        have HF := Lib.hid hf
        clear hn hf hall hget hRl hmi
        go_enter Try.func7, Try.ntmps7
        go_wp2_with (first
          | (go_at_call 8; refine (share_awake _).mono ?_; rintro e w1 ⟨rfl, hb1⟩)
          | (go_at_call 14; refine (k4 _ hb1).mono ?_; clear k4; rintro e w2 ⟨A2, c2, rfl, hr2, hb2⟩; replace hb1 := Below.then hb1 hb2; clear hb2)
          | (go_at_call 11; refine (k3 _ hb1).mono ?_; clear k3; rintro e w3 ⟨A1, c1, rfl, hr1, hb2⟩; replace hb1 := Below.then hb1 hb2; replace hr2 := (hr2.below hb2).up hb2.size; clear hb2))
        go_loopw [55, 10] (fun iv lv wr => ∃ i : Nat, i ≤ ns.length ∧ iv = .int .i64 (i : Int) ∧ lv = .int .u64 ((T - tot (R.take i) : Nat) : Int) ∧ Below w3.heap.size w3 wr)
          (fun iv _ _ => ns.length - (intOf iv).toNat)
        case atStart => exact ⟨0, Nat.zero_le _, rfl, by simp [tot], Below.refl _ _⟩
        case round =>
          obtain ⟨i, hi, rfl, rfl, hB⟩ := hrel
          by_cases hlt : i < ns.length
          · obtain ⟨aw, rfl, _, _⟩ := hr.get (k := i) (by rw [u64s_len]; exact hlt)
            obtain ⟨am, rfl, _, _⟩ := hr1.get (k := i) (by rw [u64s_len, HML.out]; exact hlt)
            obtain ⟨al, rfl, _, _⟩ := hr2.get (k := i) (by rw [u64s_len, HRL.out]; exact hlt)
            obtain ⟨n, hni, hnp⟩ := HGET.out i hlt
            have hRi : R[i]'(by rw [HRL.out]; exact hlt) = n := by
              have := hni
              rw [List.getElem?_eq_getElem (by rw [HRL.out]; exact hlt)] at this
              exact Option.some.inj this
            have htk := tot_take_succ R i (by rw [HRL.out]; exact hlt)
            have hle := tot_take_le R (i + 1)
            rw [HALL.out] at hle
            rw [hRi] at htk
            have hp0 : ns[i] = 0 → prt T V ns[i] = 0 := fun h => by rw [h]; simp [prt]
            have hBw := hb1.trans (hB.mono hb1.size)
            have hcw := row_at (hr.below hBw) (u64s_at (List.getElem?_eq_getElem hlt))
            have hcm := row_at (hr1.below hB) (u64s_at (HMI.out i hlt))
            have hcl := row_at (hr2.below hB) (u64s_at hni)
            obtain ⟨p, hp⟩ : ∃ p, Hid (prt T V ns[i] = p) := ⟨prt T V ns[i], Lib.hid rfl⟩
            rw [hp.out] at hcm hnp hp0
            obtain ⟨q, hq⟩ : ∃ q, Hid (ns[i] = q) := ⟨ns[i], Lib.hid rfl⟩
            rw [hq.out] at hcw hnp hp0
            have hlf : T - tot (R.take i) - n = T - tot (R.take (i + 1)) := by omega
            obtain ⟨lf, hlfn⟩ : ∃ lf, Hid (T - tot (R.take i) = lf) := ⟨_, rfl⟩
            have hnl : n ≤ lf := by rw [← hlfn.out]; omega
            have hlT : lf ≤ T := by rw [← hlfn.out]; omega
            rw [hlfn.out] at hlf ⊢
            have hnI : (n : Int) ≤ (lf : Int) := by omega
            have hlM : (lf : Int) ≤ 18446744073709551615 := by omega
            have hiI : (i : Int) < (ns.length : Int) := by omega
            have hi0 : (0 : Int) ≤ (i : Int) := by omega
            have hw1 : n = p + 1 → IntKind.u64.wrap ((p : Int) + 1) = (p : Int) + 1 := fun h => IntWalk.u64_in _ (by omega)
            have HLF := Lib.hid hlf
            clear hlf hle htk hRi hni
            rcases Nat.eq_zero_or_pos q with hq0 | hq0
            · obtain rfl : n = p := by
                rcases hnp with h | ⟨_, h⟩
                · exact h
                · omega
              have e1 : ((q : Int) == 0) = true := by simp; omega
              have e2 : ((n : Int) != 0) = false := by have := hp0 hq0; simp; omega
              have e3 : ((n : Int) == 0) = true := by have := hp0 hq0; simp; omega
              clear hp0 hnp hw1 hnl hlT hq0
              go_wp2
              go_roundw
              case rel => exact ⟨i + 1, by omega, by go_num, by rw [← HLF.out]; go_num, hB⟩
              case measure => simp [intOf]; omega
            · have e1 : ((q : Int) == 0) = false := by simp; omega
              rcases hnp with rfl | ⟨hn1, _⟩
              · clear hp0 hw1 hnl hlT hq0
                go_wp2
                go_roundw
                case rel => exact ⟨i + 1, by omega, by go_num, by rw [← HLF.out]; go_num, hB⟩
                case measure => simp [intOf]; omega
              · have e5 : ((n : Int) != (p : Int)) = true := by simp; omega
                have e6 : ((n : Int) != (p : Int) + 1) = false := by simp; omega
                have e7 := hw1 hn1
                clear hp0 hw1 hnl hlT hq0 hn1
                go_wp2
                go_roundw
                case rel => exact ⟨i + 1, by omega, by go_num, by rw [← HLF.out]; go_num, hB⟩
                case measure => simp [intOf]; omega
          · obtain rfl : i = ns.length := by omega
            have hend : T - tot (R.take ns.length) = 0 := by rw [← HRL.out, List.take_length, HALL.out]; omega
            rw [hend]
            clear hend hlt hi
            have hBw := hb1.trans (hB.mono hb1.size)
            go_wp2
            go_ret
            exact ⟨by simp, hBw⟩
    · have k4 : ∀ v, Below w.heap.size w v → Calls Try.prog 14 #[.int .u64 T, .slice A ns.length c] v fun e w' => e = .returned (.tuple #[.slice none 0 0, .int .i64 40]) ∧ Below v.heap.size v w' :=
        fun v hv => share_spread_not T ns A c v ((hr.below hv).up hv.size) hl hn hf
      have k3 : ∀ v, Below w.heap.size w v → Calls Try.prog 11 #[.int .u64 T, .slice A ns.length c] v fun e w' => e = .returned (.tuple #[.slice none 0 0, .int .u64 0, .int .i64 40]) ∧ Below v.heap.size v w' :=
        fun v hv => share_split_not T ns A c v ((hr.below hv).up hv.size) hl hn hf
      have HN := Lib.hid hn
      have HF := Lib.hid hf
      clear hn hf
      go_enter Try.func7, Try.ntmps7
      go_wp2_with (first
        | (go_at_call 8; refine (share_awake _).mono ?_; rintro e w1 ⟨rfl, hb1⟩)
        | (go_at_call 14; refine (k4 _ hb1).mono ?_; clear k4; rintro e w2 ⟨rfl, hb2⟩; replace hb1 := Below.then hb1 hb2; clear hb2)
        | (go_at_call 11; refine (k3 _ hb1).mono ?_; clear k3; rintro e w3 ⟨rfl, hb2⟩; replace hb1 := Below.then hb1 hb2; clear hb2))
      go_ret
      exact ⟨rfl, hb1⟩

theorem own : ownKnob Try.prog.godebug = none := by kernel_rfl
theorem laidOut : laidOutB Try.prog = true := by kernel_rfl

set_option maxRecDepth 100000 in
theorem lifted (os : Os) (started : os.Started) (H : Type) (enc : TypeId × Value → H) :
    ReturnsInHanded {} Try.checked os 7 .any (Rows.shareAllSpec.pre6 enc Try.prog Try.f7 Rows.shareAllRow.domain false) (Rows.shareAllSpec.post enc Try.prog Try.f7 false true false false) := by
  refine returnsInHanded_of_change (C := Try.checked) own started (by kernel_rfl) Try.func7
    (ChangeSpec.witness6 (enc := enc) (C := Try.checked) false ⟨#[], #[.int .u64 0, .slice none 0 0], []⟩ 8 (by kernel_rfl) (by kernel_rfl) (by kernel_rfl) (by kernel_rfl)) ?_
  intro W base args ds gs before hval0 hW hcnd _
  have hval : ∀ (j : Nat) t v, Try.f7.params[j]? = some t → args[j]? = some v → Value.okWide Try.prog W .any base t v := hval0
  have hW' := hW
  obtain ⟨p, q, hA0, hV, rfl, hfz, hnd⟩ := hW
  have hlt : ∀ x ∈ p ++ q, x.block < W.heap.size := fun x hx => hW'.lt x hx
  have hA : DataW.TrodAll enc Try.prog W 0 (fun _ => true) true Try.f7.params.toList args.toList ds p := hA0
  rw [Try.params7] at hA hval
  obtain ⟨v0, vs0, d0, ds0, p0, q0, hargs, rfl, rfl, h0, r0⟩ := trodAll_cons hA
  obtain ⟨v1, vs1, d1, ds1, p1, q1, rfl, rfl, rfl, h1, r1⟩ := trodAll_cons r0
  obtain ⟨rfl, rfl, rfl⟩ := trodAll_nil r1
  obtain rfl : args = #[v0, v1] := by cases args; simp_all
  obtain ⟨rfl, rfl⟩ := trodVars_none hV
  obtain ⟨a0, rfl, rfl, rfl, w0⟩ := open_int Try.underlying22 (hval 0 22 v0 rfl rfl) h0
  have b0 := u64_fits w0
  obtain ⟨n0, rfl⟩ := Int.eq_ofNat_of_zero_le b0.1
  obtain ⟨A1, n1, c1, rfl⟩ := okWide_slice Try.underlying23 (hval 1 23 v1 rfl rfl)
  obtain ⟨ns1, hl1, hn1, hc1, hm1, hr1⟩ := open_u64s Try.underlying23 Try.underlying22 (by kernel_rfl) h1
  subst hl1
  clear hA0 hval0
  refine (walk n0 ns1 A1 c1 W (by have := b0.2; omega) hn1 hc1 hm1 hr1).mono fun e W' ⟨he, hg⟩ => ?_
  subst he
  exact ⟨_, rfl, law_post laidOut (by kernel_rfl) rfl rfl Try.underlying4 rfl hW' hg⟩

theorem over : Rows.shareAllRow.holds Try.pinned (OpenSpec.ofChange Rows.shareAllSpec) :=
  OpenClaim.holds_of_wide 7 Try.f7 rfl rfl rfl rfl rfl rfl rfl ⟨rfl, rfl, rfl, rfl, rfl⟩ rfl rfl rfl rfl rfl (by kernel_rfl) Try.func7 (by kernel_rfl)
    (of_decide_eq_true (by kernel_rfl)) (by unfold Func.isWrapper; first | (rw [if_pos (by decide +kernel)]; kernel_rfl) | (rw [if_neg (by decide +kernel)]; exact ⟨rfl, rfl⟩))
    (fun os started H enc _ => lifted os started H enc)

/-- The statement. -/
theorem proved : Rows.ShareAllSaid := over
#print axioms proved

end Go.Proofs.Ytcmfoioljnkcbaa.ShareAll
