/- ShareWhole: for every sum and every list of weights the law of layer 4 that parts and what is left are together the sum returns true, and leaves the list as it was. No condition. -/
import Derived.Test.YtcmfoioljnkcbaaRows
import Derived.Test.YtcmfoioljnkcbaaLaw
import Derived.Test.YtcmfoioljnkcbaaAwake4
namespace Go.Proofs.Ytcmfoioljnkcbaa.ShareWhole
open Go.ChangeShapes Go.WideShapes Go.ChangeAt Go.RowKit
set_option linter.unusedVariables false


theorem u64s_at {l : List Nat} {k x : Nat} (h : l[k]? = some x) : (u64s l)[k]? = some (.int .u64 (x : Int)) := by unfold u64s; rw [List.getElem?_map, h]; rfl
theorem row_at {w : World} {B : Nat} {a : Addr} {xs : List Value} {k : Nat} {v : Value} (h : Row w B (some a) xs) (hk : xs[k]? = some v) : w.cell? (a.add k) = some v := by
  obtain ⟨a', e, _, hc⟩ := h k v hk
  cases e
  exact hc
theorem nz_take_succ (l : List Nat) (k : Nat) (h : k < l.length) : nz (l.take (k + 1)) = nz (l.take k) + if 0 < l[k] then 1 else 0 := by
  rw [List.take_succ_eq_append_getElem h]
  unfold nz
  rw [List.filter_append, List.length_append]
  by_cases hx : 0 < l[k]
  · simp [hx]
  · simp [hx]
theorem nz_le (l : List Nat) : nz l ≤ l.length := List.length_filter_le _ _
theorem nz_none : ∀ l : List Nat, nz l = 0 → tot l = 0
  | [], _ => rfl
  | x :: l, h => by
    rw [nz_cons] at h
    show x + tot l = 0
    by_cases hx : 0 < x
    · rw [if_pos hx] at h; omega
    · rw [if_neg hx] at h; have := nz_none l (by omega); omega
theorem nz_some : ∀ l : List Nat, 0 < nz l → 0 < tot l
  | [], h => by simp [nz] at h
  | x :: l, h => by
    rw [nz_cons] at h
    show 0 < x + tot l
    by_cases hx : 0 < x
    · omega
    · rw [if_neg hx] at h; have := nz_some l (by omega); omega
theorem prt_mono (T W : Nat) {a b : Nat} (h : a ≤ b) : prt T W a ≤ prt T W b := Nat.div_le_div_right (Nat.mul_le_mul_left _ h)
theorem none_left (T : Nat) (ns : List Nat) (h : nz ns = 0) : T - tot (ns.map (prt T (tot ns))) = T := by
  rw [nz_none ns h]
  have : ∀ l : List Nat, tot (l.map (prt T 0)) = 0 := by
    intro l
    induction l with
    | nil => rfl
    | cons x l ih => show prt T 0 x + tot (l.map (prt T 0)) = 0; rw [ih, prt_none]
  rw [this]; rfl

set_option maxRecDepth 100000 in
set_option maxHeartbeats 4000000 in
theorem walk (T : Nat) (ns : List Nat) (A : Option Addr) (c : Nat) (w : World) (hT : T < 18446744073709551616) (hn : ∀ x ∈ ns, x ≤ 18446744073709551615) (hc : ns.length ≤ c) (hm : c ≤ maxLen) (hr : Row w w.heap.size A (u64s ns)) :
    Calls Try.prog 6 #[.int .u64 T, .slice A ns.length c] w fun e w' => e = .returned (.bool true) ∧ Below w.heap.size w w' := by
  have hl := Nat.le_trans hc hm
  have hl' := hl
  unfold maxLen at hl'
  by_cases h400 : 100 < ns.length
  · have HN := Lib.hid hn
    clear hn
    go_enter Try.func6, Try.ntmps6
    go_wp2_with (go_at_call 8; refine (share_awake _).mono ?_; rintro e w1 ⟨rfl, hb1⟩)
    go_ret
    exact ⟨rfl, hb1⟩
  · by_cases hf : Fits ns
    · have k3 : ∀ v, Below w.heap.size w v → Calls Try.prog 11 #[.int .u64 T, .slice A ns.length c] v fun e w' => ∃ A' c', e = .returned (.tuple #[.slice A' ns.length c', .int .u64 (T - tot (ns.map (prt T (tot ns))) : Nat), .int .i64 0]) ∧ Row w' w'.heap.size A' (u64s (ns.map (prt T (tot ns)))) ∧ Below v.heap.size v w' := by
        intro v hv
        refine (share_split_ok T ns A c v hT ((hr.below hv).up hv.size) hf).mono ?_
        rintro e w' ⟨u, rfl, hown, hb⟩
        obtain ⟨A', c', rfl, _, _, hrow⟩ := Row.of_own hown
        exact ⟨A', c', rfl, hrow, hb⟩
      have hW := hf.2
      have hsplit : ∀ k, tot ((ns.map (prt T (tot ns))).take k) ≤ T := fun k => Nat.le_trans (tot_take_le _ k) (tot_parts T ns)
      have hrest : nz ns = 0 → T - tot (ns.map (prt T (tot ns))) = T := none_left T ns
      have hrest2 : 0 < nz ns → T - tot (ns.map (prt T (tot ns))) < nz ns := fun h => rest_lt T ns (nz_some ns h)
      obtain ⟨V, hV⟩ : ∃ V, Hid (tot ns = V) := ⟨_, rfl⟩
      rw [hV.out] at k3 hsplit hrest hrest2
      have hLi : ∀ i (hi : i < ns.length), (ns.map (prt T V))[i]? = some (prt T V ns[i]) := fun i hi => by simp [hi]
      obtain ⟨L, hL⟩ : ∃ L, Hid (ns.map (prt T V) = L) := ⟨_, rfl⟩
      have hLl : L.length = ns.length := by rw [← hL.out]; simp
      rw [hL.out] at k3 hsplit hrest hrest2 hLi
      have HLL := Lib.hid hLl
      have HLI := Lib.hid hLi
      have HSP := Lib.hid hsplit
      have HR1 := Lib.hid hrest
      have HR2 := Lib.hid hrest2
      have HN := Lib.hid hn
      clear hn hf hLl hLi hsplit hrest hrest2
      go_enter Try.func6, Try.ntmps6
      go_wp2_with (first
        | (go_at_call 8; refine (share_awake _).mono ?_; rintro e w1 ⟨rfl, hb1⟩)
        | (go_at_call 11; refine (k3 _ hb1).mono ?_; clear k3; rintro e w3 ⟨A1, c1, rfl, hr1, hb2⟩; replace hb1 := Below.then hb1 hb2; clear hb2))
      go_loopw [43, 8, 9] (fun iv lv sv wr => ∃ i : Nat, i ≤ ns.length ∧ iv = .int .i64 (i : Int) ∧ lv = .int .u64 ((T - tot (L.take i) : Nat) : Int) ∧ sv = .int .i64 (nz (ns.take i) : Nat) ∧ Below w3.heap.size w3 wr)
        (fun iv _ _ _ => ns.length - (intOf iv).toNat)
      case atStart => exact ⟨0, Nat.zero_le _, rfl, by simp [tot], by simp [nz], Below.refl _ _⟩
      case round =>
        obtain ⟨i, hi, rfl, rfl, rfl, hB⟩ := hrel
        by_cases hlt : i < ns.length
        · obtain ⟨aw, rfl, _, _⟩ := hr.get (k := i) (by rw [u64s_len]; exact hlt)
          obtain ⟨al, rfl, _, _⟩ := hr1.get (k := i) (by rw [u64s_len, HLL.out]; exact hlt)
          have hqi : ns[i]? = some ns[i] := List.getElem?_eq_getElem hlt
          have hpi := HLI.out i hlt
          have hnz := nz_take_succ ns i hlt
          have hnl := nz_le (ns.take i)
          rw [List.length_take] at hnl
          have htk := tot_take_succ L i (by rw [HLL.out]; exact hlt)
          have hLp : L[i]'(by rw [HLL.out]; exact hlt) = prt T V ns[i] := by
            have := hpi
            rw [List.getElem?_eq_getElem (by rw [HLL.out]; exact hlt)] at this
            exact Option.some.inj this
          rw [hLp] at htk
          have hsp := HSP.out (i + 1)
          have hmo : ∀ j (hj : j < ns.length), ns[i] < ns[j] → prt T V ns[i] ≤ prt T V ns[j] := fun j hj h => prt_mono T V (Nat.le_of_lt h)
          have hp0 : ns[i] = 0 → prt T V ns[i] = 0 := fun h => by rw [h]; simp [prt]
          have hBw := hb1.trans (hB.mono hb1.size)
          have hci := row_at (hr.below hBw) (u64s_at hqi)
          have hcl := row_at (hr1.below hB) (u64s_at hpi)
          obtain ⟨p, hp⟩ : ∃ p, Hid (prt T V ns[i] = p) := ⟨prt T V ns[i], Lib.hid rfl⟩
          rw [hp.out] at hpi htk hmo hp0 hcl
          obtain ⟨q, hq⟩ : ∃ q, Hid (ns[i] = q) := ⟨ns[i], Lib.hid rfl⟩
          rw [hq.out] at hqi hnz hmo hp0 hci
          obtain ⟨s, hs⟩ : ∃ s, Hid (nz (ns.take i) = s) := ⟨_, rfl⟩
          rw [hs.out] at hnz hnl ⊢
          have hlf : T - tot (L.take i) - p = T - tot (L.take (i + 1)) := by omega
          obtain ⟨lf, hlfn⟩ : ∃ lf, Hid (T - tot (L.take i) = lf) := ⟨_, rfl⟩
          have hpl : p ≤ lf := by rw [← hlfn.out]; omega
          have hlT : lf ≤ T := by rw [← hlfn.out]; omega
          rw [hlfn.out] at hlf ⊢
          have hplI : (p : Int) ≤ (lf : Int) := by omega
          have hlM : (lf : Int) ≤ 18446744073709551615 := by omega
          have hiI : (i : Int) < (ns.length : Int) := by omega
          have hi0 : (0 : Int) ≤ (i : Int) := by omega
          have hsI : (s : Int) ≤ 100 := by omega
          have HLF := Lib.hid hlf
          have HMO := Lib.hid hmo
          have HQI := Lib.hid hqi
          clear hlf hmo htk hLp hsp hpl hlT hpi hnl
          rcases Nat.eq_zero_or_pos q with hq0 | hq0
          · have e1 : ((q : Int) == 0) = true := by simp; omega
            have e2 : ((p : Int) != 0) = false := by have := hp0 hq0; simp; omega
            have e3 : (q : Int) ≤ 0 := by omega
            have e4 : ((p : Int) == 0) = true := by have := hp0 hq0; simp; omega
            rw [if_neg (by omega)] at hnz
            have HNZ := Lib.hid hnz
            clear hnz hp0 hq0
            go_wp2
            go_loopw [74] (fun jv wq => ∃ j : Nat, j ≤ ns.length ∧ jv = .int .i64 (j : Int) ∧ Below w3.heap.size w3 wq) (fun jv _ => ns.length - (intOf jv).toNat)
            case atStart => exact ⟨0, Nat.zero_le _, rfl, hB⟩
            case round =>
              obtain ⟨j, hj, rfl, hBj⟩ := hrel
              clear hci hcl hB
              by_cases hjt : j < ns.length
              · have hBwj := hb1.trans (hBj.mono hb1.size)
                have hci := row_at (hr.below hBwj) (u64s_at hqi)
                have hcj := row_at (hr.below hBwj) (u64s_at (List.getElem?_eq_getElem hjt))
                have hcm := row_at (hr1.below hBj) (u64s_at (HLI.out j hjt))
                have hmono := HMO.out j hjt
                obtain ⟨pj, hpj⟩ : ∃ pj, Hid (prt T V ns[j] = pj) := ⟨prt T V ns[j], Lib.hid rfl⟩
                rw [hpj.out] at hcm hmono
                obtain ⟨qj, hqj⟩ : ∃ qj, Hid (ns[j] = qj) := ⟨ns[j], Lib.hid rfl⟩
                rw [hqj.out] at hcj hmono
                have hjI : (j : Int) < (ns.length : Int) := by omega
                have hj0 : (0 : Int) ≤ (j : Int) := by omega
                by_cases hqq : q < qj
                · have hpp := hmono hqq
                  have g1 : decide (q < qj) = true := by simp; omega
                  have g2 : decide (pj < p) = false := by simp; omega
                  clear hmono hpp hqq
                  go_wp2
                  go_quiet (fail)
                  go_wp2
                  go_roundw
                  case rel => exact ⟨j + 1, by omega, by go_num, below_drewN hBj _⟩
                  case measure => simp [intOf]; omega
                · have g1 : decide (q < qj) = false := by simp; omega
                  clear hmono hqq
                  go_wp2
                  go_quiet (fail)
                  go_wp2
                  go_roundw
                  case rel => exact ⟨j + 1, by omega, by go_num, below_drewN hBj _⟩
                  case measure => simp [intOf]; omega
              · obtain rfl : j = ns.length := by omega
                clear hjt hj
                go_wp2
                go_roundw
                case rel => exact ⟨i + 1, by omega, by go_num, by rw [← HLF.out]; go_num, by rw [HNZ.out]; rfl, hBj⟩
                case measure => simp [intOf]; omega
          · have e1 : ((q : Int) == 0) = false := by simp; omega
            have e3 : (0 : Int) < (q : Int) := by omega
            rw [if_pos hq0] at hnz
            have HNZ := Lib.hid hnz
            clear hnz hp0 hq0
            go_wp2
            go_loopw [74] (fun jv wq => ∃ j : Nat, j ≤ ns.length ∧ jv = .int .i64 (j : Int) ∧ Below w3.heap.size w3 wq) (fun jv _ => ns.length - (intOf jv).toNat)
            case atStart => exact ⟨0, Nat.zero_le _, rfl, hB⟩
            case round =>
              obtain ⟨j, hj, rfl, hBj⟩ := hrel
              clear hci hcl hB
              by_cases hjt : j < ns.length
              · have hBwj := hb1.trans (hBj.mono hb1.size)
                have hci := row_at (hr.below hBwj) (u64s_at hqi)
                have hcj := row_at (hr.below hBwj) (u64s_at (List.getElem?_eq_getElem hjt))
                have hcm := row_at (hr1.below hBj) (u64s_at (HLI.out j hjt))
                have hmono := HMO.out j hjt
                obtain ⟨pj, hpj⟩ : ∃ pj, Hid (prt T V ns[j] = pj) := ⟨prt T V ns[j], Lib.hid rfl⟩
                rw [hpj.out] at hcm hmono
                obtain ⟨qj, hqj⟩ : ∃ qj, Hid (ns[j] = qj) := ⟨ns[j], Lib.hid rfl⟩
                rw [hqj.out] at hcj hmono
                have hjI : (j : Int) < (ns.length : Int) := by omega
                have hj0 : (0 : Int) ≤ (j : Int) := by omega
                by_cases hqq : q < qj
                · have hpp := hmono hqq
                  have g1 : decide (q < qj) = true := by simp; omega
                  have g2 : decide (pj < p) = false := by simp; omega
                  clear hmono hpp hqq
                  go_wp2
                  go_quiet (fail)
                  go_wp2
                  go_roundw
                  case rel => exact ⟨j + 1, by omega, by go_num, below_drewN hBj _⟩
                  case measure => simp [intOf]; omega
                · have g1 : decide (q < qj) = false := by simp; omega
                  clear hmono hqq
                  go_wp2
                  go_quiet (fail)
                  go_wp2
                  go_roundw
                  case rel => exact ⟨j + 1, by omega, by go_num, below_drewN hBj _⟩
                  case measure => simp [intOf]; omega
              · obtain rfl : j = ns.length := by omega
                clear hjt hj
                go_wp2
                go_roundw
                case rel => exact ⟨i + 1, by omega, by go_num, by rw [← HLF.out]; go_num, by rw [HNZ.out]; go_num, hBj⟩
                case measure => simp [intOf]; omega
        · obtain rfl : i = ns.length := by omega
          have h1 := HR1.out
          have h2 := HR2.out
          rw [List.take_length, ← HLL.out, List.take_length]
          obtain ⟨s, hs⟩ : ∃ s, Hid (nz ns = s) := ⟨_, rfl⟩
          have hsl := nz_le ns
          obtain ⟨r, hrn⟩ : ∃ r, Hid (T - tot L = r) := ⟨_, rfl⟩
          rw [hs.out, hrn.out] at h1 h2
          rw [hs.out] at hsl ⊢
          rw [hrn.out]
          have hsI : (s : Int) ≤ 100 := by omega
          clear hlt hi hsl
          rcases Nat.eq_zero_or_pos s with h | h
          · have e1 : ((s : Int) == 0) = true := by simp; omega
            have e2 : ((r : Int) == (T : Int)) = true := by have := h1 h; simp; omega
            clear h1 h2 h
            go_wp2
            go_ret
            exact ⟨by simp, hb1.trans (hB.mono hb1.size)⟩
          · have e1 : ((s : Int) == 0) = false := by simp; omega
            have e2 : (0 : Int) < (s : Int) := by omega
            have e3 : (r : Int) < (s : Int) := by have := h2 h; omega
            clear h1 h2 h
            go_wp2
            go_ret
            exact ⟨by simp, hb1.trans (hB.mono hb1.size)⟩
    · have k3 : ∀ v, Below w.heap.size w v → Calls Try.prog 11 #[.int .u64 T, .slice A ns.length c] v fun e w' => e = .returned (.tuple #[.slice none 0 0, .int .u64 0, .int .i64 40]) ∧ Below v.heap.size v w' :=
        fun v hv => share_split_not T ns A c v ((hr.below hv).up hv.size) hl hn hf
      have HN := Lib.hid hn
      have HF := Lib.hid hf
      clear hn hf
      go_enter Try.func6, Try.ntmps6
      go_wp2_with (first
        | (go_at_call 8; refine (share_awake _).mono ?_; rintro e w1 ⟨rfl, hb1⟩)
        | (go_at_call 11; refine (k3 _ hb1).mono ?_; clear k3; rintro e w3 ⟨rfl, hb2⟩; replace hb1 := Below.then hb1 hb2; clear hb2))
      go_ret
      exact ⟨rfl, hb1⟩

theorem own : ownKnob Try.prog.godebug = none := by kernel_rfl
theorem laidOut : laidOutB Try.prog = true := by kernel_rfl

set_option maxRecDepth 100000 in
theorem lifted (os : Os) (started : os.Started) (H : Type) (enc : TypeId × Value → H) :
    ReturnsInHanded {} Try.checked os 6 .any (Rows.shareWholeSpec.pre6 enc Try.prog Try.f6 Rows.shareWholeRow.domain false) (Rows.shareWholeSpec.post enc Try.prog Try.f6 false true false false) := by
  refine returnsInHanded_of_change (C := Try.checked) own started (by kernel_rfl) Try.func6
    (ChangeSpec.witness6 (enc := enc) (C := Try.checked) false ⟨#[], #[.int .u64 0, .slice none 0 0], []⟩ 8 (by kernel_rfl) (by kernel_rfl) (by kernel_rfl) (by kernel_rfl)) ?_
  intro W base args ds gs before hval0 hW hcnd _
  have hval : ∀ (j : Nat) t v, Try.f6.params[j]? = some t → args[j]? = some v → Value.okWide Try.prog W .any base t v := hval0
  have hW' := hW
  obtain ⟨p, q, hA0, hV, rfl, hfz, hnd⟩ := hW
  have hlt : ∀ x ∈ p ++ q, x.block < W.heap.size := fun x hx => hW'.lt x hx
  have hA : DataW.TrodAll enc Try.prog W 0 (fun _ => true) true Try.f6.params.toList args.toList ds p := hA0
  rw [Try.params6] at hA hval
  obtain ⟨v0, vs0, d0, ds0, p0, q0, hargs, rfl, rfl, h0, r0⟩ := trodAll_cons hA
  obtain ⟨v1, vs1, d1, ds1, p1, q1, rfl, rfl, rfl, h1, r1⟩ := trodAll_cons r0
  obtain ⟨rfl, rfl, rfl⟩ := trodAll_nil r1
  obtain rfl : args = #[v0, v1] := by cases args; simp_all
  obtain ⟨rfl, rfl⟩ := trodVars_none hV
  obtain ⟨a0, rfl, rfl, rfl, w0⟩ := open_int Try.underlying22 (hval 0 22 v0 rfl rfl) h0
  have b0 := u64_fits w0
  obtain ⟨n0, rfl⟩ := Int.eq_ofNat_of_zero_le b0.1
  obtain ⟨A1, n1, c1, rfl⟩ := okWide_slice Try.underlying23 (hval 1 23 v1 rfl rfl)
  obtain ⟨ns1, hl1, hn1, hc1, hm1, hr1⟩ := open_u64s Try.underlying23 Try.underlying22 (by kernel_rfl) h1
  subst hl1
  clear hA0 hval0
  refine (walk n0 ns1 A1 c1 W (by have := b0.2; omega) hn1 hc1 hm1 hr1).mono fun e W' ⟨he, hg⟩ => ?_
  subst he
  exact ⟨_, rfl, law_post laidOut (by kernel_rfl) rfl rfl Try.underlying4 rfl hW' hg⟩

theorem over : Rows.shareWholeRow.holds Try.pinned (OpenSpec.ofChange Rows.shareWholeSpec) :=
  OpenClaim.holds_of_wide 6 Try.f6 rfl rfl rfl rfl rfl rfl rfl ⟨rfl, rfl, rfl, rfl, rfl⟩ rfl rfl rfl rfl rfl (by kernel_rfl) Try.func6 (by kernel_rfl)
    (of_decide_eq_true (by kernel_rfl)) (by unfold Func.isWrapper; first | (rw [if_pos (by decide +kernel)]; kernel_rfl) | (rw [if_neg (by decide +kernel)]; exact ⟨rfl, rfl⟩))
    (fun os started H enc _ => lifted os started H enc)

/-- The statement. -/
theorem proved : Rows.ShareWholeSaid := over
#print axioms proved

end Go.Proofs.Ytcmfoioljnkcbaa.ShareWhole
