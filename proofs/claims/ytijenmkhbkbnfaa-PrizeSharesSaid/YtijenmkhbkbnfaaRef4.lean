/- The reference of layer 4 (share): what weights are together; a sum shared out; two lists. By contracts. -/
import Derived.Test.YtijenmkhbkbnfaaShareC
import Derived.Test.YtijenmkhbkbnfaaNatG
import Derived.Test.YtijenmkhbkbnfaaRef2B
namespace Go.Proofs.Ytijenmkhbkbnfaa
open Go.RowKit Go.Shelf
set_option linter.unusedVariables false

theorem ref_whole_ok (ws : List Nat) (A : Option Addr) (c B : Nat) (w : World) (hr : Row w B A (u64s ws)) (hB : B ≤ w.heap.size) (h : Fits ws) :
    Calls Try.prog 40 #[.slice A ws.length c] w fun e w' => e = .returned (.tuple #[.int .u64 (tot ws : Nat), .int .i64 0]) ∧ Below w.heap.size w w' := by
  obtain ⟨h1, h2⟩ := h
  have hws : ∀ x ∈ ws, x ≤ 18446744073709551615 := fun x hx => by have := le_tot ws x hx; omega
  have k := sum_nat ws A c B w hr hB (by omega) hws
  have k2 : ∀ (v : Value) (u : World), NatV u u.heap.size v (tot ws) → Calls Try.prog 52 #[v] u fun e w' => e = .returned (.tuple #[.int .u64 (tot ws : Nat), .bool true]) ∧ Below u.heap.size u w' :=
    fun v u hv => uint_fits (tot ws) v _ u hv (Nat.le_refl _) (by omega)
  clear hws
  go_enter Try.func40, Try.ntmps40
  go_wp2_with (first
    | (go_at_call 53; refine k.mono ?_; rintro e w1 ⟨v, rfl, hv, hf, hb1⟩)
    | (go_at_call 52; refine (k2 _ _ hv).mono ?_; rintro e w2 ⟨rfl, hb2⟩))
  go_ret2
  exact ⟨rfl, Below.then hb1 hb2⟩

theorem ref_whole_not (ws : List Nat) (A : Option Addr) (c B : Nat) (w : World) (hr : Row w B A (u64s ws)) (hB : B ≤ w.heap.size) (hlen : ws.length ≤ maxLen) (hws : ∀ x ∈ ws, x ≤ 18446744073709551615) (h : ¬ Fits ws) :
    Calls Try.prog 40 #[.slice A ws.length c] w fun e w' => e = .returned (.tuple #[.int .u64 0, .int .i64 40]) ∧ Below w.heap.size w w' := by
  have hm := hlen
  unfold maxLen at hm
  by_cases h1 : ws.length ≤ 256
  · have ht : 18446744073709551615 < tot ws := by have : ¬ tot ws < 18446744073709551616 := fun h2 => h ⟨h1, h2⟩; omega
    have k := sum_nat ws A c B w hr hB (by omega) hws
    have k2 : ∀ (v : Value) (u : World), NatV u u.heap.size v (tot ws) → Calls Try.prog 52 #[v] u fun e w' => e = .returned (.tuple #[.int .u64 0, .bool false]) ∧ Below u.heap.size u w' :=
      fun v u hv => uint_big (tot ws) v _ u hv (Nat.le_refl _) ht
    clear hws h ht
    go_enter Try.func40, Try.ntmps40
    go_wp2_with (first
      | (go_at_call 53; refine k.mono ?_; rintro e w1 ⟨v, rfl, hv, hf, hb1⟩)
      | (go_at_call 52; refine (k2 _ _ hv).mono ?_; rintro e w2 ⟨rfl, hb2⟩))
    go_ret2
    exact ⟨rfl, Below.then hb1 hb2⟩
  · clear hws h
    go_enter Try.func40, Try.ntmps40
    go_wp2_with fail
    go_ret2
    exact ⟨rfl, Below.refl _ _⟩

theorem ref_split_not (T : Nat) (ws : List Nat) (A : Option Addr) (c : Nat) (w : World) (hr : Row w w.heap.size A (u64s ws)) (hlen : ws.length ≤ maxLen) (hws : ∀ x ∈ ws, x ≤ 18446744073709551615) (h : ¬ Fits ws) :
    Calls Try.prog 25 #[.int .u64 T, .slice A ws.length c] w fun e w' => e = .returned (.tuple #[.slice none 0 0, .int .u64 0, .int .i64 40]) ∧ Below w.heap.size w w' := by
  have k := ref_whole_not ws A c w.heap.size w hr (Nat.le_refl _) hlen hws h
  clear hws h
  go_enter Try.func25, Try.ntmps25
  go_wp2_with (go_at_call 40; refine k.mono ?_; rintro e w1 ⟨rfl, hb1⟩)
  refine bodyPost_ret (v := .tuple #[.slice none 0 0, .int .u64 0, .int .i64 40]) (by simp [results, Try.results25, go_sem]) rfl ⟨rfl, hb1⟩

set_option maxRecDepth 100000 in
theorem same_words_true (xs : List Nat) (A A' : Option Addr) (c c' : Nat) (w : World) (hr : Row w w.heap.size A (u64s xs)) (hr' : Row w w.heap.size A' (u64s xs)) (hlen : xs.length ≤ maxLen) :
    Calls Try.prog 14 #[.slice A xs.length c, .slice A' xs.length c'] w fun e w' => e = .returned (.bool true) ∧ Below w.heap.size w w' := by
  unfold maxLen at hlen
  go_enter Try.func14, Try.ntmps14
  go_wp2
  go_loopw [5] (fun i wr => ∃ k : Nat, k ≤ xs.length ∧ i = .int .i64 k ∧ Below w.heap.size w wr) (fun i _ => xs.length - (intOf i).toNat)
  case atStart => exact ⟨0, Nat.zero_le _, rfl, Below.refl _ _⟩
  case round =>
    obtain ⟨k, hk, rfl, hB⟩ := hrel
    by_cases hlt : k < xs.length
    · obtain ⟨a, rfl, hb, hc⟩ := (hr.below hB).get (k := k) (by rw [u64s_len]; exact hlt)
      obtain ⟨a', rfl, hb', hc'⟩ := (hr'.below hB).get (k := k) (by rw [u64s_len]; exact hlt)
      simp only [u64s, List.getElem_map] at hc hc'
      have hki : (k : Int) < (xs.length : Int) := by omega
      have hk0 : (0 : Int) ≤ (k : Int) := by omega
      go_wp2
      go_quiet (fail)
      go_wp2
      go_roundw
      case rel => exact ⟨k + 1, by omega, by go_num, below_drewN hB _⟩
      case measure => simp [intOf]; omega
    · obtain rfl : k = xs.length := by omega
      go_wp2
      go_ret
      exact ⟨rfl, hB⟩

theorem own_below {w w' : World} {base n : Nat} {e : TypeId} {v : Value} {xs : List Value} (h : w.ownsRow base e 1 v n xs) (hb : Below w.heap.size w w') : w'.ownsRow base e 1 v n xs := by
  refine h.kept (grown_of_below hb) ?_
  by_cases h0 : v.ownBlock = none
  · exact .inl h0
  · exact .inr h0

theorem ref_prt (T x W p : Nat) (v : World) (hT : T < 18446744073709551616) (hx : x ≤ W) (hW : W < 18446744073709551616) (h0 : 0 < W) (hp : Hid (prt T W x = p)) :
    Calls Try.prog 41 #[.int .u64 T, .int .u64 x, .int .u64 W] v fun e w' => e = .returned (.tuple #[.int .u64 p, .int .i64 0]) ∧ Below v.heap.size v w' := by
  have hle : p ≤ T := by rw [← hp.out]; exact prt_le hx
  have k := ref_down T x W p (T * x % W) v hT (by omega) hW (by show _ = _; rw [← hp.out]; exact (Nat.div_add_mod' _ _).symm) (Nat.mod_lt _ h0)
  rw [tx_in (by omega), te_in (by omega)] at k
  exact k

set_option maxRecDepth 100000 in
set_option maxHeartbeats 2000000 in
theorem ref_split_ok (T : Nat) (ws : List Nat) (A : Option Addr) (c : Nat) (w : World) (hT : T < 18446744073709551616) (hr : Row w w.heap.size A (u64s ws)) (h : Fits ws) :
    Calls Try.prog 25 #[.int .u64 T, .slice A ws.length c] w fun e w' => ∃ v, e = .returned (.tuple #[v, .int .u64 (T - tot (ws.map (prt T (tot ws))) : Nat), .int .i64 0]) ∧
      w'.ownsRow w.heap.size 22 1 v ws.length (u64s (ws.map (prt T (tot ws)))) ∧ Below w.heap.size w w' := by
  have h1 := h.1
  have hW := h.2
  have k := ref_whole_ok ws A c w.heap.size w hr (Nat.le_refl _) h
  have htot : ∀ k, tot ((ws.map (prt T (tot ws))).take k) ≤ T := fun k => Nat.le_trans (tot_take_le _ k) (tot_parts T ws)
  have hws : ∀ x ∈ ws, x ≤ tot ws := le_tot ws
  obtain ⟨W, hWn⟩ : ∃ W, Hid (tot ws = W) := ⟨_, rfl⟩
  rw [hWn.out] at hW htot k hws ⊢
  obtain ⟨P, hP⟩ : ∃ P, Hid (ws.map (prt T W) = P) := ⟨_, rfl⟩
  rw [hP.out] at htot ⊢
  have HW := Lib.hid hws
  have HT := Lib.hid htot
  have hPl : P.length = ws.length := by rw [← hP.out]; simp
  have HPL := Lib.hid hPl
  clear hws h htot hPl
  obtain ⟨i0, hi0, hz0, hz1, hz2⟩ := info_parts u64_info
  go_enter Try.func25, Try.ntmps25
  go_wp2_with (go_at_call 40; refine k.mono ?_; rintro e w1 ⟨rfl, hb1⟩)
  go_loopw [9, 10, 11] (fun ov lv iv wr => ∃ (vo : Value) (i lf : Nat), vo = ov ∧ i ≤ ws.length ∧ iv = .int .i64 (i : Int) ∧ lv = .int .u64 (lf : Int) ∧ Hid (lf + tot (P.take i) = T) ∧ wr.ownsRow w.heap.size 22 1 vo i (u64s (P.take i)) ∧ Below w.heap.size w wr)
    (fun _ _ iv _ => ws.length - (intOf iv).toNat)
  case atStart => exact ⟨_, 0, T, rfl, Nat.zero_le _, rfl, rfl, by show _ = _; simp [tot], World.ownsRow_nil _ _ _ _, hb1⟩
  case round =>
    obtain ⟨vo, i, lf, rfl, hi, rfl, rfl, HL, hown, hB⟩ := hrel
    by_cases hlt : i < ws.length
    · obtain ⟨a, rfl, hab, hca⟩ := (hr.below hB).get (k := i) (by rw [u64s_len]; exact hlt)
      simp only [u64s, List.getElem_map] at hca
      obtain ⟨p, hp⟩ : ∃ p, Hid (prt T W ws[i] = p) := ⟨prt T W ws[i], Lib.hid rfl⟩
      have hxW := HW.out ws[i] (List.getElem_mem hlt)
      have hPi : P[i]'(by rw [HPL.out]; exact hlt) = p := by
        rw [← hp.out]
        have h := hP.out
        subst h
        simp
      have hsucc := tot_take_succ P i (by rw [HPL.out]; exact hlt)
      rw [hPi] at hsucc
      have htk : P.take (i + 1) = P.take i ++ [p] := by rw [List.take_succ_eq_append_getElem (by rw [HPL.out]; exact hlt), hPi]
      have hbd := HT.out (i + 1)
      have hpl : p ≤ lf := by have := HL.out; omega
      have hlT : lf ≤ T := by have := HL.out; omega
      have HL2 : Hid (lf - p + tot (P.take (i + 1)) = T) := by show _ = _; have := HL.out; omega
      have hpI : (p : Int) ≤ (lf : Int) := by omega
      have hlI : (lf : Int) ≤ 18446744073709551615 := by omega
      have hiI : (i : Int) < (ws.length : Int) := by omega
      have HTK := Lib.hid htk
      clear hPi hsucc hbd htk hpl hlT
      rcases Nat.eq_zero_or_pos W with hW0 | hW0
      · have hW1 : (W : Int) ≤ 0 := by omega
        have hp0 : p = 0 := by rw [← hp.out, hW0, prt_none]
        have HP0 := Lib.hid hp0
        have hsz := hB.size
        clear hW0 hp0
        go_wp2_with (at_builtin; refine wpList_append_own _ rfl _ _ 27 rfl w.heap.size 22 i0 (.int .u64 0) 1 8 Try.underlying27 hi0 hz0 hz1 hz2 rfl (by decide) _ _ _ rfl (hown.alloc _) ⟨wr.heap.size, 0, none⟩ 1 1 [.int .u64 0] rfl rfl ?c1 ?c2 ?c3 ?c4 ?c5 ?_)
        case c1 => exact new_one _ _ _
        case c2 => intro u hu; simp at hu; subst hu; rfl
        case c3 => simp only [maxLen]; omega
        case c4 => omega
        case c5 => simp; omega
        intro v' w3 hown' hgrow _
        have hb' := app_below_nat hB (Nat.le_refl _) hsz hown hgrow
        clear hgrow hown
        go_wp2
        go_roundw
        case rel =>
          refine ⟨_, i + 1, lf, rfl, by omega, by go_num, by go_num, ?_, ?_, hb'⟩
          · have h1 := HL2.out
            rw [HP0.out] at h1
            exact h1
          · rw [HTK.out, u64s_snoc, HP0.out]
            exact hown'
        case measure => simp [intOf]; omega
      · have hW1 : (0 : Int) < (W : Int) := by omega
        have kd := fun v => ref_prt T ws[i] W p v hT hxW hW hW0 hp
        go_wp2_with (first
          | (go_at_call 41; refine (kd _).mono ?_; rintro e w2 ⟨rfl, hb2⟩; have hown2 := own_below hown hb2)
          | (at_builtin; refine wpList_append_own _ rfl _ _ 27 rfl w.heap.size 22 i0 (.int .u64 0) 1 8 Try.underlying27 hi0 hz0 hz1 hz2 rfl (by decide) _ _ _ rfl (hown2.alloc _) ⟨w2.heap.size, 0, none⟩ 1 1 [.int .u64 p] rfl rfl ?c1 ?c2 ?c3 ?c4 ?c5 ?_))
        case c1 => exact new_one _ _ _
        case c2 => intro u hu; simp at hu; subst hu; rfl
        case c3 => simp only [maxLen]; omega
        case c4 => omega
        case c5 => have := hB.size; have := hb2.size; simp; omega
        intro v' w3 hown' hgrow _
        have hb' := app_below_nat (hB.trans (hb2.mono hB.size)) (Nat.le_refl _) (Nat.le_trans hB.size hb2.size) hown2 hgrow
        clear hgrow hown hown2 kd
        go_wp2
        go_roundw
        case rel =>
          refine ⟨_, i + 1, lf - p, rfl, by omega, by go_num, by go_num, HL2, ?_, hb'⟩
          rw [HTK.out, u64s_snoc]
          exact hown'
        case measure => simp [intOf]; omega
    · obtain rfl : i = ws.length := by omega
      have hfin : T - tot P = lf := by
        have h := HL.out
        rw [← HPL.out, List.take_length] at h
        omega
      rw [← HPL.out, List.take_length, HPL.out] at hown
      have HF := Lib.hid hfin
      clear hfin hlt hi
      go_wp2
      refine bodyPost_ret (v := .tuple #[vo, .int .u64 lf, .int .i64 0]) (by simp [results, Try.results25, go_sem]) rfl ⟨_, by rw [HF.out], hown, hB⟩
end Go.Proofs.Ytijenmkhbkbnfaa
