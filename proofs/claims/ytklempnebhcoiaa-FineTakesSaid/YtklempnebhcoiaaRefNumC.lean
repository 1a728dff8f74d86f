/- The reference's numbers (layer 1): a long division, what its world holds between its steps. · The reference's numbers (layer 1): a long division. By contracts. · The reference of layer 2 (ratio): a product by a number, in its parts. By contracts. -/
import Derived.Test.YtklempnebhcoiaaRefNumB
import Derived.Test.YtklempnebhcoiaaRatioB
import Derived.Laws.AppendOwnNone
import Derived.Deep.RegionWith
import Derived.Deep.CutBlock
namespace Go.Proofs.Ytklempnebhcoiaa
open Go.RowKit
set_option linter.unusedVariables false

/-- Between two steps of a division: the quotient's digits lie in block p, what is left in the cell behind it. -/
structure DivW (p : Nat) (wr : World) (qs : List Nat) (R : Nat) (A : Option Addr) (c : Nat) : Prop where
  row : ∀ k, k < qs.length → wr.cell? ⟨p, k, none⟩ = some (.int .i64 ((qs.getD k 0 : Nat) : Int))
  frz : ∀ k, wr.frozen? ⟨p, k, none⟩ = false
  size : p + 2 ≤ wr.heap.size
  cell : wr.cell? ⟨p + 1, 0, none⟩ = some (.slice A (digs R).length c)
  frz1 : wr.frozen? ⟨p + 1, 0, none⟩ = false
  nat : NatV wr wr.heap.size (.agg #[.slice A (digs R).length c]) R
  fresh : Fresh (p + 2) (.agg #[.slice A (digs R).length c])

theorem DivW.keep {p R c : Nat} {wr w' : World} {qs : List Nat} {A : Option Addr} (h : DivW p wr qs R A c) (hb : Below wr.heap.size wr w') : DivW p w' qs R A c := by
  have hp : p < wr.heap.size := by have := h.size; omega
  have hp1 : p + 1 < wr.heap.size := by have := h.size; omega
  exact ⟨fun k hk => (hb.cell (p := ⟨p, k, none⟩) hp).trans (h.row k hk), fun k => (hb.frozen (p := ⟨p, k, none⟩) hp).trans (h.frz k), Nat.le_trans h.size hb.size,
    (hb.cell (p := ⟨p + 1, 0, none⟩) hp1).trans h.cell, (hb.frozen (p := ⟨p + 1, 0, none⟩) hp1).trans h.frz1, (h.nat.below hb).up hb.size, h.fresh⟩

theorem DivW.drew {p R c : Nat} {wr : World} {qs : List Nat} {A : Option Addr} (h : DivW p wr qs R A c) : DivW p wr.drew qs R A c := ⟨h.row, h.frz, h.size, h.cell, h.frz1, h.nat, h.fresh⟩

/-- Another number is left. -/
theorem DivW.left {p R R' L c c' : Nat} {w' : World} {qs : List Nat} {A A' : Option Addr} (h : DivW p w' qs R A c) (hL : p + 2 ≤ L)
    (hv : NatV w' w'.heap.size (.agg #[.slice A' (digs R').length c']) R') (hf : Fresh L (.agg #[.slice A' (digs R').length c'])) :
    DivW p (w'.setCell ⟨p + 1, 0, none⟩ (.slice A' (digs R').length c')) qs R' A' c' := by
  refine ⟨fun k hk => ?_, fun k => ?_, ?_, World.cell?_setCell_same _ _ _ h.cell, ?_, ?_, hf.down hL⟩
  · rw [World.cell?_setCell_other]
    · exact h.row k hk
    · intro e; injection e with e1; omega
  · rw [World.frozen?_setCell]; exact h.frz k
  · have := h.size; simpa [World.setCell] using this
  · rw [World.frozen?_setCell]; exact h.frz1
  · exact (hv.setCell hf (by show p + 1 < L; omega) _).up (by simp [World.setCell])

/-- Another digit of the quotient. -/
theorem DivW.digit {p R i x c : Nat} {wr : World} {qs : List Nat} {A : Option Addr} (h : DivW p wr qs R A c) (hi : i < qs.length) :
    DivW p (wr.setCell ⟨p, i, none⟩ (.int .i64 (x : Int))) (qs.set i x) R A c := by
  refine ⟨fun k hk => ?_, fun k => ?_, ?_, ?_, ?_, ?_, h.fresh⟩
  · rw [List.length_set] at hk
    by_cases e : k = i
    · subst e
      rw [World.cell?_setCell_same _ _ _ (h.row k hk)]
      simp [hi]
    · rw [World.cell?_setCell_other]
      · rw [h.row k hk]
        simp [List.getD, Ne.symm e]
      · intro e2; injection e2 with _ e3; omega
  · rw [World.frozen?_setCell]; exact h.frz k
  · have := h.size; simpa [World.setCell] using this
  · rw [World.cell?_setCell_other]
    · exact h.cell
    · intro e; injection e with e1; omega
  · rw [World.frozen?_setCell]; exact h.frz1
  · exact (h.nat.setCell h.fresh (by show p < p + 2; omega) _).up (by simp [World.setCell])

/-- The quotient's digits, as a row. -/
theorem DivW.digits {p R c : Nat} {wr : World} {qs : List Nat} {A : Option Addr} (h : DivW p wr qs R A c) : Row wr wr.heap.size (some ⟨p, 0, none⟩) (ints qs) := by
  intro k v hv
  have hk : k < qs.length := by
    have := (List.getElem?_eq_some_iff.1 hv).1
    rwa [ints_len] at this
  refine ⟨_, rfl, by have := h.size; show p < _; omega, ?_⟩
  have e : (⟨p, 0, none⟩ : Addr).add k = ⟨p, k, none⟩ := by
    unfold Addr.add
    by_cases hz : k = 0
    · rw [if_pos hz, hz]
    · rw [if_neg hz]; simp
  rw [e, h.row k hk]
  simp [ints, hk] at hv
  rw [← hv]
  simp [hk]

/-- One step of a division, digit by digit. -/
theorem div_round {A b d j R : Nat} (h0 : 0 < b) (h : R + j * b = 10 * (A % b) + d) (hR : R < b) : (10 * A + d) / b = 10 * (A / b) + j ∧ (10 * A + d) % b = R := by
  refine div_of (?_) hR
  have e := Nat.div_add_mod A b
  have e1 : b * (10 * (A / b) + j) = 10 * (b * (A / b)) + j * b := by rw [Nat.mul_add, Nat.mul_left_comm, Nat.mul_comm b j]
  rw [e1]
  omega
theorem div_digit {A b d j R : Nat} (h0 : 0 < b) (hd : d < 10) (h : R + j * b = 10 * (A % b) + d) (hR : b ≤ R) : j + 1 ≤ 9 := by
  have hm := Nat.mod_lt A h0
  rcases Nat.lt_or_ge j 9 with k | k
  · omega
  · have := Nat.mul_le_mul_right b k
    omega
theorem div_less {b j R : Nat} (hR : b ≤ R) : R - b + (j + 1) * b = R + j * b := by rw [Nat.succ_mul]; omega
/-- A place of the quotient that no step has come to holds nought. -/
theorem div_blank {qs : List Nat} {i X : Nat} (hd : ∀ d ∈ qs, d < 10) (h : val qs = X * 10 ^ (i + 1)) : qs.getD i 0 = 0 := by
  rw [val_get qs hd, h, Nat.pow_succ, ← Nat.mul_assoc, Nat.mul_right_comm, Nat.mul_div_cancel _ (Nat.pow_pos (by omega)), Nat.mul_mod_left]
end Go.Proofs.Ytklempnebhcoiaa
namespace Go.Proofs.Ytklempnebhcoiaa
open Go.RowKit
set_option linter.unusedVariables false

theorem cmp_from (a b : Nat) (va vb : Value) (B : Nat) (w : World) (ha : NatV w B va a) (hb : NatV w B vb b) (hB : B ≤ w.heap.size) (h : b ≤ a) :
    Calls Try.prog 39 #[va, vb] w fun e w' => ∃ z : Int, 0 ≤ z ∧ e = .returned (.int .i64 z) ∧ Below w.heap.size w w' := by
  refine (cmp_any a b va vb B w ha hb hB).mono ?_
  rintro e w' ⟨rfl, hb⟩
  refine ⟨_, ?_, rfl, hb⟩
  unfold cmpZ
  rw [if_neg (by omega)]
  split <;> omega

/-- Both numbers boxed, two cells for the results: what lies there, behind all that was laid since. -/
theorem boxed4 {w wr : World} {x y z u : Value} {t : TypeId} (hb : Below (w.heap.size + 4) ((((w.alloc (.cells #[x] t)).alloc (.cells #[y] t)).alloc (.cells #[z] t)).alloc (.cells #[u] t)) wr) :
    wr.cell? ⟨w.heap.size, 0, none⟩ = some x ∧ wr.cell? ⟨w.heap.size + 1, 0, none⟩ = some y ∧ (wr.cell? ⟨w.heap.size + 1 + 1, 0, none⟩ = some z ∧ wr.frozen? ⟨w.heap.size + 1 + 1, 0, none⟩ = false) ∧
      (wr.cell? ⟨w.heap.size + 1 + 1 + 1, 0, none⟩ = some u ∧ wr.frozen? ⟨w.heap.size + 1 + 1 + 1, 0, none⟩ = false) ∧ Below w.heap.size w wr := by
  refine ⟨(hb.cell (p := ⟨w.heap.size, 0, none⟩) (by show w.heap.size < _; omega)).trans ?_, (hb.cell (p := ⟨w.heap.size + 1, 0, none⟩) (by show w.heap.size + 1 < _; omega)).trans ?_,
    ⟨(hb.cell (p := ⟨w.heap.size + 1 + 1, 0, none⟩) (by show w.heap.size + 1 + 1 < _; omega)).trans ?_, (hb.frozen (p := ⟨w.heap.size + 1 + 1, 0, none⟩) (by show w.heap.size + 1 + 1 < _; omega)).trans ?_⟩,
    ⟨(hb.cell (p := ⟨w.heap.size + 1 + 1 + 1, 0, none⟩) (by show w.heap.size + 1 + 1 + 1 < _; omega)).trans ?_, (hb.frozen (p := ⟨w.heap.size + 1 + 1 + 1, 0, none⟩) (by show w.heap.size + 1 + 1 + 1 < _; omega)).trans ?_⟩, ?_⟩
  · rw [World.cell?_alloc_past _ _ _ (by simp <;> omega), World.cell?_alloc_past _ _ _ (by simp <;> omega), World.cell?_alloc_past _ _ _ (by simp), World.cell?_alloc_at _ _ _ _ rfl]; rfl
  · rw [World.cell?_alloc_past _ _ _ (by simp <;> omega), World.cell?_alloc_past _ _ _ (by simp), World.cell?_alloc_at _ _ _ _ (by simp)]; rfl
  · rw [World.cell?_alloc_past _ _ _ (by simp), World.cell?_alloc_at _ _ _ _ (by simp)]; rfl
  · rw [World.frozen?_alloc_past _ _ _ (by simp)]; exact World.frozen?_alloc_at _ _ _ _ (by simp)
  · rw [World.cell?_alloc_at _ _ _ _ (by simp)]; rfl
  · exact World.frozen?_alloc_at _ _ _ _ (by simp)
  · exact (((((Below.refl _ _).alloc (Nat.le_refl _) _).alloc (by simp) _).alloc (by simp <;> omega) _).alloc (by simp <;> omega) _).trans (hb.mono (by omega))

theorem divW_start (W : World) (n : Nat) (t u : TypeId) :
    DivW W.heap.size ((W.alloc (.cells (madeCells #[.int .i64 0] n) t)).alloc (.cells #[.slice none 0 0] u)) (List.replicate n 0) 0 none 0 := by
  have hz : (digs 0).length = 0 := by rw [digs_zero]; rfl
  refine ⟨fun k hk => ?_, fun k => ?_, by simp, ?_, ?_, ?_, fresh_of (fun a e => by cases e) (fun _ => rfl)⟩
  · rw [List.length_replicate] at hk
    rw [World.cell?_alloc_past _ _ _ (by simp), World.cell?_alloc_at _ _ _ _ rfl, ← Array.getElem?_toList, ints_zeros]
    simp [ints, hk]
  · rw [World.frozen?_alloc_past _ _ _ (by simp)]
    exact World.frozen?_alloc_at _ _ _ _ rfl
  · rw [World.cell?_alloc_at _ _ _ _ (by simp), hz]; rfl
  · exact World.frozen?_alloc_at _ _ _ _ (by simp)
  · rw [hz]; exact NatV.zero _ _

theorem DivW.nowhere {p R c : Nat} {wr : World} {qs : List Nat} (h : DivW p wr qs R none c) : digs R = [] ∧ c = 0 := by
  refine ⟨?_, h.fresh.2 _ _ rfl⟩
  obtain ⟨A, c1, e, _, _, hr⟩ := h.nat
  injection e with e
  have e1 := congrArg (fun x : Array Value => x[0]?) e
  simp at e1
  obtain ⟨rfl, rfl⟩ := e1
  rcases List.eq_nil_or_concat (digs R) with h0 | ⟨l, x, h0⟩
  · exact h0
  · obtain ⟨a, ha, _⟩ := hr.get (k := 0) (by rw [ints_len, h0]; simp)
    cases ha
theorem DivW.source {p R c : Nat} {wr : World} {qs : List Nat} {ar : Addr} (h : DivW p wr qs R (some ar) c) : ∀ j u, (ints (digs R))[j]? = some u → wr.cell? (ar.add j) = some u := by
  obtain ⟨A, c1, e, _, _, hr⟩ := h.nat
  injection e with e
  have e1 := congrArg (fun x : Array Value => x[0]?) e
  simp at e1
  obtain ⟨rfl, rfl⟩ := e1
  intro j u hu
  obtain ⟨a, ha, _, hc⟩ := hr j u hu
  injection ha with ha
  rw [ha]
  exact hc

set_option maxRecDepth 100000 in
set_option maxHeartbeats 2000000 in
theorem div_nat (a b : Nat) (va vb : Value) (B : Nat) (w : World) (ha : NatV w B va a) (hb : NatV w B vb b) (hB : B ≤ w.heap.size) (h0 : 0 < b) (hla : (digs a).length ≤ 100000) (hlb : (digs b).length ≤ 100000) :
    Calls Try.prog 54 #[va, vb] w fun e w' => ∃ u v, e = .returned (.tuple #[u, v]) ∧ NatV w' w'.heap.size u (a / b) ∧ NatV w' w'.heap.size v (a % b) ∧ Fresh w.heap.size u ∧ Fresh w.heap.size v ∧ Below w.heap.size w w' := by
  obtain ⟨i0, hi0, hz0, hz1, hz2⟩ := info_parts int_info
  obtain ⟨A, c, rfl, hlc, hcm, hra⟩ := ha
  have hbv := hb
  obtain ⟨A', c', rfl, hlc', hcm', hrb⟩ := hb
  have hla1 : (digs a).length ≤ maxLen := by unfold maxLen; omega
  have hlb1 : (digs b).length ≤ maxLen := by unfold maxLen; omega
  have hmk : ∀ W : World, (Instr.makeSlice 71 (.int .i64 ((digs a).length : Int)) (.int .i64 ((digs a).length : Int))).run Try.prog W =
      .ok (.slice (some ⟨W.heap.size, 0, none⟩) (digs a).length (digs a).length) (W.alloc (.cells (madeCells #[.int .i64 0] (digs a).length) 3)) := by
    intro W
    have h := run_make (P := Try.prog) W 71 3 i0 (.int .i64 0) Try.underlying71 hi0 hz0 .i64 .i64 ((digs a).length : Int) ((digs a).length : Int) (by omega) (by omega) (by rw [hz2]; omega) (by omega)
    rw [hz1, show ((digs a).length : Int).toNat = (digs a).length by omega, Nat.mul_one] at h
    exact h
  go_enter Try.func54, Try.ntmps54
  go_wp2
  clear hmk
  go_loopw [8, 9] (fun iv _ wr => ∃ (k r : Nat) (qs : List Nat) (Ar : Option Addr) (cr : Nat), k ≤ (digs a).length ∧ iv = .int .i64 ((k : Int) - 1) ∧ Hid (qs.length = (digs a).length) ∧ (∀ x ∈ qs, x < 10) ∧ Hid (val qs = a / 10 ^ k / b * 10 ^ k) ∧ Hid (a / 10 ^ k % b = r) ∧
      DivW (w.heap.size + 1 + 1 + 1 + 1) wr qs r Ar cr ∧ Below (w.heap.size + 4) ((((w.alloc (.cells #[.slice A (digs a).length c] 73)).alloc (.cells #[.slice A' (digs b).length c'] 73)).alloc (.cells #[.slice none 0 0] 73)).alloc (.cells #[.slice none 0 0] 73)) wr) (fun iv _ _ => (intOf iv + 1).toNat)
  case atStart =>
    have hz : a / 10 ^ (digs a).length = 0 := Nat.div_eq_of_lt (lt_pow_digs a)
    refine ⟨(digs a).length, 0, List.replicate (digs a).length 0, none, 0, Nat.le_refl _, rfl, by show _ = _; simp, zeros_lt _, by show _ = _; rw [hz, val_zeros]; simp, by show _ = _; rw [hz]; simp, ?_, ((Below.refl _ _).alloc (by simp) _).alloc (by simp <;> omega) _⟩
    have h := divW_start ((((w.alloc (.cells #[.slice A (digs a).length c] 73)).alloc (.cells #[.slice A' (digs b).length c'] 73)).alloc (.cells #[.slice none 0 0] 73)).alloc (.cells #[.slice none 0 0] 73)) (digs a).length 3 73
    simpa using h
  case round =>
    obtain ⟨k, r, qs, Ar, cr, hk, rfl, HL, hd10, HV, HR, hD, hbw⟩ := hrel
    obtain ⟨hc1, hc2, ⟨hc3, hf3⟩, ⟨hc4, hf4⟩, hb0⟩ := boxed4 hbw
    have hs4 : w.heap.size + 4 ≤ wr.heap.size := by have := hD.size; omega
    rcases Nat.eq_zero_or_pos k with rfl | hpos
    · have hz : ((0 : Nat) : Int) - 1 = -1 := rfl
      rw [hz]
      clear hz
      have hv0 : val qs = a / b := by rw [HV.out]; simp
      have hr0 : r = a % b := by rw [← HR.out]; simp
      have HV0 := Lib.hid hv0
      have HR0 := Lib.hid hr0
      clear hv0 hr0 HV
      have hcell := hD.cell
      have hrow := hD.digits
      have hps : w.heap.size + 6 ≤ wr.heap.size := by have := hD.size; omega
      have htr : Calls Try.prog 53 #[.slice (some ⟨(w.heap.size + 1 + 1 + 1 + 1), 0, none⟩) (digs a).length (digs a).length] wr.drew fun e w' => ∃ v, e = .returned v ∧ NatV w' wr.heap.size v (val qs) ∧ Fresh (w.heap.size + 1 + 1 + 1 + 1) v ∧ Below wr.heap.size wr.drew w' := by
        have h := trim_nat qs hd10 (some ⟨(w.heap.size + 1 + 1 + 1 + 1), 0, none⟩) (digs a).length wr.heap.size (w.heap.size + 1 + 1 + 1 + 1) wr.drew (Nat.le_refl _) hrow (by rw [HL.out]; exact Nat.le_refl _) hla1 ⟨fun a e => by injection e with e; rw [← e]; exact Nat.le_refl _, fun e => by cases e⟩
        rw [HL.out] at h
        exact h
      have HT := Lib.hid htr
      clear htr
      go_wp2
      go_region_with (go_at_call 53; refine HT.out.mono ?_; rintro e w3 ⟨v, rfl, hnv, hfv, hbt⟩; obtain ⟨A3, c3, rfl, _⟩ := id hnv; have hD3 := DivW.keep (wr := wr.drew) hD.drew hbt; have hcell3 := hD3.cell; have hc3' := (hbt.cell (p := ⟨w.heap.size + 1 + 1, 0, none⟩) (by show w.heap.size + 1 + 1 < wr.heap.size; omega)).trans hc3; have hf3' := (hbt.frozen (p := ⟨w.heap.size + 1 + 1, 0, none⟩) (by show w.heap.size + 1 + 1 < wr.heap.size; omega)).trans hf3; have hc4' := (hbt.cell (p := ⟨w.heap.size + 1 + 1 + 1, 0, none⟩) (by show w.heap.size + 1 + 1 + 1 < wr.heap.size; omega)).trans hc4; have hf4' := (hbt.frozen (p := ⟨w.heap.size + 1 + 1 + 1, 0, none⟩) (by show w.heap.size + 1 + 1 + 1 < wr.heap.size; omega)).trans hf4)
      all_goals
        have hs3 : wr.heap.size ≤ w3.heap.size := hbt.size
        go_wp2
        refine bodyPost_ret (v := .tuple #[.agg #[.slice A3 (digs (val qs)).length c3], .agg #[.slice Ar (digs r).length cr]]) (by simp [results, Try.results54, go_sem, hc3', hc4']) rfl ⟨_, _, rfl, ?_⟩
        rw [← HV0.out, ← HR0.out]
        refine ⟨((hnv.setCell hfv ?_ _).setCell hfv ?_ _).up ?_, ((hD3.nat.setCell hD3.fresh ?_ _).setCell hD3.fresh ?_ _).up ?_, hfv.down (by omega), hD3.fresh.down (by omega), (((below_drewN hb0 1).trans (hbt.mono hb0.size)).setCell ?_ _).setCell ?_ _⟩
        all_goals (try simp [World.setCell])
        all_goals omega
    · obtain ⟨j, rfl⟩ : ∃ j, k = j + 1 := ⟨k - 1, by omega⟩
      have hz : ((j + 1 : Nat) : Int) - 1 = (j : Int) := by omega
      rw [hz]
      clear hz
      have hra1 := hra.below (hb0.mono hB)
      obtain ⟨da, HA⟩ : ∃ d, Hid ((digs a).getD j 0 = d) := ⟨_, rfl⟩
      have hda : da < 10 := by rw [← HA.out]; exact digit_lt a j
      have hjl : j < (digs a).length := by omega
      obtain ⟨aA, rfl, hbA, hcA⟩ := hra1.get (k := j) (by rw [ints_len]; exact hjl)
      have hcA' : wr.cell? (aA.add j) = some (.int .i64 (da : Int)) := by
        rw [hcA]
        have h := HA.out
        simp [hjl] at h
        simp [ints, h]
      clear hcA
      obtain ⟨R0, HR0⟩ : ∃ R0, Hid (da + 10 * r = R0) := ⟨_, rfl⟩
      have hval : val (da :: digs r) = R0 := by rw [← HR0.out]; show da + 10 * val (digs r) = _; rw [val_digs]
      have hdd : ∀ x ∈ da :: digs r, x < 10 := by
        intro x hx
        rcases List.mem_cons.1 hx with rfl | hx
        · exact hda
        · exact digs_lt r x hx
      have hrl : (digs r).length ≤ 100000 := by
        have h1 : r < b := by rw [← HR.out]; exact Nat.mod_lt _ h0
        exact Nat.le_trans (digs_len (Nat.lt_trans h1 (lt_pow_digs b))) hlb
      go_upto_region 8 with (at_builtin; refine wpList_append_own _ rfl _ _ 71 rfl wr.heap.size 3 i0 (.int .i64 0) 1 8 Try.underlying71 hi0 hz0 hz1 hz2 rfl (by decide) _ _ _ rfl (World.ownsRow_nil _ _ _ _) ⟨wr.heap.size, 0, none⟩ 1 1 [.int .i64 (da : Int)] rfl rfl ?c1 ?c2 ?c3 ?c4 ?c5 ?_)
      case c1 => exact new_one _ _ _
      case c2 => intro u hu; simp at hu; subst hu; rfl
      case c3 => simp only [maxLen]; omega
      case c4 => omega
      case c5 => simp
      intro v1 w1 hown1 hgrow1 _
      have hb1 : Below wr.heap.size wr w1 := app_below_nat (Below.refl _ _) (Nat.le_refl _) (Nat.le_refl _) (World.ownsRow_nil _ wr.heap.size 3 1) hgrow1
      clear hgrow1
      go_upto_region 8 with fail
      have hfin : w.heap.size + 4 ≤ (⟨w.heap.size + 1 + 1 + 1 + 1 + 1, 0, none⟩ : Addr).block := by show w.heap.size + 4 ≤ w.heap.size + 1 + 1 + 1 + 1 + 1; omega
      go_cut [9] from 18 to 47 (fun _ wx => ∃ A2 c2, DivW (w.heap.size + 1 + 1 + 1 + 1) wx qs R0 A2 c2 ∧ Below (w.heap.size + 4) ((((w.alloc (.cells #[.slice (some aA) (digs a).length c] 73)).alloc (.cells #[.slice A' (digs b).length c'] 73)).alloc (.cells #[.slice none 0 0] 73)).alloc (.cells #[.slice none 0 0] 73)) wx)
      case first =>
        have hD1 := hD.keep hb1
        have hcell1 := hD1.cell
        rcases Ar with _ | ar
        · obtain ⟨hdr, rfl⟩ := hD1.nowhere
          rw [hdr] at hcell1
          have hown3 : w1.ownsRow wr.heap.size 3 1 v1 (da :: digs r).length (ints (da :: digs r)) := by rw [hdr]; exact hown1
          go_wp2_with (at_builtin; refine wpList_append_own_none rfl _ _ 71 rfl wr.heap.size 3 i0 1 Try.underlying71 hi0 _ _ _ rfl hown1 rfl ?_)
          have hD2 := hD.keep hb1
          obtain ⟨A2, c2, rfl, hcap, hcm2, hrow⟩ := Row.of_own hown3
          go_wp2_with (go_at_call 53; refine (trim_nat (da :: digs r) hdd A2 c2 w1.heap.size wr.heap.size w1 (Nat.le_refl _) hrow hcap hcm2 (own_from hown3)).mono ?_; rintro e w3 ⟨v, rfl, hnv, hfv, hbt⟩; rw [hval] at hnv; obtain ⟨A3, c3, rfl, _⟩ := id hnv; have hD3 := hD2.keep hbt; have hcell3 := hD3.cell; have hfrz3 := hD3.frz1)
          go_meet
          exact ⟨A3, c3, hD3.left (Nat.le_trans hD.size (Nat.le_refl _)) (hnv.up hbt.size) hfv, ((hbw.trans ((hb1).mono hs4)).trans (hbt.mono (Nat.le_trans hs4 (hb1).size))).setCell hfin _⟩
        · have hsrc := hD1.source
          go_wp2_with (at_builtin; refine wpList_append_own _ rfl _ _ 71 rfl wr.heap.size 3 i0 (.int .i64 0) 1 8 Try.underlying71 hi0 hz0 hz1 hz2 rfl (by decide) _ _ _ rfl hown1 ar (digs r).length cr (ints (digs r)) rfl ?d1 ?d2 ?d3 ?d4 ?d5 ?d6 ?_)
          case d1 => simp [ints_len]
          case d2 => exact hsrc
          case d3 => intro u hu; simp [ints] at hu; obtain ⟨x, _, rfl⟩ := hu; rfl
          case d4 => simp only [maxLen]; omega
          case d5 => omega
          case d6 => exact hb1.size
          intro v2 w2 hown2 hgrow2 _
          have hb2 : Below wr.heap.size wr w2 := hb1.grown hgrow2 hb1.size (fun k hk => (hown1.lt k hk).1)
          have hown3 : w2.ownsRow wr.heap.size 3 1 v2 (da :: digs r).length (ints (da :: digs r)) := by
            have h := hown2
            rw [Nat.add_comm] at h
            exact h
          clear hgrow2 hown2 hcell1
          have hD2 := hD.keep hb2
          obtain ⟨A2, c2, rfl, hcap, hcm2, hrow⟩ := Row.of_own hown3
          go_wp2_with (go_at_call 53; refine (trim_nat (da :: digs r) hdd A2 c2 w2.heap.size wr.heap.size w2 (Nat.le_refl _) hrow hcap hcm2 (own_from hown3)).mono ?_; rintro e w3 ⟨v, rfl, hnv, hfv, hbt⟩; rw [hval] at hnv; obtain ⟨A3, c3, rfl, _⟩ := id hnv; have hD3 := hD2.keep hbt; have hcell3 := hD3.cell; have hfrz3 := hD3.frz1)
          go_meet
          exact ⟨A3, c3, hD3.left (Nat.le_trans hD.size (Nat.le_refl _)) (hnv.up hbt.size) hfv, ((hbw.trans ((hb2).mono hs4)).trans (hbt.mono (Nat.le_trans hs4 (hb2).size))).setCell hfin _⟩
      case rest =>
        obtain ⟨A2, c2, hD2, hbw2⟩ := hcut
        clear hown1 hb1 hfin hcA' hra1 hc1 hc2 hc3 hf3 hc4 hf4 hb0
        have hs4' : w.heap.size + 4 ≤ wc.heap.size := by have := hD2.size; omega
        have hjq : j < qs.length := by rw [HL.out]; exact hjl
        have hblank := Lib.hid (div_blank hd10 HV.out)
        have hrb0 : R0 < 10 * b := by
          have h1 : r < b := by rw [← HR.out]; exact Nat.mod_lt _ h0
          rw [← HR0.out]
          omega
        go_wp2
        go_loopw [] (fun w2 => ∃ (jj R : Nat) (es : List Nat) (A3 : Option Addr) (c3 : Nat), Hid (es.length = (digs a).length) ∧ (∀ x ∈ es, x < 10) ∧ Hid (val es = val qs + 10 ^ j * jj) ∧ Hid (es.getD j 0 = jj) ∧ Hid (R + jj * b = R0) ∧ jj ≤ 9 ∧
            DivW (w.heap.size + 1 + 1 + 1 + 1) w2 es R A3 c3 ∧ Below (w.heap.size + 4) ((((w.alloc (.cells #[.slice (some aA) (digs a).length c] 73)).alloc (.cells #[.slice A' (digs b).length c'] 73)).alloc (.cells #[.slice none 0 0] 73)).alloc (.cells #[.slice none 0 0] 73)) w2) (fun w2 => 10 - (intOf ((w2.cell? ⟨(w.heap.size + 1 + 1 + 1 + 1), j, none⟩).getD (.int .i64 0))).toNat)
        case atStart => exact ⟨0, R0, qs, A2, c2, HL, hd10, by show _ = _; simp, hblank, by show _ = _; simp, by omega, hD2, hbw2⟩
        case round =>
          obtain ⟨jj, R, es, A3, c3, HL2, he10, HV2, HJ, HRR, hj9, hD3, hbw3⟩ := hrel
          obtain ⟨hc1, hc2, ⟨hc3, hf3⟩, ⟨hc4, hf4⟩, hb0⟩ := boxed4 hbw3
          have hs5 : w.heap.size + 4 ≤ wr.heap.size := by have := hD3.size; omega
          have hcell3 := hD3.cell
          have hbv3 : NatV wr wr.heap.size (.agg #[.slice A' (digs b).length c']) b := (hbv.below (hb0.mono hB)).up (Nat.le_trans hB hb0.size)
          have hc2b : (⟨w.heap.size + 1, 0, none⟩ : Addr).block < wr.heap.size := by show w.heap.size + 1 < _; omega
          have hjr : jj * b ≤ R0 := by rw [← HRR.out]; omega
          have hRle : R ≤ R0 := by rw [← HRR.out]; omega
          have hRl : (digs R).length ≤ 1000000 := by
            refine Nat.le_trans (digs_len (k := (digs b).length + 1) ?_) (by omega)
            have := lt_pow_digs b
            rw [Nat.pow_succ]
            omega
          by_cases hge : b ≤ R
          · have hjj : jj + 1 ≤ 9 := by
              rcases Nat.lt_or_ge jj 9 with h | h
              · omega
              · have h1 := Nat.mul_le_mul_right b (show 10 ≤ jj + 1 by omega)
                rw [Nat.add_mul jj 1 b, Nat.one_mul] at h1
                have := HRR.out
                omega
            have hes : j < es.length := by rw [HL2.out]; exact hjl
            go_upto_region 11 with (first
              | (go_at_call 39; refine (cmp_from R b _ _ wr.heap.size wr hD3.nat hbv3 (Nat.le_refl _) hge).mono ?_; rintro e w3 ⟨z, hz, rfl, hb3⟩; have hD4 := hD3.keep hb3; have hcell4 := hD4.cell; have hc2' := (hb3.cell (p := ⟨w.heap.size + 1, 0, none⟩) hc2b).trans hc2)
              | (go_at_call 60; refine (sub_nat R b _ _ w3.heap.size w3 hD4.nat ((hbv3.below hb3).up hb3.size) (Nat.le_refl _) hRl hge).mono ?_; rintro e w4 ⟨v4, rfl, hv4, hf4', hb4⟩; obtain ⟨A4, c4, rfl, _⟩ := id hv4; have hD5 := hD4.keep hb4; have hcell5 := hD5.cell; have hfrz5 := hD5.frz1))
            have hD6 := hD5.left hD4.size hv4 hf4'
            have hfin : w.heap.size + 4 ≤ (⟨w.heap.size + 1 + 1 + 1 + 1 + 1, 0, none⟩ : Addr).block := by show w.heap.size + 4 ≤ w.heap.size + 1 + 1 + 1 + 1 + 1; omega
            have hfin2 : w.heap.size + 4 ≤ (⟨w.heap.size + 1 + 1 + 1 + 1, j, none⟩ : Addr).block := by show w.heap.size + 4 ≤ w.heap.size + 1 + 1 + 1 + 1; omega
            have hbw6 := ((hbw3.trans (hb3.mono hs5)).trans (hb4.mono (Nat.le_trans hs5 hb3.size))).setCell hfin (.slice A4 (digs (R - b)).length c4)
            generalize w4.setCell ⟨w.heap.size + 1 + 1 + 1 + 1 + 1, 0, none⟩ (.slice A4 (digs (R - b)).length c4) = w6 at hD6 hbw6 ⊢
            have hcd := hD6.row j hes
            rw [HJ.out] at hcd
            have hfd := hD6.frz j
            have hold := hD3.row j hes
            rw [HJ.out] at hold
            have hnew := World.cell?_setCell_same _ _ (.int .i64 ((jj : Int) + 1)) hcd
            have HOLD := Lib.hid hold
            have HNEW := Lib.hid hnew
            have hval6 := val_set es j (jj + 1) hes
            rw [HJ.out, HV2.out] at hval6
            have HVS := Lib.hid hval6
            clear hold hnew hval6
            go_wp2
            go_roundw
            case rel =>
              refine ⟨jj + 1, R - b, es.set j (jj + 1), A4, c4, by show _ = _; rw [List.length_set]; exact HL2.out, all_set he10 (by omega), ?_, by show _ = _; simp [hes], by show _ = _; rw [div_less hge]; exact HRR.out, by omega, hD6.digit hes, hbw6.setCell hfin2 _⟩
              show _ = _
              have h := HVS.out
              rw [Nat.mul_add, Nat.mul_one] at h ⊢
              omega
            case measure => rw [HOLD.out, HNEW.out]; simp [intOf]; omega
          · have hlt : R < b := by omega
            have hrr := div_round (A := a / 10 ^ (j + 1)) (d := da) (j := jj) h0 (by rw [HR.out, HRR.out, ← HR0.out, Nat.add_comm]) hlt
            have hrd := read_up a j
            rw [HA.out] at hrd
            rw [hrd] at hrr
            have HQ := Lib.hid hrr
            clear hrr hrd
            go_wp2_with (go_at_call 39; refine (cmp_less R b _ _ wr.heap.size wr hD3.nat hbv3 (Nat.le_refl _) hlt).mono ?_; rintro e w3 ⟨rfl, hb3⟩)
            go_roundw
            case rel =>
              refine ⟨j, R, es, A3, c3, by omega, rfl, HL2, he10, ?_, HQ.out.2, hD3.keep hb3, hbw3.trans (hb3.mono hs5)⟩
              show _ = _
              rw [HQ.out.1, HV2.out, HV.out, Nat.pow_succ, Nat.add_mul, Nat.mul_comm jj]
              congr 1
              rw [← Nat.mul_assoc, Nat.mul_right_comm, Nat.mul_comm _ 10, Nat.mul_assoc]
            case measure => simp [intOf] <;> omega
end Go.Proofs.Ytklempnebhcoiaa
namespace Go.Proofs.Ytklempnebhcoiaa
open Go.RowKit
set_option linter.unusedVariables false

/-- Two cells that a call lays first: what lies there, behind all that was laid since. -/
theorem boxed2 {w wr : World} {x y : Value} {t : TypeId} (hb : Below ((w.alloc (.cells #[x] t)).alloc (.cells #[y] t)).heap.size ((w.alloc (.cells #[x] t)).alloc (.cells #[y] t)) wr) :
    (wr.cell? ⟨w.heap.size, 0, none⟩ = some x ∧ wr.frozen? ⟨w.heap.size, 0, none⟩ = false) ∧ (wr.cell? ⟨w.heap.size + 1, 0, none⟩ = some y ∧ wr.frozen? ⟨w.heap.size + 1, 0, none⟩ = false) ∧
      Below w.heap.size w wr ∧ w.heap.size + 2 ≤ wr.heap.size := by
  have hs : ((w.alloc (.cells #[x] t)).alloc (.cells #[y] t)).heap.size = w.heap.size + 2 := by simp
  rw [hs] at hb
  refine ⟨⟨(hb.cell (p := ⟨w.heap.size, 0, none⟩) (by show w.heap.size < _; omega)).trans ?_, (hb.frozen (p := ⟨w.heap.size, 0, none⟩) (by show w.heap.size < _; omega)).trans ?_⟩,
    ⟨(hb.cell (p := ⟨w.heap.size + 1, 0, none⟩) (by show w.heap.size + 1 < _; omega)).trans ?_, (hb.frozen (p := ⟨w.heap.size + 1, 0, none⟩) (by show w.heap.size + 1 < _; omega)).trans ?_⟩, ?_, by have := hb.size; omega⟩
  · rw [World.cell?_alloc_past _ _ _ (by simp), World.cell?_alloc_at _ _ _ _ rfl]; rfl
  · rw [World.frozen?_alloc_past _ _ _ (by simp)]; exact World.frozen?_alloc_at _ _ _ _ rfl
  · rw [World.cell?_alloc_at _ _ _ _ (by simp)]; rfl
  · exact World.frozen?_alloc_at _ _ _ _ (by simp)
  · exact (((Below.refl _ _).alloc (Nat.le_refl _) _).alloc (by simp) _).trans (hb.mono (by omega))

set_option maxRecDepth 100000 in
theorem part_nat (a b c : Nat) (w : World) (ha : a < 18446744073709551616) (hb : b < 18446744073709551616) (hc : c < 18446744073709551616) (h0 : 0 < c) :
    Calls Try.prog 40 #[.int .u64 a, .int .u64 b, .int .u64 c] w fun e w' => ∃ u v, e = .returned (.tuple #[u, v]) ∧ NatV w' w'.heap.size u (a * b / c) ∧ NatV w' w'.heap.size v (a * b % c) ∧
      Fresh w.heap.size u ∧ Fresh w.heap.size v ∧ Below w.heap.size w w' := by
  have la := word_digs ha
  have lb := word_digs hb
  have lc := word_digs hc
  have lp := prod_digs ha hb
  have k1 := fun w => of_any a w (by omega)
  have k2 := fun w => of_any b w (by omega)
  have k3 := fun w => of_any c w (by omega)
  obtain ⟨p, hp⟩ : ∃ p, Hid (a * b = p) := ⟨_, rfl⟩
  have km : ∀ (v1 v2 : Value) (w : World), NatV w w.heap.size v1 a → NatV w w.heap.size v2 b → Calls Try.prog 37 #[v1, v2] w fun e w' => ∃ v, e = .returned v ∧ NatV w' w'.heap.size v p ∧ Fresh w.heap.size v ∧ Below w.heap.size w w' := by
    intro v1 v2 w h1 h2
    rw [← hp.out]
    exact mul_nat a b v1 v2 w.heap.size w h1 h2 (Nat.le_refl _) (by omega) (by omega)
  rw [hp.out] at lp ⊢
  go_enter Try.func40, Try.ntmps40
  go_wp2_with (first
    | (go_at_call 38; refine (k1 _).mono ?_; clear k1; rintro e w1 ⟨v1, rfl, hv1, hf1, hb1⟩)
    | (go_at_call 38; refine (k2 _).mono ?_; clear k2; rintro e w2 ⟨v2, rfl, hv2, hf2, hb2⟩)
    | (go_at_call 37; refine (km v1 v2 w2 ((hv1.below hb2).up hb2.size) hv2).mono ?_; rintro e w3 ⟨v3, rfl, hv3, hf3, hb3⟩)
    | (go_at_call 38; refine (k3 _).mono ?_; clear k3; rintro e w4 ⟨v4, rfl, hv4, hf4, hb4⟩)
    | (go_at_call 54; refine (div_nat p c v3 v4 w4.heap.size w4 ((hv3.below hb4).up hb4.size) hv4 (Nat.le_refl _) h0 (by omega) (by omega)).mono ?_; rintro e w5 ⟨u, v, rfl, hu, hv, hfu, hfv, hb5⟩; obtain ⟨Au, cu, rfl, _⟩ := id hu; obtain ⟨Av, cv, rfl, _⟩ := id hv; obtain ⟨⟨hc1, hz1⟩, ⟨hc2, hz2⟩, hall, hs5⟩ := boxed2 (Below.then (Below.then (Below.then (Below.then hb1 hb2) hb3) hb4) hb5); have hs4 := (boxed2 (Below.then (Below.then (Below.then hb1 hb2) hb3) hb4)).2.2.2))
  refine bodyPost_ret (v := .tuple #[.agg #[.slice Au (digs (p / c)).length cu], .agg #[.slice Av (digs (p % c)).length cv]]) (by simp [results, Try.results40, go_sem, hc1, hc2]) rfl ⟨_, _, rfl, ?_⟩
  refine ⟨((hu.setCell hfu ?_ _).setCell hfu ?_ _).up ?_, ((hv.setCell hfv ?_ _).setCell hfv ?_ _).up ?_, hfu.down (by omega), hfv.down (by omega), (hall.setCell ?_ _).setCell ?_ _⟩
  all_goals (try simp [World.setCell])
  all_goals omega
end Go.Proofs.Ytklempnebhcoiaa
