/- The reference's numbers (layer 1): the sum of a list. By contracts. -/
import Derived.Test.YtoaeckfppoaljaaRefNumB
import Derived.Test.YtoaeckfppoaljaaMoneySum
import Derived.Deep.RegionWith
namespace Go.Proofs.Ytoaeckfppoaljaa
open Go.RowKit
set_option linter.unusedVariables false

theorem tot_bound (l : List Nat) (M : Nat) (h : ∀ n ∈ l, n ≤ M) (k : Nat) : tot (l.take k) ≤ k * M := by
  induction k with
  | zero => simp [tot]
  | succ k ih =>
    rw [Nat.succ_mul]
    by_cases hk : k < l.length
    · rw [tot_take_succ l k hk]
      have := h l[k] (List.getElem_mem hk)
      omega
    · rw [List.take_of_length_le (by omega)] at ih ⊢
      omega
theorem tot_le (l : List Nat) (M : Nat) (h : ∀ n ∈ l, n ≤ M) : tot l ≤ l.length * M := by
  have := tot_bound l M h l.length
  rwa [List.take_length] at this
theorem tot_digs (l : List Nat) (h : ∀ n ∈ l, n ≤ 18446744073709551615) (k : Nat) (hk : k ≤ 100000) : (digs (tot (l.take k))).length ≤ 26 := by
  have h1 := tot_bound l (10 ^ 20) (fun n hn => Nat.le_trans (h n hn) (by decide)) k
  apply digs_len
  have h2 : k * 10 ^ 20 ≤ 100000 * 10 ^ 20 := Nat.mul_le_mul_right _ hk
  exact Nat.lt_of_le_of_lt (Nat.le_trans h1 h2) (by decide)

/-- The sum so far, in its cell. -/
def Acc (s : Nat) (wr : World) (N : Nat) : Prop :=
  ∃ A n c, wr.cell? ⟨s + 1, 0, none⟩ = some (.slice A n c) ∧ wr.frozen? ⟨s + 1, 0, none⟩ = false ∧ NatV wr wr.heap.size (.agg #[.slice A n c]) N ∧ Fresh (s + 2) (.agg #[.slice A n c])

theorem acc_next {s L n2 c2 N : Nat} {w2 : World} {A2 : Option Addr} {x : Value} (hv : NatV w2 w2.heap.size (.agg #[.slice A2 n2 c2]) N) (hf : Fresh L (.agg #[.slice A2 n2 c2])) (hL : s + 2 ≤ L)
    (hc : w2.cell? ⟨s + 1, 0, none⟩ = some x) (hz : w2.frozen? ⟨s + 1, 0, none⟩ = false) : Acc s (w2.setCell ⟨s + 1, 0, none⟩ (.slice A2 n2 c2)) N := by
  refine ⟨A2, n2, c2, ?_, ?_, ?_, hf.down hL⟩
  · exact World.cell?_setCell_same _ _ _ hc
  · rw [World.frozen?_setCell]; exact hz
  · exact (hv.setCell hf (by show s + 1 < L; omega) _).up (by simp [World.setCell])

set_option maxRecDepth 100000 in
set_option maxHeartbeats 2000000 in
theorem sum_nat (ns : List Nat) (A : Option Addr) (c B : Nat) (w : World) (hr : Row w B A (u64s ns)) (hB : B ≤ w.heap.size) (hlen : ns.length ≤ 100000) (hn : ∀ n ∈ ns, n ≤ 18446744073709551615) :
    Calls Try.prog 28 #[.slice A ns.length c] w fun e w' => ∃ v, e = .returned v ∧ NatV w' w'.heap.size v (tot ns) ∧ Fresh w.heap.size v ∧ Below w.heap.size w w' := by
  have HN := Lib.hid hn
  clear hn
  go_enter Try.func28, Try.ntmps28
  go_wp2
  go_loopw [4] (fun iv wr => ∃ i : Nat, i ≤ ns.length ∧ iv = .int .i64 (i : Int) ∧ Acc w.heap.size wr (tot (ns.take i)) ∧ Below (w.heap.size + 1) (w.alloc (.cells #[.slice none 0 0] 52)) wr ∧ w.heap.size + 2 ≤ wr.heap.size) (fun iv _ => ns.length - (intOf iv).toNat)
  case atStart =>
    refine ⟨0, Nat.zero_le _, rfl, ⟨none, 0, 0, ?_, ?_, NatV.zero _ _, ?_⟩, (Below.refl _ _).alloc (by simp) _, by simp⟩
    · rw [World.cell?_alloc_at _ _ _ _ (by simp)]; rfl
    · exact World.frozen?_alloc_at _ _ _ _ (by simp)
    · exact fresh_of (fun a e => by cases e) (fun _ => rfl)
  case round =>
    obtain ⟨i, hi, rfl, ⟨Au, n, cu, hcu, hfu, hnu, hfru⟩, hb, hs⟩ := hrel
    by_cases hgo : i < ns.length
    · obtain ⟨aA, rfl, hbA, hcA⟩ := (hr.below (((Below.refl _ _).alloc hB _).trans (hb.mono (by omega)))).get (k := i) (by rw [u64s_len]; exact hgo)
      simp only [u64s, List.getElem_map] at hcA
      have hx := HN.out ns[i] (List.getElem_mem hgo)
      have hl1 : (digs ns[i]).length ≤ 1000000 := Nat.le_trans (digs_len (k := 20) (by omega)) (by omega)
      have hl2 : (digs (tot (ns.take i))).length ≤ 1000000 := Nat.le_trans (tot_digs ns HN.out i (by omega)) (by omega)
      have hgoI : (i : Int) < (ns.length : Int) := by omega
      have hsucc := tot_take_succ ns i hgo
      have HS := Lib.hid hsucc
      clear hsucc
      have hs1 : (⟨w.heap.size + 1, 0, none⟩ : Addr).block < wr.heap.size := by show w.heap.size + 1 < _; omega
      go_wp2
      go_region_with (first
        | (go_at_call 25; refine (of_any _ _ ?_).mono ?_; exact hx; rintro e w1 ⟨v1, rfl, hv1, hf1, hb1⟩; have hcu1 := (hb1.cell (p := ⟨w.heap.size + 1, 0, none⟩) hs1).trans hcu; have hfu1 := (hb1.frozen (p := ⟨w.heap.size + 1, 0, none⟩) hs1).trans hfu)
        | (go_at_call 36; refine (add_nat _ _ _ _ w1.heap.size w1 ((NatV.below (w := wr.drew) (B := wr.heap.size) hnu hb1).up hb1.size) hv1 (Nat.le_refl _) hl2 hl1).mono ?_; rintro e w2 ⟨v2, rfl, hv2, hf2, hb2⟩; obtain ⟨A2, c2, rfl, _⟩ := id hv2; have hcu2 := (hb2.cell (p := ⟨w.heap.size + 1, 0, none⟩) (Nat.lt_of_lt_of_le hs1 hb1.size)).trans hcu1; have hfu2 := (hb2.frozen (p := ⟨w.heap.size + 1, 0, none⟩) (Nat.lt_of_lt_of_le hs1 hb1.size)).trans hfu1))
      all_goals
        go_wp2
        go_roundw
        case rel =>
          refine ⟨i + 1, by omega, by go_num, ?_, ?_, ?_⟩
          · rw [HS.out]
            exact acc_next hv2 hf2 (Nat.le_trans hs hb1.size) hcu2 hfu2
          · exact (((below_drewN hb 1).trans (hb1.mono (by show _ ≤ wr.heap.size; omega))).trans (hb2.mono (Nat.le_trans (show w.heap.size + 1 ≤ wr.drew.heap.size from Nat.le_trans (by omega) hs) hb1.size))).setCell (by show w.heap.size + 1 ≤ w.heap.size + 1; omega) _
          · have h1 : wr.heap.size ≤ w1.heap.size := hb1.size
            have h2 : w1.heap.size ≤ w2.heap.size := hb2.size
            show _ ≤ (w2.setCell _ _).heap.size
            simp [World.setCell]
            omega
        case measure => simp [intOf]; omega
    · obtain rfl : i = ns.length := by omega
      obtain ⟨hc0, hf0⟩ := result_cell hb
      rw [List.take_length] at hnu
      go_wp2
      refine bodyPost_ret (v := .agg #[.slice Au n cu]) (by simp [results, Try.results28, go_sem, hc0]) rfl ⟨_, rfl, ?_⟩
      exact result_nat _ hnu hfru (Nat.le_refl _) (Nat.le_refl _) (by show w.heap.size < _; omega) (((Below.refl _ _).alloc (Nat.le_refl _) _).trans (hb.mono (by omega))) _
end Go.Proofs.Ytoaeckfppoaljaa
