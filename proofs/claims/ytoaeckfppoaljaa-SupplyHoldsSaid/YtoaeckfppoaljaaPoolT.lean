/- Layer 18 (pool): what a list amounts to, told by a function that is handed over. By contracts. -/
import Derived.Test.YtoaeckfppoaljaaRecS
import Derived.Test.YtoaeckfppoaljaaTold
import Derived.Shelf.Abstract
import Derived.Laws.OwnMore
namespace Go.Proofs.Ytoaeckfppoaljaa
open Go.RowKit Go.Shelf
set_option linter.unusedVariables false
set_option linter.unusedSimpArgs false

theorem word_info : (Try.prog.info? 22).map (fun i => (i.zero, i.size, i.bytes)) = some (some (.int .u64 0), 1, 8) := by kernel_rfl
theorem set_mid {P : List Nat} {Z : List Value} {k : Nat} (hk : k < P.length) (hZ : Z.length = P.length) : (u64s (P.take k) ++ Z.drop k).set k (.int .u64 (P[k] : Int)) = u64s (P.take (k + 1)) ++ Z.drop (k + 1) := by
  have hl : (u64s (P.take k)).length = k := by rw [u64s_len, List.length_take]; omega
  rw [List.set_append_right _ _ (by omega), hl, Nat.sub_self, List.drop_eq_getElem_cons (by omega : k < Z.length), List.set_cons_zero, List.take_succ_eq_append_getElem hk]
  unfold u64s
  rw [List.map_append, List.append_assoc]
  rfl

set_option maxRecDepth 100000 in
theorem amount_dep (d : Dep) (w : World) :
    Calls Try.prog 32 #[.agg (Rec.vals d)] w fun e w' => e = .returned (.int .u64 (d.amt : Int)) ∧ Below w.heap.size w w' := by
  have hB : Below w.heap.size w (w.alloc (.cells (Rec.vals d) 62)) := (Below.refl _ _).alloc (Nat.le_refl _) _
  have c2 : (Rec.vals d)[2]? = some (.int .u64 (d.amt : Int)) := rfl
  go_enter Try.func32, Try.ntmps32
  go_wp2
  go_ret
  exact ⟨rfl, hB⟩

set_option maxRecDepth 100000 in
set_option maxHeartbeats 2000000 in
theorem together_dep (l : List Dep) (A : Option Addr) (c : Nat) (w : World) (hr : Row w w.heap.size A (rows l)) (hl : l.length ≤ 1000000) (hx : ∀ x ∈ l, x.amt ≤ 18446744073709551615) :
    Calls Try.prog 31 #[.slice A l.length c, .func (.func 32) #[] #[]] w fun e w' => e = .returned (.tuple #[.int .u64 (tx (totDep l) : Nat), .int .i64 (te (totDep l) : Nat)]) ∧ Below w.heap.size w w' := by
  have eg := enters_of (P := Try.prog) Try.func32 (by kernel_rfl) rfl
  obtain ⟨i0, hi0, hz0, hz1, hz2⟩ := info_parts word_info
  obtain ⟨Z, hZ, hZl⟩ : ∃ Z : List Value, madeCells #[.int .u64 0] l.length = Z.toArray ∧ Z.length = l.length := ⟨(madeCells #[.int .u64 0] l.length).toList, by simp, by simp [size_madeCells]⟩
  have hmk : ∀ V : World, (Instr.makeSlice 25 (.int .i64 (l.length : Int)) (.int .i64 (l.length : Int))).run Try.prog V =
      .ok (.slice (some ⟨V.heap.size, 0, none⟩) l.length l.length) (V.alloc (.cells Z.toArray 22)) := by
    intro V
    have h := run_make (P := Try.prog) V 25 22 i0 (.int .u64 0) Try.underlying25 hi0 hz0 .i64 .i64 (l.length : Int) (l.length : Int) (by omega) (by omega) (by rw [hz2]; omega) (by omega)
    rw [hz1, Int.toNat_natCast, Nat.mul_one] at h
    rw [← hZ]
    exact h
  obtain ⟨P, hPl⟩ : ∃ P, Hid (l.map Dep.amt = P) := ⟨_, rfl⟩
  have hPn : P.length = l.length := by rw [← hPl.out]; simp
  have hPx : ∀ x ∈ P, x ≤ 18446744073709551615 := fun x hm => by
    rw [← hPl.out] at hm
    obtain ⟨d, hd, rfl⟩ := List.mem_map.1 hm
    exact hx d hd
  unfold totDep
  rw [hPl.out]
  have hB0 : Below w.heap.size w (w.alloc (.cells Z.toArray 22)) := (Below.refl _ w).alloc (Nat.le_refl _) _
  have hst : (w.alloc (.cells Z.toArray 22)).ownsRow w.heap.size 22 1 (.slice (some ⟨w.heap.size, 0, none⟩) l.length l.length) l.length Z :=
    owns_row (Nat.le_refl _) (by rw [hZl, Nat.mul_one]) (by unfold maxLen; omega) (heap_alloc_new w _)
  have HPN := Lib.hid hPn
  have HPX := Lib.hid hPx
  have HZ := Lib.hid hZl
  have HR := Lib.hid hr
  clear hPn hPx hZl hr hx hZ hi0 hz0 hz1 hz2
  go_enter Try.func31, Try.ntmps31
  go_wp2
  clear hmk
  go_loopw [14] (fun iv wr => ∃ k : Nat, k ≤ l.length ∧ iv = .int .i64 (k : Int) ∧ Hid (wr.ownsRow w.heap.size 22 1 (.slice (some ⟨w.heap.size, 0, none⟩) l.length l.length) l.length (u64s (P.take k) ++ Z.drop k)) ∧ Below w.heap.size w wr) (fun iv _ => l.length - (intOf iv).toNat)
  case atStart => exact ⟨0, Nat.zero_le _, rfl, Lib.hid (by simpa [u64s] using hst), hB0⟩
  case round =>
    obtain ⟨k, hk, rfl, HO, hB⟩ := hrel
    clear hst hB0
    by_cases hlt : k < l.length
    · obtain ⟨s, hs⟩ : ∃ s, l[k]? = some s := ⟨_, List.getElem?_eq_getElem hlt⟩
      obtain ⟨a, rfl, hab, hat0⟩ := rows_row (HR.out.below hB) hs
      have hat : LiesAt wr (a.add (k * 4)) (Rec.vals s) := hat0
      have hkP : k < P.length := by rw [HPN.out]; exact hlt
      have hPk : P[k] = s.amt := by
        have h1 : P[k]? = some s.amt := by rw [← hPl.out, List.getElem?_map, hs]; rfl
        rw [List.getElem?_eq_getElem hkP] at h1
        exact Option.some.inj h1
      have hset := set_mid (Z := Z) hkP (by rw [HZ.out, HPN.out])
      rw [hPk] at hset
      have HSET := Lib.hid hset
      have kw := fun w => amount_dep s w
      have hlen : k < (u64s (P.take k) ++ Z.drop k).length := by
        rw [List.length_append, u64s_len, List.length_take, List.length_drop, HZ.out, HPN.out]; omega
      have HLEN := Lib.hid hlen
      have hki : (k : Int) < (l.length : Int) := by omega
      have hk0 : (0 : Int) ≤ (k : Int) := by omega
      clear hset hPk hkP hs hat0 hlen
      go_wp2_with (first
        | (refine load_rec 62 _ rfl rfl _ (Rec.vals s) rfl hat Try.underlying62 size_dep ?_)
        | (refine store_rec 62 _ _ rfl rfl _ (Rec.vals s) (Rec.vals Dep.zero) 62 rfl rfl (RecAt.new _ _ _) size_dep rfl (Rec.one s) ?_; intro w2 hS2 hb2 _ _; have hb2 := rec_made (Below.refl _ _) hb2; have HO2 := Lib.hid (own_kept HO.out hb2); have hB2 := Below.then hB hb2; clear hb2 hat)
        | (refine load_rec 62 _ rfl rfl _ (Rec.vals s) rfl hS2.lies Try.underlying62 size_dep ?_)
        | (go_at_call 32; refine (kw _).mono ?_; rintro e w3 ⟨rfl, hb3⟩; have HO3 := Lib.hid (own_kept HO2.out hb3); have hB3 := Below.then hB2 hb3; have hcD := own_at HO3.out HLEN.out; have hfD : w3.frozen? ⟨w.heap.size, k, none⟩ = false := HO3.out.frozenAt k; clear hb3)
        | (go_at_fn 32; refine (kw _).mono ?_; rintro e w3 ⟨rfl, hb3⟩; have HO3 := Lib.hid (own_kept HO2.out hb3); have hB3 := Below.then hB2 hb3; have hcD := own_at HO3.out HLEN.out; have hfD : w3.frozen? ⟨w.heap.size, k, none⟩ = false := HO3.out.frozenAt k; clear hb3))
      go_roundw
      case rel =>
        refine ⟨k + 1, by omega, by go_num, Lib.hid ?_, hB3.setCell (Nat.le_refl _) _⟩
        rw [← HSET.out]
        exact (World.ownsRow.stored HO3.out k _).1
      case measure => simp [intOf]; omega
    · obtain rfl : k = l.length := by omega
      have hO := HO.out
      rw [List.drop_eq_nil_of_le (by rw [HZ.out]; omega), List.append_nil, ← HPN.out, List.take_length] at hO
      obtain ⟨A', c', e1, -, -, hrow⟩ := Row.of_own hO
      rw [HPN.out] at e1
      have ks := sum_told P A' c' wr.heap.size wr hrow (by rw [HPN.out]; unfold maxLen; omega) HPX.out
      rw [HPN.out] at ks
      simp only [Value.slice.injEq] at e1
      obtain ⟨rfl, -, rfl⟩ := e1
      clear hO hrow HO
      go_wp2_with (go_at_call 21; refine ks.mono ?_; clear ks; rintro e w4 ⟨rfl, rfl⟩)
      go_ret2
      exact ⟨rfl, hB⟩

set_option maxRecDepth 100000 in
theorem amount_due (d : Due) (w : World) :
    Calls Try.prog 34 #[.agg (Rec.vals d)] w fun e w' => e = .returned (.int .u64 (d.amt : Int)) ∧ Below w.heap.size w w' := by
  have hB : Below w.heap.size w (w.alloc (.cells (Rec.vals d) 64)) := (Below.refl _ _).alloc (Nat.le_refl _) _
  have c2 : (Rec.vals d)[2]? = some (.int .u64 (d.amt : Int)) := rfl
  go_enter Try.func34, Try.ntmps34
  go_wp2
  go_ret
  exact ⟨rfl, hB⟩

set_option maxRecDepth 100000 in
set_option maxHeartbeats 2000000 in
theorem together_due (l : List Due) (A : Option Addr) (c : Nat) (w : World) (hr : Row w w.heap.size A (rows l)) (hl : l.length ≤ 1000000) (hx : ∀ x ∈ l, x.amt ≤ 18446744073709551615) :
    Calls Try.prog 33 #[.slice A l.length c, .func (.func 34) #[] #[]] w fun e w' => e = .returned (.tuple #[.int .u64 (tx (totDue l) : Nat), .int .i64 (te (totDue l) : Nat)]) ∧ Below w.heap.size w w' := by
  have eg := enters_of (P := Try.prog) Try.func34 (by kernel_rfl) rfl
  obtain ⟨i0, hi0, hz0, hz1, hz2⟩ := info_parts word_info
  obtain ⟨Z, hZ, hZl⟩ : ∃ Z : List Value, madeCells #[.int .u64 0] l.length = Z.toArray ∧ Z.length = l.length := ⟨(madeCells #[.int .u64 0] l.length).toList, by simp, by simp [size_madeCells]⟩
  have hmk : ∀ V : World, (Instr.makeSlice 25 (.int .i64 (l.length : Int)) (.int .i64 (l.length : Int))).run Try.prog V =
      .ok (.slice (some ⟨V.heap.size, 0, none⟩) l.length l.length) (V.alloc (.cells Z.toArray 22)) := by
    intro V
    have h := run_make (P := Try.prog) V 25 22 i0 (.int .u64 0) Try.underlying25 hi0 hz0 .i64 .i64 (l.length : Int) (l.length : Int) (by omega) (by omega) (by rw [hz2]; omega) (by omega)
    rw [hz1, Int.toNat_natCast, Nat.mul_one] at h
    rw [← hZ]
    exact h
  obtain ⟨P, hPl⟩ : ∃ P, Hid (l.map Due.amt = P) := ⟨_, rfl⟩
  have hPn : P.length = l.length := by rw [← hPl.out]; simp
  have hPx : ∀ x ∈ P, x ≤ 18446744073709551615 := fun x hm => by
    rw [← hPl.out] at hm
    obtain ⟨d, hd, rfl⟩ := List.mem_map.1 hm
    exact hx d hd
  unfold totDue
  rw [hPl.out]
  have hB0 : Below w.heap.size w (w.alloc (.cells Z.toArray 22)) := (Below.refl _ w).alloc (Nat.le_refl _) _
  have hst : (w.alloc (.cells Z.toArray 22)).ownsRow w.heap.size 22 1 (.slice (some ⟨w.heap.size, 0, none⟩) l.length l.length) l.length Z :=
    owns_row (Nat.le_refl _) (by rw [hZl, Nat.mul_one]) (by unfold maxLen; omega) (heap_alloc_new w _)
  have HPN := Lib.hid hPn
  have HPX := Lib.hid hPx
  have HZ := Lib.hid hZl
  have HR := Lib.hid hr
  clear hPn hPx hZl hr hx hZ hi0 hz0 hz1 hz2
  go_enter Try.func33, Try.ntmps33
  go_wp2
  clear hmk
  go_loopw [14] (fun iv wr => ∃ k : Nat, k ≤ l.length ∧ iv = .int .i64 (k : Int) ∧ Hid (wr.ownsRow w.heap.size 22 1 (.slice (some ⟨w.heap.size, 0, none⟩) l.length l.length) l.length (u64s (P.take k) ++ Z.drop k)) ∧ Below w.heap.size w wr) (fun iv _ => l.length - (intOf iv).toNat)
  case atStart => exact ⟨0, Nat.zero_le _, rfl, Lib.hid (by simpa [u64s] using hst), hB0⟩
  case round =>
    obtain ⟨k, hk, rfl, HO, hB⟩ := hrel
    clear hst hB0
    by_cases hlt : k < l.length
    · obtain ⟨s, hs⟩ : ∃ s, l[k]? = some s := ⟨_, List.getElem?_eq_getElem hlt⟩
      obtain ⟨a, rfl, hab, hat0⟩ := rows_row (HR.out.below hB) hs
      have hat : LiesAt wr (a.add (k * 3)) (Rec.vals s) := hat0
      have hkP : k < P.length := by rw [HPN.out]; exact hlt
      have hPk : P[k] = s.amt := by
        have h1 : P[k]? = some s.amt := by rw [← hPl.out, List.getElem?_map, hs]; rfl
        rw [List.getElem?_eq_getElem hkP] at h1
        exact Option.some.inj h1
      have hset := set_mid (Z := Z) hkP (by rw [HZ.out, HPN.out])
      rw [hPk] at hset
      have HSET := Lib.hid hset
      have kw := fun w => amount_due s w
      have hlen : k < (u64s (P.take k) ++ Z.drop k).length := by
        rw [List.length_append, u64s_len, List.length_take, List.length_drop, HZ.out, HPN.out]; omega
      have HLEN := Lib.hid hlen
      have hki : (k : Int) < (l.length : Int) := by omega
      have hk0 : (0 : Int) ≤ (k : Int) := by omega
      clear hset hPk hkP hs hat0 hlen
      go_wp2_with (first
        | (refine load_rec 64 _ rfl rfl _ (Rec.vals s) rfl hat Try.underlying64 size_due ?_)
        | (refine store_rec 64 _ _ rfl rfl _ (Rec.vals s) (Rec.vals Due.zero) 64 rfl rfl (RecAt.new _ _ _) size_due rfl (Rec.one s) ?_; intro w2 hS2 hb2 _ _; have hb2 := rec_made (Below.refl _ _) hb2; have HO2 := Lib.hid (own_kept HO.out hb2); have hB2 := Below.then hB hb2; clear hb2 hat)
        | (refine load_rec 64 _ rfl rfl _ (Rec.vals s) rfl hS2.lies Try.underlying64 size_due ?_)
        | (go_at_call 34; refine (kw _).mono ?_; rintro e w3 ⟨rfl, hb3⟩; have HO3 := Lib.hid (own_kept HO2.out hb3); have hB3 := Below.then hB2 hb3; have hcD := own_at HO3.out HLEN.out; have hfD : w3.frozen? ⟨w.heap.size, k, none⟩ = false := HO3.out.frozenAt k; clear hb3)
        | (go_at_fn 34; refine (kw _).mono ?_; rintro e w3 ⟨rfl, hb3⟩; have HO3 := Lib.hid (own_kept HO2.out hb3); have hB3 := Below.then hB2 hb3; have hcD := own_at HO3.out HLEN.out; have hfD : w3.frozen? ⟨w.heap.size, k, none⟩ = false := HO3.out.frozenAt k; clear hb3))
      go_roundw
      case rel =>
        refine ⟨k + 1, by omega, by go_num, Lib.hid ?_, hB3.setCell (Nat.le_refl _) _⟩
        rw [← HSET.out]
        exact (World.ownsRow.stored HO3.out k _).1
      case measure => simp [intOf]; omega
    · obtain rfl : k = l.length := by omega
      have hO := HO.out
      rw [List.drop_eq_nil_of_le (by rw [HZ.out]; omega), List.append_nil, ← HPN.out, List.take_length] at hO
      obtain ⟨A', c', e1, -, -, hrow⟩ := Row.of_own hO
      rw [HPN.out] at e1
      have ks := sum_told P A' c' wr.heap.size wr hrow (by rw [HPN.out]; unfold maxLen; omega) HPX.out
      rw [HPN.out] at ks
      simp only [Value.slice.injEq] at e1
      obtain ⟨rfl, -, rfl⟩ := e1
      clear hO hrow HO
      go_wp2_with (go_at_call 21; refine ks.mono ?_; clear ks; rintro e w4 ⟨rfl, rfl⟩)
      go_ret2
      exact ⟨rfl, hB⟩

theorem amount_over {a b : Nat} (h : 18446744073709551615 < a) : tx (a + b) = 0 ∧ te (a + b) = 10 := ⟨tx_out (by omega), te_out (by omega)⟩
set_option maxRecDepth 100000 in
/-- All that is on its way. -/
theorem psum_is (l : List Dep) (m : List Due) (A A2 : Option Addr) (c c2 : Nat) (w : World) (hr : Row w w.heap.size A (rows l)) (hr2 : Row w w.heap.size A2 (rows m)) (hl : l.length ≤ 1000000) (hl2 : m.length ≤ 1000000)
    (hx : ∀ x ∈ l, x.amt ≤ 18446744073709551615) (hx2 : ∀ x ∈ m, x.amt ≤ 18446744073709551615) :
    Calls Try.prog 20 #[.slice A l.length c, .slice A2 m.length c2] w fun e w' => e = .returned (.tuple #[.int .u64 (tx (totDep l + totDue m) : Nat), .int .i64 (te (totDep l + totDue m) : Nat)]) ∧ Below w.heap.size w w' := by
  have k1 := together_dep l A c w hr hl hx
  have k2 : ∀ w', Below w.heap.size w w' → _ := fun w' h => together_due m A2 c2 w' (hr2.kept h) hl2 hx2
  have k3 := fun w h1 h2 => money_add_told (totDep l) (totDue m) w h1 h2
  clear hr hr2 hx hx2 hl hl2
  obtain ⟨a, ha⟩ : ∃ a, totDep l = a := ⟨_, rfl⟩
  obtain ⟨b, hb⟩ : ∃ b, totDue m = b := ⟨_, rfl⟩
  rw [ha] at k1 k3 ⊢
  rw [hb] at k2 k3 ⊢
  have K2 := Lib.hid k2
  clear ha hb k2
  by_cases h1 : 18446744073709551615 < a
  · obtain ⟨e1, e2⟩ := amount_over (b := b) h1
    rw [e1, e2]
    rw [tx_out (by omega), te_out (by omega)] at k1
    rw [show ((10 : Nat) : Int) = 10 from rfl, show ((0 : Nat) : Int) = 0 from rfl] at k1 ⊢
    clear k3 K2 h1 e1 e2
    go_enter Try.func20, Try.ntmps20
    go_wp2_with (go_at_call 31; refine k1.mono ?_; clear k1; rintro e w1 ⟨rfl, hb1⟩)
    go_ret2
    exact ⟨rfl, hb1⟩
  · rw [tx_in (by omega), te_in (by omega)] at k1
    by_cases h2 : 18446744073709551615 < b
    · obtain ⟨e1, e2⟩ := amount_over (b := a) h2
      rw [Nat.add_comm b a] at e1 e2
      rw [e1, e2]
      have k2 := K2.out
      rw [tx_out (by omega), te_out (by omega)] at k2
      rw [show ((10 : Nat) : Int) = 10 from rfl, show ((0 : Nat) : Int) = 0 from rfl] at k2 ⊢
      rw [show ((0 : Nat) : Int) = 0 from rfl] at k1
      have K2' := Lib.hid k2
      clear k3 K2 k2 h1 h2 e1 e2
      go_enter Try.func20, Try.ntmps20
      go_wp2_with (first
        | (go_at_call 31; refine k1.mono ?_; clear k1; rintro e w1 ⟨rfl, hb1⟩)
        | (go_at_call 33; refine (K2'.out w1 hb1).mono ?_; clear K2'; rintro e w2 ⟨rfl, hb2⟩))
      go_ret2
      exact ⟨rfl, Below.then hb1 hb2⟩
    · have k2 := K2.out
      rw [tx_in (by omega), te_in (by omega)] at k2
      rw [show ((0 : Nat) : Int) = 0 from rfl] at k1 k2
      have k3 := fun w => k3 w (by omega) (by omega)
      have K2' := Lib.hid k2
      have K3 := Lib.hid k3
      clear K2 k2 k3 h1 h2
      go_enter Try.func20, Try.ntmps20
      go_wp2_with (first
        | (go_at_call 31; refine k1.mono ?_; clear k1; rintro e w1 ⟨rfl, hb1⟩)
        | (go_at_call 33; refine (K2'.out w1 hb1).mono ?_; clear K2'; rintro e w2 ⟨rfl, hb2⟩)
        | (go_at_call 29; refine (K3.out _).mono ?_; clear K3; rintro e w3 ⟨rfl, rfl⟩))
      go_ret2
      exact ⟨rfl, Below.then hb1 hb2⟩
end Go.Proofs.Ytoaeckfppoaljaa
