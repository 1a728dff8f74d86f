/- Layer 18 (pool), the document's: two lists that are the same, a sum without an end; the chapter's example; lists that come in with a law's arguments. -/
import Derived.Test.YtaaildlopknbjaaPoolB
import Derived.Test.YtaaildlopknbjaaNatG
import Derived.Test.YtaaildlopknbjaaLawP
import Derived.Lib.SmallJoins
namespace Go.Proofs.Ytaaildlopknbjaa
open Go.ChangeShapes Go.WideShapes Go.ChangeAt Go.RowKit Go.Shelf Go.Deep
set_option linter.unusedVariables false
set_option linter.unusedSimpArgs false

theorem rdep_fields : ∃ fs, Try.prog.underlying 34 = some (.struct fs) ∧ ∀ d : Dep, ∀ f ∈ fs.toList, OneField Try.prog (Rec.vals d) f := ⟨_, Try.underlying34, fun d f hf => by
  simp at hf
  rcases hf with rfl | rfl | rfl | rfl
  · exact .inl ⟨_, _, _, Try.underlying3, rfl⟩
  · exact .inl ⟨_, _, _, Try.underlying3, rfl⟩
  · exact .inl ⟨_, _, _, Try.underlying23, rfl⟩
  · exact .inr ⟨_, Try.underlying4, rfl⟩⟩
theorem due_fields : ∃ fs, Try.prog.underlying 50 = some (.struct fs) ∧ ∀ d : Due, ∀ f ∈ fs.toList, OneField Try.prog (Rec.vals d) f := ⟨_, Try.underlying50, fun d f hf => by
  simp at hf
  rcases hf with rfl | rfl | rfl
  · exact .inl ⟨_, _, _, Try.underlying3, rfl⟩
  · exact .inl ⟨_, _, _, Try.underlying3, rfl⟩
  · exact .inl ⟨_, _, _, Try.underlying23, rfl⟩⟩

set_option maxRecDepth 100000 in
set_option maxHeartbeats 2000000 in
theorem same_deps (l : List Dep) (A1 A2 : Option Addr) (c1 c2 : Nat) (w : World) (hr1 : Row w w.heap.size A1 (rows l)) (hr2 : Row w w.heap.size A2 (rows l)) (hl : l.length ≤ 1000000) :
    Calls Try.prog 10 #[.slice A1 l.length c1, .slice A2 l.length c2] w fun e w' => e = .returned (.bool true) ∧ Below w.heap.size w w' := by
  obtain ⟨fs, hfu, hff⟩ := rdep_fields
  have HR1 := Lib.hid hr1
  have HR2 := Lib.hid hr2
  have HFF := Lib.hid hff
  clear hr1 hr2 hff
  go_enter Try.func10, Try.ntmps10
  go_wp2
  go_loopw [5] (fun iv wr => ∃ k : Nat, k ≤ l.length ∧ iv = .int .i64 (k : Int) ∧ Below w.heap.size w wr) (fun iv _ => l.length - (intOf iv).toNat)
  case atStart => exact ⟨0, Nat.zero_le _, rfl, Below.refl _ _⟩
  case round =>
    obtain ⟨k, hk, rfl, hB⟩ := hrel
    by_cases hlt : k < l.length
    · obtain ⟨s, hs⟩ : ∃ s, l[k]? = some s := ⟨_, List.getElem?_eq_getElem hlt⟩
      obtain ⟨a, rfl, hab, hat⟩ := rows_row (HR1.out.below hB) hs
      obtain ⟨a2, rfl, hab2, hat2⟩ := rows_row (HR2.out.below hB) hs
      have cells : ∀ w', Below wr.heap.size wr w' → LiesAt w' (a.add (k * 4)) (Rec.vals s) := fun w' h => LiesAt.up hat h
      have cells2 : ∀ w', Below wr.heap.size wr w' → LiesAt w' (a2.add (k * 4)) (Rec.vals s) := fun w' h => LiesAt.up hat2 h
      have hki : (k : Int) < (l.length : Int) := by omega
      have hk0 : (0 : Int) ≤ (k : Int) := by omega
      clear hs hat hat2 hab hab2
      go_wp2
      refine region_list [] (fun _ w' => Below wr.heap.size wr w') (by kernel_rfl) (by kernel_rfl) (Below.refl _ _).drew ?_
      iterate 3 ((refine' SeqS.calm _ (by rfl) (by rfl) (fun w => ?_) ?_; rotate_left; · (go_simp <;> with_reducible rfl)); simp only [Act.put, List.setIfInBounds_toArray, List.set_cons_zero, List.set_cons_succ])
      refine SeqS.take _ (by rfl) (by rfl) (fun ph w' hS => exec_load_rec 34 _ rfl _ (Rec.vals s) rfl (cells w' hS) hfu size_rdep) ?_
      simp only [Act.put, List.setIfInBounds_toArray, List.set_cons_zero, List.set_cons_succ]
      iterate 3 ((refine' SeqS.calm _ (by rfl) (by rfl) (fun w => ?_) ?_; rotate_left; · (go_simp <;> with_reducible rfl)); simp only [Act.put, List.setIfInBounds_toArray, List.set_cons_zero, List.set_cons_succ])
      refine SeqS.take _ (by rfl) (by rfl) (fun ph w' hS => exec_load_rec 34 _ rfl _ (Rec.vals s) rfl (cells2 w' hS) hfu size_rdep) ?_
      simp only [Act.put, List.setIfInBounds_toArray, List.set_cons_zero, List.set_cons_succ]
      refine SeqS.take _ (by rfl) (by rfl) (fun ph w' hS => exec_neq_rec w' _ _ _ rfl (Rec.vals s) rfl rfl (by kernel_rfl) hfu (by kernel_rfl) (HFF.out s)) ?_
      simp only [Act.put, List.setIfInBounds_toArray, List.set_cons_zero, List.set_cons_succ]
      intro w8 hw8
      have hB8 := Below.then hB hw8
      clear cells cells2 hw8
      go_wp2
      go_roundw
      case rel => exact ⟨k + 1, by omega, by go_num, hB8⟩
      case measure => simp [intOf]; omega
    · obtain rfl : k = l.length := by omega
      go_wp2
      go_ret
      exact ⟨rfl, hB⟩

theorem word_in_row {α : Type} [Rec α] {w : World} {B : Nat} {A : Option Addr} {l : List α} (h : Row w B A (rows l)) {k j : Nat} {s : α} {v : Value} (hs : l[k]? = some s) (hv : (Rec.vals s).toList[j + 1]? = some v) : ∃ a, A = some a ∧ a.block < B ∧ w.cell? ⟨(a.add (k * Rec.z α)).block, (a.add (k * Rec.z α)).off + (j + 1), none⟩ = some v := by
  obtain ⟨a, h1, h2, h3⟩ := rows_row h hs
  exact ⟨a, h1, h2, h3.fld j hv⟩
theorem tot_le (l : List Nat) (M : Nat) (h : ∀ n ∈ l, n ≤ M) : tot l ≤ l.length * M := by
  have := tot_bound l M h l.length
  rwa [List.take_length] at this
theorem digs_of_two (l m : List Nat) (h : ∀ n ∈ l, n ≤ 18446744073709551615) (h2 : ∀ n ∈ m, n ≤ 18446744073709551615) (hl : l.length ≤ 100000) (k : Nat) (hk : m.length ≤ 100000) : (digs (tot l + tot (m.take k))).length ≤ 26 := by
  have e1 := tot_le l _ h
  have e2 := tot_take_le m k
  have e3 := tot_le m _ h2
  apply digs_len
  have e4 := Nat.mul_le_mul_right 18446744073709551615 hl
  have e5 := Nat.mul_le_mul_right 18446744073709551615 hk
  omega

set_option maxRecDepth 100000 in
set_option maxHeartbeats 4000000 in
theorem rsum_is (l : List Dep) (m : List Due) (A A2 : Option Addr) (c c2 : Nat) (w : World) (hr : Row w w.heap.size A (rows l)) (hr2 : Row w w.heap.size A2 (rows m)) (hl : l.length ≤ 100000) (hl2 : m.length ≤ 100000)
    (hx : ∀ x ∈ l, x.amt ≤ 18446744073709551615) (hx2 : ∀ x ∈ m, x.amt ≤ 18446744073709551615) :
    Calls Try.prog 13 #[.slice A l.length c, .slice A2 m.length c2] w fun e w' => ∃ v, e = .returned v ∧ NatV w' w'.heap.size v (totDep l + totDue m) ∧ Fresh w.heap.size v ∧ Below w.heap.size w w' := by
  unfold totDep totDue
  obtain ⟨ns, hns⟩ : ∃ ns, l.map Dep.amt = ns := ⟨_, rfl⟩
  obtain ⟨ms, hms⟩ : ∃ ms, m.map Due.amt = ms := ⟨_, rfl⟩
  rw [hns, hms]
  have HP1 := Lib.hid hns
  have HP2 := Lib.hid hms
  have HL1 : Hid (ns.length = l.length) := Lib.hid (by rw [← hns]; simp)
  have HL2 : Hid (ms.length = m.length) := Lib.hid (by rw [← hms]; simp)
  have HN1 : Hid (∀ n ∈ ns, n ≤ 18446744073709551615) := Lib.hid (fun n hn => by rw [← hns] at hn; obtain ⟨d, hd, rfl⟩ := List.mem_map.1 hn; exact hx d hd)
  have HN2 : Hid (∀ n ∈ ms, n ≤ 18446744073709551615) := Lib.hid (fun n hn => by rw [← hms] at hn; obtain ⟨d, hd, rfl⟩ := List.mem_map.1 hn; exact hx2 d hd)
  have HR1 := Lib.hid hr
  have HR2 := Lib.hid hr2
  have HX1 := Lib.hid hx
  have HX2 := Lib.hid hx2
  have HB0 : Hid (Below w.heap.size w (w.alloc (.cells #[.slice none 0 0] 44))) := Lib.hid ((Below.refl _ _).alloc (Nat.le_refl _) _)
  clear hr hr2 hx hx2 hns hms
  go_enter Try.func13, Try.ntmps13
  go_wp2
  go_loopw [6] (fun iv wr => ∃ i : Nat, i ≤ l.length ∧ iv = .int .i64 (i : Int) ∧ Acc w.heap.size wr (tot (ns.take i)) ∧ Below (w.heap.size + 1) (w.alloc (.cells #[.slice none 0 0] 44)) wr ∧ w.heap.size + 2 ≤ wr.heap.size) (fun iv _ => l.length - (intOf iv).toNat)
  case atStart =>
    refine ⟨0, Nat.zero_le _, rfl, ⟨none, 0, 0, ?_, ?_, NatV.zero _ _, ?_⟩, (Below.refl _ _).alloc (by simp) _, by simp⟩
    · rw [World.cell?_alloc_at _ _ _ _ (by simp)]; rfl
    · exact World.frozen?_alloc_at _ _ _ _ (by simp)
    · exact fresh_of (fun a e => by cases e) (fun _ => rfl)
  case round =>
    obtain ⟨i, hi, rfl, ⟨Au, n, cu, hcu, hfu, hnu, hfru⟩, hb, hs⟩ := hrel
    by_cases hgo : i < l.length
    · obtain ⟨s, hsm⟩ : ∃ s, l[i]? = some s := ⟨_, List.getElem?_eq_getElem hgo⟩
      obtain ⟨aA, rfl, hbA, hcA⟩ := word_in_row (j := 1) (v := .int .u64 (s.amt : Int)) (HR1.out.below ((HB0.out).trans (hb.mono (by omega)))) hsm rfl
      have hcA : wr.cell? ⟨(aA.add (i * 4)).block, (aA.add (i * 4)).off + 2, none⟩ = some (.int .u64 (s.amt : Int)) := hcA
      have hx := HX1.out s (List.mem_of_getElem? hsm)
      have hl1 : (digs s.amt).length ≤ 1000000 := Nat.le_trans (digs_len (k := 20) (by omega)) (by omega)
      have hl2 : (digs (tot (ns.take i))).length ≤ 1000000 := Nat.le_trans (tot_digs ns HN1.out i (by omega)) (by omega)
      have hgoI : (i : Int) < (l.length : Int) := by omega
      have hi0 : (0 : Int) ≤ (i : Int) := by omega
      have hsucc : tot (ns.take (i + 1)) = tot (ns.take i) + s.amt := by
        have hi2 : i < ns.length := by rw [HL1.out]; exact hgo
        rw [tot_take_succ ns i hi2]
        have : ns[i] = s.amt := by
          have h1 : ns[i]? = some s.amt := by rw [← HP1.out, List.getElem?_map, hsm]; rfl
          rw [List.getElem?_eq_getElem hi2] at h1
          exact Option.some.inj h1
        rw [this]
      have HS := Lib.hid hsucc
      clear hsucc hsm
      have hs1 : (⟨w.heap.size + 1, 0, none⟩ : Addr).block < wr.heap.size := by show w.heap.size + 1 < _; omega
      go_wp2
      go_region_with (first
        | (go_at_call 27; refine (of_any _ _ ?_).mono ?_; exact hx; rintro e w1 ⟨v1, rfl, hv1, hf1, hb1⟩; have hcu1 := (hb1.cell (p := ⟨w.heap.size + 1, 0, none⟩) hs1).trans hcu; have hfu1 := (hb1.frozen (p := ⟨w.heap.size + 1, 0, none⟩) hs1).trans hfu)
        | (go_at_call 26; refine (add_nat _ _ _ _ w1.heap.size w1 ((NatV.below (w := wr.drew) (B := wr.heap.size) hnu hb1).up hb1.size) hv1 (Nat.le_refl _) hl2 hl1).mono ?_; rintro e w2 ⟨v2, rfl, hv2, hf2, hb2⟩; obtain ⟨A2', c2', rfl, _⟩ := id hv2; have hcu2 := (hb2.cell (p := ⟨w.heap.size + 1, 0, none⟩) (Nat.lt_of_lt_of_le hs1 hb1.size)).trans hcu1; have hfu2 := (hb2.frozen (p := ⟨w.heap.size + 1, 0, none⟩) (Nat.lt_of_lt_of_le hs1 hb1.size)).trans hfu1))
      all_goals
        go_wp2
        go_roundw
        case rel =>
          refine ⟨i + 1, by omega, by go_num, ?_, ?_, ?_⟩
          · rw [HS.out]
            exact acc_next hv2 hf2 (Nat.le_trans hs hb1.size) hcu2 hfu2
          · exact (((below_drewN hb 1).trans (hb1.mono (by show _ ≤ wr.heap.size; omega))).trans (hb2.mono (Nat.le_trans (show w.heap.size + 1 ≤ wr.drew.heap.size from Nat.le_trans (by omega) hs) hb1.size))).setCell (by show w.heap.size + 1 ≤ w.heap.size + 1; omega) _
          · have h1 : wr.heap.size ≤ w1.heap.size := hb1.size
            have h2 : w1.heap.size ≤ w2.heap.size := hb2.size
            show _ ≤ (w2.setCell _ _).heap.size
            simp [World.setCell]
            omega
        case measure => simp [intOf]; omega
    · obtain rfl : i = l.length := by omega
      have hfull : ns.take l.length = ns := by rw [← HL1.out]; exact List.take_length
      rw [hfull] at hnu
      clear hfull
      go_wp2
      go_loopw [7] (fun iv wr => ∃ i : Nat, i ≤ m.length ∧ iv = .int .i64 (i : Int) ∧ Acc w.heap.size wr (tot ns + tot (ms.take i)) ∧ Below (w.heap.size + 1) (w.alloc (.cells #[.slice none 0 0] 44)) wr ∧ w.heap.size + 2 ≤ wr.heap.size) (fun iv _ => m.length - (intOf iv).toNat)
      case atStart =>
        exact ⟨0, Nat.zero_le _, rfl, ⟨Au, n, cu, hcu, hfu, by simpa [tot] using hnu, hfru⟩, hb, hs⟩
      case round =>
        obtain ⟨i, hi, rfl, ⟨Au, n, cu, hcu, hfu, hnu, hfru⟩, hb, hs⟩ := hrel
        by_cases hgo : i < m.length
        · obtain ⟨s, hsm⟩ : ∃ s, m[i]? = some s := ⟨_, List.getElem?_eq_getElem hgo⟩
          obtain ⟨aA, rfl, hbA, hcA⟩ := word_in_row (j := 1) (v := .int .u64 (s.amt : Int)) (HR2.out.below ((HB0.out).trans (hb.mono (by omega)))) hsm rfl
          have hcA : wr.cell? ⟨(aA.add (i * 3)).block, (aA.add (i * 3)).off + 2, none⟩ = some (.int .u64 (s.amt : Int)) := hcA
          have hx := HX2.out s (List.mem_of_getElem? hsm)
          have hl1 : (digs s.amt).length ≤ 1000000 := Nat.le_trans (digs_len (k := 20) (by omega)) (by omega)
          have hl2 : (digs (tot ns + tot (ms.take i))).length ≤ 1000000 := Nat.le_trans (digs_of_two ns ms HN1.out HN2.out (by rw [HL1.out]; exact hl) i (by rw [HL2.out]; exact hl2)) (by omega)
          have hgoI : (i : Int) < (m.length : Int) := by omega
          have hi0 : (0 : Int) ≤ (i : Int) := by omega
          have hsucc : tot (ms.take (i + 1)) = tot (ms.take i) + s.amt := by
            have hi2 : i < ms.length := by rw [HL2.out]; exact hgo
            rw [tot_take_succ ms i hi2]
            have : ms[i] = s.amt := by
              have h1 : ms[i]? = some s.amt := by rw [← HP2.out, List.getElem?_map, hsm]; rfl
              rw [List.getElem?_eq_getElem hi2] at h1
              exact Option.some.inj h1
            rw [this]
          have HS := Lib.hid hsucc
          clear hsucc hsm
          have hs1 : (⟨w.heap.size + 1, 0, none⟩ : Addr).block < wr.heap.size := by show w.heap.size + 1 < _; omega
          go_wp2
          go_region_with (first
            | (go_at_call 27; refine (of_any _ _ ?_).mono ?_; exact hx; rintro e w1 ⟨v1, rfl, hv1, hf1, hb1⟩; have hcu1 := (hb1.cell (p := ⟨w.heap.size + 1, 0, none⟩) hs1).trans hcu; have hfu1 := (hb1.frozen (p := ⟨w.heap.size + 1, 0, none⟩) hs1).trans hfu)
            | (go_at_call 26; refine (add_nat _ _ _ _ w1.heap.size w1 ((NatV.below (w := wr.drew) (B := wr.heap.size) hnu hb1).up hb1.size) hv1 (Nat.le_refl _) hl2 hl1).mono ?_; rintro e w2 ⟨v2, rfl, hv2, hf2, hb2⟩; obtain ⟨A2', c2', rfl, _⟩ := id hv2; have hcu2 := (hb2.cell (p := ⟨w.heap.size + 1, 0, none⟩) (Nat.lt_of_lt_of_le hs1 hb1.size)).trans hcu1; have hfu2 := (hb2.frozen (p := ⟨w.heap.size + 1, 0, none⟩) (Nat.lt_of_lt_of_le hs1 hb1.size)).trans hfu1))
          all_goals
            go_wp2
            go_roundw
            case rel =>
              refine ⟨i + 1, by omega, by go_num, ?_, ?_, ?_⟩
              · rw [HS.out, ← Nat.add_assoc]
                exact acc_next hv2 hf2 (Nat.le_trans hs hb1.size) hcu2 hfu2
              · exact (((below_drewN hb 1).trans (hb1.mono (by show _ ≤ wr.heap.size; omega))).trans (hb2.mono (Nat.le_trans (show w.heap.size + 1 ≤ wr.drew.heap.size from Nat.le_trans (by omega) hs) hb1.size))).setCell (by show w.heap.size + 1 ≤ w.heap.size + 1; omega) _
              · have h1 : wr.heap.size ≤ w1.heap.size := hb1.size
                have h2 : w1.heap.size ≤ w2.heap.size := hb2.size
                show _ ≤ (w2.setCell _ _).heap.size
                simp [World.setCell]
                omega
            case measure => simp [intOf]; omega
        · obtain rfl : i = m.length := by omega
          have hfull : ms.take m.length = ms := by rw [← HL2.out]; exact List.take_length
          rw [hfull] at hnu
          clear hfull
          obtain ⟨hc0, hf0⟩ := result_cell hb
          go_wp2
          refine bodyPost_ret (v := .agg #[.slice Au n cu]) (by simp [results, Try.results13, go_sem, hc0]) rfl ⟨_, rfl, ?_⟩
          exact result_nat _ hnu hfru (Nat.le_refl _) (Nat.le_refl _) (by show w.heap.size < _; omega) (((Below.refl _ _).alloc (Nat.le_refl _) _).trans (hb.mono (by omega))) _
end Go.Proofs.Ytaaildlopknbjaa
