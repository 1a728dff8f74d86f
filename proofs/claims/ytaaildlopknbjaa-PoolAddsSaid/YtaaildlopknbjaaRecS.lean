/- Layer 18 (pool): copies of lists of deposits and of dues, and lists put together. By contracts. -/
import Derived.Test.YtaaildlopknbjaaPoolM
import Derived.Laws.AppendOwnNone
import Derived.Lib.AppendZeros
import Derived.Lib.SliceRun
namespace Go.Proofs.Ytaaildlopknbjaa
open Go.RowKit
set_option linter.unusedVariables false
set_option linter.unusedSimpArgs false

theorem info_dep : (Try.prog.info? 25).map (fun i => (i.zero, i.size, i.bytes)) = some (some (.agg (Rec.vals (Dep.zero : Dep))), Rec.z Dep, 32) := by kernel_rfl
theorem size_dep : (Try.prog.info? 25).map (·.size) = some (Rec.z Dep) := by kernel_rfl

set_option maxRecDepth 100000 in
set_option maxHeartbeats 1000000 in
/-- Room ahead, of nothing. -/
theorem grow_dep (n : Nat) (w : World) (hn : n ≤ 1000000000) :
    Calls Try.prog 34 #[.slice none 0 0, .int .i64 (n : Int)] w fun e w' => ∃ v, e = .returned v ∧ w'.ownsRow w.heap.size 25 (Rec.z Dep) v 0 [] ∧ Below w.heap.size w w' := by
  obtain ⟨i0, hi0, hz0, hz1, hz2⟩ := info_parts info_dep
  by_cases h0 : n = 0
  · subst h0
    go_enter Try.func34, Try.ntmps34
    go_wp2
    refine bodyPost_ret (v := .slice none 0 0) (by simp [results, Try.results34, go_sem]) rfl ⟨_, rfl, World.ownsRow_nil _ _ _ _, Below.refl _ _⟩
  · have hr := Lib.run_append_nil_zeros (P := Try.prog) w 22 3 22 25 i0 _ .i64 .i64 Try.underlying22 Try.underlying3 hi0 hz0 n (by omega) (by rw [hz1]; decide) (by omega) (by rw [hz2]; omega)
    have hge := grownCap_ge w n 0 25
    have hcm : grownCap w n 0 25 ≤ maxLen := grownCap_le_maxLen w n 0 25 (by unfold maxLen; omega)
    obtain ⟨C, hC⟩ : ∃ C, grownCap w n 0 25 = C := ⟨_, rfl⟩
    rw [hC] at hr hge hcm
    have hzc : (Value.agg (Rec.vals (Dep.zero : Dep))).cells.size = Rec.z Dep := Rec.size _
    have hsz := zeros_size (Value.agg (Rec.vals (Dep.zero : Dep))).cells n C hge
    rw [hzc] at hsz
    obtain ⟨Z, hZ⟩ : ∃ Z, Builtin.zeroCells (Value.agg (Rec.vals (Dep.zero : Dep))).cells n ++ Builtin.zeroCells (Value.agg (Rec.vals (Dep.zero : Dep))).cells (C - n) = Z := ⟨_, rfl⟩
    rw [hZ] at hr hsz
    have hown : (w.drew.alloc (.cells Z 25)).ownsRow w.heap.size 25 (Rec.z Dep) (.slice (some ⟨w.heap.size, 0, none⟩) 0 C) 0 [] :=
      World.ownsRow_made w.drew _ C (Nat.le_refl _) hcm hsz
    have hB : Below w.heap.size w (w.drew.alloc (.cells Z 25)) := ((Below.refl _ _).drew).alloc (Nat.le_refl _) _
    generalize (w.drew.alloc (.cells Z 25)) = w1 at hr hown hB
    have h1 : (0 : Int) < (n : Int) := by omega
    have e0 : IntKind.i64.wrap (n : Int) = (n : Int) := by rw [IntKind.wrap_i64]; omega
    clear hC hsz hzc hZ
    unfold maxLen at hcm
    go_enter Try.func34, Try.ntmps34
    go_wp2_with (at_builtin; refine Lib.wpList_append_run _ rfl _ _ _ _ rfl _ _ rfl rfl _ _ hr ?_)
    clear hr
    have qs : ∀ w, (sizeOf 25).run Try.prog w = .ok (Rec.z Dep) w := fun w => Try.sizeOf25 w
    go_wp2
    refine bodyPost_ret (v := .slice (some ⟨w.heap.size, 0, none⟩) 0 C) (by simp [results, Try.results34, go_sem]) rfl ⟨_, rfl, hown, hB⟩

set_option maxRecDepth 100000 in
set_option maxHeartbeats 2000000 in
/-- Lists put together, in memory of their own. -/
theorem concat_dep (ls : List (SlR Dep)) (S : Nat → Prop) (A : Option Addr) (c : Nat) (w : World) (hx : Lie w S A (ls.map SlR.val)) (hn : ls.length ≤ 1000)
    (hl : ∀ s ∈ ls, ∃ B, Row w B s.A (rows s.l)) (hnil : ∀ s ∈ ls, s.A = none → s.c = 0) (htot : (rflat ls).length ≤ 1000000000) :
    Calls Try.prog 19 #[.slice A ls.length c] w fun e w' => ∃ v, e = .returned v ∧ w'.ownsRow w.heap.size 25 (Rec.z Dep) v (rflat ls).length (rows (rflat ls)) ∧ Below w.heap.size w w' := by
  obtain ⟨i0, hi0, hz0, hz1, hz2⟩ := info_parts info_dep
  have HL := Lib.hid hl
  have HNIL := Lib.hid hnil
  have HX := Lib.hid hx
  clear hl hnil hx
  have kg := fun (n : Nat) (w : World) (h : n ≤ 1000000000) => grow_dep n w h
  go_enter Try.func19, Try.ntmps19
  go_wp2
  go_loop [3, 11] (fun s i => ∃ k m : Nat, k ≤ ls.length ∧ i = .int .i64 k ∧ s = .int .i64 m ∧ Hid ((rflat (ls.take k)).length = m)) (fun _ i => ls.length - (intOf i).toNat)
  case atStart => exact ⟨0, 0, Nat.zero_le _, rfl, rfl, Lib.hid rfl⟩
  case round =>
    obtain ⟨k, m, hk, rfl, rfl, HM⟩ := hrel
    by_cases hlt : k < ls.length
    · obtain ⟨a, rfl, hb, hc⟩ := HX.out k (ls[k]).val (by simp [hlt])
      have h1 := rflat_take_succ hlt
      have h2 := rflat_take_le ls (k + 1)
      have h3 : (rflat (ls.take (k + 1))).length = m + (ls[k]).l.length := by rw [h1, List.length_append, HM.out]
      rw [h3] at h2
      obtain ⟨q, hq⟩ : ∃ q, (ls[k]).l.length = q := ⟨_, rfl⟩
      unfold SlR.val at hc
      rw [hq] at hc h2 h3
      have H3 := Lib.hid h3
      clear h1 h3 hq
      go_wp2
      go_round
      case rel => exact ⟨k + 1, m + q, by omega, by go_num, by go_num, H3⟩
      case measure => simp [intOf]; omega
    · obtain rfl : k = ls.length := by omega
      have hm := HM.out
      rw [List.take_length] at hm
      have hmle : m ≤ 1000000000 := by omega
      clear hm
      go_wp2_with fail
      refine (kg m w hmle).mono ?_
      clear kg
      rintro e w1 ⟨v1, rfl, hown1, hb1⟩
      go_wp2
      go_loopw [6, 27] (fun nv iv wr => ∃ (k : Nat) (vo : Value), k ≤ ls.length ∧ iv = .int .i64 (k : Int) ∧ vo = nv ∧ wr.ownsRow w.heap.size 25 (Rec.z Dep) vo (rflat (ls.take k)).length (rows (rflat (ls.take k))) ∧ Below w.heap.size w wr) (fun _ iv _ => ls.length - (intOf iv).toNat)
      case atStart => exact ⟨0, _, Nat.zero_le _, rfl, rfl, hown1, hb1⟩
      case round =>
        obtain ⟨k, vo, hk2, rfl, rfl, hown, hB⟩ := hrel
        clear hown1 hb1
        by_cases hlt : k < ls.length
        · obtain ⟨S', hs⟩ := HL.out _ (List.getElem_mem hlt)
          have hnl := HNIL.out _ (List.getElem_mem hlt)
          obtain ⟨a, ea, hb, hc⟩ := HX.out k (ls[k]).val (by simp [hlt])
          have hcr : wr.cell? (a.add k) = some (ls[k]).val := (hB.cell (World.block_lt_of_cell? w _ hc)).trans hc
          have hsr : Row wr S' (ls[k]).A (rows (ls[k]).l) := fun j v hv => by
            obtain ⟨a', h1, h2, h3⟩ := hs j v hv
            exact ⟨a', h1, h2, (hB.cell (World.block_lt_of_cell? w _ h3)).trans h3⟩
          have h1 := rflat_take_succ hlt
          have h2 := rflat_take_le ls (k + 1)
          rw [h1, List.length_append] at h2
          have H1 := Lib.hid h1
          subst ea
          unfold SlR.val at hcr
          clear h1 hc hs
          obtain ⟨s, es⟩ : ∃ s, ls[k] = s := ⟨_, rfl⟩
          rw [es] at hcr hsr hnl h2 H1
          clear es
          rcases s with ⟨l, A', c'⟩
          simp only at hcr hsr hnl h2 H1
          rcases A' with _ | ad
          · obtain rfl := hnl rfl
            have hl0 : l = [] := rows_none hsr
            subst hl0
            rw [List.length_nil] at hcr
            go_wp2_with (at_builtin; refine wpList_append_own_none rfl _ _ 22 rfl w.heap.size 25 i0 (Rec.z Dep) Try.underlying22 hi0 _ _ _ rfl hown rfl ?_)
            go_roundw
            case rel =>
              refine ⟨k + 1, _, by omega, by go_num, rfl, ?_, hB⟩
              rw [H1.out, List.append_nil]
              exact hown
            case measure => simp [intOf]; omega
          · have hsrc : ∀ q v, (rows l)[q]? = some v → wr.cell? (ad.add q) = some v := fun q v hq => by
              obtain ⟨a', ha', _, hc'⟩ := hsr q v hq
              cases ha'
              exact hc'
            have HS := Lib.hid hsrc
            have HR := Lib.hid (rows_len l)
            clear hsrc hsr hnl
            go_wp2_with (at_builtin; refine wpList_append_own _ rfl _ _ 22 rfl w.heap.size 25 i0 _ (Rec.z Dep) 32 Try.underlying22 hi0 hz0 hz1 hz2 rfl (by decide) _ _ _ rfl hown ad l.length c' (rows l) rfl ?c1 ?c2 ?c3 ?c4 ?c5 ?c6 ?_)
            case c1 => exact HR.out
            case c2 => exact HS.out
            case c3 => exact rows_onecell l
            case c4 => simp only [maxLen]; omega
            case c5 => omega
            case c6 => exact hB.size
            intro v' w4 hown' hgrow _
            have hb' : Below w.heap.size w w4 := hB.grown hgrow hB.size (fun k hk => (hown.lt k hk).1)
            clear hgrow hown
            go_wp2
            go_roundw
            case rel =>
              refine ⟨k + 1, _, by omega, by go_num, rfl, ?_, hb'⟩
              rw [H1.out, List.length_append, rows_append]
              exact hown'
            case measure => simp [intOf]; omega
        · obtain rfl : k = ls.length := by omega
          rw [List.take_length] at hown
          go_wp2
          refine bodyPost_ret (v := vo) (by simp [results, Try.results19, go_sem]) rfl ⟨_, rfl, hown, hB⟩

/-- Two lists put together, out of a list of both that was made just now. -/
theorem join2_dep (l1 l2 : List Dep) (A1 A2 : Option Addr) (n1 n2 c1 c2 B1 B2 g : Nat) (w : World) (hg : w.heap[g]? = some (.cells #[.slice A1 n1 c1, .slice A2 n2 c2] 22 (0, 0))) (hn1 : l1.length = n1) (hn2 : l2.length = n2)
    (h1 : Row w B1 A1 (rows l1)) (h2 : Row w B2 A2 (rows l2)) (hb1 : A1 = none → c1 = 0) (hb2 : A2 = none → c2 = 0) (hl : n1 + n2 ≤ 1000000000) :
    Calls Try.prog 19 #[.slice (some ⟨g, 0, none⟩) 2 2] w fun e w' => ∃ v, e = .returned v ∧ w'.ownsRow w.heap.size 25 (Rec.z Dep) v (l1 ++ l2).length (rows (l1 ++ l2)) ∧ Below w.heap.size w w' := by
  subst hn1 hn2
  have hf : rflat [(⟨l1, A1, c1⟩ : SlR Dep), ⟨l2, A2, c2⟩] = l1 ++ l2 := by simp [rflat]
  have k := concat_dep [⟨l1, A1, c1⟩, ⟨l2, A2, c2⟩] (fun _ => True) (some ⟨g, 0, none⟩) 2 w ?_ (by simp) ?_ ?_ (by rw [hf, List.length_append]; exact hl)
  · rw [hf] at k
    exact k
  · intro j v hv
    refine ⟨_, rfl, trivial, ?_⟩
    rw [Addr.add_mid, Nat.zero_add, cell_of_row w g j _ _ _ hg, ← hv]
    simp [SlR.val]
  · intro s hs
    simp at hs
    rcases hs with rfl | rfl
    · exact ⟨_, h1⟩
    · exact ⟨_, h2⟩
  · intro s hs
    simp at hs
    rcases hs with rfl | rfl
    · exact hb1
    · exact hb2
/-- Three. -/
theorem join3_dep (l1 l2 l3 : List Dep) (A1 A2 A3 : Option Addr) (n1 n2 n3 c1 c2 c3 B1 B2 B3 g : Nat) (w : World) (hg : w.heap[g]? = some (.cells #[.slice A1 n1 c1, .slice A2 n2 c2, .slice A3 n3 c3] 22 (0, 0))) (hn1 : l1.length = n1) (hn2 : l2.length = n2) (hn3 : l3.length = n3)
    (h1 : Row w B1 A1 (rows l1)) (h2 : Row w B2 A2 (rows l2)) (h3 : Row w B3 A3 (rows l3)) (hb1 : A1 = none → c1 = 0) (hb2 : A2 = none → c2 = 0) (hb3 : A3 = none → c3 = 0) (hl : n1 + n2 + n3 ≤ 1000000000) :
    Calls Try.prog 19 #[.slice (some ⟨g, 0, none⟩) 3 3] w fun e w' => ∃ v, e = .returned v ∧ w'.ownsRow w.heap.size 25 (Rec.z Dep) v (l1 ++ (l2 ++ l3)).length (rows (l1 ++ (l2 ++ l3))) ∧ Below w.heap.size w w' := by
  subst hn1 hn2 hn3
  have hf : rflat [(⟨l1, A1, c1⟩ : SlR Dep), ⟨l2, A2, c2⟩, ⟨l3, A3, c3⟩] = l1 ++ (l2 ++ l3) := by simp [rflat]
  have k := concat_dep [⟨l1, A1, c1⟩, ⟨l2, A2, c2⟩, ⟨l3, A3, c3⟩] (fun _ => True) (some ⟨g, 0, none⟩) 3 w ?_ (by simp) ?_ ?_ (by rw [hf, List.length_append, List.length_append]; omega)
  · rw [hf] at k
    exact k
  · intro j v hv
    refine ⟨_, rfl, trivial, ?_⟩
    rw [Addr.add_mid, Nat.zero_add, cell_of_row w g j _ _ _ hg, ← hv]
    simp [SlR.val]
  · intro s hs
    simp at hs
    rcases hs with rfl | rfl | rfl
    · exact ⟨_, h1⟩
    · exact ⟨_, h2⟩
    · exact ⟨_, h3⟩
  · intro s hs
    simp at hs
    rcases hs with rfl | rfl | rfl
    · exact hb1
    · exact hb2
    · exact hb3

theorem info_due : (Try.prog.info? 50).map (fun i => (i.zero, i.size, i.bytes)) = some (some (.agg (Rec.vals (Due.zero : Due))), Rec.z Due, 24) := by kernel_rfl
theorem size_due : (Try.prog.info? 50).map (·.size) = some (Rec.z Due) := by kernel_rfl

set_option maxRecDepth 100000 in
set_option maxHeartbeats 1000000 in
/-- A copy, in memory of its own. -/
theorem clone_due (l : List Due) (B : Nat) (A : Option Addr) (c : Nat) (w : World) (hx : Row w B A (rows l)) (hl : l.length ≤ 1000000000) :
    Calls Try.prog 28 #[.slice A l.length c] w fun e w' => ∃ v, e = .returned v ∧ w'.ownsRow w.heap.size 50 (Rec.z Due) v l.length (rows l) ∧ Below w.heap.size w w' := by
  have q22 : ∀ (w : World) (a : Option Addr) (n c n' c' : Nat), (binOp .eql 37 (.slice a n c) (.slice none n' c')).run Try.prog w = .ok (.bool a.isNone) w := fun w a n c n' c' => Lib.run_eql_slice_nil w _ _ a n c n' c' Try.underlying37
  rcases A with _ | a
  · obtain rfl := rows_none hx
    go_enter Try.func28, Try.ntmps28
    go_wp2
    refine bodyPost_ret (v := .slice none 0 0) (by simp [results, Try.results28, go_sem]) rfl ⟨_, rfl, World.ownsRow_nil _ _ _ _, Below.refl _ _⟩
  · obtain ⟨i0, hi0, hz0, hz1, hz2⟩ := info_parts info_due
    have hsrc2 : ∀ o j u, (rows l)[j]? = some u → (w.alloc o).cell? (a.add j) = some u := fun o j u hj => by
      obtain ⟨a', ha', _, this⟩ := hx j u hj
      cases ha'
      rw [World.cell?_alloc_lt _ _ _ (World.block_lt_of_cell? w _ this)]; exact this
    have HS := Lib.hid hsrc2
    have hrl := rows_len l
    clear hsrc2
    go_enter Try.func28, Try.ntmps28
    go_wp2_with (at_builtin; refine wpList_append_own _ rfl _ _ 37 rfl w.heap.size 50 i0 _ (Rec.z Due) 24 Try.underlying37 hi0 hz0 hz1 hz2 rfl (by decide) _ _ _ rfl (World.ownsRow_made w #[] 0 (Nat.le_refl _) (Nat.zero_le _) rfl) a l.length c (rows l) rfl ?c1 ?c2 ?c3 ?c4 ?c5 ?c6 ?_)
    case c1 => exact hrl
    case c2 => exact HS.out _
    case c3 => exact rows_onecell l
    case c4 => simp only [maxLen]; omega
    case c5 => omega
    case c6 => simp
    intro v' w3 hown hgrow _
    have hb' : Below w.heap.size w w3 := ((Below.refl _ w).alloc (Nat.le_refl _) _).grown hgrow (by simp) (by intro k hk; simp [Value.ownBlock] at hk; omega)
    clear hgrow
    go_wp2
    refine bodyPost_ret (v := v') (by simp [results, Try.results28, go_sem]) rfl ⟨_, rfl, by simpa using hown, hb'⟩

set_option maxRecDepth 100000 in
set_option maxHeartbeats 1000000 in
/-- Room ahead, of nothing. -/
theorem grow_due (n : Nat) (w : World) (hn : n ≤ 1000000000) :
    Calls Try.prog 40 #[.slice none 0 0, .int .i64 (n : Int)] w fun e w' => ∃ v, e = .returned v ∧ w'.ownsRow w.heap.size 50 (Rec.z Due) v 0 [] ∧ Below w.heap.size w w' := by
  obtain ⟨i0, hi0, hz0, hz1, hz2⟩ := info_parts info_due
  by_cases h0 : n = 0
  · subst h0
    go_enter Try.func40, Try.ntmps40
    go_wp2
    refine bodyPost_ret (v := .slice none 0 0) (by simp [results, Try.results40, go_sem]) rfl ⟨_, rfl, World.ownsRow_nil _ _ _ _, Below.refl _ _⟩
  · have hr := Lib.run_append_nil_zeros (P := Try.prog) w 37 3 37 50 i0 _ .i64 .i64 Try.underlying37 Try.underlying3 hi0 hz0 n (by omega) (by rw [hz1]; decide) (by omega) (by rw [hz2]; omega)
    have hge := grownCap_ge w n 0 50
    have hcm : grownCap w n 0 50 ≤ maxLen := grownCap_le_maxLen w n 0 50 (by unfold maxLen; omega)
    obtain ⟨C, hC⟩ : ∃ C, grownCap w n 0 50 = C := ⟨_, rfl⟩
    rw [hC] at hr hge hcm
    have hzc : (Value.agg (Rec.vals (Due.zero : Due))).cells.size = Rec.z Due := Rec.size _
    have hsz := zeros_size (Value.agg (Rec.vals (Due.zero : Due))).cells n C hge
    rw [hzc] at hsz
    obtain ⟨Z, hZ⟩ : ∃ Z, Builtin.zeroCells (Value.agg (Rec.vals (Due.zero : Due))).cells n ++ Builtin.zeroCells (Value.agg (Rec.vals (Due.zero : Due))).cells (C - n) = Z := ⟨_, rfl⟩
    rw [hZ] at hr hsz
    have hown : (w.drew.alloc (.cells Z 50)).ownsRow w.heap.size 50 (Rec.z Due) (.slice (some ⟨w.heap.size, 0, none⟩) 0 C) 0 [] :=
      World.ownsRow_made w.drew _ C (Nat.le_refl _) hcm hsz
    have hB : Below w.heap.size w (w.drew.alloc (.cells Z 50)) := ((Below.refl _ _).drew).alloc (Nat.le_refl _) _
    generalize (w.drew.alloc (.cells Z 50)) = w1 at hr hown hB
    have h1 : (0 : Int) < (n : Int) := by omega
    have e0 : IntKind.i64.wrap (n : Int) = (n : Int) := by rw [IntKind.wrap_i64]; omega
    clear hC hsz hzc hZ
    unfold maxLen at hcm
    go_enter Try.func40, Try.ntmps40
    go_wp2_with (at_builtin; refine Lib.wpList_append_run _ rfl _ _ _ _ rfl _ _ rfl rfl _ _ hr ?_)
    clear hr
    have qs : ∀ w, (sizeOf 50).run Try.prog w = .ok (Rec.z Due) w := fun w => Try.sizeOf50 w
    go_wp2
    refine bodyPost_ret (v := .slice (some ⟨w.heap.size, 0, none⟩) 0 C) (by simp [results, Try.results40, go_sem]) rfl ⟨_, rfl, hown, hB⟩

set_option maxRecDepth 100000 in
set_option maxHeartbeats 2000000 in
/-- Lists put together, in memory of their own. -/
theorem concat_due (ls : List (SlR Due)) (S : Nat → Prop) (A : Option Addr) (c : Nat) (w : World) (hx : Lie w S A (ls.map SlR.val)) (hn : ls.length ≤ 1000)
    (hl : ∀ s ∈ ls, ∃ B, Row w B s.A (rows s.l)) (hnil : ∀ s ∈ ls, s.A = none → s.c = 0) (htot : (rflat ls).length ≤ 1000000000) :
    Calls Try.prog 33 #[.slice A ls.length c] w fun e w' => ∃ v, e = .returned v ∧ w'.ownsRow w.heap.size 50 (Rec.z Due) v (rflat ls).length (rows (rflat ls)) ∧ Below w.heap.size w w' := by
  obtain ⟨i0, hi0, hz0, hz1, hz2⟩ := info_parts info_due
  have HL := Lib.hid hl
  have HNIL := Lib.hid hnil
  have HX := Lib.hid hx
  clear hl hnil hx
  have kg := fun (n : Nat) (w : World) (h : n ≤ 1000000000) => grow_due n w h
  go_enter Try.func33, Try.ntmps33
  go_wp2
  go_loop [3, 11] (fun s i => ∃ k m : Nat, k ≤ ls.length ∧ i = .int .i64 k ∧ s = .int .i64 m ∧ Hid ((rflat (ls.take k)).length = m)) (fun _ i => ls.length - (intOf i).toNat)
  case atStart => exact ⟨0, 0, Nat.zero_le _, rfl, rfl, Lib.hid rfl⟩
  case round =>
    obtain ⟨k, m, hk, rfl, rfl, HM⟩ := hrel
    by_cases hlt : k < ls.length
    · obtain ⟨a, rfl, hb, hc⟩ := HX.out k (ls[k]).val (by simp [hlt])
      have h1 := rflat_take_succ hlt
      have h2 := rflat_take_le ls (k + 1)
      have h3 : (rflat (ls.take (k + 1))).length = m + (ls[k]).l.length := by rw [h1, List.length_append, HM.out]
      rw [h3] at h2
      obtain ⟨q, hq⟩ : ∃ q, (ls[k]).l.length = q := ⟨_, rfl⟩
      unfold SlR.val at hc
      rw [hq] at hc h2 h3
      have H3 := Lib.hid h3
      clear h1 h3 hq
      go_wp2
      go_round
      case rel => exact ⟨k + 1, m + q, by omega, by go_num, by go_num, H3⟩
      case measure => simp [intOf]; omega
    · obtain rfl : k = ls.length := by omega
      have hm := HM.out
      rw [List.take_length] at hm
      have hmle : m ≤ 1000000000 := by omega
      clear hm
      go_wp2_with fail
      refine (kg m w hmle).mono ?_
      clear kg
      rintro e w1 ⟨v1, rfl, hown1, hb1⟩
      go_wp2
      go_loopw [6, 27] (fun nv iv wr => ∃ (k : Nat) (vo : Value), k ≤ ls.length ∧ iv = .int .i64 (k : Int) ∧ vo = nv ∧ wr.ownsRow w.heap.size 50 (Rec.z Due) vo (rflat (ls.take k)).length (rows (rflat (ls.take k))) ∧ Below w.heap.size w wr) (fun _ iv _ => ls.length - (intOf iv).toNat)
      case atStart => exact ⟨0, _, Nat.zero_le _, rfl, rfl, hown1, hb1⟩
      case round =>
        obtain ⟨k, vo, hk2, rfl, rfl, hown, hB⟩ := hrel
        clear hown1 hb1
        by_cases hlt : k < ls.length
        · obtain ⟨S', hs⟩ := HL.out _ (List.getElem_mem hlt)
          have hnl := HNIL.out _ (List.getElem_mem hlt)
          obtain ⟨a, ea, hb, hc⟩ := HX.out k (ls[k]).val (by simp [hlt])
          have hcr : wr.cell? (a.add k) = some (ls[k]).val := (hB.cell (World.block_lt_of_cell? w _ hc)).trans hc
          have hsr : Row wr S' (ls[k]).A (rows (ls[k]).l) := fun j v hv => by
            obtain ⟨a', h1, h2, h3⟩ := hs j v hv
            exact ⟨a', h1, h2, (hB.cell (World.block_lt_of_cell? w _ h3)).trans h3⟩
          have h1 := rflat_take_succ hlt
          have h2 := rflat_take_le ls (k + 1)
          rw [h1, List.length_append] at h2
          have H1 := Lib.hid h1
          subst ea
          unfold SlR.val at hcr
          clear h1 hc hs
          obtain ⟨s, es⟩ : ∃ s, ls[k] = s := ⟨_, rfl⟩
          rw [es] at hcr hsr hnl h2 H1
          clear es
          rcases s with ⟨l, A', c'⟩
          simp only at hcr hsr hnl h2 H1
          rcases A' with _ | ad
          · obtain rfl := hnl rfl
            have hl0 : l = [] := rows_none hsr
            subst hl0
            rw [List.length_nil] at hcr
            go_wp2_with (at_builtin; refine wpList_append_own_none rfl _ _ 37 rfl w.heap.size 50 i0 (Rec.z Due) Try.underlying37 hi0 _ _ _ rfl hown rfl ?_)
            go_roundw
            case rel =>
              refine ⟨k + 1, _, by omega, by go_num, rfl, ?_, hB⟩
              rw [H1.out, List.append_nil]
              exact hown
            case measure => simp [intOf]; omega
          · have hsrc : ∀ q v, (rows l)[q]? = some v → wr.cell? (ad.add q) = some v := fun q v hq => by
              obtain ⟨a', ha', _, hc'⟩ := hsr q v hq
              cases ha'
              exact hc'
            have HS := Lib.hid hsrc
            have HR := Lib.hid (rows_len l)
            clear hsrc hsr hnl
            go_wp2_with (at_builtin; refine wpList_append_own _ rfl _ _ 37 rfl w.heap.size 50 i0 _ (Rec.z Due) 24 Try.underlying37 hi0 hz0 hz1 hz2 rfl (by decide) _ _ _ rfl hown ad l.length c' (rows l) rfl ?c1 ?c2 ?c3 ?c4 ?c5 ?c6 ?_)
            case c1 => exact HR.out
            case c2 => exact HS.out
            case c3 => exact rows_onecell l
            case c4 => simp only [maxLen]; omega
            case c5 => omega
            case c6 => exact hB.size
            intro v' w4 hown' hgrow _
            have hb' : Below w.heap.size w w4 := hB.grown hgrow hB.size (fun k hk => (hown.lt k hk).1)
            clear hgrow hown
            go_wp2
            go_roundw
            case rel =>
              refine ⟨k + 1, _, by omega, by go_num, rfl, ?_, hb'⟩
              rw [H1.out, List.length_append, rows_append]
              exact hown'
            case measure => simp [intOf]; omega
        · obtain rfl : k = ls.length := by omega
          rw [List.take_length] at hown
          go_wp2
          refine bodyPost_ret (v := vo) (by simp [results, Try.results33, go_sem]) rfl ⟨_, rfl, hown, hB⟩

/-- Two lists put together, out of a list of both that was made just now. -/
theorem join2_due (l1 l2 : List Due) (A1 A2 : Option Addr) (n1 n2 c1 c2 B1 B2 g : Nat) (w : World) (hg : w.heap[g]? = some (.cells #[.slice A1 n1 c1, .slice A2 n2 c2] 37 (0, 0))) (hn1 : l1.length = n1) (hn2 : l2.length = n2)
    (h1 : Row w B1 A1 (rows l1)) (h2 : Row w B2 A2 (rows l2)) (hb1 : A1 = none → c1 = 0) (hb2 : A2 = none → c2 = 0) (hl : n1 + n2 ≤ 1000000000) :
    Calls Try.prog 33 #[.slice (some ⟨g, 0, none⟩) 2 2] w fun e w' => ∃ v, e = .returned v ∧ w'.ownsRow w.heap.size 50 (Rec.z Due) v (l1 ++ l2).length (rows (l1 ++ l2)) ∧ Below w.heap.size w w' := by
  subst hn1 hn2
  have hf : rflat [(⟨l1, A1, c1⟩ : SlR Due), ⟨l2, A2, c2⟩] = l1 ++ l2 := by simp [rflat]
  have k := concat_due [⟨l1, A1, c1⟩, ⟨l2, A2, c2⟩] (fun _ => True) (some ⟨g, 0, none⟩) 2 w ?_ (by simp) ?_ ?_ (by rw [hf, List.length_append]; exact hl)
  · rw [hf] at k
    exact k
  · intro j v hv
    refine ⟨_, rfl, trivial, ?_⟩
    rw [Addr.add_mid, Nat.zero_add, cell_of_row w g j _ _ _ hg, ← hv]
    simp [SlR.val]
  · intro s hs
    simp at hs
    rcases hs with rfl | rfl
    · exact ⟨_, h1⟩
    · exact ⟨_, h2⟩
  · intro s hs
    simp at hs
    rcases hs with rfl | rfl
    · exact hb1
    · exact hb2
/-- Three. -/
theorem join3_due (l1 l2 l3 : List Due) (A1 A2 A3 : Option Addr) (n1 n2 n3 c1 c2 c3 B1 B2 B3 g : Nat) (w : World) (hg : w.heap[g]? = some (.cells #[.slice A1 n1 c1, .slice A2 n2 c2, .slice A3 n3 c3] 37 (0, 0))) (hn1 : l1.length = n1) (hn2 : l2.length = n2) (hn3 : l3.length = n3)
    (h1 : Row w B1 A1 (rows l1)) (h2 : Row w B2 A2 (rows l2)) (h3 : Row w B3 A3 (rows l3)) (hb1 : A1 = none → c1 = 0) (hb2 : A2 = none → c2 = 0) (hb3 : A3 = none → c3 = 0) (hl : n1 + n2 + n3 ≤ 1000000000) :
    Calls Try.prog 33 #[.slice (some ⟨g, 0, none⟩) 3 3] w fun e w' => ∃ v, e = .returned v ∧ w'.ownsRow w.heap.size 50 (Rec.z Due) v (l1 ++ (l2 ++ l3)).length (rows (l1 ++ (l2 ++ l3))) ∧ Below w.heap.size w w' := by
  subst hn1 hn2 hn3
  have hf : rflat [(⟨l1, A1, c1⟩ : SlR Due), ⟨l2, A2, c2⟩, ⟨l3, A3, c3⟩] = l1 ++ (l2 ++ l3) := by simp [rflat]
  have k := concat_due [⟨l1, A1, c1⟩, ⟨l2, A2, c2⟩, ⟨l3, A3, c3⟩] (fun _ => True) (some ⟨g, 0, none⟩) 3 w ?_ (by simp) ?_ ?_ (by rw [hf, List.length_append, List.length_append]; omega)
  · rw [hf] at k
    exact k
  · intro j v hv
    refine ⟨_, rfl, trivial, ?_⟩
    rw [Addr.add_mid, Nat.zero_add, cell_of_row w g j _ _ _ hg, ← hv]
    simp [SlR.val]
  · intro s hs
    simp at hs
    rcases hs with rfl | rfl | rfl
    · exact ⟨_, h1⟩
    · exact ⟨_, h2⟩
    · exact ⟨_, h3⟩
  · intro s hs
    simp at hs
    rcases hs with rfl | rfl | rfl
    · exact hb1
    · exact hb2
    · exact hb3
end Go.Proofs.Ytaaildlopknbjaa
