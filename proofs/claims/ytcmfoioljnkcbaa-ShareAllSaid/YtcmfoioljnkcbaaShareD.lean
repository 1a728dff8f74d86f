/- Layer 4 (share): a sum shared out without a rest. Plain mathematics, and the contract. -/
import Derived.Test.YtcmfoioljnkcbaaShareC
namespace Go.Proofs.Ytcmfoioljnkcbaa
open Go.RowKit Go.Shelf
set_option linter.unusedVariables false
attribute [local go_sem] Oper.semAt_some

/-- What is left of r when one is given to each weight above 0, in order. -/
def lft : Nat → List Nat → Nat
  | r, [] => r
  | r, w :: ws => if 0 < w ∧ 0 < r then lft (r - 1) ws else lft r ws
/-- The parts without a rest. -/
def spr (T W : Nat) : Nat → List Nat → List Nat
  | _, [] => []
  | r, w :: ws => if 0 < w ∧ 0 < r then (prt T W w + 1) :: spr T W (r - 1) ws else prt T W w :: spr T W r ws
theorem lft_le (ws : List Nat) : ∀ r, lft r ws ≤ r := by
  induction ws with
  | nil => intro r; exact Nat.le_refl _
  | cons w ws ih =>
    intro r
    unfold lft
    split
    · have := ih (r - 1); omega
    · exact ih r
theorem lft_cons (r w : Nat) (ws : List Nat) : lft r (w :: ws) = if 0 < w ∧ 0 < r then lft (r - 1) ws else lft r ws := rfl
theorem lft_snoc (ws : List Nat) (w : Nat) : ∀ r, lft r (ws ++ [w]) = if 0 < w ∧ 0 < lft r ws then lft r ws - 1 else lft r ws := by
  induction ws with
  | nil => intro r; rfl
  | cons y ws ih =>
    intro r
    rw [List.cons_append, lft_cons, lft_cons]
    by_cases h : 0 < y ∧ 0 < r
    · simp only [if_pos h]; exact ih (r - 1)
    · simp only [if_neg h]; exact ih r
theorem spr_snoc (T W : Nat) (ws : List Nat) (w : Nat) : ∀ r, spr T W r (ws ++ [w]) = spr T W r ws ++ [if 0 < w ∧ 0 < lft r ws then prt T W w + 1 else prt T W w] := by
  induction ws with
  | nil => intro r; by_cases h : 0 < w ∧ 0 < r <;> simp [spr, lft, h]
  | cons y ws ih =>
    intro r
    show (if 0 < y ∧ 0 < r then (prt T W y + 1) :: spr T W (r - 1) (ws ++ [w]) else prt T W y :: spr T W r (ws ++ [w])) = _
    by_cases h : 0 < y ∧ 0 < r
    · simp only [spr, lft, if_pos h]; rw [ih (r - 1)]; rfl
    · simp only [spr, lft, if_neg h]; rw [ih r]; rfl
theorem spr_len (T W : Nat) (ws : List Nat) : ∀ r, (spr T W r ws).length = ws.length := by
  induction ws with
  | nil => intro r; rfl
  | cons y ws ih =>
    intro r
    unfold spr
    split
    · simp [ih (r - 1)]
    · simp [ih r]
/-- Given and left are together the parts and the rest. -/
theorem spr_tot (T W : Nat) (ws : List Nat) : ∀ r, tot (spr T W r ws) + lft r ws = tot (ws.map (prt T W)) + r := by
  induction ws with
  | nil => intro r; simp [spr, lft, tot]
  | cons y ws ih =>
    intro r
    unfold spr lft
    by_cases h : 0 < y ∧ 0 < r
    · simp only [if_pos h]
      show prt T W y + 1 + tot (spr T W (r - 1) ws) + lft (r - 1) ws = prt T W y + tot (ws.map (prt T W)) + r
      have := ih (r - 1)
      omega
    · simp only [if_neg h]
      show prt T W y + tot (spr T W r ws) + lft r ws = prt T W y + tot (ws.map (prt T W)) + r
      have := ih r
      omega
/-- How many weights are above 0. -/
def nz (ws : List Nat) : Nat := (ws.filter fun w => decide (0 < w)).length
theorem nz_cons (w : Nat) (ws : List Nat) : nz (w :: ws) = (if 0 < w then 1 else 0) + nz ws := by
  unfold nz
  by_cases h : 0 < w
  · simp [h]; omega
  · simp [h]
theorem lft_nz (ws : List Nat) : ∀ r, lft r ws = r - nz ws := by
  induction ws with
  | nil => intro r; simp [lft, nz]
  | cons y ws ih =>
    intro r
    rw [nz_cons]
    unfold lft
    by_cases hy : 0 < y
    · by_cases hr : 0 < r
      · rw [if_pos ⟨hy, hr⟩, ih, if_pos hy]; omega
      · rw [if_neg (fun h => hr h.2), ih, if_pos hy]; omega
    · rw [if_neg (fun h => hy h.1), ih, if_neg hy]; omega
/-- What the parts leave is less than how many weights are above 0, if one is. -/
theorem rest_lt (T : Nat) (ws : List Nat) (h : 0 < tot ws) : T - tot (ws.map (prt T (tot ws))) < nz ws := by
  have key : ∀ l : List Nat, T * tot l + nz l ≤ tot (l.map (prt T (tot ws))) * tot ws + nz l * tot ws := by
    intro l
    induction l with
    | nil => simp [tot, nz]
    | cons x l ih =>
      rw [nz_cons]
      show T * (x + tot l) + _ ≤ (prt T (tot ws) x + tot (l.map (prt T (tot ws)))) * tot ws + _
      have h1 : T * x = prt T (tot ws) x * tot ws + T * x % tot ws := (Nat.div_add_mod' _ _).symm
      have h2 := Nat.mod_lt (T * x) h
      rw [Nat.mul_add, Nat.add_mul, Nat.add_mul]
      by_cases hx : 0 < x
      · rw [if_pos hx]; omega
      · have hx0 : x = 0 := by omega
        subst hx0
        rw [if_neg (by omega)]
        simp at h1 ⊢
        omega
  have hk := key ws
  have hp := tot_parts T ws
  have hz : 0 < nz ws := by
    rcases Nat.eq_zero_or_pos (nz ws) with h0 | h0
    · exfalso
      have : ∀ l : List Nat, nz l = 0 → tot l = 0 := by
        intro l
        induction l with
        | nil => intro _; rfl
        | cons x l ih =>
          intro h
          rw [nz_cons] at h
          show x + tot l = 0
          by_cases hx : 0 < x
          · rw [if_pos hx] at h; omega
          · have := ih (by omega); omega
      have := this ws h0
      omega
    · exact h0
  obtain ⟨r, hr⟩ : ∃ r, T = tot (ws.map (prt T (tot ws))) + r := ⟨_, (Nat.add_sub_cancel' hp).symm⟩
  have : (T - tot (ws.map (prt T (tot ws)))) * tot ws + nz ws ≤ nz ws * tot ws := by
    rw [Nat.sub_mul]
    have := Nat.mul_le_mul_right (tot ws) hp
    omega
  have h3 : (T - tot (ws.map (prt T (tot ws)))) * tot ws < nz ws * tot ws := by omega
  exact Nat.lt_of_mul_lt_mul_right h3

/-- One place more, reckoned in 64 bits: what is left, and the parts. -/
def step1 (T W : Nat) (ws : List Nat) (s : Nat × List Nat) (x : Place ws) : Nat × List Nat :=
  if 0 < ws[x.1] ∧ 0 < s.1 then (s.1 - 1, s.2 ++ [(prt T W ws[x.1] + 1) % 18446744073709551616]) else (s.1, s.2 ++ [prt T W ws[x.1]])
def steps (T W : Nat) (ws : List Nat) (r : Nat) (pre : List (Place ws)) : Nat × List Nat := pre.foldl (step1 T W ws) (r, [])
theorem steps_snoc (T W : Nat) (ws : List Nat) (r : Nat) (pre : List (Place ws)) (x : Place ws) : steps T W ws r (pre ++ [x]) = step1 T W ws (steps T W ws r pre) x := by simp [steps]
theorem steps_len (T W : Nat) (ws : List Nat) (r : Nat) (pre : List (Place ws)) : ∀ s : Nat × List Nat, (pre.foldl (step1 T W ws) s).2.length = s.2.length + pre.length := by
  induction pre with
  | nil => intro s; rfl
  | cons x pre ih =>
    intro s
    show (pre.foldl (step1 T W ws) (step1 T W ws s x)).2.length = _
    rw [ih]
    unfold step1
    split <;> simp <;> omega
theorem prt_lt_of_rest {T : Nat} {ws : List Nat} {w : Nat} (hw : w ∈ ws) (h : 0 < T - tot (ws.map (prt T (tot ws)))) : prt T (tot ws) w + 1 ≤ T := by
  have := le_tot (ws.map (prt T (tot ws))) (prt T (tot ws) w) (List.mem_map_of_mem hw)
  omega
/-- In order, they are the parts without a rest. -/
theorem steps_places (T : Nat) (ws : List Nat) (hT : T < 18446744073709551616) : ∀ (k : Nat) (h : k ≤ ws.length),
    steps T (tot ws) ws (T - tot (ws.map (prt T (tot ws)))) (places ws k h) = (lft (T - tot (ws.map (prt T (tot ws)))) (ws.take k), spr T (tot ws) (T - tot (ws.map (prt T (tot ws)))) (ws.take k))
  | 0, _ => by simp [steps, places, lft, spr]
  | k + 1, h => by
    unfold places
    rw [steps_snoc, steps_places T ws hT k, List.take_succ_eq_append_getElem h, lft_snoc, spr_snoc]
    unfold step1
    by_cases hc : 0 < ws[k] ∧ 0 < lft (T - tot (ws.map (prt T (tot ws)))) (ws.take k)
    · simp only [if_pos hc]
      have h1 := lft_le (ws.take k) (T - tot (ws.map (prt T (tot ws))))
      have h2 := prt_lt_of_rest (T := T) (List.getElem_mem h) (by omega)
      rw [Nat.mod_eq_of_lt (by omega)]
    · simp only [if_neg hc]

set_option maxRecDepth 100000 in
set_option maxHeartbeats 2000000 in
theorem share_spread_not (T : Nat) (ws : List Nat) (A : Option Addr) (c : Nat) (w : World) (hr : Row w w.heap.size A (u64s ws)) (hlen : ws.length ≤ maxLen) (hws : ∀ x ∈ ws, x ≤ 18446744073709551615) (h : ¬ Fits ws) :
    Calls Try.prog 14 #[.int .u64 T, .slice A ws.length c] w fun e w' => e = .returned (.tuple #[.slice none 0 0, .int .i64 40]) ∧ Below w.heap.size w w' := by
  have k : ∀ v, Below w.heap.size w v → Calls Try.prog 9 #[.slice A ws.length c] v fun e w' => e = .returned (.tuple #[.int .u64 0, .int .i64 40]) ∧ v = w' :=
    fun v hv => share_whole_not ws A c w.heap.size v (hr.below hv) hlen hws h
  clear hws h hr
  go_enter Try.func14, Try.ntmps14
  go_wp2_with (go_at_call 9; refine (k _ ((Below.refl _ w).alloc (Nat.le_refl _) _)).mono ?_; rintro e w' ⟨rfl, rfl⟩)
  go_ret2
  exact ⟨rfl, (Below.refl _ w).alloc (Nat.le_refl _) _⟩

set_option maxRecDepth 100000 in
set_option maxHeartbeats 2000000 in
theorem share_spread_zero (T : Nat) (ws : List Nat) (A : Option Addr) (c : Nat) (w : World) (hr : Row w w.heap.size A (u64s ws)) (h : Fits ws) (h0 : tot ws = 0) :
    Calls Try.prog 14 #[.int .u64 T, .slice A ws.length c] w fun e w' => e = .returned (.tuple #[.slice none 0 0, .int .i64 20]) ∧ Below w.heap.size w w' := by
  have k : ∀ v, Below w.heap.size w v → Calls Try.prog 9 #[.slice A ws.length c] v fun e w' => e = .returned (.tuple #[.int .u64 ((0 : Nat) : Int), .int .i64 0]) ∧ v = w' :=
    fun v hv => by rw [← h0]; exact share_whole_ok ws A c w.heap.size v (hr.below hv) h
  clear h hr h0
  go_enter Try.func14, Try.ntmps14
  go_wp2_with (go_at_call 9; refine (k _ ((Below.refl _ w).alloc (Nat.le_refl _) _)).mono ?_; rintro e w' ⟨rfl, rfl⟩)
  go_ret2
  exact ⟨rfl, (Below.refl _ w).alloc (Nat.le_refl _) _⟩

theorem box_below {W V : World} {B n : Nat} {t : TypeId} {v : Value} (h : Boxed W B t v) (hb : Below n W V) (hn : B < n) : Boxed V B t v := (hb.block B hn).trans h
theorem spread_start {w w1 : World} {ts te : TypeId} {s n : Nat} {x : Value} (r : Nat) (hte : ts ≠ te) (hs : w1.heap.size = s) (hx : Boxed w1 w.heap.size ts x) (hb : Below w.heap.size w w1) (hn : n ≤ maxLen) {W0 : World}
    (h : ((w1.alloc (.cells #[.int .u64 (r : Int)] te)).alloc (.cells (madeCells #[.int .u64 0] n) te)).alloc (.cells #[.slice (some ⟨s + 1, 0, none⟩) 0 n] ts) = W0) :
    Boxed W0 (s + 1 + 1) ts (.slice (some ⟨s + 1, 0, none⟩) 0 n) ∧ Boxed W0 s te (.int .u64 (r : Int)) ∧ Boxed W0 w.heap.size ts x ∧ W0.ownsRow w.heap.size te 1 (.slice (some ⟨s + 1, 0, none⟩) 0 n) 0 [] ∧ Below w.heap.size w W0 ∧ W0.heap.size = s + 1 + 1 + 1 := by
  subst h
  subst hs
  have hlt := hx.lt
  have hle := hb.size
  refine ⟨?_, ((Boxed.new w1 te _).alloc _).alloc _, ((hx.alloc _).alloc _).alloc _, ⟨rfl, .inr ⟨w1.heap.size + 1, n, madeCells #[.int .u64 0] n, rfl, by omega, ?_, Nat.zero_le _, hn, by rw [size_madeCells]; simp, by simp⟩⟩, ((hb.alloc hle _).alloc (by simp; omega) _).alloc (by simp; omega) _, by simp⟩
  · have h := Boxed.new ((w1.alloc (.cells #[.int .u64 (r : Int)] te)).alloc (.cells (madeCells #[.int .u64 0] n) te)) ts (.slice (some ⟨w1.heap.size + 1, 0, none⟩) 0 n)
    simpa using h
  · have h := World.alloc_heap_new (w1.alloc (.cells #[.int .u64 (r : Int)] te)) (.cells (madeCells #[.int .u64 0] n) te)
    rw [World.size_alloc] at h
    exact (Below.heap_alloc ((w1.alloc (.cells #[.int .u64 (r : Int)] te)).alloc (.cells (madeCells #[.int .u64 0] n) te)) (.cells #[.slice (some ⟨w1.heap.size + 1, 0, none⟩) 0 n] ts) (w1.heap.size + 1) (by simp)).trans h
theorem wrap_up (p : Nat) : IntKind.u64.wrap ((p : Int) + 1) = (((p + 1) % 18446744073709551616 : Nat) : Int) := by
  rw [IntKind.wrap_u64]
  omega
theorem one_new_set (V : World) (p : Addr) (y x : Value) (t : TypeId) : ∀ j u, [x][j]? = some u → ((V.setCell p y).alloc (.cells #[x] t)).cell? ((⟨V.heap.size, 0, none⟩ : Addr).add j) = some u := by
  have h := cell_one_new (V.setCell p y) x t
  have hs : (V.setCell p y).heap.size = V.heap.size := by simp [World.setCell]
  rwa [hs] at h
theorem steps_le (T W : Nat) (ws : List Nat) (pre : List (Place ws)) : ∀ s : Nat × List Nat, (pre.foldl (step1 T W ws) s).1 ≤ s.1 := by
  induction pre with
  | nil => intro s; exact Nat.le_refl _
  | cons x pre ih =>
    intro s
    refine Nat.le_trans (ih _) ?_
    unfold step1
    split
    · exact Nat.sub_le _ _
    · exact Nat.le_refl _

theorem lay_spread (h s : Nat) (hs : h ≤ s) : Lay h (s + 1 + 1 + 1) (s + 6) (s + 1 + 1) s (s + 1) := ⟨by omega, by omega, by omega, by omega, by omega, by omega⟩

set_option maxRecDepth 100000 in
set_option maxHeartbeats 2000000 in
theorem share_spread_ok (T : Nat) (ws : List Nat) (A : Option Addr) (c : Nat) (w : World) (hT : T < 18446744073709551616) (hr : Row w w.heap.size A (u64s ws)) (h : Fits ws) (h0 : 0 < tot ws) :
    Calls Try.prog 14 #[.int .u64 T, .slice A ws.length c] w fun e w' => ∃ v, e = .returned (.tuple #[v, .int .i64 0]) ∧
      w'.ownsRow w.heap.size 22 1 v ws.length (u64s (spr T (tot ws) (T - tot (ws.map (prt T (tot ws)))) ws)) ∧ Below w.heap.size w w' := by
  have h1 := h.1
  have hW := h.2
  have hlen : ws.length ≤ maxLen := by unfold maxLen; omega
  have k : ∀ v, Below w.heap.size w v → Calls Try.prog 9 #[.slice A ws.length c] v fun e w' => e = .returned (.tuple #[.int .u64 (tot ws : Nat), .int .i64 0]) ∧ v = w' :=
    fun v hv => share_whole_ok ws A c w.heap.size v (hr.below hv) h
  have k2 : ∀ v, Below w.heap.size w v → Calls Try.prog 22 #[.int .u64 T, .int .u64 (tot ws : Nat), .slice A ws.length c] v fun e w' => e = .returned (.int .u64 (T - tot (ws.map (prt T (tot ws))) : Nat)) ∧ Below v.heap.size v w' :=
    fun v hv => share_left T ws A c v hT hW hlen ((hr.below hv).up hv.size)
  have hall := steps_places T ws hT ws.length (Nat.le_refl _)
  rw [List.take_length] at hall
  have hrle : T - tot (ws.map (prt T (tot ws))) ≤ T := Nat.sub_le _ _
  obtain ⟨r0, hr0⟩ : ∃ r0, Hid (T - tot (ws.map (prt T (tot ws))) = r0) := ⟨_, rfl⟩
  rw [hr0.out] at hall k2 hrle ⊢
  obtain ⟨W, hWn⟩ : ∃ W, Hid (tot ws = W) := ⟨_, rfl⟩
  have hws : ∀ x ∈ ws, x ≤ W := by rw [← hWn.out]; exact le_tot ws
  rw [hWn.out] at hW hall k k2 h0 ⊢
  have HS := Lib.hid hall
  have HW := Lib.hid hws
  clear hall hws h
  obtain ⟨i0, hi0, hz0, hz1, hz2⟩ := info_parts u64_info
  have hmk : ∀ V : World, (Instr.makeSlice 23 (.int .i64 0) (.int .i64 (ws.length : Int))).run Try.prog V =
      .ok (.slice (some ⟨V.heap.size, 0, none⟩) 0 ws.length) (V.alloc (.cells (madeCells #[.int .u64 0] ws.length) 22)) := by
    intro V
    have h := run_make (P := Try.prog) V 23 22 i0 (.int .u64 0) Try.underlying23 hi0 hz0 .i64 .i64 0 (ws.length : Int) (by omega) (by omega) (by rw [hz2]; omega) (by omega)
    rw [hz1, Nat.mul_one] at h
    exact h
  refine (callsIn_wide (n := 4)).1 ?_
  refine callsIn_of_wp_marks Try.func14 rfl trivial ?_ rfl
  simp only [Try.ntmps14, List.size_toArray, List.length_cons, List.length_nil, Nat.reduceAdd, Nat.reduceSub, Array.replicate_succ, Array.replicate_zero, List.push_toArray, List.append_toArray, List.nil_append, List.cons_append]
  have hwz : ((W : Int) == 0) = false := by simp; omega
  gi_wp2_with (first
    | (refine ⟨trivial, ?_⟩; gi_at_call 9; refine (callsIn_wide.2 (k _ ((Below.refl _ w).alloc (Nat.le_refl _) _))).mono ?_; rintro e w' ⟨rfl, rfl⟩)
    | (refine ⟨trivial, ?_⟩; gi_at_call 22; refine (callsIn_wide.2 (k2 _ ((Below.refl _ w).alloc (Nat.le_refl _) _))).mono ?_; rintro e w1 ⟨rfl, hb1⟩; have hbx := Boxed.new w 23 (.slice A ws.length c); have hbx1 := box_below hbx hb1 (by simp); have hcx := hbx1.cell; have hlt1 := hbx1.lt; have hcx2 := (hbx1.alloc (.cells #[.int .u64 (r0 : Int)] 22)).cell; have hcx4 := (((hbx1.alloc (.cells #[.int .u64 (r0 : Int)] 22)).alloc (.cells (madeCells #[.int .u64 0] ws.length) 22)).alloc (.cells #[.slice (some ⟨w1.heap.size + 1, 0, none⟩) 0 ws.length] 23)).cell; have hB1 := ((Below.refl _ w).alloc (Nat.le_refl _) (.cells #[.slice A ws.length c] 23)).trans (hb1.mono (by simp)))
    | (refine ⟨trivial, ?_⟩; gi_at_call 21; refine (callsIn_wide.2 (told_made T W A ws.length c _)).mono ?_; rintro e w' ⟨rfl, rfl⟩))
  obtain ⟨s, HS1⟩ : ∃ s, w1.heap.size = s := ⟨_, rfl⟩
  rw [HS1] at hcx4 hlt1 ⊢
  obtain ⟨hP, hR, hX, hO, hB0, hz⟩ := spread_start (ts := 23) (te := 22) (n := ws.length) r0 (by decide) HS1 hbx1 hB1 (Nat.le_trans h1 (by decide)) rfl
  generalize (((w1.alloc (.cells #[.int .u64 (r0 : Int)] 22)).alloc (.cells (madeCells #[.int .u64 0] ws.length) 22)).alloc (.cells #[.slice (some ⟨s + 1, 0, none⟩) 0 ws.length] 23)) = W0 at hP hR hX hO hB0 hz hcx4 ⊢
  have hsh : w.heap.size ≤ s := by omega
  clear hcx hcx2 hcx4 hbx hbx1 hb1 hB1
  have b1 := Boxed.new W0 22 (.int .u64 T)
  have b2 := Boxed.new (W0.alloc (.cells #[.int .u64 T] 22)) 22 (.int .u64 W)
  have b0 := Boxed.new ((W0.alloc (.cells #[.int .u64 T] 22)).alloc (.cells #[.int .u64 W] 22)) 23 (.slice A ws.length c)
  simp only [World.size_alloc, hz] at b1 b2 b0
  have hB1 : Below w.heap.size w (((W0.alloc (.cells #[.int .u64 T] 22)).alloc (.cells #[.int .u64 W] 22)).alloc (.cells #[.slice A ws.length c] 23)) :=
    ((hB0.alloc (by omega) _).alloc (by simp; omega) _).alloc (by simp; omega) _
  refine wpIn_rangeFunc_ownG rfl (by omega) (gf := 31) (lb := #[.pointer (some ⟨s + 1 + 1 + 1 + 1 + 1, 0, none⟩), .pointer (some ⟨s + 1 + 1 + 1, 0, none⟩), .pointer (some ⟨s + 1 + 1 + 1 + 1, 0, none⟩)]) rfl trivial (enters_of Try.func31 (by kernel_rfl) rfl)
    (told_stops (4 - 1) (by omega) (s + 1 + 1 + 1 + 1 + 1) (s + 1 + 1 + 1) (s + 1 + 1 + 1 + 1) w.heap.size (s + 1 + 1 + 1) (s + 6) T W ws A c hT hW HW.out hlen (by omega) (by omega) (by omega) (by omega) _ (by simp; omega) b0.cell ((b1.alloc _).alloc _).cell (b2.alloc _).cell (hr.below hB1))
    KeepC.trans (KeepC.book (by simp; omega)) (Below.refl _ _) (fun _ => rfl)
    (fun pre V => ((∃ v, Boxed V (s + 1 + 1) 23 v ∧ V.ownsRow w.heap.size 22 1 v pre.length (u64s (steps T W ws r0 pre).2) ∧ (∀ g, v.ownBlock = some g → g = s + 1 ∨ s + 6 ≤ g)) ∧
      (Boxed V s 22 (.int .u64 ((steps T W ws r0 pre).1 : Nat)) ∧ Boxed V w.heap.size 23 (.slice A ws.length c))) ∧ (Below w.heap.size w V ∧ s + 6 ≤ V.heap.size))
    (fun _ _ _ => False)
    (OwnFrom.and (Own.from (own_both (holdsRow_own w.heap.size (s + 1 + 1) 23 22 1 (fun pre : List (Place ws) => pre.length) (fun pre => u64s (steps T W ws r0 pre).2) (fun _ v => ∀ g, v.ownBlock = some g → g = s + 1 ∨ s + 6 ≤ g)) (own_both (own_box s 22 fun pre => .int .u64 ((steps T W ws r0 pre).1 : Nat)) (own_box w.heap.size 23 fun _ => .slice A ws.length c))) _)
      (OwnFrom.and (ownFrom_below (Nat.le_refl _) (by simp; omega)) (fun _ _ _ _ hs hg _ => Nat.le_trans hs hg.size)))
    (fun _ _ _ _ _ hs _ _ => hs)
    ⟨⟨⟨_, ((hP.alloc _).alloc _).alloc _, ((hO.alloc _).alloc _).alloc _, fun g e => by injection e with e; exact .inl e.symm⟩, ((hR.alloc _).alloc _).alloc _, ((hX.alloc _).alloc _).alloc _⟩, hB1, by simp; omega⟩
    (fun x => { tmps := #[.int .u64 T, .slice A ws.length c, undef, .pointer (some ⟨w.heap.size, 0, none⟩), .slice none 0 0, .int .i64 0, .int .u64 W, .int .i64 0, .pointer (some ⟨s, 0, none⟩), .pointer (some ⟨s + 1 + 1, 0, none⟩), .int .i64 (x.1 : Int), .int .u64 (prt T W ws[x.1] : Nat),
      .tuple #[.int .u64 W, .int .i64 0], .slice A ws.length c, .tuple #[.int .u64 W, .int .i64 0], .int .u64 W, .int .i64 0, .int .i64 0, .bool false, undef, .int .u64 W, .bool false, .int .u64 T, .int .u64 W, .slice A ws.length c, .int .u64 r0, .slice A ws.length c,
      .int .i64 ws.length, .slice (some ⟨s + 1, 0, none⟩) 0 ws.length, .int .u64 T, .int .u64 W, .slice A ws.length c, .func (.func 31) #[] #[.pointer (some ⟨s + 1 + 1 + 1 + 1 + 1, 0, none⟩), .pointer (some ⟨s + 1 + 1 + 1, 0, none⟩), .pointer (some ⟨s + 1 + 1 + 1 + 1, 0, none⟩)],
      .int .i64 (x.1 : Int), .int .u64 (prt T W ws[x.1] : Nat), undef, undef, undef, undef, undef, undef, undef, undef, undef, undef, undef, undef, undef, undef, undef, undef, undef, undef], defers := [] }) ?assign ?body ?done ?stop
  case assign =>
    intro l x V K hK
    gi_wp2
    exact hK
  case body =>
    rintro l pre x V ⟨⟨⟨v, hv, hrow, hG⟩, hbr, hbx⟩, hB, hsz⟩ hlt
    have hpl : pre.length < 256 := by omega
    have hcr := hbr.cell
    have hfr := hbr.frozen
    have hcx := hbx.cell
    have hxl := x.2
    have hx0 : (0 : Int) ≤ (x.1 : Int) := by omega
    have hx1 : (x.1 : Int) < (ws.length : Int) := by omega
    obtain ⟨aw, hAw, hbw, hcw⟩ := (hr.below hB).get (k := x.1) (by rw [u64s_len]; exact hxl)
    simp only [u64s, List.getElem_map] at hcw
    subst hAw
    by_cases hq : 0 < ws[x.1] ∧ 0 < (steps T W ws r0 pre).1
    · have hrl : (steps T W ws r0 pre).1 ≤ r0 := steps_le T W ws pre (r0, [])
      have hq1 : (0 : Int) < ((ws[x.1] : Nat) : Int) := by omega
      have hr1 : (0 : Int) < (((steps T W ws r0 pre).1 : Nat) : Int) := by omega
      have hr2 : (((steps T W ws r0 pre).1 : Nat) : Int) ≤ 18446744073709551615 := by omega
      have HQ := Lib.hid hq
      clear hq hrl
      have hv' := box_other hv (show s ≠ s + 1 + 1 by omega) (.int .u64 ((((steps T W ws r0 pre).1 : Nat) : Int) - 1))
      have hrow' := own_other hrow (show s < s + 6 by omega) (by omega) hG (.int .u64 ((((steps T W ws r0 pre).1 : Nat) : Int) - 1))
      have hbr' := hbr.set (.int .u64 ((((steps T W ws r0 pre).1 : Nat) : Int) - 1))
      have hbx' := box_other hbx (show s ≠ w.heap.size by omega) (.int .u64 ((((steps T W ws r0 pre).1 : Nat) : Int) - 1))
      have hsz' : s + 6 ≤ (V.setCell ⟨s, 0, none⟩ (.int .u64 ((((steps T W ws r0 pre).1 : Nat) : Int) - 1))).heap.size := by simpa [World.setCell] using hsz
      have hc := hv'.cell
      have hwp : IntKind.u64.wrap (((prt T W ws[x.1] : Nat) : Int) + 1) = (((prt T W ws[x.1] + 1) % 18446744073709551616 : Nat) : Int) := wrap_up _
      gi_wp2_with (gi_at_builtin; refine wpListIn_append_own_at _ rfl _ _ 23 rfl w.heap.size 22 i0 (.int .u64 0) 1 8 Try.underlying23 hi0 hz0 hz1 hz2 rfl (by decide) v _ _ rfl (hrow'.alloc _) ⟨V.heap.size, 0, none⟩ 1 1 [.int .u64 (((prt T W ws[x.1] + 1) % 18446744073709551616 : Nat) : Int)] rfl rfl (one_new_set _ _ _ _ _) (by simp [Value.oneCell']) (by simp only [maxLen]; omega) (by omega) (by have := hB.size; simp; omega) ?_; intro v' w2 hown' hgrow _ hat; obtain ⟨g', cap', rfl, hq1, hq2, hq3, hq4, HA⟩ := app_after (lay_spread w.heap.size s hsh) (by decide) hv' hrow' hbr' hG hsz' hown' hgrow hat; clear hat hgrow hown')
      obtain ⟨j1, j2, j3, j4, j5, j6, j7, j8⟩ := HA.out
      have hst : step1 T W ws (steps T W ws r0 pre) x = ((steps T W ws r0 pre).1 - 1, (steps T W ws r0 pre).2 ++ [(prt T W ws[x.1] + 1) % 18446744073709551616]) := by unfold step1; rw [if_pos HQ.out]
      refine ⟨((KeepsOthers.setCell _ _ _).trans j3).from _, (KeepC.setCell _ (p := ⟨s, 0, none⟩) (by show w.heap.size ≤ s ∧ s < _; omega) _).trans j5, ⟨⟨_, j1, ?_, j7⟩, ?_, j8 _ _ _ hbx' (by omega) (by omega) (by omega)⟩, (hB.setCell (p := ⟨s, 0, none⟩) hsh _).trans j4, Nat.le_trans hsz' j4.size⟩
      · rw [List.length_append, steps_snoc, hst, u64s_snoc]
        exact j2
      · rw [steps_snoc, hst]
        have hcast : ((((steps T W ws r0 pre).1 - 1 : Nat)) : Int) = (((steps T W ws r0 pre).1 : Nat) : Int) - 1 := by omega
        show Boxed _ _ _ (.int .u64 (((steps T W ws r0 pre).1 - 1 : Nat) : Int))
        rw [hcast]
        exact j6
    · have hc := hv.cell
      rcases Nat.eq_zero_or_pos ws[x.1] with hq0 | hq0
      · have hq1 : ((ws[x.1] : Nat) : Int) ≤ 0 := by omega
        have HQ := Lib.hid hq
        clear hq hq0
        gi_wp2_with (gi_at_builtin; refine wpListIn_append_own_at _ rfl _ _ 23 rfl w.heap.size 22 i0 (.int .u64 0) 1 8 Try.underlying23 hi0 hz0 hz1 hz2 rfl (by decide) v _ _ rfl (hrow.alloc _) ⟨V.heap.size, 0, none⟩ 1 1 [.int .u64 (prt T W ws[x.1] : Nat)] rfl rfl (cell_one_new _ _ _) (by simp [Value.oneCell']) (by simp only [maxLen]; omega) (by omega) (by have := hB.size; simp; omega) ?_; intro v' w2 hown' hgrow _ hat; obtain ⟨g', cap', rfl, hq1, hq2, hq3, hq4, HA⟩ := app_after (lay_spread w.heap.size s hsh) (by decide) hv hrow hbr hG hsz hown' hgrow hat; clear hat hgrow hown')
        obtain ⟨j1, j2, j3, j4, j5, j6, j7, j8⟩ := HA.out
        have hst : step1 T W ws (steps T W ws r0 pre) x = ((steps T W ws r0 pre).1, (steps T W ws r0 pre).2 ++ [prt T W ws[x.1]]) := by unfold step1; rw [if_neg HQ.out]
        refine ⟨j3.from _, j5, ⟨⟨_, j1, ?_, j7⟩, ?_, j8 _ _ _ hbx (by omega) (by omega) (by omega)⟩, hB.trans j4, Nat.le_trans hsz j4.size⟩
        · rw [List.length_append, steps_snoc, hst, u64s_snoc]
          exact j2
        · rw [steps_snoc, hst]
          exact j6
      · have hq1 : (0 : Int) < ((ws[x.1] : Nat) : Int) := by omega
        have hr1 : (((steps T W ws r0 pre).1 : Nat) : Int) ≤ 0 := by omega
        have HQ := Lib.hid hq
        clear hq hq0
        gi_wp2_with (gi_at_builtin; refine wpListIn_append_own_at _ rfl _ _ 23 rfl w.heap.size 22 i0 (.int .u64 0) 1 8 Try.underlying23 hi0 hz0 hz1 hz2 rfl (by decide) v _ _ rfl (hrow.alloc _) ⟨V.heap.size, 0, none⟩ 1 1 [.int .u64 (prt T W ws[x.1] : Nat)] rfl rfl (cell_one_new _ _ _) (by simp [Value.oneCell']) (by simp only [maxLen]; omega) (by omega) (by have := hB.size; simp; omega) ?_; intro v' w2 hown' hgrow _ hat; obtain ⟨g', cap', rfl, hq1, hq2, hq3, hq4, HA⟩ := app_after (lay_spread w.heap.size s hsh) (by decide) hv hrow hbr hG hsz hown' hgrow hat; clear hat hgrow hown')
        obtain ⟨j1, j2, j3, j4, j5, j6, j7, j8⟩ := HA.out
        have hst : step1 T W ws (steps T W ws r0 pre) x = ((steps T W ws r0 pre).1, (steps T W ws r0 pre).2 ++ [prt T W ws[x.1]]) := by unfold step1; rw [if_neg HQ.out]
        refine ⟨j3.from _, j5, ⟨⟨_, j1, ?_, j7⟩, ?_, j8 _ _ _ hbx (by omega) (by omega) (by omega)⟩, hB.trans j4, Nat.le_trans hsz j4.size⟩
        · rw [List.length_append, steps_snoc, hst, u64s_snoc]
          exact j2
        · rw [steps_snoc, hst]
          exact j6
  case done =>
    rintro D ys V hD rfl ⟨⟨⟨v, hv, hrow, hG⟩, hbr, hbx⟩, hB, hsz⟩ hK
    rw [HS.out, places_len] at hrow
    obtain ⟨A', n', c', rfl⟩ : ∃ A' n' c', v = .slice A' n' c' := by
      rcases hrow.2 with ⟨rfl, _⟩ | ⟨g, cap, _, rfl, _⟩
      · exact ⟨_, _, _, rfl⟩
      · exact ⟨_, _, _, rfl⟩
    have hc := hv.cell
    gi_wp2
    refine ⟨by simp, .inl ⟨_, _, rfl, run_takeDeferred hK, ?_⟩⟩
    refine ⟨.tuple #[.slice A' n' c', .int .i64 0], ?_, _, rfl, ownsRow_putObj hrow _ hK rfl, hB.trans (belowK_b (w := w) (Nat.le_refl _) V D _ _ (by simp at hD; omega) hK rfl rfl)⟩
    simp [results, Try.f14, go_sem]
  case stop =>
    rintro D c pre V _ _ h _
    exact h.elim
end Go.Proofs.Ytcmfoioljnkcbaa
