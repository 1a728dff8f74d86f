/- Whole numbers from 0 on as lists of their decimal digits, the lowest first: plain mathematics, nothing of a program. · The reference's digits (layer 1): the digit at a place; what is left without noughts at the upper end. By contracts. · The reference's numbers (layer 1): a word's digits; the greatest word. By contracts. · What adding, taking away and comparing digit by digit come to: plain mathematics. -/
import Derived.Test.YtcaejanfhchacaaBytes
import Derived.Test.YtcaejanfhchacaaProg
import Derived.OwnWalk
namespace Go.Proofs.Ytcaejanfhchacaa
set_option linter.unusedVariables false

/-- What a list of digits is worth. -/
def val : List Nat → Nat
  | [] => 0
  | d :: r => d + 10 * val r

/-- A number's digits, without noughts at the upper end. -/
def digs (n : Nat) : List Nat := if h : n = 0 then [] else n % 10 :: digs (n / 10)
termination_by n
decreasing_by omega

theorem digs_zero : digs 0 = [] := by rw [digs]; simp
theorem digs_pos {n : Nat} (h : n ≠ 0) : digs n = n % 10 :: digs (n / 10) := by rw [digs]; simp [h]

theorem val_digs (n : Nat) : val (digs n) = n := by
  induction n using Nat.strongRecOn with
  | ind n ih =>
    by_cases h : n = 0
    · subst h; rw [digs_zero]; rfl
    · rw [digs_pos h]
      show n % 10 + 10 * val (digs (n / 10)) = n
      rw [ih (n / 10) (by omega)]
      omega

theorem digs_lt (n : Nat) : ∀ d ∈ digs n, d < 10 := by
  induction n using Nat.strongRecOn with
  | ind n ih =>
    by_cases h : n = 0
    · subst h; rw [digs_zero]; intro d hd; cases hd
    · rw [digs_pos h]
      intro d hd
      rcases List.mem_cons.1 hd with rfl | hd
      · omega
      · exact ih (n / 10) (by omega) d hd

theorem val_append (l r : List Nat) : val (l ++ r) = val l + 10 ^ l.length * val r := by
  induction l with
  | nil => simp [val]
  | cons d l ih =>
    show d + 10 * val (l ++ r) = d + 10 * val l + 10 ^ (l.length + 1) * val r
    rw [ih, Nat.pow_succ, Nat.mul_add, Nat.add_assoc, Nat.mul_comm (10 ^ l.length) 10, Nat.mul_assoc]

theorem val_lt (l : List Nat) (h : ∀ d ∈ l, d < 10) : val l < 10 ^ l.length := by
  induction l with
  | nil => simp [val]
  | cons d l ih =>
    have h1 := ih (fun x hx => h x (List.mem_cons_of_mem _ hx))
    have h2 := h d List.mem_cons_self
    show d + 10 * val l < 10 ^ (l.length + 1)
    rw [Nat.pow_succ]
    omega

theorem lt_pow_digs (n : Nat) : n < 10 ^ (digs n).length := by
  have h := val_lt (digs n) (digs_lt n)
  rwa [val_digs] at h

/-- Fewer digits than k, if the number is below 10^k. -/
theorem digs_len {n k : Nat} (h : n < 10 ^ k) : (digs n).length ≤ k := by
  induction k generalizing n with
  | zero =>
    have : n = 0 := by simpa using h
    subst this; simp [digs_zero]
  | succ k ih =>
    by_cases h0 : n = 0
    · subst h0; simp [digs_zero]
    · rw [digs_pos h0]
      have : n / 10 < 10 ^ k := by rw [Nat.pow_succ] at h; omega
      have := ih this
      simp only [List.length_cons]
      omega

/-- The digit at a place. -/
theorem digs_get (n k : Nat) : (digs n).getD k 0 = n / 10 ^ k % 10 := by
  induction k generalizing n with
  | zero =>
    by_cases h : n = 0
    · subst h; simp [digs_zero]
    · rw [digs_pos h]; simp
  | succ k ih =>
    by_cases h : n = 0
    · subst h; simp [digs_zero]
    · rw [digs_pos h]
      show (digs (n / 10)).getD k 0 = _
      rw [ih, Nat.div_div_eq_div_mul, Nat.pow_succ, Nat.mul_comm 10]

theorem val_get (l : List Nat) (h : ∀ d ∈ l, d < 10) (k : Nat) : l.getD k 0 = val l / 10 ^ k % 10 := by
  induction l generalizing k with
  | nil => simp [val]
  | cons d l ih =>
    have hd := h d List.mem_cons_self
    have hl := fun x hx => h x (List.mem_cons_of_mem _ hx)
    cases k with
    | zero => simp [val]; omega
    | succ k =>
      show l.getD k 0 = (d + 10 * val l) / 10 ^ (k + 1) % 10
      rw [ih hl, Nat.pow_succ, Nat.mul_comm _ 10, ← Nat.div_div_eq_div_mul]
      rw [show (d + 10 * val l) / 10 = val l by omega]

/-- How long a list is without noughts at the upper end. -/
def trimLen (l : List Nat) : Nat → Nat
  | 0 => 0
  | n + 1 => if l.getD n 0 = 0 then trimLen l n else n + 1

theorem trimLen_le (l : List Nat) (n : Nat) : trimLen l n ≤ n := by
  induction n with
  | zero => simp [trimLen]
  | succ n ih => unfold trimLen; split <;> omega

theorem val_snoc (l : List Nat) (d : Nat) : val (l ++ [d]) = val l + 10 ^ l.length * d := by
  rw [val_append]; simp [val]

theorem digs_val (l : List Nat) (h : ∀ d ∈ l, d < 10) (hl : l = [] ∨ l.getD (l.length - 1) 0 ≠ 0) : digs (val l) = l := by
  induction l with
  | nil => simp [val, digs_zero]
  | cons d r ih =>
    have hd := h d List.mem_cons_self
    have hr := fun x hx => h x (List.mem_cons_of_mem _ hx)
    have hlast : (d :: r).getD r.length 0 ≠ 0 := by
      rcases hl with h0 | h0
      · cases h0
      · simpa using h0
    have hr' : digs (val r) = r := by
      apply ih hr
      cases r with
      | nil => exact .inl rfl
      | cons e r => exact .inr (by simpa using hlast)
    have hpos : d + 10 * val r ≠ 0 := by
      intro h0
      have h1 : d = 0 := by omega
      have h2 : val r = 0 := by omega
      have h3 : r = [] := by rw [← hr', h2, digs_zero]
      subst h3
      subst h1
      simp at hlast
    show digs (d + 10 * val r) = d :: r
    rw [digs_pos hpos, show (d + 10 * val r) % 10 = d by omega, show (d + 10 * val r) / 10 = val r by omega, hr']

theorem take_getD (l : List Nat) (n k : Nat) (h : k < n) : (l.take n).getD k 0 = l.getD k 0 := by
  simp [List.getD, h]

theorem val_take_zero (l : List Nat) (n : Nat) (hn : n < l.length) (h0 : l.getD n 0 = 0) : val (l.take (n + 1)) = val (l.take n) := by
  have h1 : l.take (n + 1) = l.take n ++ [l[n]] := by rw [List.take_succ_eq_append_getElem hn]
  have h2 : l[n] = 0 := by simpa [List.getD, List.getElem?_eq_getElem hn] using h0
  rw [h1, val_snoc, h2]
  omega

/-- Trimmed, a list is its number's digits. -/
theorem trim_digs (l : List Nat) (h : ∀ d ∈ l, d < 10) (n : Nat) (hn : n ≤ l.length) : l.take (trimLen l n) = digs (val (l.take n)) := by
  induction n with
  | zero => simp [trimLen, val, digs_zero]
  | succ n ih =>
    unfold trimLen
    by_cases h0 : l.getD n 0 = 0
    · rw [if_pos h0, ih (by omega), val_take_zero l n (by omega) h0]
    · rw [if_neg h0]
      symm
      apply digs_val
      · intro d hd; exact h d (List.mem_of_mem_take hd)
      · right
        rw [List.length_take, Nat.min_eq_left hn, show n + 1 - 1 = n by omega, take_getD _ _ _ (by omega)]
        exact h0

theorem trim_all (l : List Nat) (h : ∀ d ∈ l, d < 10) : l.take (trimLen l l.length) = digs (val l) := by
  have := trim_digs l h l.length (Nat.le_refl _)
  rwa [List.take_length] at this

theorem word_digs {n : Nat} (h : n < 18446744073709551616) : (digs n).length ≤ 20 := digs_len (by omega)
end Go.Proofs.Ytcaejanfhchacaa
namespace Go.Proofs.Ytcaejanfhchacaa
open Go.RowKit
set_option linter.unusedVariables false

/-- Digits, as values. -/
def ints (ds : List Nat) : List Value := ds.map fun (d : Nat) => Value.int .i64 (d : Int)
theorem ints_len (ds : List Nat) : (ints ds).length = ds.length := by simp [ints]

theorem at_any (ds : List Nat) (A : Option Addr) (c i B : Nat) (w : World) (hr : Row w B A (ints ds)) (hlen : ds.length ≤ maxLen) (hi : i ≤ maxLen) :
    Calls Try.prog 106 #[.slice A ds.length c, .int .i64 (i : Int)] w fun e w' => e = .returned (.int .i64 ((ds.getD i 0 : Nat) : Int)) ∧ w = w' := by
  unfold maxLen at hlen hi
  by_cases hlt : i < ds.length
  · obtain ⟨a, rfl, hb, hc⟩ := hr.get (k := i) (by rw [ints_len]; exact hlt)
    simp only [ints, List.getElem_map] at hc
    have hg : ds.getD i 0 = ds[i] := by simp [hlt]
    have HG := Lib.hid hg
    clear hg
    go_enter Try.func106, Try.ntmps106
    go_wp2
    go_ret
    exact ⟨by rw [HG.out]; rfl, rfl⟩
  · have hg : ds.getD i 0 = 0 := by simp [List.getD, List.getElem?_eq_none (show ds.length ≤ i by omega)]
    have HG := Lib.hid hg
    clear hg
    go_enter Try.func106, Try.ntmps106
    go_wp2
    go_ret
    exact ⟨by rw [HG.out]; rfl, rfl⟩

theorem trimLen_step {ds : List Nat} {j : Nat} (hj : j < ds.length) (h : ds[j] = 0) : trimLen ds (j + 1) = trimLen ds j := by
  show (if ds.getD j 0 = 0 then trimLen ds j else j + 1) = _
  rw [if_pos (by simpa [hj] using h)]
theorem trimLen_stop {ds : List Nat} {j : Nat} (hj : j < ds.length) (h : ds[j] ≠ 0) : trimLen ds (j + 1) = j + 1 := by
  show (if ds.getD j 0 = 0 then trimLen ds j else j + 1) = _
  rw [if_neg (by simpa [hj] using h)]

set_option maxRecDepth 100000 in
theorem trim_any (ds : List Nat) (A : Option Addr) (c B : Nat) (w : World) (hr : Row w B A (ints ds)) (hlen : ds.length ≤ c) (hcm : c ≤ maxLen) :
    Calls Try.prog 107 #[.slice A ds.length c] w fun e w' => e = .returned (.agg #[.slice A (trimLen ds ds.length) c]) ∧ Below w.heap.size w w' := by
  unfold maxLen at hcm
  go_enter Try.func107, Try.ntmps107
  go_wp2
  go_loop [3] (fun n => ∃ k : Nat, k ≤ ds.length ∧ Hid (trimLen ds k = trimLen ds ds.length) ∧ n = .int .i64 k) (fun n => (intOf n).toNat)
  case atStart => exact ⟨_, Nat.le_refl _, rfl, rfl⟩
  case round =>
    obtain ⟨k, hk, HT, rfl⟩ := hrel
    rcases Nat.eq_zero_or_pos k with rfl | hpos
    · go_wp2
      refine bodyPost_ret (v := .agg #[.slice A 0 c]) (by simp [results, Try.results107, go_sem]) rfl ⟨by rw [← HT.out]; rfl, (Below.refl _ _).alloc (Nat.le_refl _) _⟩
    · obtain ⟨j, rfl⟩ : ∃ j, k = j + 1 := ⟨k - 1, by omega⟩
      obtain ⟨a, rfl, hb, hc⟩ := hr.get (k := j) (by rw [ints_len]; omega)
      simp only [ints, List.getElem_map] at hc
      have hc' : (w.alloc (.cells #[.slice none 0 0] 109)).cell? (a.add j) = some (.int .i64 (ds[j] : Nat)) := by
        rw [World.cell?_alloc_lt]
        · exact hc
        · have := World.block_lt_of_cell? w _ hc
          exact this
      by_cases h0 : ds[j] = 0
      · go_wp2
        go_round
        case rel => exact ⟨j, by omega, by show _ = _; rw [← HT.out, trimLen_step (by omega) h0], by go_num⟩
        case measure => simp [intOf]
      · go_wp2
        refine bodyPost_ret (v := .agg #[.slice (some a) (j + 1) c]) (by simp [results, Try.results107, go_sem]) rfl ⟨by rw [← HT.out, trimLen_stop (by omega) h0], (Below.refl _ _).alloc (Nat.le_refl _) _⟩

/-- The value v is the whole number N: its digits lie below block B. -/
def NatV (w : World) (B : Nat) (v : Value) (N : Nat) : Prop :=
  ∃ A c, v = .agg #[.slice A (digs N).length c] ∧ (digs N).length ≤ c ∧ c ≤ maxLen ∧ Row w B A (ints (digs N))

theorem NatV.below {w w' : World} {B : Nat} {v : Value} {N : Nat} (h : NatV w B v N) (hb : Below B w w') : NatV w' B v N := by
  obtain ⟨A, c, hv, hl, hm, hr⟩ := h
  exact ⟨A, c, hv, hl, hm, hr.below hb⟩
theorem NatV.up {w : World} {B B' : Nat} {v : Value} {N : Nat} (h : NatV w B v N) (hB : B ≤ B') : NatV w B' v N := by
  obtain ⟨A, c, hv, hl, hm, hr⟩ := h
  exact ⟨A, c, hv, hl, hm, hr.up hB⟩
theorem NatV.drewN {w : World} {B : Nat} {v : Value} {N : Nat} (h : NatV w B v N) (n : Nat) : NatV (w.drewN n) B v N := h
theorem NatV.zero (w : World) (B : Nat) : NatV w B (.agg #[.slice none 0 0]) 0 :=
  ⟨none, 0, by rw [digs_zero]; rfl, by rw [digs_zero]; simp, by simp [maxLen], by rw [digs_zero]; exact Row.nil _ _ _⟩

/-- The digits lie from block L on; where they lie nowhere there is no room. -/
def Fresh (L : Nat) (v : Value) : Prop := (∀ a n c, v = .agg #[.slice (some a) n c] → L ≤ a.block) ∧ ∀ n c, v = .agg #[.slice none n c] → c = 0

theorem Fresh.down {L L' : Nat} {v : Value} (h : Fresh L v) (hl : L' ≤ L) : Fresh L' v := ⟨fun a n c e => Nat.le_trans hl (h.1 a n c e), h.2⟩
theorem fresh_of {L n c : Nat} {A : Option Addr} (h1 : ∀ a, A = some a → L ≤ a.block) (h2 : A = none → c = 0) : Fresh L (.agg #[.slice A n c]) := by
  refine ⟨fun a m k e => ?_, fun m k e => ?_⟩
  · injection e with e
    have e1 := congrArg (fun x : Array Value => x[0]?) e
    simp at e1
    exact h1 a e1.1
  · injection e with e
    have e1 := congrArg (fun x : Array Value => x[0]?) e
    simp at e1
    rw [← e1.2.2]
    exact h2 e1.1

theorem NatV.setCell {w : World} {B L : Nat} {v : Value} {N : Nat} (h : NatV w B v N) (hf : Fresh L v) {p : Addr} (hp : p.block < L) (u : Value) : NatV (w.setCell p u) B v N := by
  obtain ⟨A, c, rfl, hl, hm, hr⟩ := h
  refine ⟨A, c, rfl, hl, hm, fun k x hx => ?_⟩
  obtain ⟨a, rfl, hb, hc⟩ := hr k x hx
  refine ⟨a, rfl, hb, ?_⟩
  rw [World.cell?_setCell_other]
  · exact hc
  · intro e
    have h1 := hf.1 a _ _ rfl
    have h2 : (a.add k).block = p.block := by rw [e]
    rw [addr_block] at h2
    omega

/-- Trimmed, a list of digits is its number. -/
theorem trim_nat (ds : List Nat) (hd : ∀ d ∈ ds, d < 10) (A : Option Addr) (c B L : Nat) (w : World) (hB : B ≤ w.heap.size) (hr : Row w B A (ints ds)) (hlen : ds.length ≤ c) (hcm : c ≤ maxLen) (hA : (∀ a, A = some a → L ≤ a.block) ∧ (A = none → c = 0)) :
    Calls Try.prog 107 #[.slice A ds.length c] w fun e w' => ∃ v, e = .returned v ∧ NatV w' B v (val ds) ∧ Fresh L v ∧ Below w.heap.size w w' := by
  refine (trim_any ds A c B w hr hlen hcm).mono ?_
  rintro e w' ⟨rfl, hb⟩
  have ht := trim_all ds hd
  have hl : (digs (val ds)).length = trimLen ds ds.length := by
    rw [← ht, List.length_take, Nat.min_eq_left (trimLen_le _ _)]
  refine ⟨_, rfl, ⟨A, c, by rw [hl], by rw [hl]; exact Nat.le_trans (trimLen_le _ _) hlen, hcm, ?_⟩, ?_, hb⟩
  · have hr' := (hr.below (hb.mono hB)).take (trimLen ds ds.length)
    unfold ints at hr' ⊢
    rw [← List.map_take, ht] at hr'
    exact hr'
  · exact fresh_of hA.1 hA.2

/-- A row of the call's own that is trimmed and put into the result's cell, a block below the row's: what the call ends with. -/
theorem result_nat {W w' : World} {B L : Nat} {v : Value} {N : Nat} (p : Addr) (hv : NatV w' B v N) (hf : Fresh L v) (hB : B ≤ w'.heap.size) (hp : W.heap.size ≤ p.block) (hpl : p.block < L) (hb : Below W.heap.size W w') (u : Value) :
    NatV (w'.setCell p u) (w'.setCell p u).heap.size v N ∧ Fresh W.heap.size v ∧ Below W.heap.size W (w'.setCell p u) :=
  ⟨(hv.setCell hf hpl u).up (by simpa [World.setCell] using hB), hf.down (by omega), hb.setCell hp u⟩
end Go.Proofs.Ytcaejanfhchacaa
namespace Go.Proofs.Ytcaejanfhchacaa
open Go.RowKit
set_option linter.unusedVariables false

theorem int_info : (Try.prog.info? 3).map (fun i => (i.zero, i.size, i.bytes)) = some (some (.int .i64 0), 1, 8) := by kernel_rfl

theorem ints_snoc (ds : List Nat) (d : Nat) : ints ds ++ [.int .i64 (d : Int)] = ints (ds ++ [d]) := by simp [ints]

theorem cells_one (x : Value) : ∀ j u, ([x] : List Value)[j]? = some u → j = 0 ∧ u = x := by
  intro j u h
  cases j with
  | zero => exact ⟨rfl, by simpa using h.symm⟩
  | succ j => simp at h

/-- The one value of a new block of one cell. -/
theorem new_one (w : World) (x : Value) (t : TypeId) : ∀ j u, ([x] : List Value)[j]? = some u → (w.alloc (.cells #[x] t)).cell? ((⟨w.heap.size, 0, none⟩ : Addr).add j) = some u := by
  intro j u h
  obtain ⟨rfl, rfl⟩ := cells_one x j u h
  show (w.alloc (.cells #[u] t)).cell? ⟨w.heap.size, 0, none⟩ = some u
  rw [World.cell?_alloc_at _ _ _ _ rfl]
  rfl

/-- Behind an append of one value to a row of the call's own: below B all is as it was. -/
theorem app_below_nat {B base n : Nat} {a wr w1 : World} {e : TypeId} {v : Value} {xs : List Value} {o : Obj} (hb : Below B a wr) (hB : B ≤ base) (hs : B ≤ wr.heap.size)
    (hown : wr.ownsRow base e 1 v n xs) (hg : (wr.alloc o).grownBy w1 v.ownBlock) : Below B a w1 :=
  (hb.alloc hs o).grown hg (by simp; omega) (fun k hk => Nat.le_trans hB (hown.lt k hk).1)

/-- The result's cell, as it was laid ahead of the loop. -/
theorem result_cell {w wr : World} {u : Value} {t : TypeId} (hb : Below (w.heap.size + 1) (w.alloc (.cells #[u] t)) wr) :
    wr.cell? ⟨w.heap.size, 0, none⟩ = some u ∧ wr.frozen? ⟨w.heap.size, 0, none⟩ = false := by
  refine ⟨(hb.cell (p := ⟨w.heap.size, 0, none⟩) (by show w.heap.size < _; omega)).trans ?_, (hb.frozen (p := ⟨w.heap.size, 0, none⟩) (by show w.heap.size < _; omega)).trans ?_⟩
  · rw [World.cell?_alloc_at _ _ _ _ rfl]; rfl
  · exact World.frozen?_alloc_at _ _ _ _ rfl

/-- Where a row of the call's own lies. -/
theorem own_from {w : World} {base n c : Nat} {e : TypeId} {A : Option Addr} {xs : List Value} (h : w.ownsRow base e 1 (.slice A n c) n xs) : (∀ a, A = some a → base ≤ a.block) ∧ (A = none → c = 0) :=
  ⟨fun a e => by subst e; exact (h.lt a.block rfl).1, fun e => by
    subst e
    rcases h.2 with ⟨e1, _⟩ | ⟨g, cap, cur, e1, _⟩
    · injection e1
    · injection e1 with e2; cases e2⟩

set_option maxRecDepth 100000 in
theorem of_any (N : Nat) (w : World) (hN : N ≤ 18446744073709551615) :
    Calls Try.prog 91 #[.int .u64 (N : Int)] w fun e w' => ∃ v, e = .returned v ∧ NatV w' w'.heap.size v N ∧ Fresh w.heap.size v ∧ Below w.heap.size w w' := by
  obtain ⟨i0, hi0, hz0, hz1, hz2⟩ := info_parts int_info
  have hlen : (digs N).length ≤ 20 := digs_len (by omega)
  go_enter Try.func91, Try.ntmps91
  go_wp2
  go_loopw [0, 3] (fun a d wr => ∃ (x : Nat) (ds : List Nat), x ≤ N ∧ Hid (ds ++ digs x = digs N) ∧ a = .int .u64 (x : Int) ∧ wr.ownsRow (w.heap.size + 1) 3 1 d ds.length (ints ds) ∧
      Below (w.heap.size + 1) (w.alloc (.cells #[.slice none 0 0] 109)) wr) (fun a _ _ => (intOf a).toNat)
  case atStart => exact ⟨N, [], Nat.le_refl _, rfl, rfl, World.ownsRow_nil _ _ _ _, Below.refl _ _⟩
  case round =>
    obtain ⟨x, ds, hx, HD, rfl, hown, hb⟩ := hrel
    have hs : w.heap.size + 1 ≤ wr.heap.size := by have := hb.size; simpa using this
    rcases Nat.eq_zero_or_pos x with rfl | hpos
    · obtain ⟨hc, hf⟩ := result_cell hb
      obtain ⟨A, c, rfl, _, _, _⟩ := Row.of_own hown
      have hown2 := ownsRow_setCell_below hown (a := ⟨w.heap.size, 0, none⟩) (by show w.heap.size < _; omega) (.slice A ds.length c)
      obtain ⟨A', c', hv, hlc, hcm, hrow⟩ := Row.of_own hown2
      have hds : ds = digs N := by
        have h := HD.out
        rwa [digs_zero, List.append_nil] at h
      have HDS := Lib.hid hds
      have HV := Lib.hid hv
      clear hds hv
      go_wp2
      refine bodyPost_ret (v := .agg #[.slice A ds.length c]) (by simp [results, Try.results91, go_sem, hc]) rfl ⟨_, rfl, ⟨A', c', ?_, ?_, hcm, ?_⟩, ?_, ?_⟩
      · rw [← HDS.out, ← HV.out]
      · rw [← HDS.out]; exact hlc
      · rw [← HDS.out]; exact hrow
      · exact (fresh_of (own_from hown2).1 (own_from hown2).2).down (by omega)
      · exact ((((Below.refl _ _).alloc (Nat.le_refl _) _).trans (hb.mono (by omega))).setCell (Nat.le_refl _) _)
    · have hl : ds.length + 1 ≤ 20 := by
        have h := congrArg List.length HD.out
        rw [digs_pos (by omega)] at h
        simp at h
        omega
      have hstep : (ds ++ [x % 10]) ++ digs (x / 10) = digs N := by
        have h := HD.out
        rw [digs_pos (by omega)] at h
        simpa using h
      have hcast : ((x : Int) % 10) = ((x % 10 : Nat) : Int) := by omega
      have HS := Lib.hid hstep
      have HC := Lib.hid hcast
      clear hstep hcast
      go_wp2_with (at_builtin; refine wpList_append_own _ rfl _ _ 71 rfl (w.heap.size + 1) 3 i0 (.int .i64 0) 1 8 Try.underlying71 hi0 hz0 hz1 hz2 rfl (by decide) _ _ _ rfl (hown.alloc _) ⟨wr.heap.size, 0, none⟩ 1 1 [.int .i64 ((x : Int) % 10)] rfl rfl ?c1 ?c2 ?c3 ?c4 ?c5 ?_)
      case c1 => exact new_one _ _ _
      case c2 => intro u hu; simp at hu; subst hu; rfl
      case c3 => simp only [maxLen]; omega
      case c4 => omega
      case c5 => simp; omega
      intro v' w1 hown' hgrow _
      have hb' := app_below_nat hb (Nat.le_refl _) hs hown hgrow
      rw [HC.out, ints_snoc] at hown'
      clear hgrow hown hb
      go_wp2
      go_roundw
      case rel => exact ⟨x / 10, ds ++ [x % 10], by omega, HS.out, by go_num, by rw [List.length_append]; exact hown', hb'⟩
      case measure => simp [intOf]; omega
end Go.Proofs.Ytcaejanfhchacaa
namespace Go.Proofs.Ytcaejanfhchacaa
set_option linter.unusedVariables false

theorem mod_up (a i : Nat) : a % 10 ^ (i + 1) = a % 10 ^ i + 10 ^ i * (a / 10 ^ i % 10) := by
  rw [Nat.pow_succ, Nat.mod_mul]

theorem mod_all {a i : Nat} (h : (digs a).length ≤ i) : a % 10 ^ i = a :=
  Nat.mod_eq_of_lt (Nat.lt_of_lt_of_le (lt_pow_digs a) (Nat.pow_le_pow_right (by omega) h))

theorem digit_high {a i : Nat} (h : (digs a).length ≤ i) : (digs a).getD i 0 = 0 := by
  simp [List.getD, List.getElem?_eq_none h]

theorem digit_lt (a i : Nat) : (digs a).getD i 0 < 10 := by rw [digs_get]; omega

/-- One digit more of a sum. -/
theorem add_step {a b i cy da db : Nat} {ds : List Nat} (hl : ds.length = i) (ha : (digs a).getD i 0 = da) (hb : (digs b).getD i 0 = db)
    (h : val ds + cy * 10 ^ i = a % 10 ^ i + b % 10 ^ i) :
    val (ds ++ [(da + db + cy) % 10]) + (da + db + cy) / 10 * 10 ^ (i + 1) = a % 10 ^ (i + 1) + b % 10 ^ (i + 1) := by
  rw [digs_get] at ha hb
  rw [val_snoc, hl, mod_up a, mod_up b, ha, hb]
  have h1 : 10 ^ i * ((da + db + cy) % 10) + (da + db + cy) / 10 * 10 ^ (i + 1) = 10 ^ i * (da + db + cy) := by
    rw [Nat.pow_succ, Nat.mul_comm ((da + db + cy) / 10), Nat.mul_assoc, ← Nat.mul_add, Nat.mod_add_div]
  have h2 : 10 ^ i * (da + db + cy) = 10 ^ i * da + 10 ^ i * db + cy * 10 ^ i := by
    rw [Nat.mul_add, Nat.mul_add, Nat.mul_comm cy]
  omega

theorem add_end {a b i : Nat} {ds : List Nat} (ha : (digs a).length ≤ i) (hb : (digs b).length ≤ i)
    (h : val ds + 0 * 10 ^ i = a % 10 ^ i + b % 10 ^ i) : val ds = a + b := by
  rw [mod_all ha, mod_all hb] at h
  omega

/-- Held against each other from the upper end: as far as all digits are the same. -/
theorem same_up {a b k : Nat} (h : a / 10 ^ (k + 1) = b / 10 ^ (k + 1)) (hd : (digs a).getD k 0 = (digs b).getD k 0) : a / 10 ^ k = b / 10 ^ k := by
  rw [digs_get, digs_get] at hd
  rw [Nat.pow_succ, ← Nat.div_div_eq_div_mul, ← Nat.div_div_eq_div_mul] at h
  omega

theorem less_up {a b k : Nat} (h : a / 10 ^ (k + 1) = b / 10 ^ (k + 1)) (hd : (digs a).getD k 0 < (digs b).getD k 0) : a < b := by
  rw [digs_get, digs_get] at hd
  rw [Nat.pow_succ, ← Nat.div_div_eq_div_mul, ← Nat.div_div_eq_div_mul] at h
  have h1 : a / 10 ^ k < b / 10 ^ k := by omega
  exact Nat.lt_of_not_le fun hle => absurd (Nat.div_le_div_right (c := 10 ^ k) hle) (by omega)

theorem high_same {a b m : Nat} (ha : (digs a).length ≤ m) (hb : (digs b).length ≤ m) : a / 10 ^ m = b / 10 ^ m := by
  have h : ∀ {n : Nat}, (digs n).length ≤ m → n / 10 ^ m = 0 := fun {n} hn =>
    Nat.div_eq_of_lt (Nat.lt_of_lt_of_le (lt_pow_digs n) (Nat.pow_le_pow_right (by omega) hn))
  rw [h ha, h hb]

/-- Read from the upper end, a number comes back. -/
theorem read_up (a k : Nat) : 10 * (a / 10 ^ (k + 1)) + (digs a).getD k 0 = a / 10 ^ k := by
  rw [digs_get, Nat.pow_succ, ← Nat.div_div_eq_div_mul]
  omega
end Go.Proofs.Ytcaejanfhchacaa
