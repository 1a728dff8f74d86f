/- Layer 4 (share): a weight's part, down; the parts told one by one, each with its place. By contracts. -/
import Derived.RangeFuncBox
import Derived.RangeFuncLeaves
import Derived.RangeFuncCalls
import Derived.Shelf.Abstract
import Derived.OwnWalkIn
import Derived.TacticsInMore
import Derived.LoopNIn
import Derived.LoopIn
import Derived.Test.YtijenmkhbkbnfaaRatioB
import Derived.Test.YtijenmkhbkbnfaaMoneySum
namespace Go.Proofs.Ytijenmkhbkbnfaa
open Go.RowKit Go.Shelf
set_option linter.unusedVariables false
attribute [local go_sem] Oper.semAt_some

/-- A weight's part of a total, down. -/
def prt (T W w : Nat) : Nat := T * w / W
theorem prt_le {T W w : Nat} (h : w ≤ W) : prt T W w ≤ T := by
  unfold prt
  exact Nat.div_le_of_le_mul (by rw [Nat.mul_comm]; exact Nat.mul_le_mul_right _ h)
theorem prt_none (T w : Nat) : prt T 0 w = 0 := by unfold prt; simp

theorem share_down (T w W n : Nat) (v : World) (hT : T < 18446744073709551616) (hw : w ≤ W) (hW : W < 18446744073709551616) (hn : Hid (prt T W w = n)) :
    Calls Try.prog 49 #[.int .u64 T, .int .u64 w, .int .u64 W] v fun e w' => e = .returned (.int .u64 n) ∧ Below v.heap.size v w' := by
  rcases Nat.eq_zero_or_pos W with rfl | h0
  · obtain rfl : w = 0 := by omega
    obtain rfl : n = 0 := by rw [← hn.out, prt_none]
    have k := fun v => ratio_down_zero T 0 v hT (by omega)
    go_enter Try.func49, Try.ntmps49
    go_wp2_with (go_at_call 58; refine (k _).mono ?_; rintro e w1 ⟨rfl, hb1⟩)
    go_ret
    exact ⟨rfl, hb1⟩
  · have hle : n ≤ T := by rw [← hn.out]; exact prt_le hw
    have k := fun v => ratio_down_ok T w W n (T * w % W) v hT (by omega) hW (by show _ = _; rw [← hn.out]; exact (Nat.div_add_mod' _ _).symm) (Nat.mod_lt _ h0) (by omega)
    go_enter Try.func49, Try.ntmps49
    go_wp2_with (go_at_call 58; refine (k _).mono ?_; rintro e w1 ⟨rfl, hb1⟩)
    go_ret
    exact ⟨rfl, hb1⟩

/-- The value that tells the parts: what it took with it lies in three cells. -/
theorem told_made (T W : Int) (A : Option Addr) (n c : Nat) (w : World) :
    Calls Try.prog 35 #[.int .u64 T, .int .u64 W, .slice A n c] w fun e w' =>
      e = .returned (.func (.func 48) #[] #[.pointer (some ⟨w.heap.size + 1 + 1, 0, none⟩), .pointer (some ⟨w.heap.size, 0, none⟩), .pointer (some ⟨w.heap.size + 1, 0, none⟩)]) ∧
        w' = ((w.alloc (.cells #[.int .u64 T] 22)).alloc (.cells #[.int .u64 W] 22)).alloc (.cells #[.slice A n c] 27) := by
  go_enter Try.func35, Try.ntmps35
  go_wp2
  go_ret
  exact ⟨rfl, rfl⟩

/-- What a round that goes on keeps: every cell below n₀ but those from lo up to hi. -/
structure KeepC (lo hi n₀ : Nat) (W W' : World) : Prop where
  size : W.heap.size ≤ W'.heap.size
  cell : ∀ p : Addr, p.block < n₀ → (p.block < lo ∨ hi ≤ p.block) → W'.cell? p = W.cell? p
theorem KeepC.refl (lo hi n₀ : Nat) (W : World) : KeepC lo hi n₀ W W := ⟨Nat.le_refl _, fun _ _ _ => rfl⟩
theorem KeepC.trans {lo hi n₀ : Nat} {A B C : World} (h : KeepC lo hi n₀ A B) (k : KeepC lo hi n₀ B C) : KeepC lo hi n₀ A C := ⟨Nat.le_trans h.size k.size, fun p h1 h2 => (k.cell p h1 h2).trans (h.cell p h1 h2)⟩
theorem KeepC.of_below {lo hi n₀ B : Nat} {A C : World} (h : Below B A C) (hB : n₀ ≤ B) : KeepC lo hi n₀ A C := ⟨h.size, fun p h1 _ => h.cell (Nat.lt_of_lt_of_le h1 hB)⟩
theorem KeepC.book {lo hi n₀ : Nat} {w : World} (hn : n₀ ≤ w.heap.size) (W : World) (l : Nat) (o o' : Obj) (hl : w.heap.size ≤ l) (h : W.heap[l]? = some o) (a : o.isCells = false) (b : o.isWalk = false) : KeepC lo hi n₀ W (W.putObj l o') :=
  KeepC.of_below (belowK_b (Nat.le_refl _) W l o o' hl h a b) hn

theorem KeepC.setCell {lo hi n₀ : Nat} (W : World) {p : Addr} (h : lo ≤ p.block ∧ p.block < hi) (v : Value) : KeepC lo hi n₀ W (W.setCell p v) :=
  ⟨by simp [World.setCell], fun q _ hq => World.cell?_setCell_other W p q v (fun e => by subst e; omega)⟩
theorem KeepC.alloc {lo hi n₀ : Nat} (W : World) (hn : n₀ ≤ W.heap.size) (o : Obj) : KeepC lo hi n₀ W (W.alloc o) :=
  ⟨by simp, fun q h _ => World.cell?_alloc_lt W o q (Nat.lt_of_lt_of_le h hn)⟩
theorem KeepC.grown {lo hi n₀ : Nat} {X Y : World} {row : Option Nat} (h : X.grownBy Y row) (hn : n₀ ≤ X.heap.size) (hr : ∀ g, row = some g → (lo ≤ g ∧ g < hi) ∨ n₀ ≤ g) : KeepC lo hi n₀ X Y := by
  refine ⟨h.size, fun p h1 h2 => ?_⟩
  have hb := h.block p.block (Nat.lt_of_lt_of_le h1 hn) (fun e => by have := hr _ e.symm; omega)
  unfold World.cell?
  rw [hb]
theorem KeepC.drew (lo hi n₀ : Nat) (W : World) : KeepC lo hi n₀ W W.drew := ⟨Nat.le_refl _, fun _ _ _ => rfl⟩

theorem grown_of_below {w w' : World} (h : Below w.heap.size w w') : w.grownBy w' none := ⟨h.os, h.tape, h.output, h.size, fun k hk _ => h.block k hk⟩

/-- A place and its part. -/
abbrev Place (ws : List Nat) := { j : Nat // j < ws.length }
/-- The first k places. -/
def places (ws : List Nat) : (k : Nat) → k ≤ ws.length → List (Place ws)
  | 0, _ => []
  | k + 1, h => places ws k (Nat.le_of_succ_le h) ++ [⟨k, h⟩]
theorem places_len (ws : List Nat) : ∀ (k : Nat) (h : k ≤ ws.length), (places ws k h).length = k
  | 0, _ => rfl
  | k + 1, h => by unfold places; rw [List.length_append, places_len ws k]; rfl

/-- What yield is handed at a place. -/
abbrev encP (T W : Nat) (ws : List Nat) (x : Place ws) : Array Value := #[.int .i64 (x.1 : Int), .int .u64 (prt T W ws[x.1] : Nat)]

set_option maxRecDepth 100000 in
set_option maxHeartbeats 2000000 in
theorem told_rounds (n : Nat) (hn1 : 1 ≤ n) (l b0 b1 b2 lo hi n₀ T W : Nat) (ws : List Nat) (A : Option Addr) (c : Nat) (hT : T < 18446744073709551616) (hW : W < 18446744073709551616) (hws : ∀ x ∈ ws, x ≤ W) (hlen : ws.length ≤ maxLen)
    (h0 : b0 < n₀ ∧ hi ≤ b0) (h1 : b1 < n₀ ∧ hi ≤ b1) (h2 : b2 < n₀ ∧ hi ≤ b2) (hlo : lo ≤ n₀) (J Jx : List (Place ws) → World → Prop) (W0 : World) (hn : n₀ ≤ W0.heap.size)
    (hJ : AbidesFrom W0.heap.size J)
    (hY : ∀ pre x W1, J pre W1 → pre.length < ws.length → YieldAt Fence.wide (n - 1) Try.prog l (encP T W ws x) W1 fun e W' =>
      (e = .returned (.bool true) ∧ J (pre ++ [x]) W' ∧ KeepC lo hi n₀ W1 W') ∨ (e = .returned (.bool false) ∧ Jx (pre ++ [x]) W'))
    (hc0 : W0.cell? ⟨b0, 0, none⟩ = some (.slice A ws.length c)) (hc1 : W0.cell? ⟨b1, 0, none⟩ = some (.int .u64 T)) (hc2 : W0.cell? ⟨b2, 0, none⟩ = some (.int .u64 W)) (hr : Row W0 lo A (u64s ws)) (hs : J [] W0) :
    CallsIn Fence.wide n Try.prog 48 #[.func (.yield l) #[] #[], .pointer (some ⟨b0, 0, none⟩), .pointer (some ⟨b1, 0, none⟩), .pointer (some ⟨b2, 0, none⟩)] W0 fun e W' => (∃ v, e = .returned v) ∧
      ((∃ ys, ys = places ws ws.length (Nat.le_refl _) ∧ J ys W') ∨ (∃ pre, True ∧ Jx pre W')) := by
  unfold maxLen at hlen
  have HW := Lib.hid hws
  have HJ := Lib.hid hJ
  have HY := Lib.hid hY
  clear hws hJ hY
  refine callsIn_of_wp Try.func48 rfl trivial ?_ rfl
  simp only [Try.ntmps48, List.size_toArray, List.length_cons, List.length_nil, Nat.reduceAdd, Nat.reduceSub, Array.replicate_succ, Array.replicate_zero, List.push_toArray, List.append_toArray, List.nil_append, List.cons_append]
  gi_wp2
  gi_loopw [9] (fun i wr => ∃ (k : Nat) (hk : k ≤ ws.length), i = .int .i64 k ∧ J (places ws k hk) wr ∧ KeepC lo hi n₀ W0 wr)
    (fun i _ => ws.length - (intOf i).toNat)
  case atStart => exact ⟨0, Nat.zero_le _, rfl, hs, KeepC.refl _ _ _ _⟩
  case round =>
    obtain ⟨k, hk, rfl, hJs, hKs⟩ := hrel
    by_cases hlt : k < ws.length
    · obtain ⟨a, rfl, hab, hca⟩ := hr.get (k := k) (by rw [u64s_len]; exact hlt)
      simp only [u64s, List.getElem_map] at hca
      have hca' : wr.cell? (a.add k) = some (.int .u64 (ws[k] : Nat)) := (hKs.cell _ (by rw [addr_block]; omega) (.inl (by rw [addr_block]; exact hab))).trans hca
      have hd1 := (hKs.cell ⟨b1, 0, none⟩ h1.1 (.inr h1.2)).trans hc1
      have hd2 := (hKs.cell ⟨b2, 0, none⟩ h2.1 (.inr h2.2)).trans hc2
      have hwk := HW.out ws[k] (List.getElem_mem hlt)
      obtain ⟨p, hp⟩ : ∃ p, Hid (prt T W ws[k] = p) := ⟨prt T W ws[k], Lib.hid rfl⟩
      have HKs := Lib.hid hKs
      clear hca hc0 hc1 hc2 hKs
      gi_wp2_with (refine ⟨trivial, ?_⟩; gi_at_call 49; refine (callsIn_wide.2 (share_down T ws[k] W p _ hT hwk hW hp)).mono ?_; rintro e w1 ⟨rfl, hb1⟩; obtain ⟨fn, tmps, assign, body, hy, hR⟩ := HY.out (places ws k hk) ⟨k, hlt⟩ w1 (HJ.out _ _ _ _ hJs (grown_of_below hb1) (fun r e => by cases e)) (by rw [places_len]; exact hlt); dsimp only [encP] at hy; rw [hp.out] at hy)
      refine hR.mono ?_
      rintro e W3 (⟨rfl, hJ3, hk3⟩ | ⟨rfl, hJx3⟩)
      · gi_wp2
        go_roundw
        case rel => exact ⟨k + 1, hlt, by go_num, hJ3, HKs.out.trans ((KeepC.of_below hb1 (Nat.le_trans hn HKs.out.size)).trans hk3)⟩
        case measure => simp [intOf]; omega
      · gi_wp2
        refine bodyPost_ret (results_none rfl _ _ _) rfl ?_
        exact ⟨⟨_, rfl⟩, .inr ⟨_, trivial, hJx3⟩⟩
    · obtain rfl : k = ws.length := by omega
      gi_wp2
      go_end0
      exact ⟨⟨_, rfl⟩, .inl ⟨_, rfl, hJs⟩⟩

/-- What tells the parts tells them all, in order, for every body that keeps the cells that it reads. -/
theorem told_stops (n : Nat) (hn1 : 1 ≤ n) (b0 b1 b2 lo hi n₀ T W : Nat) (ws : List Nat) (A : Option Addr) (c : Nat) (hT : T < 18446744073709551616) (hW : W < 18446744073709551616) (hws : ∀ x ∈ ws, x ≤ W) (hlen : ws.length ≤ maxLen)
    (h0 : b0 < n₀ ∧ hi ≤ b0) (h1 : b1 < n₀ ∧ hi ≤ b1) (h2 : b2 < n₀ ∧ hi ≤ b2) (hlo : lo ≤ n₀) (w : World) (hn : n₀ ≤ w.heap.size)
    (hc0 : w.cell? ⟨b0, 0, none⟩ = some (.slice A ws.length c)) (hc1 : w.cell? ⟨b1, 0, none⟩ = some (.int .u64 T)) (hc2 : w.cell? ⟨b2, 0, none⟩ = some (.int .u64 W)) (hr : Row w lo A (u64s ws)) :
    SeqStopsK Fence.wide n Try.prog 48 #[.pointer (some ⟨b0, 0, none⟩), .pointer (some ⟨b1, 0, none⟩), .pointer (some ⟨b2, 0, none⟩)] (encP T W ws) (KeepC lo hi n₀)
      (fun ys => ys = places ws ws.length (Nat.le_refl _)) (fun _ => True) ws.length w := fun l J Jx W0 hb hJ _ hY hs =>
  told_rounds n hn1 l b0 b1 b2 lo hi n₀ T W ws A c hT hW hws hlen h0 h1 h2 hlo J Jx W0 (Nat.le_trans hn hb.size) hJ hY
    ((hb.cell (p := ⟨b0, 0, none⟩) (Nat.lt_of_lt_of_le h0.1 hn)).trans hc0) ((hb.cell (p := ⟨b1, 0, none⟩) (Nat.lt_of_lt_of_le h1.1 hn)).trans hc1) ((hb.cell (p := ⟨b2, 0, none⟩) (Nat.lt_of_lt_of_le h2.1 hn)).trans hc2)
    (hr.below (hb.mono (Nat.le_trans hlo hn))) hs

/-- The parts at some places. -/
def parts (T W : Nat) (ws : List Nat) (pre : List (Place ws)) : List Nat := pre.map fun x => prt T W ws[x.1]
theorem parts_nil (T W : Nat) (ws : List Nat) : parts T W ws [] = [] := rfl
theorem parts_snoc (T W : Nat) (ws : List Nat) (pre : List (Place ws)) (x : Place ws) : parts T W ws (pre ++ [x]) = parts T W ws pre ++ [prt T W ws[x.1]] := by simp [parts]
theorem parts_places (T W : Nat) (ws : List Nat) : ∀ (k : Nat) (h : k ≤ ws.length), parts T W ws (places ws k h) = (ws.take k).map (prt T W)
  | 0, _ => by simp [parts, places]
  | k + 1, h => by
    unfold places
    rw [parts_snoc, parts_places T W ws k, List.take_succ_eq_append_getElem h, List.map_append]
    rfl
theorem parts_all (T W : Nat) (ws : List Nat) : parts T W ws (places ws ws.length (Nat.le_refl _)) = ws.map (prt T W) := by rw [parts_places, List.take_length]

/-- What some parts leave, reckoned in 64 bits. -/
def sub64 (s : Int) (ps : List Nat) : Int := ps.foldl (fun (s : Int) (p : Nat) => IntKind.u64.wrap (s - (p : Int))) s
theorem sub64_snoc (s : Int) (ps : List Nat) (p : Nat) : sub64 s (ps ++ [p]) = IntKind.u64.wrap (sub64 s ps - p) := by simp [sub64]
theorem sub64_is (ps : List Nat) (T : Nat) (hT : T < 18446744073709551616) (h : tot ps ≤ T) : sub64 T ps = ((T - tot ps : Nat) : Int) := by
  induction ps generalizing T with
  | nil => simp [sub64, tot]
  | cons p ps ih =>
    have h' : p + tot ps ≤ T := h
    show sub64 (IntKind.u64.wrap ((T : Int) - p)) ps = _
    rw [IntWalk.u64_in _ (by omega), show ((T : Int) - p) = ((T - p : Nat) : Int) by omega, ih (T - p) (by omega) (by omega)]
    show ((T - p - tot ps : Nat) : Int) = ((T - (p + tot ps) : Nat) : Int)
    omega

/-- The parts are together not above the total. -/
theorem tot_parts (T : Nat) (ws : List Nat) : tot (ws.map (prt T (tot ws))) ≤ T := by
  rcases Nat.eq_zero_or_pos (tot ws) with h | h
  · rw [h]
    have : ∀ l : List Nat, tot (l.map (prt T 0)) = 0 := by
      intro l
      induction l with
      | nil => rfl
      | cons x l ih => show prt T 0 x + tot (l.map (prt T 0)) = 0; rw [ih, prt_none]
    rw [this]; omega
  · have key : ∀ l : List Nat, tot (l.map (prt T (tot ws))) * tot ws ≤ T * tot l := by
      intro l
      induction l with
      | nil => simp [tot]
      | cons x l ih =>
        show (prt T (tot ws) x + tot (l.map (prt T (tot ws)))) * tot ws ≤ T * (x + tot l)
        rw [Nat.add_mul, Nat.mul_add]
        have : prt T (tot ws) x * tot ws ≤ T * x := Nat.div_mul_le_self _ _
        omega
    exact Nat.le_of_mul_le_mul_right (key ws) h
theorem le_tot (ws : List Nat) : ∀ x ∈ ws, x ≤ tot ws := by
  induction ws with
  | nil => intro x hx; cases hx
  | cons y ws ih =>
    intro x hx
    show x ≤ y + tot ws
    rcases List.mem_cons.1 hx with rfl | hx
    · omega
    · have := ih x hx; omega
end Go.Proofs.Ytijenmkhbkbnfaa
