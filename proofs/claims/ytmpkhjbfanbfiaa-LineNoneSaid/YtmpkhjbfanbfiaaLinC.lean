/- Layer 16 (line): who is taken out of a row: take. By a contract. -/
import Derived.Test.YtmpkhjbfanbfiaaLinB
import Derived.Test.YtmpkhjbfanbfiaaPart
namespace Go.Proofs.Ytmpkhjbfanbfiaa
open Go.RowKit Go.Shelf
set_option linter.unusedVariables false
set_option linter.unusedSimpArgs false

section
variable {ops : Array Oper} {i : Nat} {mk : List Nat} {S : World → Prop} {o : Oper} {rest : List Oper} {A : Vals → Act} {R : Told} {F : (Vals → Act) → Told → Prop}
/-- A new list of n, made of what is known. -/
theorem SeqV.rows (n B : Nat) (ob : Obj) (hw : ∀ val, Region.wanted o (yielded ops (A val).tmps) = true) (hm : mk.contains i = false) (hB : ∀ w, S w → B ≤ w.heap.size) (hSa : ∀ w, S w → S (w.alloc ob))
    (hy : ∀ val w, (execOp (A val).eval o).run Try.prog w = .ok (.value (.slice (some ⟨w.heap.size, 0, none⟩) n n)) (w.alloc ob))
    (h : SeqV Try.prog ops mk S (i + 1) rest (fun val => (A val).put o.dst (val i)) (updT R i fun _ v w => ∃ g, v = .slice (some ⟨g, 0, none⟩) n n ∧ B ≤ g ∧ w.heap[g]? = some ob) F) : SeqV Try.prog ops mk S i (o :: rest) A R F :=
  ⟨fun _ v w => ∃ g, v = .slice (some ⟨g, 0, none⟩) n n ∧ B ≤ g ∧ w.heap[g]? = some ob, fun val => val i, ⟨fun _ _ _ _ _ h => h, fun _ _ _ h => h, fun _ v w w' ⟨g, h1, h2, h3⟩ hb => ⟨g, h1, h2, by rw [hb.block g (Array.getElem?_eq_some_iff.1 h3).1]; exact h3⟩, fun _ _ _ => rfl, fun val w hS hR => by
    rw [if_pos (hw val)]
    unfold Oper.wp
    rw [hy val w]
    exact ⟨_, rfl, ⟨_, rfl, hB w hS, heap_alloc_new w ob⟩, hSa w hS, (Below.refl _ _).alloc (Nat.le_refl _) _, fun hc => by rw [hm] at hc; cases hc⟩⟩, h⟩
end


set_option maxRecDepth 100000 in
set_option maxHeartbeats 1000000 in
/-- Who stands from f on up to t is taken out. -/
theorem take_is (g : Nat) (A : Option Addr) (c : Nat) (l : List Int) (f t : Nat) (w : World) (h : LineAt w g A c l) (hft : f ≤ t) (ht : t ≤ l.length) (hl : l.length ≤ 1000000) :
    Calls Try.prog 26 #[.pointer (some ⟨g, 0, none⟩), .int .i64 (f : Int), .int .i64 (t : Int)] w fun e w' => ∃ v, e = .returned v ∧ w'.ownsRow w.heap.size 3 1 v ((l.take t).drop f).length (ivals ((l.take t).drop f)) ∧ (∃ A' c', LineAt w' g A' c' (l.take f ++ l.drop t)) ∧ w.grownBy w' (some g) := by
  have c0 := h.cell
  have hle := h.le
  have hcap := h.cap
  unfold maxLen at hcap
  have hlt := h.lt
  have n1 : ((l.take t).drop f).length = t - f := by rw [List.length_drop, List.length_take]; omega
  have n2 : (l.take f).length = f := by rw [List.length_take]; omega
  have n3 : (l.drop t).length = l.length - t := List.length_drop
  have k1 := iclone_is ((l.take t).drop f) _ _ (c - f) w (h.lie.piece hft ht hle) (by omega)
  rw [n1] at k1
  have kc := fun (g7 : Nat) (w1 : World) (hg : w1.heap[g7]? = some (.cells #[.slice A f c, .slice (part A t c) (l.length - t) (c - t)] 22 (0, 0))) (hb : Below w.heap.size w w1) =>
    concat_two (l.take f) (l.drop t) A (part A t c) f (l.length - t) c (c - t) _ _ g7 w1 hg n2 n3 ((h.lie.front f).below hb) ((h.lie.back ht hle).below hb) h.bare (fun e => by rw [h.bare (part_none e)]; exact Nat.zero_sub t) (by omega)
  obtain ⟨r, hr⟩ : ∃ r, l.take f ++ l.drop t = r := ⟨_, rfl⟩
  rw [hr] at kc ⊢
  obtain ⟨q, hq⟩ : ∃ q, (l.take t).drop f = q := ⟨_, rfl⟩
  rw [hq] at k1 n1 ⊢
  have HQ := Lib.hid n1
  have H := Lib.hid h
  have KC := Lib.hid kc
  have hfl : f ≤ l.length := by omega
  have hfc : f ≤ c := by omega
  have htc : t ≤ c := by omega
  clear n1 n2 n3 h hq hr kc
  go_enter Try.func26, Try.ntmps26
  go_wp2_with (first
    | (refine part_arm _ _ _ rfl rfl Try.underlying22 Try.sizeOf3 rfl rfl rfl hft htc ?_)
    | (go_at_call 29; refine k1.mono ?_; clear k1; rintro e w1 ⟨v1, rfl, hown1, hb1⟩))
  have cells : ∀ w', Below w1.heap.size w1 w' → w'.cell? ⟨g, 0, none⟩ = some (.slice A l.length c) := fun w' h => (H.out.below (Below.then hb1 h)).cell
  clear c0
  refine region_vary [] 15 (fun w' => Below w1.heap.size w1 w') (by kernel_rfl) (by kernel_rfl) (Below.refl _ _).drew ?_
  simp only [List.take_succ_cons, List.take_zero, List.drop_succ_cons, List.drop_zero]
  iterate 4 ((refine' SeqV.calm0 _ (by rfl) (by rfl) (fun w => ?_) ?_; rotate_left; · (go_simp <;> with_reducible rfl)); simp only [Act.put, List.setIfInBounds_toArray, List.set_cons_zero, List.set_cons_succ])
  (refine' SeqV.take0 _ (by rfl) (by rfl) (fun w' hS => ?_) ?_; rotate_left; · (have x0 := cells w' hS; go_simp <;> with_reducible rfl)); simp only [Act.put, List.setIfInBounds_toArray, List.set_cons_zero, List.set_cons_succ]
  (refine' SeqV.calm0 _ (by rfl) (by rfl) (fun w => ?_) ?_; rotate_left; · (go_simp <;> with_reducible rfl)); simp only [Act.put, List.setIfInBounds_toArray, List.set_cons_zero, List.set_cons_succ]
  refine SeqV.take0 _ (by rfl) (by rfl) (fun w' hS => exec_part_to _ _ rfl Try.underlying22 Try.sizeOf3 rfl rfl hfc) ?_
  simp only [Act.put, List.setIfInBounds_toArray, List.set_cons_zero, List.set_cons_succ]
  iterate 3 ((refine' SeqV.calm0 _ (by rfl) (by rfl) (fun w => ?_) ?_; rotate_left; · (go_simp <;> with_reducible rfl)); simp only [Act.put, List.setIfInBounds_toArray, List.set_cons_zero, List.set_cons_succ])
  (refine' SeqV.take0 _ (by rfl) (by rfl) (fun w' hS => ?_) ?_; rotate_left; · (have x0 := cells w' hS; go_simp <;> with_reducible rfl)); simp only [Act.put, List.setIfInBounds_toArray, List.set_cons_zero, List.set_cons_succ]
  (refine' SeqV.calm0 _ (by rfl) (by rfl) (fun w => ?_) ?_; rotate_left; · (go_simp <;> with_reducible rfl)); simp only [Act.put, List.setIfInBounds_toArray, List.set_cons_zero, List.set_cons_succ]
  refine SeqV.take0 _ (by rfl) (by rfl) (fun w' hS => exec_part_from _ _ rfl Try.underlying22 Try.sizeOf3 rfl rfl ht) ?_
  simp only [Act.put, List.setIfInBounds_toArray, List.set_cons_zero, List.set_cons_succ]
  refine SeqV.rows 2 w1.heap.size (.cells #[.slice A f c, .slice (part A t c) (l.length - t) (c - t)] 22) (fun _ => by rfl) (by rfl) (fun w hS => hS.size) (fun w hS => hS.alloc hS.size _) (fun val w => ?_) ?_; · go_simp
  simp only [Act.put, List.setIfInBounds_toArray, List.set_cons_zero, List.set_cons_succ]
  refine SeqV.make (f := 32) (args := fun val => #[val 13]) (fun _ v w' => w'.ownsRow w1.heap.size 3 1 v r.length (ivals r)) (fun val w' hS hR => ?_) (fun _ => by rfl) (by rfl) (fun _ _ _ v w h => h) (fun _ v w w' h hb => own_kept h hb) (fun val w => ?_) ?_
  · obtain ⟨g7, e7, hB7, h7⟩ := hR 13 (by kernel_rfl)
    rw [e7]
    refine (KC.out g7 w' h7 (Below.then hb1 hS)).mono ?_
    rintro e w2 ⟨v, rfl, hown, hb⟩
    exact ⟨v, rfl, own_base hown hS.size, hS.trans (hb.mono hS.size), hb⟩
  · go_simp
  simp only [Act.put, List.setIfInBounds_toArray, List.set_cons_zero, List.set_cons_succ]
  intro val w3 hS3 hR3 hD3
  have hown3 : w3.ownsRow w1.heap.size 3 1 (val 14) r.length (ivals r) := hR3 14 (by decide)
  obtain ⟨A', c', e14, -, -, -, -⟩ := Lie.own hown3
  rw [e14] at hown3
  simp only [e14]
  clear hR3 hD3 e14 cells KC
  have hL := H.out.below (Below.then hb1 hS3)
  have d0 := hL.cell
  have s0 := hL.soft
  have hown1' := own_kept hown1 hS3
  go_wp2
  have hgr : w3.grownBy (w3.setCell ⟨g, 0, none⟩ (.slice A' r.length c')) (some g) := set_grown _ _ _
  have hown4 := own_far hown1' hgr (fun b hb e => by have := (hown1'.lt b hb).1; cases e; omega)
  refine bodyPost_ret (v := v1) (by simp [results, Try.results26, go_sem]) rfl ⟨_, rfl, by rw [HQ.out]; exact hown4, ⟨A', c', hL.set hown3 (Nat.lt_of_lt_of_le hlt hb1.size)⟩, ?_⟩
  exact grown_trans (grown_below (Below.then hb1 hS3) _) hgr
end Go.Proofs.Ytmpkhjbfanbfiaa
