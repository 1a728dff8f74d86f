/- The reference of layer 5 (coder): a reader's string of bytes. By a contract. -/
import Derived.Test.YtmagjfjmaojemaaCoderZ
import Derived.Deep.RegionLaw
namespace Go.Proofs.Ytmagjfjmaojemaa
open Go.RowKit
set_option linter.unusedVariables false
set_option linter.unusedSimpArgs false

/-- append to a row of the call's own, as one step of a region that draws. -/
theorem step_append_own {P : Program} {ops : Array Oper} {o : Oper} {a : Act} {w : World} {K : Act → World → Prop} {Q : Exit → Act → World → Prop} {E : Prop} (hgd : o.guard = none) (s x : Operand) (t : TypeId)
    (ho : o.op = .call { callee := .builtin .append, args := #[s, x], argTypes := #[t, t] })
    (base : Nat) (e : TypeId) (i : TypeInfo) (z : Value) (size bytes : Nat) (ht : P.underlying t = some (.slice e)) (hi : P.info? e = some i) (hz : i.zero = some z)
    (hsize : i.size = size) (hby : i.bytes = bytes) (hzs : z.cells.size = size) (hsz : 0 < size)
    (v : Value) (n : Nat) (xs : List Value) (hs : a.eval s = v) (hown : w.ownsRow base e size v n xs)
    (ad : Addr) (m c : Nat) (news : List Value) (hx : a.eval x = .slice (some ad) m c) (hl : news.length = m * size) (hnews : ∀ j u, news[j]? = some u → w.cell? (ad.add j) = some u) (h1 : ∀ u ∈ news, u.oneCell' = true)
    (h63 : n + m ≤ maxLen) (hbytes : (n + m) * bytes ≤ 140737488355328) (hbase : base ≤ w.heap.size)
    (h : ∀ v' w', w'.ownsRow base e size v' (n + m) (xs ++ news) → w.grownBy w' v.ownBlock → K (a.put o.dst v') w') :
    if Region.wanted o (yielded ops a.tmps) = true then Oper.wp P o a w K Q else E := by
  rw [if_pos (by simp [Region.wanted, hgd])]
  exact wp_append_own w s x t ho base e i z size bytes ht hi hz hsize hby hzs hsz v n xs hs hown ad m c news hx hl hnews h1 h63 hbytes hbase fun v' w' h2 h3 _ => h v' w' h2 h3

/-- append of nothing to nothing, as one step of a region that draws. -/
theorem step_append_none {P : Program} {ops : Array Oper} {o : Oper} {a : Act} {w : World} {K : Act → World → Prop} {Q : Exit → Act → World → Prop} {E : Prop} (hgd : o.guard = none) (s x : Operand) (t : TypeId)
    (ho : o.op = .call { callee := .builtin .append, args := #[s, x], argTypes := #[t, t] })
    (e : TypeId) (i : TypeInfo) (size : Nat) (ht : P.underlying t = some (.slice e)) (hi : P.info? e = some i) (hs : a.eval s = .slice none 0 0) (hx : a.eval x = .slice none 0 0)
    (h : K (a.put o.dst (.slice none 0 0)) w) : if Region.wanted o (yielded ops a.tmps) = true then Oper.wp P o a w K Q else E := by
  rw [if_pos (by simp [Region.wanted, hgd])]
  have hrun := run_append_owned_none (P := P) (w := w) 0 t o.type e i size ht hi (.slice none 0 0) 0 [] (World.ownsRow_nil _ _ _ _)
  unfold Oper.wp
  simp [execOp, ho, resolve, invoke, builtin, hs, hx, hrun, Result.andThen]
  exact h

theorem Lies.first {w : World} {S : Nat → Prop} {A : Option Addr} {xs : List Nat} (h : Lies w S A xs) (n : Nat) : Lies w S A (xs.take n) := fun k x hx => by
  rw [List.getElem?_take] at hx
  split at hx
  · exact h k x hx
  · cases hx
theorem Lies.srcs {w : World} {S : Nat → Prop} {a : Addr} {xs : List Nat} (h : Lies w S (some a) xs) : ∀ q v, (u8s xs)[q]? = some v → w.cell? (a.add q) = some v := by
  intro q v hq
  have hql : q < xs.length := by have := (List.getElem?_eq_some_iff.1 hq).1; rwa [u8s_len] at this
  rw [u8s_get hql] at hq
  cases hq
  obtain ⟨a', ha', _, hc'⟩ := h.get hql
  cases ha'
  exact hc'
theorem own_far {w : World} {base d n : Nat} {e : TypeId} {v : Value} {xs : List Value} (h : w.ownsRow base e 1 v n xs) (hd : d < base) : v.ownBlock = none ∨ v.ownBlock ≠ some d := by
  rcases hv : v.ownBlock with _ | g
  · exact .inl rfl
  · refine .inr (fun e => ?_)
    have := (h.lt g hv).1
    injection e with e
    omega
theorem grown_weak {w w' : World} {row : Option Nat} (h : w.grownBy w' none) : w.grownBy w' row := ⟨h.os, h.tape, h.output, h.size, fun k hk _ => h.block k hk (by simp)⟩

theorem own_len {w : World} {base n m : Nat} {e : TypeId} {v : Value} {xs : List Nat} (h : xs.length = n) (h2 : w.ownsRow base e 1 v n (u8s xs)) (hm : m = n) : w.ownsRow base e 1 v m (u8s xs) := by rw [hm]; exact h2

theorem refr_keep {w : World} {d : Nat} {x y : Value} (h0 : w.cell? ⟨d, 0, none⟩ = some x) (h1 : w.cell? ⟨d, 1, none⟩ = some y) : w.drew.cell? ⟨d, 0, none⟩ = some x ∧ w.drew.cell? ⟨d, 1, none⟩ = some y := ⟨h0, h1⟩
theorem refr_keep2 {w w' : World} {d : Nat} {x y : Value} (h0 : w.cell? ⟨d, 0, none⟩ = some x) (h1 : w.cell? ⟨d, 1, none⟩ = some y) (hg : w.drew.grownBy w' none) : w'.cell? ⟨d, 0, none⟩ = some x ∧ w'.cell? ⟨d, 1, none⟩ = some y := by
  have hl : d < w.drew.heap.size := World.block_lt_of_cell? w _ h0
  have hb := hg.block d hl (by simp)
  exact ⟨(World.cell?_of_block (a := ⟨d, 0, none⟩) hb).trans h0, (World.cell?_of_block (a := ⟨d, 1, none⟩) hb).trans h1⟩

theorem rdRaw_bad2 {bs : List Nat} {p y : Nat} {most : Int} (hy : y ≠ 0) (h : rdInt bs (p, 0) most = (0, (p, y))) : rdRaw bs (p, 0) most = ([], (p, y)) := by
  unfold rdRaw
  rw [if_neg (by simp), h, if_pos hy]
theorem rdRaw_ok2 {bs : List Nat} {p n q : Nat} {most : Int} (h : rdInt bs (p, 0) most = (n, (q, 0))) : rdRaw bs (p, 0) most = if bs.length - q < n then ([], (p, 50)) else ((bs.drop q).take n, (q + n, 0)) := by
  unfold rdRaw
  rw [if_neg (by simp), h, if_neg (by simp)]
theorem rdInt_place {bs : List Nat} {p n q : Nat} {most : Int} (hb : ∀ x ∈ bs, x < 256) (hp : p ≤ bs.length) (h : rdInt bs (p, 0) most = (n, (q, 0))) : q ≤ bs.length := by
  obtain ⟨n', c, e, hs, hcs⟩ := scan_two (l := bs.drop p) (fun x hx => hb x (List.mem_of_mem_drop hx))
  rw [rdInt_parts most hs] at h
  rcases hcs with ⟨rfl, hn, hc0, hcl⟩ | ⟨he0, he1, rfl, rfl⟩
  · rw [if_neg (by simp)] at h
    rw [List.length_drop] at hcl
    split at h
    · simp at h
    · simp at h; omega
  · rw [if_pos he0] at h
    simp at h
    exact absurd h.2.2 he0

set_option maxRecDepth 100000 in
set_option maxHeartbeats 2000000 in
theorem refrraw_is (d B : Nat) (bs : List Nat) (s : Nat × Nat) (A : Option Addr) (cp : Nat) (most : Int) (w : World) (hR : RefR w d B bs s A cp) (hA0 : A = none → cp = 0) (h0 : -9223372036854775808 ≤ most) (h1 : most ≤ 9223372036854775807) :
    Calls Try.prog 27 #[.pointer (some ⟨d, 0, none⟩), .int .i64 most] w fun ev w' => ∃ v, ev = .returned v ∧ w'.ownsRow w.heap.size 5 1 v (rdRaw bs s most).1.length (u8s (rdRaw bs s most).1) ∧ RR w d B bs (rdRaw bs s most).2 A cp w' := by
  obtain ⟨p, e0⟩ := s
  obtain ⟨c0, c1, c2, f1, f2⟩ := hR.cells
  simp only at c1 c2
  have hfew := hR.few
  have hrm := hR.room
  have hcm := hR.most
  unfold maxLen at hcm
  by_cases he : e0 = 0
  · subst he
    have kn := refrint_is d B bs (p, 0) A cp most w hR h0 h1
    rcases rdInt_two (p := p) (most := most) hR.bytes with ⟨y, hy0, hy1, hr⟩ | ⟨n, q, hr⟩
    · rw [rdRaw_bad2 hy0 hr]
      rw [hr] at kn
      have he1 : ((y : Int) != 0) = true := by simp; omega
      have he2 : ((y : Int) == 0) = false := by simp; omega
      clear hr hy0
      go_enter Try.func27, Try.ntmps27
      go_wp2_with (go_at_call 24; refine kn.mono ?_; clear kn; rintro ev w1 ⟨rfl, hR1, hg1⟩; obtain ⟨d0, d1, d2, g1, g2⟩ := hR1.cells; simp only at d1 d2)
      exact bodyPost_ret (v := .slice none 0 0) (by simp [results, Try.results27, go_sem]) rfl ⟨_, rfl, World.ownsRow_nil _ _ _ _, hR1, hg1⟩
    · rw [hr] at kn
      rw [rdRaw_ok2 hr]
      have hqb : q ≤ bs.length := rdInt_place hR.bytes hR.place hr
      clear hr
      by_cases hgt : bs.length - q < n
      · rw [if_pos hgt]
        have hgI : (bs.length : Int) - (q : Int) < (n : Int) := by omega
        have hqI : (q : Int) ≤ (bs.length : Int) := by omega
        clear hgt
        go_enter Try.func27, Try.ntmps27
        go_wp2_with (go_at_call 24; refine kn.mono ?_; clear kn; rintro ev w1 ⟨rfl, hR1, hg1⟩; obtain ⟨d0, d1, d2, g1, g2⟩ := hR1.cells; simp only at d1 d2)
        go_quiet (fail)
        go_wp2_with fail
        have hR1 := hR1.grown (grown_drew w1 nq none) (by simp) (by simp)
        have hR2 := hR1.moved p hR.place
        have hR3 := hR2.1.stopped 50 (by omega)
        exact bodyPost_ret (v := .slice none 0 0) (by simp [results, Try.results27, go_sem]) rfl ⟨_, rfl, World.ownsRow_nil _ _ _ _, hR3.1, grown_trans (grown_trans hg1 (grown_drew w1 nq _)) (grown_trans hR2.2 hR3.2)⟩
      · rw [if_neg hgt]
        have hgI : (n : Int) ≤ (bs.length : Int) - (q : Int) := by omega
        have hqI : (q : Int) ≤ (bs.length : Int) := by omega
        have hcI : (bs.length : Int) ≤ (cp : Int) := by omega
        have hqn : IntKind.i64.wrap ((q : Int) + (n : Int)) = (q : Int) + (n : Int) := IntWalk.i64_in _ (by omega)
        have hqn2 : (q : Int) + (n : Int) ≤ (cp : Int) := by omega
        have htn : ((q : Int) + (n : Int)).toNat = q + n := by omega
        have hsum0 : (0 : Int) ≤ (q : Int) + (n : Int) := by omega
        have hsum1 : (q : Int) ≤ (q : Int) + (n : Int) := by omega
        have hqnb : q + n ≤ bs.length := by omega
        have htl : ((bs.drop q).take n).length = n := by rw [List.length_take, List.length_drop]; omega
        have HTL := Lib.hid htl
        obtain ⟨i0, hi0, hz0, hz1, hz2⟩ := info_parts u8_info
        have hnl : (u8s ((bs.drop q).take n)).length = n * 1 := by rw [u8s_len, HTL.out]; omega
        have HNL := Lib.hid hnl
        have hone : ∀ v ∈ u8s ((bs.drop q).take n), v.oneCell' = true := u8s_one
        have HON := Lib.hid hone
        have HM : Hid (0 + n ≤ maxLen) := by show _ ≤ _; unfold maxLen; omega
        have HBY : Hid ((0 + n) * 1 ≤ 140737488355328) := by show _ ≤ _; omega
        clear hgt htl hnl hone
        rcases A with _ | a
        · obtain rfl := hA0 rfl
          obtain rfl : bs = [] := List.eq_nil_of_length_eq_zero (by omega)
          obtain rfl : q = 0 := by simp at hqb; exact hqb
          obtain rfl : n = 0 := by simp at hqnb; exact hqnb
          have hw0 : IntKind.i64.wrap 0 = 0 := by decide
          clear hgI hqI hcI hqn hqn2 htn hsum0 hsum1 hqnb HTL HNL HON HM HBY hqb hrm hcm hA0 hz0 hz1 hz2
          go_enter Try.func27, Try.ntmps27
          go_wp2_with (go_at_call 24; refine kn.mono ?_; clear kn; rintro ev w1 ⟨rfl, hR1, hg1⟩; obtain ⟨d0, d1, d2, g1, g2⟩ := hR1.cells; simp only [List.length_nil, Int.ofNat_zero, Int.natCast_zero] at d0 d1 d2)
          go_quiet (fail)
          go_wp2_with fail
          have hR1q := hR1.grown (grown_drew w1 nq none) (by simp) (by simp)
          have q0 : (w1.drewN nq).cell? ⟨d, 0, none⟩ = some (.slice none 0 0) := d0
          have q1 : (w1.drewN nq).cell? ⟨d, 1, none⟩ = some (.int .i64 0) := d1
          go_region_law (refine step_append_none rfl (.tmp 44) (.tmp 59) 34 rfl 5 i0 1 Try.underlying34 hi0 (by rfl) (by rfl) ?_)
          all_goals (
            have hR3 := (hR1q.grown (grown_drew _ 1 none) (by simp) (by simp)).moved 0 (Nat.zero_le _)
            go_wp2_with fail
            exact bodyPost_ret (v := .slice none 0 0) (by simp [results, Try.results27, go_sem]) rfl ⟨_, rfl, World.ownsRow_nil _ _ _ _, hR3.1, grown_trans (grown_trans (grown_trans hg1 (grown_drew w1 nq _)) (grown_drew _ 1 _)) hR3.2⟩)
        · go_enter Try.func27, Try.ntmps27
          go_wp2_with (go_at_call 24; refine kn.mono ?_; clear kn; rintro ev w1 ⟨rfl, hR1, hg1⟩; obtain ⟨d0, d1, d2, g1, g2⟩ := hR1.cells; simp only at d1 d2)
          go_quiet (fail)
          go_wp2_with fail
          have hR1q := hR1.grown (grown_drew w1 nq none) (by simp) (by simp)
          have HSZ : Hid (w.heap.size ≤ (w1.drewN nq).drew.heap.size) := hg1.size
          have q0 : (w1.drewN nq).cell? ⟨d, 0, none⟩ = some (.slice (some a) bs.length cp) := d0
          have q1 : (w1.drewN nq).cell? ⟨d, 1, none⟩ = some (.int .i64 (q : Int)) := d1
          by_cases hcq : cp = q
          · have hn0 : n = 0 := by omega
            have HS : Hid (∀ j u, (u8s ((bs.drop q).take n))[j]? = some u → (w1.drewN nq).drew.cell? (a.add j) = some u) := by
              intro j u hj
              rw [hn0] at hj
              simp [u8s] at hj
            clear hn0
            subst hcq
            go_region_held3 (fun w' => w'.cell? ⟨d, 0, none⟩ = some (.slice (some a) bs.length cp) ∧ w'.cell? ⟨d, 1, none⟩ = some (.int .i64 (cp : Int))) (first | exact refr_keep q0 q1 | exact refr_keep2 q0 q1 (by assumption)) ((refine step_append_own rfl (.tmp 44) (.tmp 59) 34 rfl w.heap.size 5 i0 (.int .u8 0) 1 1 Try.underlying34 hi0 hz0 hz1 hz2 rfl (by decide) (.slice none 0 0) 0 [] (by rfl) (World.ownsRow_nil _ _ _ _) a n 0 (u8s ((bs.drop cp).take n)) (by rfl) HNL.out HS.out HON.out HM.out HBY.out HSZ.out ?_; intro v2 w2 hown2 hg2))
            all_goals (
              have hg20 : (w1.drewN nq).grownBy w2 none := grown_trans (grown_drew _ 1 _) hg2
              have hR2 := hR1q.grown hg20 (by simp) (by simp)
              obtain ⟨e0, e1, e2, e3, e4⟩ := hR2.cells
              simp only at e1 e2
              have hqnc : ((cp + n : Nat) : Int) = (cp : Int) + (n : Int) := by omega
              have hR3 := hR2.moved (cp + n) hqnb
              rw [hqnc] at hR3
              rw [List.nil_append, Nat.zero_add] at hown2
              have hown3 := hown2.kept hR3.2 (own_far hown2 (by have := hR.lt; omega))
              clear hqnc
              go_wp2_with fail
              exact bodyPost_ret (v := v2) (by simp [results, Try.results27, go_sem]) rfl ⟨_, rfl, (by refine own_len HTL.out hown3 ?_; first | exact HTL.out | omega | (simp; omega)), hR3.1, grown_trans (grown_trans (grown_trans hg1 (grown_drew w1 nq _)) (grown_weak hg20)) hR3.2⟩)
          · have HS : Hid (∀ j u, (u8s ((bs.drop q).take n))[j]? = some u → (w1.drewN nq).drew.cell? ((a.add q).add j) = some u) := by
              have h := hR1q.lies.behind (j := q) hqb hrm
              rw [if_neg hcq] at h
              exact (Lies.first h n).srcs
            have hcq1 : (cp = q) = False := by simp [hcq]
            clear hcq
            go_region_held3 (fun w' => w'.cell? ⟨d, 0, none⟩ = some (.slice (some a) bs.length cp) ∧ w'.cell? ⟨d, 1, none⟩ = some (.int .i64 (q : Int))) (first | exact refr_keep q0 q1 | exact refr_keep2 q0 q1 (by assumption)) ((refine step_append_own rfl (.tmp 44) (.tmp 59) 34 rfl w.heap.size 5 i0 (.int .u8 0) 1 1 Try.underlying34 hi0 hz0 hz1 hz2 rfl (by decide) (.slice none 0 0) 0 [] (by rfl) (World.ownsRow_nil _ _ _ _) (a.add q) n (cp - q) (u8s ((bs.drop q).take n)) (by rfl) HNL.out HS.out HON.out HM.out HBY.out HSZ.out ?_; intro v2 w2 hown2 hg2))
            all_goals (
              have hg20 : (w1.drewN nq).grownBy w2 none := grown_trans (grown_drew _ 1 _) hg2
              have hR2 := hR1q.grown hg20 (by simp) (by simp)
              obtain ⟨e0, e1, e2, e3, e4⟩ := hR2.cells
              simp only at e1 e2
              have hqnc : ((q + n : Nat) : Int) = (q : Int) + (n : Int) := by omega
              have hR3 := hR2.moved (q + n) hqnb
              rw [hqnc] at hR3
              rw [List.nil_append, Nat.zero_add] at hown2
              have hown3 := hown2.kept hR3.2 (own_far hown2 (by have := hR.lt; omega))
              clear hqnc
              go_wp2_with fail
              exact bodyPost_ret (v := v2) (by simp [results, Try.results27, go_sem]) rfl ⟨_, rfl, (by refine own_len HTL.out hown3 ?_; first | exact HTL.out | omega | (simp; omega)), hR3.1, grown_trans (grown_trans (grown_trans hg1 (grown_drew w1 nq _)) (grown_weak hg20)) hR3.2⟩)
  · have hrd : rdRaw bs (p, e0) most = ([], (p, e0)) := by unfold rdRaw; rw [if_pos he]
    rw [hrd]
    have he1 : ((e0 : Int) != 0) = true := by simp; omega
    have he2 : ((e0 : Int) == 0) = false := by simp; omega
    clear hrd he
    go_enter Try.func27, Try.ntmps27
    go_wp2
    exact bodyPost_ret (v := .slice none 0 0) (by simp [results, Try.results27, go_sem]) rfl ⟨_, rfl, World.ownsRow_nil _ _ _ _, hR, grown_refl _ _⟩
end Go.Proofs.Ytmagjfjmaojemaa
