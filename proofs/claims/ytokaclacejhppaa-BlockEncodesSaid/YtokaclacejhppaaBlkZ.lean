/- Layer 9 (block): the document's bytes of a block; how many deeds there are of each kind. By contracts. · Layer 9 (block): how many deeds there are of each kind. By contracts. -/
import Derived.Test.YtokaclacejhppaaBlkX
import Derived.Test.YtokaclacejhppaaDeedV
import Derived.Test.YtokaclacejhppaaDeedX
import Derived.ChangeKeysEq
import Derived.Laws.Tables
namespace Go.Proofs.Ytokaclacejhppaa
open Go.RowKit
set_option linter.unusedVariables false
set_option linter.unusedSimpArgs false

theorem load_rdeed_at {ops : Array Oper} {rest : List Oper} {o : Oper} {a : Act} {w : World} {Q : Exit → Act → World → Prop} (x : Operand) (ho : o.op = .load 60 x) (hgd : Region.wanted o (yielded ops a.tmps) = true) (ad : Addr) (d : De) (hx : a.eval x = .pointer (some ad)) (hD : De.At w ad d)
    (h : wpList Try.prog ops Q rest (a.put o.dst (.agg (d.d.vals d.B d.c))) w) : wpList Try.prog ops Q (o :: rest) a w :=
  wpList_step fun K hK => by
    rw [if_pos hgd]
    unfold Oper.wp
    rw [exec_load_rdeed_at x ho ad d hx hD]
    exact hK _ _ h

theorem lies_src {w : World} {S : Nat → Prop} {a : Addr} {xs : List Nat} (h : Lies w S (some a) xs) : ∀ j u, (u8s xs)[j]? = some u → w.cell? (a.add j) = some u := fun j u hj => by
  have hsrc := h.src xs.length
  rw [List.take_length] at hsrc
  exact hsrc j u hj

set_option maxRecDepth 100000 in
set_option maxHeartbeats 4000000 in
theorem rform_list (l : List De) (S : Nat → Prop) (A : Option Addr) (c : Nat) (w : World) (h : Deeds w S A l) (hr : ∀ x ∈ l, x.d.Right) (hn : l.length ≤ 64) (hA : ∀ x ∈ l, x.B = none → x.c = 0) :
    Calls Try.prog 18 #[.slice A l.length c] w fun e w' => ∃ v, e = .returned v ∧ w'.ownsRow w.heap.size 5 1 v (blk (l.map De.d)).length (u8s (blk (l.map De.d))) ∧ Below w.heap.size w w' := by
  obtain ⟨i0, hi0, hz0, hz1, hz2⟩ := info_parts u8_info
  have kf := refform_is l.length w (by omega)
  have hwr : IntKind.u64.wrap (l.length : Int) = (l.length : Int) := by
    have : IntKind.u64.wrap (l.length : Int) = (l.length : Int) % 18446744073709551616 := rfl
    rw [this]; omega
  have HR := Lib.hid hr
  have HA := Lib.hid hA
  clear hr hA
  go_enter Try.func18, Try.ntmps18
  go_wp2_with (go_at_call 36; refine kf.mono ?_; clear kf; rintro e w1 ⟨v1, rfl, hown1, hb1⟩)
  go_loopw [3, 4] (fun v i wr => ∃ k : Nat, k ≤ l.length ∧ i = .int .i64 k ∧ Below w.heap.size w wr ∧ wr.ownsRow w.heap.size 5 1 v (form l.length ++ dbytes ((l.take k).map De.d)).length (u8s (form l.length ++ dbytes ((l.take k).map De.d)))) (fun _ i _ => l.length - (intOf i).toNat)
  case atStart => exact ⟨0, Nat.zero_le _, rfl, hb1, by simpa [dbytes] using hown1⟩
  case round =>
    obtain ⟨k, hk, rfl, hBr, hown⟩ := hrel
    by_cases hlt : k < l.length
    · obtain ⟨x, hx, ⟨a, rfl, hSa, hat⟩, hb, hc, hmx⟩ := (h.next hBr).get hlt
      have hki : (k : Int) < (l.length : Int) := by omega
      have hk0 : (0 : Int) ≤ (k : Int) := by omega
      have HX := Lib.hid hx
      have hRx := HR.out x (List.mem_of_getElem? hx)
      have kx := rform_is x.d x.B x.c wr hRx (hb.imp (fun k hk _ => hk)) (HA.out x (List.mem_of_getElem? hx))
      obtain ⟨pre, hpre⟩ : ∃ pre, Hid (form l.length ++ dbytes ((l.take k).map De.d) = pre) := ⟨_, rfl⟩
      have hpl := pre_len hn (fun x hx => HR.out x (List.mem_of_mem_take hx)) (k := k)
      rw [hpre.out] at hown hpl
      obtain ⟨xs, hxs⟩ : ∃ xs, Hid (x.d.bytes = xs) := ⟨_, rfl⟩
      have hbl := bytes_len hRx
      rw [hxs.out] at kx hbl
      obtain ⟨n, hnn⟩ : ∃ n, Hid (pre.length = n) := ⟨_, rfl⟩
      obtain ⟨m, hmm⟩ : ∃ m, Hid (xs.length = m) := ⟨_, rfl⟩
      rw [hnn.out] at hown hpl
      rw [hmm.out] at kx hbl
      have HO := Lib.hid hown
      have HB := Lib.hid hBr
      clear hx hb hc hmx hRx hown hBr
      go_wp2_with (first
        | (refine load_rdeed_at _ rfl rfl _ x rfl hat ?_)
        | (go_at_call 37; refine kx.mono ?_; clear kx; rintro e w2 ⟨v2, rfl, hown2, hb2⟩; obtain ⟨A2, cc2, rfl, hl1, hl2, -, hL⟩ := Lies.own hown2; obtain ⟨a2, rfl⟩ := lies_at hL (by rw [hmm.out]; exact hbl.1); have HS := Lib.hid (lies_src hL); have HO2 := Lib.hid (HO.out.kept (grown_below hb2 none) (by cases u3.ownBlock <;> simp)); have HB2 := Lib.hid (Below.then HB.out hb2); clear hown2 hL hb2)
        | (at_builtin; refine wpList_append_own _ rfl _ _ 25 rfl w.heap.size 5 i0 (.int .u8 0) 1 1 Try.underlying25 hi0 hz0 hz1 hz2 rfl (by decide) u3 n (u8s pre) rfl HO2.out a2 m cc2 (u8s xs) rfl ?c1 ?c2 ?c3 ?c4 ?c5 ?c6 ?_))
      case c1 => rw [u8s_len, hmm.out, Nat.mul_one]
      case c2 => exact HS.out
      case c3 => exact u8s_one
      case c4 => simp only [maxLen]; omega
      case c5 => omega
      case c6 => exact HB2.out.size
      intro v3 w3 hown3 hgrow3 _
      have HB3 := Lib.hid (HB2.out.grown hgrow3 HB2.out.size (fun k hk => (HO2.out.lt k hk).1))
      have HO3 := Lib.hid hown3
      clear hown3 hgrow3
      go_wp2
      go_roundw
      case rel =>
        refine ⟨k + 1, by omega, by go_num, HB3.out, ?_⟩
        have e : form l.length ++ dbytes ((l.take (k + 1)).map De.d) = pre ++ xs := by
          rw [dbytes_next HX.out, ← List.append_assoc, hpre.out, hxs.out]
        rw [e, u8s_append, List.length_append, hnn.out, hmm.out]
        exact HO3.out
      case measure => simp [intOf]; omega
    · obtain rfl : k = l.length := by omega
      rw [List.take_length] at hown
      have e : blk (l.map De.d) = form l.length ++ dbytes (l.map De.d) := by unfold blk; rw [List.length_map]
      rw [← e] at hown
      go_wp2
      refine bodyPost_ret (v := u3) (by simp [results, Try.results18, go_sem]) rfl ⟨u3, rfl, hown, hBr⟩

set_option maxRecDepth 100000 in
theorem rencode_big (n : Nat) (A : Option Addr) (c : Nat) (w : World) (hn : 64 < n) :
    Calls Try.prog 8 #[.slice A n c] w fun e w' => e = .returned (.tuple #[.slice none 0 0, .int .i64 0, .int .i64 3]) ∧ Below w.heap.size w w' := by
  have d64 : decide ((64 : Int) < (n : Int)) = true := by simp; omega
  clear hn
  go_enter Try.func8, Try.ntmps8
  go_wp2
  refine bodyPost_ret (v := .tuple #[.slice none 0 0, .int .i64 0, .int .i64 3]) (by simp [results, Try.results8, go_sem]) rfl ⟨rfl, Below.refl _ _⟩

set_option maxRecDepth 100000 in
set_option maxHeartbeats 4000000 in
theorem rencode_ok (l : List De) (S : Nat → Prop) (A : Option Addr) (c : Nat) (w : World) (h : Deeds w S A l) (hf : ∀ x ∈ l, x.d.Fits) (hr : ∀ x ∈ l, x.d.Right) (hn : l.length ≤ 64) (hA : ∀ x ∈ l, x.B = none → x.c = 0) :
    Calls Try.prog 8 #[.slice A l.length c] w fun e w' => ∃ v, e = .returned (.tuple #[v, .int .i64 0, .int .i64 0]) ∧ w'.ownsRow w.heap.size 5 1 v (blk (l.map De.d)).length (u8s (blk (l.map De.d))) ∧ Below w.heap.size w w' := by
  have d64 : decide ((64 : Int) < (l.length : Int)) = false := by simp; omega
  have kf := fun (W : World) (h : Deeds W S A l) => rform_list l S A c W h hr hn hA
  have hbl := (blk_len (ds := l.map De.d) (fun d hd => by obtain ⟨x, hx, rfl⟩ := List.mem_map.1 hd; exact hr x hx) (by rw [List.length_map]; exact hn)).2
  obtain ⟨bs, hbs⟩ : ∃ bs, Hid (blk (l.map De.d) = bs) := ⟨_, rfl⟩
  obtain ⟨n, hnn⟩ : ∃ n, Hid (bs.length = n) := ⟨_, rfl⟩
  rw [hbs.out] at kf hbl ⊢
  rw [hnn.out] at kf hbl ⊢
  have dB : decide ((131072 : Int) < (n : Int)) = false := by simp; omega
  have KF := Lib.hid kf
  have HF := Lib.hid hf
  have HR := Lib.hid hr
  clear kf hf hr hA hbl
  go_enter Try.func8, Try.ntmps8
  go_wp2
  go_loopw [5] (fun i wr => ∃ k : Nat, k ≤ l.length ∧ i = .int .i64 k ∧ Below w.heap.size w wr) (fun i _ => l.length - (intOf i).toNat)
  case atStart => exact ⟨0, Nat.zero_le _, rfl, Below.refl _ _⟩
  case round =>
    obtain ⟨k, hk, rfl, hBr⟩ := hrel
    by_cases hlt : k < l.length
    · obtain ⟨x, hx, ⟨a, rfl, hSa, hat⟩, hb, hc, hmx⟩ := (h.next hBr).get hlt
      have hki : (k : Int) < (l.length : Int) := by omega
      have hk0 : (0 : Int) ≤ (k : Int) := by omega
      have hmem := List.mem_of_getElem? hx
      have kr := rright_is x.d x.B x.c wr true (HF.out x hmem) (by simp [HR.out x hmem])
      clear hx hb hc hmx hmem
      go_wp2_with (first
        | (refine load_rdeed_at _ rfl rfl _ x rfl hat ?_)
        | (go_at_call 17; refine kr.mono ?_; clear kr; rintro e w2 ⟨rfl, hb2⟩; have hB2 := Below.then hBr hb2))
      go_roundw
      case rel => exact ⟨k + 1, by omega, by go_num, hB2⟩
      case measure => simp [intOf]; omega
    · obtain rfl : k = l.length := by omega
      have hs := hBr.size
      have HD := Lib.hid (h.next hBr)
      go_wp2_with (go_at_call 18; refine (KF.out _ HD.out).mono ?_; rintro e w3 ⟨v3, rfl, hown3, hb3⟩; have HB3 := Lib.hid (Below.then hBr hb3); have HO3 := Lib.hid (own_low hown3 hs); obtain ⟨A3, c3, rfl, -⟩ := Lies.own hown3; clear hown3 hb3)
      refine bodyPost_ret (v := .tuple #[.slice A3 n c3, .int .i64 0, .int .i64 0]) (by simp [results, Try.results8, go_sem]) rfl ⟨_, rfl, HO3.out, HB3.out⟩

set_option maxRecDepth 100000 in
set_option maxHeartbeats 4000000 in
theorem rencode_no (l : List De) (S : Nat → Prop) (A : Option Addr) (c : Nat) (w : World) (h : Deeds w S A l) (hf : ∀ x ∈ l, x.d.Fits) (i : Nat) (y : De) (hi : l[i]? = some y) (hy : ¬ y.d.Right) (hr : ∀ x ∈ l.take i, x.d.Right) (hn : l.length ≤ 64) :
    Calls Try.prog 8 #[.slice A l.length c] w fun e w' => e = .returned (.tuple #[.slice none 0 0, .int .i64 (i : Int), .int .i64 80]) ∧ Below w.heap.size w w' := by
  have d64 : decide ((64 : Int) < (l.length : Int)) = false := by simp; omega
  have hil : i < l.length := (List.getElem?_eq_some_iff.1 hi).1
  have HF := Lib.hid hf
  have HR := Lib.hid hr
  have HI := Lib.hid hi
  have HY := Lib.hid hy
  clear hf hr hi hy
  go_enter Try.func8, Try.ntmps8
  go_wp2
  go_loopw [5] (fun j wr => ∃ k : Nat, k ≤ i ∧ j = .int .i64 k ∧ Below w.heap.size w wr) (fun j _ => l.length - (intOf j).toNat)
  case atStart => exact ⟨0, Nat.zero_le _, rfl, Below.refl _ _⟩
  case round =>
    obtain ⟨k, hk, rfl, hBr⟩ := hrel
    have hlt : k < l.length := by omega
    obtain ⟨x, hx, ⟨a, rfl, hSa, hat⟩, hb, hc, hmx⟩ := (h.next hBr).get hlt
    have hki : (k : Int) < (l.length : Int) := by omega
    have hk0 : (0 : Int) ≤ (k : Int) := by omega
    by_cases hk2 : k < i
    · have kr := rright_is x.d x.B x.c wr true (HF.out x (List.mem_of_getElem? hx)) (by simp [HR.out x (List.mem_of_getElem? (i := k) (by rw [List.getElem?_take, if_pos hk2]; exact hx))])
      clear hx hb hc hmx
      go_wp2_with (first
        | (refine load_rdeed_at _ rfl rfl _ x rfl hat ?_)
        | (go_at_call 17; refine kr.mono ?_; clear kr; rintro e w2 ⟨rfl, hb2⟩; have hB2 := Below.then hBr hb2))
      go_roundw
      case rel => exact ⟨k + 1, by omega, by go_num, hB2⟩
      case measure => simp [intOf]; omega
    · obtain rfl : k = i := by omega
      obtain rfl : x = y := by have := hx.symm.trans HI.out; simpa using this
      have kr := rright_is x.d x.B x.c wr false (HF.out x (List.mem_of_getElem? hx)) (by simp [HY.out])
      clear hx hb hc hmx
      go_wp2_with (first
        | (refine load_rdeed_at _ rfl rfl _ x rfl hat ?_)
        | (go_at_call 17; refine kr.mono ?_; clear kr; rintro e w2 ⟨rfl, hb2⟩; have hB2 := Below.then hBr hb2))
      refine bodyPost_ret (v := .tuple #[.slice none 0 0, .int .i64 (k : Int), .int .i64 80]) (by simp [results, Try.results8, go_sem]) rfl ⟨rfl, hB2⟩
end Go.Proofs.Ytokaclacejhppaa
namespace Go.Proofs.Ytokaclacejhppaa
open Go.RowKit
set_option linter.unusedVariables false
set_option linter.unusedSimpArgs false

/-- Numbers, as cells. -/
def cis (c : List Nat) : Array Value := (c.map fun (n : Nat) => Value.int .i64 (n : Int)).toArray
def bump (c : List Nat) (p : Nat) : List Nat := c.set p (c[p]?.getD 0 + 1)
/-- The place at which a kind is counted. -/
def place (k : Int) : Nat := if k < 0 ∨ 8 ≤ k then 0 else k.toNat
theorem place_lt (k : Int) : place k < 8 := by
  unfold place
  split <;> omega
/-- How many there are of each. -/
def cnts (l : List De) : List Nat := l.foldl (fun c x => bump c (place x.d.kind)) [0, 0, 0, 0, 0, 0, 0, 0]
theorem cnts_next {l : List De} {k : Nat} {x : De} (h : l[k]? = some x) : cnts (l.take (k + 1)) = bump (cnts (l.take k)) (place x.d.kind) := by
  unfold cnts
  rw [List.take_add_one, h]
  simp
theorem bump_len (c : List Nat) (p : Nat) : (bump c p).length = c.length := by simp [bump]
theorem cnts_len (l : List De) : (cnts l).length = 8 := by
  unfold cnts
  generalize hc : [0, 0, 0, 0, 0, 0, 0, 0] = c0
  have h8 : c0.length = 8 := by rw [← hc]; rfl
  clear hc
  induction l generalizing c0 with
  | nil => exact h8
  | cons x l ih => rw [List.foldl_cons]; exact ih _ (by rw [bump_len]; exact h8)
theorem bump_le {c : List Nat} {p m : Nat} (h : ∀ x ∈ c, x ≤ m) : ∀ x ∈ bump c p, x ≤ m + 1 := by
  intro x hx
  unfold bump at hx
  obtain ⟨i, hi, rfl⟩ := List.getElem_of_mem hx
  have hi' : i < c.length := by rw [List.length_set] at hi; exact hi
  rw [List.getElem_set]
  split
  · cases hp : c[p]? with
    | none => simp
    | some v => have := h v (List.mem_of_getElem? hp); simp; omega
  · have := h _ (List.getElem_mem hi'); omega
theorem cnts_le : ∀ (l : List De), ∀ x ∈ cnts l, x ≤ l.length := by
  intro l
  unfold cnts
  have gen : ∀ (l : List De) (c0 : List Nat) (m : Nat), (∀ x ∈ c0, x ≤ m) → ∀ x ∈ l.foldl (fun c x => bump c (place x.d.kind)) c0, x ≤ m + l.length := by
    intro l
    induction l with
    | nil => intro c0 m h; simpa using h
    | cons y l ih =>
      intro c0 m h
      rw [List.foldl_cons]
      intro x hx
      have := ih _ (m + 1) (bump_le h) x hx
      rw [List.length_cons]; omega
  intro x hx
  have := gen l _ 0 (by simp) x hx
  omega
theorem cis_get {c : List Nat} {p : Nat} (h : p < c.length) : (cis c)[p]? = some (.int .i64 (c[p] : Nat)) := by simp [cis, h]
theorem cis_set (c : List Nat) (p x : Nat) : (cis c).setIfInBounds p (.int .i64 (x : Int)) = cis (c.set p x) := by
  unfold cis
  rw [List.setIfInBounds_toArray, List.map_set]

/-- The counts lie in block b. -/
def CntAt (w : World) (b : Nat) (c : List Nat) : Prop := w.heap[b]? = some (.cells (cis c) 34 (0, 0))
theorem CntAt.lt {w : World} {b : Nat} {c : List Nat} (h : CntAt w b c) : b < w.heap.size := (Array.getElem?_eq_some_iff.1 h).1
theorem CntAt.next {w w' : World} {b : Nat} {c : List Nat} (h : CntAt w b c) (hb : Below w.heap.size w w') : CntAt w' b c := (hb.block b h.lt).trans h
theorem CntAt.cell {w : World} {b : Nat} {c : List Nat} (h : CntAt w b c) {p : Nat} (hp : p < c.length) : w.cell? ⟨b, p, none⟩ = some (.int .i64 (c[p] : Nat)) := (cell_of_row w b p _ _ _ h).trans (cis_get hp)
theorem CntAt.free {w : World} {b : Nat} {c : List Nat} (h : CntAt w b c) (p : Nat) : w.frozen? ⟨b, p, none⟩ = false := frozen_of_row w b _ _ _ h
theorem CntAt.put {w : World} {b : Nat} {c : List Nat} (h : CntAt w b c) (p x : Nat) (v : Value) (hv : v = .int .i64 (x : Int)) : CntAt (w.setCell ⟨b, p, none⟩ v) b (c.set p x) := by
  subst hv
  have := heap_setCell_same w b p (cis c) 34 (.int .i64 (x : Int)) h
  rw [cis_set] at this
  exact this
theorem CntAt.other {w : World} {b b' : Nat} {c : List Nat} (h : CntAt w b c) (hb : b ≠ b') (p : Nat) (v : Value) : CntAt (w.setCell ⟨b', p, none⟩ v) b c := (heap_setCell_other w ⟨b', p, none⟩ b v hb).trans h
theorem arr8_size : (Try.prog.info? 34).map (·.size) = some 8 := by kernel_rfl
theorem arr8_elem : (Try.prog.info? 3).isSome = true := by kernel_rfl
theorem zero_arr (V : World) : (zeroValue 34).run Try.prog V = .ok (.agg (cis [0, 0, 0, 0, 0, 0, 0, 0])) V := by kernel_rfl
theorem cis_size (c : List Nat) : (cis c).size = c.length := by simp [cis]
theorem cis_one (c : List Nat) : (cis c).all (·.oneCell') = true := Array.all_eq_true_iff_forall_mem.2 (fun v hv => by
  simp [cis] at hv
  obtain ⟨n, _, rfl⟩ := hv
  rfl)

set_option maxRecDepth 100000
section
variable {ops : Array Oper} {rest : List Oper} {o : Oper} {a : Act} {w : World} {Q : Exit → Act → World → Prop}
theorem load_arr (x : Operand) (ho : o.op = .load 34 x) (hgd : Region.wanted o (yielded ops a.tmps) = true) (g : Nat) (c : List Nat) (hx : a.eval x = .pointer (some ⟨g, 0, none⟩)) (hD : CntAt w g c) (hc : c.length = 8)
    (h : wpList Try.prog ops Q rest (a.put o.dst (.agg (cis c))) w) : wpList Try.prog ops Q (o :: rest) a w :=
  wpList_step fun K hK => by
    rw [if_pos hgd]
    exact wp_load_row 34 x ho g hx _ (cis c) (0, 0) _ hD Try.underlying34 rfl (by rw [cis_size, hc]; exact arr8_size) (hK _ _ h)
theorem store_arr (x y : Operand) (ho : o.op = .store 34 x y) (hgd : Region.wanted o (yielded ops a.tmps) = true) (g : Nat) (c old : List Nat) (hx : a.eval x = .pointer (some ⟨g, 0, none⟩)) (hy : a.eval y = .agg (cis c)) (hD : CntAt w g old) (hc : c.length = 8) (ho8 : old.length = 8)
    (h : wpList Try.prog ops Q rest (a.put o.dst undef) (w.setRow g (cis c))) : wpList Try.prog ops Q (o :: rest) a w :=
  wpList_step fun K hK => by
    rw [if_pos hgd]
    exact wp_store_row 34 x y ho g (cis c) hx hy _ (cis old) hD (by rw [cis_size, hc]; exact arr8_size) (by rw [cis_size, cis_size, hc, ho8]) (cis_one c) (hK _ _ h)
end
theorem CntAt.set {w : World} {g : Nat} {c old : List Nat} (h : CntAt w g old) : CntAt (w.setRow g (cis c)) g c := setRow_heap w g _ _ _ (0, 0) h
theorem CntAt.new (w : World) (c : List Nat) : CntAt (w.alloc (.cells (cis c) 34)) w.heap.size c := heap_alloc_new w _
theorem res_arr {fn : Func} {s g : Nat} {c : List Nat} {tmps : Array Value} {w : World} (h : fn.results = #[.cell s 34]) (hp : tmps.getD s undef = .pointer (some ⟨g, 0, none⟩)) (hD : CntAt w g c) (hc : c.length = 8) : (results fn tmps).run Try.prog w = .ok (.agg (cis c)) w :=
  results_cell_row h tmps w g _ (cis c) (0, 0) _ hp hD Try.underlying34 rfl (by rw [cis_size, hc]; exact arr8_size)

theorem placeof_is (k : Int) (w : World) :
    Calls Try.prog 20 #[.int .i64 k, .int .i64 8] w fun e w' => e = .returned (.int .i64 (place k : Int)) ∧ w = w' := by
  by_cases h0 : k < 0
  · have d0 : decide (k < 0) = true := by simpa using h0
    have e : place k = 0 := by unfold place; rw [if_pos (.inl h0)]
    rw [e]
    clear h0
    go_enter Try.func20, Try.ntmps20
    go_wp2
    go_ret
    exact ⟨rfl, rfl⟩
  · have d0 : decide (k < 0) = false := by simp; omega
    by_cases h8 : 8 ≤ k
    · have d8 : decide ((8 : Int) ≤ k) = true := by simpa using h8
      have e : place k = 0 := by unfold place; rw [if_pos (.inr h8)]
      rw [e]
      clear h0 h8
      go_enter Try.func20, Try.ntmps20
      go_wp2
      go_ret
      exact ⟨rfl, rfl⟩
    · have d8 : decide ((8 : Int) ≤ k) = false := by simp; omega
      have e : ((place k : Nat) : Int) = k := by unfold place; rw [if_neg (by omega)]; omega
      rw [e]
      clear h0 h8
      go_enter Try.func20, Try.ntmps20
      go_wp2
      go_ret
      exact ⟨rfl, rfl⟩

set_option maxRecDepth 100000 in
set_option maxHeartbeats 4000000 in
theorem kinds_is (l : List De) (S : Nat → Prop) (A : Option Addr) (c : Nat) (w : World) (h : Deeds w S A l) (hn : l.length ≤ 1000) :
    Calls Try.prog 11 #[.slice A l.length c] w fun e w' => e = .returned (.agg (cis (cnts l))) ∧ Below w.heap.size w w' := by
  have hz := zero_deed
  have hza := zero_arr
  have hC0 := (CntAt.new w [0, 0, 0, 0, 0, 0, 0, 0]).next ((Below.refl _ _).alloc (Nat.le_refl _) (.cells (cis [0, 0, 0, 0, 0, 0, 0, 0]) 34))
  have hC1 := CntAt.new (w.alloc (.cells (cis [0, 0, 0, 0, 0, 0, 0, 0]) 34)) [0, 0, 0, 0, 0, 0, 0, 0]
  rw [show (w.alloc (.cells (cis [0, 0, 0, 0, 0, 0, 0, 0]) 34)).heap.size = w.heap.size + 1 by simp] at hC1
  have hB1 : Below w.heap.size w ((w.alloc (.cells (cis [0, 0, 0, 0, 0, 0, 0, 0]) 34)).alloc (.cells (cis [0, 0, 0, 0, 0, 0, 0, 0]) 34)) := ((Below.refl _ _).alloc (Nat.le_refl _) _).alloc (by simp) _
  go_enter Try.func11, Try.ntmps11
  go_wp2
  go_loopw [8] (fun i wr => ∃ k : Nat, k ≤ l.length ∧ i = .int .i64 k ∧ Below w.heap.size w wr ∧ CntAt wr w.heap.size [0, 0, 0, 0, 0, 0, 0, 0] ∧ CntAt wr (w.heap.size + 1) (cnts (l.take k))) (fun i _ => l.length - (intOf i).toNat)
  case atStart => exact ⟨0, Nat.zero_le _, rfl, hB1, hC0, hC1⟩
  case round =>
    clear hC0 hC1 hB1
    obtain ⟨k, hk, rfl, hB, hC0, hC1⟩ := hrel
    by_cases hlt : k < l.length
    · obtain ⟨x, hx, ⟨a, rfl, hSa, hat⟩, hb, hc, hmx⟩ := (h.next hB).get hlt
      have hki : (k : Int) < (l.length : Int) := by omega
      have hk0 : (0 : Int) ≤ (k : Int) := by omega
      have HX := Lib.hid hx
      obtain ⟨p, hp⟩ : ∃ p, Hid (place x.d.kind = p) := ⟨_, rfl⟩
      obtain ⟨cs, hcs⟩ : ∃ cs, Hid (cnts (l.take k) = cs) := ⟨_, rfl⟩
      have h8 : cs.length = 8 := by rw [← hcs.out]; exact cnts_len _
      have hp8 : p < 8 := by rw [← hp.out]; exact place_lt _
      have hpl : p < cs.length := by omega
      obtain ⟨y, hy⟩ : ∃ y, cs[p]? = some y := ⟨_, List.getElem?_eq_getElem hpl⟩
      have hyl : y ≤ 1000 := by
        have h1 := cnts_le (l.take k) y (by rw [hcs.out]; exact List.mem_of_getElem? hy)
        rw [List.length_take] at h1
        omega
      rw [hcs.out] at hC1
      have kp := placeof_is x.d.kind
      rw [hp.out] at kp
      have hcell : ∀ w', CntAt w' (w.heap.size + 1) cs → w'.cell? ⟨w.heap.size + 1, p, none⟩ = some (.int .i64 (y : Int)) := fun w' h => by
        rw [h.cell hpl, ← (List.getElem?_eq_some_iff.1 hy).2]
      have HCELL := Lib.hid hcell
      have HY := Lib.hid hy
      have H8 := Lib.hid h8
      have hp1 : (0 : Int) ≤ (p : Int) := by omega
      have hp2 : (p : Int) < 8 := by omega
      clear hx hb hc hmx h8 hpl hy hcell
      go_upto_region 5 with (first
        | (refine load_deed_at _ rfl rfl _ x rfl hat ?_)
        | (refine store_deed _ _ rfl rfl wr.heap.size x.d Dd.none x.B none x.c 0 _ rfl rfl (DeedAt.new wr Dd.none none 0 _) ?_))
      generalize hW4 : World.setRow _ _ _ = w4
      have hD4 : DeedAt w4 wr.heap.size x.d x.B x.c 39 := by rw [← hW4]; exact DeedAt.set (DeedAt.new wr Dd.none none 0 _)
      have hb4 : Below wr.heap.size wr w4 := by rw [← hW4]; exact below_setRow ((Below.refl _ _).alloc (Nat.le_refl _) _) (Nat.le_refl _) _
      clear hW4
      have c0 := hD4.k0
      have hC1' := hC1.next hb4
      have hC0' := hC0.next hb4
      have hcell := HCELL.out w4 hC1'
      have hfree := hC1'.free p
      have HC1 := Lib.hid hC1'
      have HC0 := Lib.hid hC0'
      have HB4 := Lib.hid (hB.trans (hb4.mono hB.size))
      clear hC1 hC0 hC1' hC0' hb4 hD4 hB
      go_wp2_with (go_at_call 20; refine (kp _).mono ?_; rintro e w5 ⟨rfl, rfl⟩)
      go_roundw
      case rel =>
        refine ⟨k + 1, by omega, by go_num, ?_, HC0.out.other (by omega) _ _, ?_⟩
        · exact HB4.out.setCell (by simp) _
        · rw [cnts_next HX.out, hp.out, hcs.out]
          unfold bump
          rw [HY.out]
          exact HC1.out.put p (y + 1) _ (by simp)
      case measure => simp [intOf]; omega
    · obtain rfl : k = l.length := by omega
      rw [List.take_length] at hC1
      go_wp2_with (first
        | (refine load_arr _ rfl rfl (w.heap.size + 1) (cnts l) rfl hC1 (cnts_len l) ?_)
        | (refine store_arr _ _ rfl rfl w.heap.size (cnts l) _ rfl rfl hC0 (cnts_len l) rfl ?_))
      refine bodyPost_ret (res_arr Try.results11 rfl (CntAt.set hC0) (cnts_len l)) rfl ⟨rfl, below_setRow hB (Nat.le_refl _) _⟩
end Go.Proofs.Ytokaclacejhppaa
