/- The reference of layer 5 (coder): a number's bytes; a writer. By contracts. · Layer 7 (param), the document's bytes of parameters. By contracts. -/
import Derived.Test.YtokaclacejhppaaCoderW
import Derived.Laws.AppendOwnNone
import Derived.Maps.AppendAt
import Derived.Test.YtokaclacejhppaaDeedC
import Derived.Test.YtokaclacejhppaaParC
import Derived.Deep.CutBlock
namespace Go.Proofs.Ytokaclacejhppaa
open Go.RowKit
set_option linter.unusedVariables false
set_option linter.unusedSimpArgs false

/-- All but the blocks of which S is said is as it was. -/
structure Keep (S : Nat → Prop) (w w' : World) : Prop where
  os : w'.os = w.os
  tape : w'.tape = w.tape
  output : w'.output = w.output
  size : w.heap.size ≤ w'.heap.size
  block : ∀ k, k < w.heap.size → ¬ S k → w'.heap[k]? = w.heap[k]?

theorem Keep.refl (S : Nat → Prop) (w : World) : Keep S w w := ⟨rfl, rfl, rfl, Nat.le_refl _, fun _ _ _ => rfl⟩
theorem Keep.below {S : Nat → Prop} {B : Nat} {w w' : World} (h : Keep S w w') (hS : ∀ k, S k → B ≤ k) (hB : B ≤ w.heap.size) : Below B w w' :=
  ⟨h.os, h.tape, h.output, h.size, fun k hk => h.block k (by omega) (fun hs => by have := hS k hs; omega)⟩
theorem Keep.of_below {w w' : World} (h : Below w.heap.size w w') (S : Nat → Prop) : Keep S w w' := ⟨h.os, h.tape, h.output, h.size, fun k hk _ => h.block k hk⟩
theorem Keep.trans {S : Nat → Prop} {a b c : World} (h : Keep S a b) (k : Keep S b c) : Keep S a c :=
  ⟨k.os.trans h.os, k.tape.trans h.tape, k.output.trans h.output, Nat.le_trans h.size k.size, fun i hi hs => (k.block i (Nat.lt_of_lt_of_le hi h.size) hs).trans (h.block i hi hs)⟩
theorem Keep.of_grown {w w' : World} {row : Option Nat} (h : w.grownBy w' row) {S : Nat → Prop} (hS : ∀ k, row = some k → S k) : Keep S w w' :=
  ⟨h.os, h.tape, h.output, h.size, fun k hk hs => h.block k hk (fun e => hs (hS k e.symm))⟩
theorem WriterAt.keep {w w' : World} {b : Nat} {F : Nat → Prop} {s : List Nat × Nat} {m : Nat} {p : Value} {pre tail part : List Nat} (h : WriterAt w b F s m p pre tail part) {S : Nat → Prop} (hg : Keep S w w') (hb : ¬ S b) (hF : ∀ k, F k → ¬ S k) : WriterAt w' b F s m p pre tail part :=
  ⟨h.text, h.short, h.whole, h.same, h.most, h.small, Chain.hold (fun k hk hf => hg.block k hk (hF k hf)) (fun _ h => h) m p pre h.chain, fun k hk => ⟨(h.apart k hk).1, Nat.lt_of_lt_of_le (h.apart k hk).2 hg.size⟩, by rw [hg.block b h.lt hb]; exact h.block⟩

theorem own_below0 {w w' : World} {base n : Nat} {e : TypeId} {v : Value} {xs : List Value} (h : w.ownsRow base e 1 v n xs) (hb : Below w.heap.size w w') : w'.ownsRow base e 1 v n xs := by
  refine h.kept (grown_below hb none) ?_
  by_cases h0 : v.ownBlock = none
  · exact .inl h0
  · exact .inr h0

theorem Lies.src0 {w : World} {S : Nat → Prop} {a : Addr} {xs : List Nat} (h : Lies w S (some a) xs) : ∀ q v, (u8s xs)[q]? = some v → w.cell? (a.add q) = some v := by
  intro q v hq
  have hql : q < xs.length := by have := (List.getElem?_eq_some_iff.1 hq).1; rwa [u8s_len] at this
  rw [u8s_get hql] at hq
  cases hq
  obtain ⟨a', ha', _, hc'⟩ := h.get hql
  cases ha'
  exact hc'

set_option maxRecDepth 100000 in
set_option maxHeartbeats 2000000 in
theorem refform_is : ∀ (n : Nat) (w : World), n < 18446744073709551616 →
    Calls Try.prog 36 #[.int .u64 (n : Int)] w fun e w' => ∃ v, e = .returned v ∧ w'.ownsRow w.heap.size 5 1 v (form n).length (u8s (form n)) ∧ Below w.heap.size w w' := by
  intro n
  induction n using Nat.strongRecOn with
  | ind n ih =>
    intro w hn
    obtain ⟨i0, hi0, hz0, hz1, hz2⟩ := info_parts u8_info
    by_cases hlt : n < 128
    · have hcv : IntKind.u8.wrap (n : Int) = (n : Int) := by rw [IntKind.wrap_u8]; omega
      have hnI : (n : Int) < 128 := by omega
      rw [form_small hlt]
      clear ih hlt
      go_enter Try.func36, Try.ntmps36
      go_wp2_with fail
      refine bodyPost_ret (v := .slice (some ⟨w.heap.size, 0, none⟩) 1 1) (by simp [results, Try.results36, go_sem]) rfl ⟨_, rfl, ?_, (Below.refl _ _).alloc (Nat.le_refl _) _⟩
      exact ⟨rfl, .inr ⟨w.heap.size, 1, #[.int .u8 (n : Int)], rfl, Nat.le_refl _, heap_alloc_new w _, Nat.le_refl _, by simp [maxLen], rfl, rfl⟩⟩
    · have k := ih (n / 128) (by omega)
      have hnI : (128 : Int) ≤ (n : Int) := by omega
      have hfl := form_word (n := n) hn
      rw [form_big (by omega)] at hfl ⊢
      obtain ⟨x, hx⟩ : ∃ x : Nat, Hid (n % 128 + 128 = x) := ⟨_, rfl⟩
      have hxI : (n : Int) % 128 + 128 = (x : Int) := by have := hx.out; omega
      have hx256 : x < 256 := by have := hx.out; omega
      have hw1 : IntKind.u64.wrap ((n : Int) % 128 + 128) = (x : Int) := by rw [hxI]; exact IntWalk.u64_in _ (by omega)
      have hw2 : IntKind.u8.wrap (x : Int) = (x : Int) := by rw [IntKind.wrap_u8]; omega
      rw [hx.out] at hfl ⊢
      obtain ⟨r, hr⟩ : ∃ r, Hid (form (n / 128) = r) := ⟨_, rfl⟩
      rw [hr.out] at k hfl ⊢
      have hdv : ((n / 128 : Nat) : Int) = (n : Int) / 128 := by omega
      have k2 : ∀ V, Calls Try.prog 36 #[.int .u64 ((n : Int) / 128)] V fun e w' => ∃ v, e = .returned v ∧ w'.ownsRow V.heap.size 5 1 v r.length (u8s r) ∧ Below V.heap.size V w' := fun V => by rw [← hdv]; exact k V (by omega)
      have hrl : r.length ≤ 10 := by simp at hfl; omega
      have hrp : 0 < r.length := by rw [← hr.out]; exact form_pos _
      clear ih hlt k hdv hfl
      go_enter Try.func36, Try.ntmps36
      go_wp2_with (at_builtin; refine wpList_append_own _ rfl _ _ 25 rfl w.heap.size 5 i0 (.int .u8 0) 1 1 Try.underlying25 hi0 hz0 hz1 hz2 rfl (by decide) _ _ _ rfl (World.ownsRow_nil _ _ _ _) ⟨w.heap.size, 0, none⟩ 1 1 [.int .u8 (x : Int)] rfl rfl ?c1 ?c2 ?c3 ?c4 ?c5 ?_)
      case c1 => exact new_first _ _ _
      case c2 => intro u hu; simp at hu; subst hu; rfl
      case c3 => simp [maxLen]
      case c4 => omega
      case c5 => simp
      intro v1 w1 hown1 hgrow1 _
      have hb1 : Below w.heap.size w w1 := ((Below.refl _ w).alloc (Nat.le_refl _) _).grown hgrow1 (by simp) (by intro k hk; cases hk)
      clear hgrow1
      go_wp2_with (first
        | (go_at_call 36; refine (k2 _).mono ?_; rintro e w2 ⟨v2, rfl, hown2, hb2⟩; have hown3 := own_below0 hown1 hb2; obtain ⟨A2, cc2, rfl, hl1, hl2, _, hL⟩ := Lies.own hown2; obtain ⟨x0, r0, rfl⟩ := List.exists_cons_of_length_pos hrp; obtain ⟨a2, rfl, hSa, _⟩ := hL 0 x0 rfl; have hsrc := hL.src0; have HS := Lib.hid hsrc; clear hsrc k2)
        | (at_builtin; refine wpList_append_own _ rfl _ _ 25 rfl w.heap.size 5 i0 (.int .u8 0) 1 1 Try.underlying25 hi0 hz0 hz1 hz2 rfl (by decide) _ _ _ rfl hown3 a2 (x0 :: r0).length cc2 (u8s (x0 :: r0)) rfl ?d1 ?d2 ?d3 ?d4 ?d5 ?d6 ?_))
      case d1 => simp [u8s_len]
      case d2 => exact HS.out
      case d3 => exact u8s_one
      case d4 => simp only [maxLen]; simp at hrl ⊢; omega
      case d5 => simp at hrl ⊢; omega
      case d6 => exact Nat.le_trans hb1.size hb2.size
      intro v3 w3 hown4 hgrow3 _
      have hb3 : Below w.heap.size w w3 := (hb1.trans (hb2.mono hb1.size)).grown hgrow3 (Nat.le_trans hb1.size hb2.size) (fun k hk => (hown3.lt k hk).1)
      clear hgrow3
      go_wp2
      refine bodyPost_ret (v := v3) (by simp [results, Try.results36, go_sem]) rfl ⟨_, rfl, ?_, hb3⟩
      have e : u8s (x :: x0 :: r0) = [.int .u8 (x : Int)] ++ u8s (x0 :: r0) := rfl
      rw [e]
      rw [Nat.add_comm (x0 :: r0).length 1]
      exact hown4

set_option maxRecDepth 100000 in
set_option maxHeartbeats 1000000 in
theorem refraw_is (xs : List Nat) (S : Nat → Prop) (A : Option Addr) (c : Nat) (w : World) (hx : Lies w S A xs) (hl : xs.length ≤ 1000000) (hAc : A = none → c = 0) :
    Calls Try.prog 58 #[.slice A xs.length c] w fun e w' => ∃ v, e = .returned v ∧ w'.ownsRow w.heap.size 5 1 v ((form xs.length).length + xs.length) (u8s (form xs.length ++ xs)) ∧ Below w.heap.size w w' := by
  have k := refform_is xs.length w (by omega)
  obtain ⟨i0, hi0, hz0, hz1, hz2⟩ := info_parts u8_info
  have hwr : IntKind.u64.wrap (xs.length : Int) = (xs.length : Int) := IntWalk.u64_in _ (by omega)
  have hfl := form_word (n := xs.length) (by omega)
  obtain ⟨H, hH⟩ : ∃ H, Hid (form xs.length = H) := ⟨_, rfl⟩
  rw [hH.out] at k hfl ⊢
  rcases A with _ | a
  · have : xs = [] := by
      cases xs with
      | nil => rfl
      | cons x r => obtain ⟨a, ha, _⟩ := hx 0 x rfl; cases ha
    subst this
    obtain rfl := hAc rfl
    rw [List.append_nil]
    clear hAc
    go_enter Try.func58, Try.ntmps58
    go_wp2_with (first
      | (go_at_call 36; refine k.mono ?_; rintro e w2 ⟨v2, rfl, hown2, hb2⟩)
      | (at_builtin; refine wpList_append_own_none rfl _ _ 25 rfl w.heap.size 5 i0 1 Try.underlying25 hi0 _ _ _ rfl hown2 rfl ?_))
    go_wp2
    exact bodyPost_ret (v := v2) (by simp [results, Try.results58, go_sem]) rfl ⟨_, rfl, hown2, hb2⟩
  · clear hAc
    go_enter Try.func58, Try.ntmps58
    go_wp2_with (first
      | (go_at_call 36; refine k.mono ?_; rintro e w2 ⟨v2, rfl, hown2, hb2⟩; have hsrc := (hx.grown (grown_below hb2 none) (by simp)).src0; have HS := Lib.hid hsrc; clear hsrc)
      | (at_builtin; refine wpList_append_own _ rfl _ _ 25 rfl w.heap.size 5 i0 (.int .u8 0) 1 1 Try.underlying25 hi0 hz0 hz1 hz2 rfl (by decide) _ _ _ rfl hown2 a xs.length c (u8s xs) rfl ?d1 ?d2 ?d3 ?d4 ?d5 ?d6 ?_))
    case d1 => simp [u8s_len]
    case d2 => exact HS.out
    case d3 => exact u8s_one
    case d4 => simp only [maxLen]; omega
    case d5 => omega
    case d6 => exact hb2.size
    intro v3 w3 hown4 hgrow3 _
    have hb3 : Below w.heap.size w w3 := hb2.grown hgrow3 hb2.size (fun k hk => (hown2.lt k hk).1)
    clear hgrow3
    go_wp2
    exact bodyPost_ret (v := v3) (by simp [results, Try.results58, go_sem]) rfl ⟨_, rfl, by rw [u8s_append]; exact hown4, hb3⟩

/-- What an Int writes. -/
def rint (s : List Nat × Nat) (i : Int) : List Nat × Nat := if i < 0 then wneg s else wput s (form i.toNat)

end Go.Proofs.Ytokaclacejhppaa
namespace Go.Proofs.Ytokaclacejhppaa
open Go.RowKit
set_option linter.unusedVariables false
set_option linter.unusedSimpArgs false

theorem lies_at {w : World} {S : Nat → Prop} {A : Option Addr} {xs : List Nat} (h : Lies w S A xs) (h0 : 0 < xs.length) : ∃ a, A = some a := by
  obtain ⟨a, ha, _⟩ := h.get h0
  exact ⟨a, ha⟩


/-- Words, as values. -/
def w64s (ns : List Nat) : List Value := ns.map fun (n : Nat) => Value.int .u64 (n : Int)
theorem row_w64s (w : World) (ns : List Nat) (T : TypeId) : Row (w.alloc (.cells (w64s ns).toArray T)) (w.heap.size + 1) (some ⟨w.heap.size, 0, none⟩) (w64s ns) := fun k v hk => by
  refine ⟨_, rfl, Nat.lt_succ_self _, ?_⟩
  rw [Addr.add_mid, Nat.zero_add]
  exact new_row w _ _ k v (by simpa using hk)
/-- Ints, as values. -/
def i64s (ns : List Nat) : List Value := ns.map fun (n : Nat) => Value.int .i64 (n : Int)
theorem row_i64s (w : World) (ns : List Nat) (T : TypeId) : Row (w.alloc (.cells (i64s ns).toArray T)) (w.heap.size + 1) (some ⟨w.heap.size, 0, none⟩) (i64s ns) := fun k v hk => by
  refine ⟨_, rfl, Nat.lt_succ_self _, ?_⟩
  rw [Addr.add_mid, Nat.zero_add]
  exact new_row w _ _ k v (by simpa using hk)
theorem flat_succ (l : List Nat) (k x : Nat) (h : l[k]? = some x) : (l.take (k + 1)).flatMap form = (l.take k).flatMap form ++ form x := by
  rw [List.take_add_one, h, Option.toList_some, List.flatMap_append]
  simp
theorem take_len (l : List Nat) (k : Nat) (h : ∀ n ∈ l, n < 18446744073709551616) (hl : l.length ≤ 14) : ((l.take k).flatMap form).length ≤ 140 := by
  have := forms_len (l.take k) (fun n hn => h n (List.mem_of_mem_take hn))
  have h2 : (l.take k).length ≤ l.length := by rw [List.length_take]; omega
  omega

set_option maxRecDepth 100000 in
set_option maxHeartbeats 4000000 in
theorem rparform_is (p : Par) (T : Nat) (w : World) (h : Par.Right p T) :
    Calls Try.prog 59 #[.agg p.vals] w fun e w' => ∃ v, e = .returned v ∧ w'.ownsRow w.heap.size 5 1 v p.bytes.length (u8s p.bytes) ∧ Below w.heap.size w w' := by
  obtain ⟨hf, f1, f2, hpos⟩ := right_fits h
  obtain ⟨i0, hi0, hz0, hz1, hz2⟩ := info_parts u8_info
  have kf := fun (n : Nat) w (hn : n < 18446744073709551616) => refform_is n w hn
  obtain ⟨us, hus⟩ : ∃ us, Hid (p.us = us) := ⟨_, rfl⟩
  obtain ⟨js, hjs⟩ : ∃ js, Hid (p.is.map Int.toNat = js) := ⟨_, rfl⟩
  have hul : us.length = 14 := by rw [← hus.out]; rfl
  have hjl : js.length = 10 := by rw [← hjs.out]; rfl
  have hub : ∀ x ∈ us, x < 18446744073709551616 := by rw [← hus.out]; exact hf.us
  have hjb : ∀ x ∈ js, x < 9223372036854775808 := by
    rw [← hjs.out]
    intro x hx
    obtain ⟨y, hy, rfl⟩ := List.mem_map.1 hx
    have := hf.is y hy
    omega
  have hbytes : p.bytes = us.flatMap form ++ js.flatMap form := by rw [pbytes_split, hus.out, hjs.out]
  have hrow1 : w64s p.us = w64s us := by rw [hus.out]
  have hrow2 : p.is.map (fun z => Value.int .i64 z) = i64s js := by
    rw [← hjs.out]
    unfold i64s
    rw [List.map_map]
    refine List.map_congr_left fun z hz => ?_
    simp only [Function.comp]
    rw [Int.toNat_of_nonneg (hpos z hz)]
  have u0 : p.vals[0]? = some (.int .u64 (p.inc : Int)) := rfl
  have u1 : p.vals[1]? = some (.int .u64 (p.maxEff : Int)) := rfl
  have u2 : p.vals[2]? = some (.int .u64 (p.floor : Int)) := rfl
  have u3 : p.vals[3]? = some (.int .u64 (p.cap : Int)) := rfl
  have u4 : p.vals[4]? = some (.int .u64 (p.up : Int)) := rfl
  have u5 : p.vals[5]? = some (.int .u64 (p.down : Int)) := rfl
  have u6 : p.vals[6]? = some (.int .u64 (p.bias : Int)) := rfl
  have u7 : p.vals[7]? = some (.int .u64 (p.quot : Int)) := rfl
  have u8 : p.vals[8]? = some (.int .u64 (p.biasEm : Int)) := rfl
  have u9 : p.vals[9]? = some (.int .u64 (p.quotEm : Int)) := rfl
  have u10 : p.vals[10]? = some (.int .u64 (p.recover : Int)) := rfl
  have u11 : p.vals[11]? = some (.int .u64 (p.scoreCap : Int)) := rfl
  have u12 : p.vals[12]? = some (.int .u64 (p.rate : Int)) := rfl
  have u13 : p.vals[13]? = some (.int .u64 (p.bond : Int)) := rfl
  have u14 : p.vals[14]? = some (.int .i64 p.delay) := rfl
  have u15 : p.vals[15]? = some (.int .i64 p.streak) := rfl
  have u16 : p.vals[16]? = some (.int .i64 p.boost) := rfl
  have u17 : p.vals[17]? = some (.int .i64 p.absent) := rfl
  have u18 : p.vals[18]? = some (.int .i64 p.burn) := rfl
  have u19 : p.vals[19]? = some (.int .i64 p.churn) := rfl
  have u20 : p.vals[20]? = some (.int .i64 p.wait) := rfl
  have u21 : p.vals[21]? = some (.int .i64 p.poll) := rfl
  have u22 : p.vals[22]? = some (.int .i64 p.enact) := rfl
  have u23 : p.vals[23]? = some (.int .i64 p.quorum) := rfl
  obtain ⟨U, hUU⟩ : ∃ U, Hid (us.flatMap form = U) := ⟨_, rfl⟩
  rw [hbytes, hUU.out]
  clear h f1 f2 hpos hf hbytes
  go_enter Try.func59, Try.ntmps59
  go_upto_region 4 with fail
  generalize hW : World.alloc (World.alloc (World.alloc _ _) _) _ = W
  have hW1 : ((w.alloc (.cells p.vals 58)).alloc (.cells (w64s p.us).toArray 35)).alloc (.cells (p.is.map (fun z => Value.int .i64 z)).toArray 3) = W := hW
  rw [hrow1, hrow2] at hW1
  have hB : Below w.heap.size w W := by rw [← hW1]; exact (((Below.refl _ _).alloc (Nat.le_refl _) _).alloc (by simp) _).alloc (by simp; omega) _
  have r1 : Row W W.heap.size (some ⟨w.heap.size + 1, 0, none⟩) (w64s us) := by
    have := (row_w64s (w.alloc (.cells p.vals 58)) us 35).alloc (B := (w.alloc (.cells p.vals 58)).heap.size + 1) (by simp) (.cells (i64s js).toArray 3)
    rw [hW1] at this
    rw [show (w.alloc (.cells p.vals 58)).heap.size = w.heap.size + 1 by simp] at this
    exact this.up (by rw [← hW1]; simp)
  have r2 : Row W W.heap.size (some ⟨w.heap.size + 1 + 1, 0, none⟩) (i64s js) := by
    have := row_i64s ((w.alloc (.cells p.vals 58)).alloc (.cells (w64s us).toArray 35)) js 3
    rw [hW1] at this
    rw [show ((w.alloc (.cells p.vals 58)).alloc (.cells (w64s us).toArray 35)).heap.size = w.heap.size + 1 + 1 by simp] at this
    exact this.up (by rw [← hW1]; simp)
  clear hW hW1 hrow1 hrow2 hus hjs u0 u1 u2 u3 u4 u5 u6 u7 u8 u9 u10 u11 u12 u13 u14 u15 u16 u17 u18 u19 u20 u21 u22 u23
  obtain ⟨a1, ha1⟩ : ∃ a1 : Addr, Hid ((⟨w.heap.size + 1, 0, none⟩ : Addr) = a1) := ⟨_, rfl⟩
  obtain ⟨a2, ha2⟩ : ∃ a2 : Addr, Hid ((⟨w.heap.size + 1 + 1, 0, none⟩ : Addr) = a2) := ⟨_, rfl⟩
  rw [ha1.out] at r1 ⊢
  rw [ha2.out] at r2 ⊢
  clear ha1 ha2
  have R1 := Lib.hid r1
  have R2 := Lib.hid r2
  have HB := Lib.hid hB
  have HU := Lib.hid hub
  have HJ := Lib.hid hjb
  have HUL := Lib.hid hul
  have HJL := Lib.hid hjl
  have HK := Lib.hid kf
  clear r1 r2 hB hub hjb hul hjl kf
  go_wp2
  go_loopw [5, 6] (fun ov iv wr => ∃ (k : Nat) (vo : Value), k ≤ 14 ∧ iv = .int .i64 (k : Int) ∧ vo = ov ∧ wr.ownsRow W.heap.size 5 1 vo ((us.take k).flatMap form).length (u8s ((us.take k).flatMap form)) ∧ Below W.heap.size W wr) (fun _ iv _ => 14 - (intOf iv).toNat)
  case atStart => exact ⟨0, _, Nat.zero_le _, rfl, rfl, World.ownsRow_nil _ _ _ _, Below.refl _ _⟩
  case round =>
    obtain ⟨k, vo, hk, rfl, rfl, hown, hBr⟩ := hrel
    by_cases hlt : k < 14
    · have hkl : k < us.length := by rw [HUL.out]; exact hlt
      obtain ⟨x, hx⟩ : ∃ x, us[k]? = some x := ⟨_, List.getElem?_eq_getElem hkl⟩
      have hxb := HU.out x (List.mem_of_getElem? hx)
      have hxv : (w64s us)[k]? = some (.int .u64 (x : Int)) := by unfold w64s; rw [List.getElem?_map, hx]; rfl
      obtain ⟨a1', ha, _, hc⟩ := (R1.out.below hBr) k _ hxv
      cases ha
      have hFS := flat_succ us k x hx
      have hpl := take_len us k HU.out (by rw [HUL.out]; omega)
      obtain ⟨P, hP⟩ : ∃ P, Hid ((us.take k).flatMap form = P) := ⟨_, rfl⟩
      have HFS := Lib.hid hFS
      rw [hP.out] at hown hpl HFS
      have kk := HK.out x wr hxb
      have hfl := form_word hxb
      have hfp := form_pos x
      obtain ⟨F, hF⟩ : ∃ F, Hid (form x = F) := ⟨_, rfl⟩
      rw [hF.out] at kk hfl hfp HFS
      have hkI : (k : Int) < 14 := by omega
      have hkI2 : decide ((k : Int) < 14) = true := by simpa using hkI
      clear hFS hx hxb hxv hkl
      go_wp2_with (first
        | (go_at_call 36; refine kk.mono ?_; clear kk; rintro e w2 ⟨v2, rfl, hown2, hb2⟩; have hown3 := own_below0 hown hb2; obtain ⟨A2, c2, rfl, hl1, hl2, -, hL⟩ := Lies.own hown2; obtain ⟨b2, rfl⟩ := lies_at hL hfp; have HS := Lib.hid hL.src0)
        | (at_builtin; refine wpList_append_own _ rfl _ _ 25 rfl W.heap.size 5 i0 (.int .u8 0) 1 1 Try.underlying25 hi0 hz0 hz1 hz2 rfl (by decide) _ _ _ rfl hown3 b2 F.length c2 (u8s F) rfl ?d1 ?d2 ?d3 ?d4 ?d5 ?d6 ?_))
      case d1 => simp [u8s_len]
      case d2 => exact HS.out
      case d3 => exact u8s_one
      case d4 => simp only [maxLen]; omega
      case d5 => omega
      case d6 => exact Nat.le_trans hBr.size hb2.size
      intro v3 w3 hown4 hgrow3 _
      have hb3 : Below W.heap.size W w3 := (hBr.trans (hb2.mono hBr.size)).grown hgrow3 (Nat.le_trans hBr.size hb2.size) (fun k hk => (hown3.lt k hk).1)
      clear hgrow3
      go_wp2
      go_roundw
      case rel =>
        refine ⟨k + 1, _, by omega, by go_num, rfl, ?_, hb3⟩
        rw [HFS.out, List.length_append, u8s_append]
        exact hown4
      case measure => simp [intOf]; omega
    · obtain rfl : k = 14 := by omega
      have hU : (us.take 14).flatMap form = U := by rw [List.take_of_length_le (by rw [HUL.out]; exact Nat.le_refl _)]; exact hUU.out
      rw [hU] at hown
      have hUl : U.length ≤ 140 := by have := take_len us 14 HU.out (by rw [HUL.out]; omega); rwa [hU] at this
      clear hU R1 HU HUL hUU
      rw [show ((14 : Nat) : Int) = 14 from rfl]
      go_wp2
      go_loopw [5, 7] (fun ov iv wr => ∃ (k : Nat) (vo : Value), k ≤ 10 ∧ iv = .int .i64 (k : Int) ∧ vo = ov ∧ wr.ownsRow W.heap.size 5 1 vo (U ++ (js.take k).flatMap form).length (u8s (U ++ (js.take k).flatMap form)) ∧ Below W.heap.size W wr) (fun _ iv _ => 10 - (intOf iv).toNat)
      case atStart => exact ⟨0, _, Nat.zero_le _, rfl, rfl, by simpa using hown, hBr⟩
      case round =>
        clear hown hBr
        obtain ⟨k, vo, hk, rfl, rfl, hown, hBr⟩ := hrel
        by_cases hlt : k < 10
        · have hkl : k < js.length := by rw [HJL.out]; exact hlt
          obtain ⟨x, hx⟩ : ∃ x, js[k]? = some x := ⟨_, List.getElem?_eq_getElem hkl⟩
          have hxb := HJ.out x (List.mem_of_getElem? hx)
          have hxv : (i64s js)[k]? = some (.int .i64 (x : Int)) := by unfold i64s; rw [List.getElem?_map, hx]; rfl
          obtain ⟨a2', ha, _, hc⟩ := (R2.out.below hBr) k _ hxv
          cases ha
          have hFS := flat_succ js k x hx
          have hpl := take_len js k (fun n hn => by have := HJ.out n hn; omega) (by rw [HJL.out]; omega)
          have hFS2 : U ++ (js.take (k + 1)).flatMap form = (U ++ (js.take k).flatMap form) ++ form x := by rw [hFS, List.append_assoc]
          have hpl2 : (U ++ (js.take k).flatMap form).length ≤ 280 := by rw [List.length_append]; omega
          obtain ⟨P, hP⟩ : ∃ P, Hid (U ++ (js.take k).flatMap form = P) := ⟨_, rfl⟩
          have HFS := Lib.hid hFS2
          rw [hP.out] at hown hpl2 HFS
          have kk := HK.out x wr (by omega)
          have hfl := form_word (n := x) (by omega)
          have hfp := form_pos x
          obtain ⟨F, hF⟩ : ∃ F, Hid (form x = F) := ⟨_, rfl⟩
          rw [hF.out] at kk hfl hfp HFS
          have hwr : IntKind.u64.wrap (x : Int) = (x : Int) := IntWalk.u64_in _ (by omega)
          have hkI : (k : Int) < 10 := by omega
          have hkI2 : decide ((k : Int) < 10) = true := by simpa using hkI
          clear hFS hFS2 hpl hx hxb hxv hkl
          go_wp2_with (first
            | (go_at_call 36; refine kk.mono ?_; clear kk; rintro e w2 ⟨v2, rfl, hown2, hb2⟩; have hown3 := own_below0 hown hb2; obtain ⟨A2, c2, rfl, hl1, hl2, -, hL⟩ := Lies.own hown2; obtain ⟨b2, rfl⟩ := lies_at hL hfp; have HS := Lib.hid hL.src0)
            | (at_builtin; refine wpList_append_own _ rfl _ _ 25 rfl W.heap.size 5 i0 (.int .u8 0) 1 1 Try.underlying25 hi0 hz0 hz1 hz2 rfl (by decide) _ _ _ rfl hown3 b2 F.length c2 (u8s F) rfl ?d1 ?d2 ?d3 ?d4 ?d5 ?d6 ?_))
          case d1 => simp [u8s_len]
          case d2 => exact HS.out
          case d3 => exact u8s_one
          case d4 => simp only [maxLen]; omega
          case d5 => omega
          case d6 => exact Nat.le_trans hBr.size hb2.size
          intro v3 w3 hown4 hgrow3 _
          have hb3 : Below W.heap.size W w3 := (hBr.trans (hb2.mono hBr.size)).grown hgrow3 (Nat.le_trans hBr.size hb2.size) (fun k hk => (hown3.lt k hk).1)
          clear hgrow3
          go_wp2
          go_roundw
          case rel =>
            refine ⟨k + 1, _, by omega, by go_num, rfl, ?_, hb3⟩
            rw [HFS.out, List.length_append, u8s_append]
            exact hown4
          case measure => simp [intOf]; omega
        · obtain rfl : k = 10 := by omega
          have hU : (js.take 10).flatMap form = js.flatMap form := by rw [List.take_of_length_le (by rw [HJL.out]; exact Nat.le_refl _)]
          rw [hU] at hown
          clear hU
          go_wp2
          have hBB := Below.then HB.out hBr
          exact bodyPost_ret (v := vo) (by simp [results, Try.results59, go_sem]) rfl ⟨_, rfl, ⟨hown.1, hown.2.imp id fun ⟨g, cap, cur, h1, h2, h3⟩ => ⟨g, cap, cur, h1, Nat.le_trans HB.out.size h2, h3⟩⟩, hBB⟩
end Go.Proofs.Ytokaclacejhppaa
