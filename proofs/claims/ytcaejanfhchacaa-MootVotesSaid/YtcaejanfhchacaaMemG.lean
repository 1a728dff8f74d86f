/- Layer 19 (member): what of many is active, and what is present. By contracts. · Layer 19 (member), the document's: a member as it has it, who counts, what is active and present. By contracts. -/
import Derived.Test.YtcaejanfhchacaaBytesV
import Derived.Test.YtcaejanfhchacaaBitC
import Derived.Test.YtcaejanfhchacaaMemM
import Derived.OwnWalk
import Derived.Test.YtcaejanfhchacaaBitD
import Derived.Test.YtcaejanfhchacaaNatG
namespace Go.Proofs.Ytcaejanfhchacaa
open Go.RowKit Go.Deep
set_option linter.unusedVariables false
set_option linter.unusedSimpArgs false

/-- What comes of so many. -/
structure Stk (l : List Mem) (xs : List Nat) (k P T : Nat) : Prop where
  pres : presents l xs k = P
  act : actives l k = T
  fits : T ≤ 18446744073709551615
theorem Stk.less {l : List Mem} {xs : List Nat} {k P T : Nat} (h : Stk l xs k P T) : P ≤ T := by
  have := presents_le l xs k
  rw [h.pres, h.act] at this
  exact this
theorem Stk.skip {l : List Mem} {xs : List Nat} {k P T : Nat} {m : Mem} (h : Stk l xs k P T) (hm : l[k]? = some m) (hc : m.counts = false) : Stk l xs (k + 1) P T := by
  refine ⟨?_, ?_, h.fits⟩
  · unfold presents
    rw [picked_no hm (by simp [isThere, hc])]
    exact h.pres
  · unfold actives
    rw [picked_no hm (by simp [isAct, hc])]
    exact h.act
theorem Stk.here {l : List Mem} {xs : List Nat} {k P T : Nat} {m : Mem} (h : Stk l xs k P T) (hm : l[k]? = some m) (hc : m.counts = true) (hb : bitAt xs k = true) (hT : T + m.s.eff ≤ 18446744073709551615) : Stk l xs (k + 1) (P + m.s.eff) (T + m.s.eff) := by
  refine ⟨?_, ?_, hT⟩
  · unfold presents
    rw [picked_yes hm (by simp [isThere, hc, hb]), tot_snoc]
    exact congrArg (· + m.s.eff) h.pres
  · unfold actives
    rw [picked_yes hm (by simp [isAct, hc]), tot_snoc]
    exact congrArg (· + m.s.eff) h.act
theorem Stk.gone {l : List Mem} {xs : List Nat} {k P T : Nat} {m : Mem} (h : Stk l xs k P T) (hm : l[k]? = some m) (hc : m.counts = true) (hb : bitAt xs k = false) (hT : T + m.s.eff ≤ 18446744073709551615) : Stk l xs (k + 1) P (T + m.s.eff) := by
  refine ⟨?_, ?_, hT⟩
  · unfold presents
    rw [picked_no hm (by simp [isThere, hc, hb])]
    exact h.pres
  · unfold actives
    rw [picked_yes hm (by simp [isAct, hc]), tot_snoc]
    exact congrArg (· + m.s.eff) h.act
theorem Stk.over {l : List Mem} {xs : List Nat} {k P T : Nat} {m : Mem} (h : Stk l xs k P T) (hm : l[k]? = some m) (hc : m.counts = true) (hT : 18446744073709551615 < T + m.s.eff) : stk l xs = (0, 0, 10) := by
  refine stk_out fun hle => ?_
  have hk : k < l.length := (List.getElem?_eq_some_iff.1 hm).1
  have h1 : actives l (k + 1) = T + m.s.eff := by
    unfold actives
    rw [picked_yes hm (by simp [isAct, hc]), tot_snoc]
    exact congrArg (· + m.s.eff) h.act
  have h2 : actives l (k + 1) ≤ actives l l.length := picked_mono isAct l hk
  omega
theorem Stk.all {l : List Mem} {xs : List Nat} {P T : Nat} (h : Stk l xs l.length P T) : stk l xs = (P, T, 0) := by
  rw [stk_in (by rw [h.act]; exact h.fits), h.pres, h.act]

set_option maxRecDepth 100000 in
set_option maxHeartbeats 2000000 in
theorem mstakes_of (l : List Mem) (A : Option Addr) (c : Nat) (xs : List Nat) (A2 : Option Addr) (c2 : Nat) (p t y : Nat) (w : World) (hr : Row w w.heap.size A (rows l)) (hx : Row w w.heap.size A2 (u8s xs)) (hb : ∀ x ∈ xs, x < 256) (hl : l.length ≤ 1000000) (hf : ∀ m ∈ l, m.s.Fits) (HY : Hid (stk l xs = (p, t, y))) :
    Calls Try.prog 108 #[.slice A l.length c, .slice A2 xs.length c2] w fun e w' => e = .returned (.tuple #[.int .u64 (p : Int), .int .u64 (t : Int), .int .i64 (y : Int)]) ∧ Below w.heap.size w w' := by
  have HR := Lib.hid hr
  have HX := Lib.hid hx
  have HF := Lib.hid hf
  have HBY := Lib.hid hb
  clear hr hx hf hb
  go_enter Try.func108, Try.ntmps108
  go_wp2
  go_loopw [4, 5, 11] (fun v4 v5 iv wr => ∃ (k P T : Nat), k ≤ l.length ∧ iv = .int .i64 (k : Int) ∧ v4 = .int .u64 (P : Int) ∧ v5 = .int .u64 (T : Int) ∧ Hid (Stk l xs k P T) ∧ Below w.heap.size w wr) (fun _ _ iv _ => l.length - (intOf iv).toNat)
  case atStart => exact ⟨0, 0, 0, Nat.zero_le _, rfl, rfl, rfl, Lib.hid ⟨rfl, rfl, by omega⟩, Below.refl _ _⟩
  case round =>
    obtain ⟨k, P, T, hk, rfl, rfl, rfl, HS, hB⟩ := hrel
    by_cases hlt : k < l.length
    · obtain ⟨m, hs⟩ : ∃ m, l[k]? = some m := ⟨_, List.getElem?_eq_getElem hlt⟩
      have hmf := HF.out m (List.mem_of_getElem? hs)
      obtain ⟨a, rfl, hab, hat0⟩ := rows_row (HR.out.below hB) hs
      have hat : LiesAt wr (a.add (k * 6)) (Rec.vals m) := hat0
      have hki : (k : Int) < (l.length : Int) := by omega
      have hk0 : (0 : Int) ≤ (k : Int) := by omega
      have kc := fun w => counts_is m w
      clear hat0
      cases hc : m.counts with
      | false =>
        rw [hc] at kc
        have HS2 := Lib.hid (HS.out.skip hs hc)
        clear hs hc hmf HS
        go_wp2_with (first
          | (refine load_rec 116 _ rfl rfl _ (Rec.vals m) rfl hat Try.underlying116 size_mem ?_)
          | (refine store_rec 116 _ _ rfl rfl _ (Rec.vals m) (Rec.vals Mem.zero) 116 rfl rfl (RecAt.new _ (Rec.vals Mem.zero) _) size_mem rfl (Rec.one m) ?_; intro w2 hS2 hb2 hsz hkp; clear hsz hkp; have hb2 := rec_made (Below.refl _ _) hb2; have hB2 := Below.then hB hb2; clear hb2 hat)
          | (refine load_rec 116 _ rfl rfl _ (Rec.vals m) rfl hS2.lies Try.underlying116 size_mem ?_)
          | (go_at_call 112; refine (kc _).mono ?_; clear kc; rintro e w3 ⟨rfl, hb3⟩; have hB3 := Below.then hB2 hb3; clear hb3))
        go_roundw
        case rel => exact ⟨k + 1, P, T, by omega, by go_num, rfl, rfl, HS2, hB3⟩
        case measure => simp [intOf]; omega
      | true =>
        rw [hc] at kc
        have heff := hmf.eff
        have hT := HS.out.fits
        have hPT := HS.out.less
        by_cases hov : T + m.s.eff ≤ 18446744073709551615
        · have ka := fun w => money_add_ok T m.s.eff w (by omega) (by omega) (by omega)
          have kg := fun (w1 : World) (hx : Lies w1 (· < w.heap.size) A2 xs) => get_ok xs _ A2 c2 (k : Int) w1 hx HBY.out (by omega)
          rw [bitI_nat] at kg
          obtain ⟨S, hS⟩ : ∃ S, T + m.s.eff = S := ⟨_, rfl⟩
          rw [show (T : Int) + (m.s.eff : Int) = (S : Int) by omega] at ka
          have KG := Lib.hid kg
          clear kg
          cases hbit : bitAt xs k with
          | true =>
            rw [hbit] at KG
            have HS2 := Lib.hid (HS.out.here hs hc hbit hov)
            rw [hS] at HS2
            obtain ⟨U, hU⟩ : ∃ U, P + m.s.eff = U := ⟨_, rfl⟩
            rw [hU] at HS2
            have e1 : IntKind.u64.wrap ((P : Int) + (m.s.eff : Int)) = (U : Int) := by rw [show (P : Int) + (m.s.eff : Int) = (U : Int) by omega]; exact IntWalk.u64_in _ (by omega)
            clear hs hc hmf HS hT hPT hov heff hS hU hbit
            go_wp2_with (first
              | (refine load_rec 116 _ rfl rfl _ (Rec.vals m) rfl hat Try.underlying116 size_mem ?_)
              | (refine store_rec 116 _ _ rfl rfl _ (Rec.vals m) (Rec.vals Mem.zero) 116 rfl rfl (RecAt.new _ (Rec.vals Mem.zero) _) size_mem rfl (Rec.one m) ?_; intro w2 hS2 hb2 hsz hkp; clear hsz hkp; have hb2 := rec_made (Below.refl _ _) hb2; have hB2 := Below.then hB hb2; clear hb2 hat)
              | (refine load_rec 116 _ rfl rfl _ (Rec.vals m) rfl hS2.lies Try.underlying116 size_mem ?_)
              | (go_at_call 112; refine (kc _).mono ?_; clear kc; rintro e w3 ⟨rfl, hb3⟩; have hS3 := hS2.up hb3; have hB3 := Below.then hB2 hb3; have x1 : _ = some (Value.int IntKind.u64 (m.s.eff : Int)) := hS3.cell 1; clear hb3)
              | (go_at_call 113; refine (ka _).mono ?_; clear ka; rintro e w4 ⟨rfl, rfl⟩)
              | (go_at_call 32; refine (KG.out _ (Lies.ofRow (HX.out.below hB3))).mono ?_; clear KG; rintro e w4 ⟨rfl, q, rfl⟩; have hB4 := below_drewN hB3 q; have x2 : (w3.drewN q).cell? _ = some (Value.int IntKind.u64 (m.s.eff : Int)) := x1))
            go_roundw
            case rel => exact ⟨k + 1, U, S, by omega, by go_num, rfl, rfl, HS2, hB4⟩
            case measure => simp [intOf]; omega
          | false =>
            rw [hbit] at KG
            have HS2 := Lib.hid (HS.out.gone hs hc hbit hov)
            rw [hS] at HS2
            clear hs hc hmf HS hT hPT hov heff hS hbit
            go_wp2_with (first
              | (refine load_rec 116 _ rfl rfl _ (Rec.vals m) rfl hat Try.underlying116 size_mem ?_)
              | (refine store_rec 116 _ _ rfl rfl _ (Rec.vals m) (Rec.vals Mem.zero) 116 rfl rfl (RecAt.new _ (Rec.vals Mem.zero) _) size_mem rfl (Rec.one m) ?_; intro w2 hS2 hb2 hsz hkp; clear hsz hkp; have hb2 := rec_made (Below.refl _ _) hb2; have hB2 := Below.then hB hb2; clear hb2 hat)
              | (refine load_rec 116 _ rfl rfl _ (Rec.vals m) rfl hS2.lies Try.underlying116 size_mem ?_)
              | (go_at_call 112; refine (kc _).mono ?_; clear kc; rintro e w3 ⟨rfl, hb3⟩; have hS3 := hS2.up hb3; have hB3 := Below.then hB2 hb3; have x1 : _ = some (Value.int IntKind.u64 (m.s.eff : Int)) := hS3.cell 1; clear hb3)
              | (go_at_call 113; refine (ka _).mono ?_; clear ka; rintro e w4 ⟨rfl, rfl⟩)
              | (go_at_call 32; refine (KG.out _ (Lies.ofRow (HX.out.below hB3))).mono ?_; clear KG; rintro e w4 ⟨rfl, q, rfl⟩; have hB4 := below_drewN hB3 q))
            go_roundw
            case rel => exact ⟨k + 1, P, S, by omega, by go_num, rfl, rfl, HS2, hB4⟩
            case measure => simp [intOf]; omega
        · have ka := fun w => money_add_over T m.s.eff w (by omega) (by omega) (by omega) (by omega) (by omega)
          have hy := HY.out
          rw [HS.out.over hs hc (by omega)] at hy
          simp only [Prod.mk.injEq] at hy
          obtain ⟨rfl, rfl, rfl⟩ := hy
          clear hs hc hmf HS hT hPT hov heff
          go_wp2_with (first
            | (refine load_rec 116 _ rfl rfl _ (Rec.vals m) rfl hat Try.underlying116 size_mem ?_)
            | (refine store_rec 116 _ _ rfl rfl _ (Rec.vals m) (Rec.vals Mem.zero) 116 rfl rfl (RecAt.new _ (Rec.vals Mem.zero) _) size_mem rfl (Rec.one m) ?_; intro w2 hS2 hb2 hsz hkp; clear hsz hkp; have hb2 := rec_made (Below.refl _ _) hb2; have hB2 := Below.then hB hb2; clear hb2 hat)
            | (refine load_rec 116 _ rfl rfl _ (Rec.vals m) rfl hS2.lies Try.underlying116 size_mem ?_)
            | (go_at_call 112; refine (kc _).mono ?_; clear kc; rintro e w3 ⟨rfl, hb3⟩; have hS3 := hS2.up hb3; have hB3 := Below.then hB2 hb3; have x1 : _ = some (Value.int IntKind.u64 (m.s.eff : Int)) := hS3.cell 1; clear hb3)
            | (go_at_call 113; refine (ka _).mono ?_; clear ka; rintro e w4 ⟨rfl, rfl⟩))
          go_ret3
          exact ⟨by first | rfl | simp, hB3⟩
    · obtain rfl : k = l.length := by omega
      have hy := HY.out
      rw [HS.out.all] at hy
      simp only [Prod.mk.injEq] at hy
      obtain ⟨rfl, rfl, rfl⟩ := hy
      clear HS HR HX HF HBY HY
      go_wp2
      go_ret3
      exact ⟨by first | rfl | simp, hB⟩
end Go.Proofs.Ytcaejanfhchacaa
namespace Go.Proofs.Ytcaejanfhchacaa
open Go.RowKit Go.Deep
set_option linter.unusedVariables false
set_option linter.unusedSimpArgs false

theorem size_rmem : (Try.prog.info? 119).map (·.size) = some (Rec.z Mem) := by kernel_rfl
theorem info_rmem : (Try.prog.info? 119).map (fun i => (i.zero, i.size, i.bytes)) = some (some (.agg (Rec.vals (Mem.zero : Mem))), Rec.z Mem, 48) := by kernel_rfl
theorem wd_info : (Try.prog.info? 35).map (fun i => (i.zero, i.size, i.bytes)) = some (some (.int .u64 0), 1, 8) := by kernel_rfl
theorem mem_zero_at (w : World) (T : TypeId) {b : Nat} (hb : b = w.heap.size) : RecAt (w.alloc (.cells #[.int .u64 0, .int .u64 0, .int .u64 0, .int .i64 0, .int .i64 0, .int .i64 0] T)) b (Rec.vals Mem.zero) T := by
  subst hb
  exact RecAt.new w (Rec.vals Mem.zero) T
section
variable {ops : Array Oper} {rest : List Oper} {o : Oper} {a : Act} {w : World} {Q : Exit → Act → World → Prop}
set_option maxRecDepth 100000 in
theorem built_rmem (s : Std) (x y : Int) : Try.prog.built 119 [(0, .agg s.vals), (1, .int .i64 x), (2, .int .i64 y)] = some (Rec.vals (⟨s, x, y⟩ : Mem)) := by kernel_rfl
set_option maxRecDepth 100000 in
theorem build_rmem (u v z : Operand) (ho : o.op = .build 119 #[(0, u), (1, v), (2, z)]) (hgd : Region.wanted o (yielded ops a.tmps) = true) (m : Mem) (hx : a.eval u = .agg m.s.vals) (hy : a.eval v = .int .i64 m.owner) (hz : a.eval z = .int .i64 m.status)
    (h : wpList Try.prog ops Q rest (a.put o.dst (.agg (Rec.vals m))) w) : wpList Try.prog ops Q (o :: rest) a w := by
  refine build_rec 119 _ ho hgd _ ?_ h
  simp only [List.map_toArray, List.map_cons, List.map_nil, hx, hy, hz]
  exact built_rmem m.s m.owner m.status
end
section
variable {fn : Func} {s k : Nat} {T : TypeId} {x : Mem} {g : Nat} {tmps : Array Value} {w : World}
theorem res_rmem (h : fn.results = #[.cell s 119]) (hp : tmps.getD s undef = .pointer (some ⟨g, 0, none⟩)) (hS : RecAt w g (Rec.vals x) T) : (results fn tmps).run Try.prog w = .ok (.agg (Rec.vals x)) w :=
  results_cell_row h tmps w g T (Rec.vals x) (0, 0) _ hp hS Try.underlying119 rfl size_rmem
end
set_option maxRecDepth 100000 in
theorem fill_mem (m : Mem) : Instr.fill (fun i => some (i * (Rec.vals m).size, (Rec.vals m).size)) ((Array.range (1 * (Rec.vals m).size)).map ((Value.agg (Rec.vals (Mem.zero : Mem))).cells[· % (Value.agg (Rec.vals (Mem.zero : Mem))).cells.size]!)) [(0, .agg (Rec.vals m))] = some (Rec.vals m) := by kernel_rfl

set_option maxRecDepth 100000 in
set_option maxHeartbeats 1000000 in
theorem mplain_is (m : Mem) (w : World) : Calls Try.prog 62 #[.agg (Rec.vals m)] w fun e w' => e = .returned (.agg (Rec.vals m)) ∧ Below w.heap.size w w' := by
  go_enter Try.func62, Try.ntmps62
  go_upto_region 1 with fail
  generalize hw0 : World.alloc _ _ = w0
  have hS : RecAt w0 w.heap.size (Rec.vals m) 116 := by rw [← hw0]; exact (mem_new w m _).1.up ((Below.refl _ _).alloc (Nat.le_refl _) _)
  have hN : RecAt w0 (w.heap.size + 1) (Rec.vals Mem.zero) 119 := by rw [← hw0]; exact mem_zero_at _ _ (by simp)
  have hB : Below w.heap.size w w0 := by rw [← hw0]; exact (mem_new w m _).2.alloc (mem_new w m _).2.size _
  clear hw0
  have x4 : _ = some (Value.int IntKind.i64 m.owner) := hS.cell 4
  have x5 : _ = some (Value.int IntKind.i64 m.status) := hS.cell 5
  go_wp2_with (first
    | (refine load_rec 114 _ rfl rfl _ m.s.vals rfl hS.lies.std Try.underlying114 std_size ?_)
    | (refine build_rmem _ _ _ rfl rfl m rfl rfl rfl ?_)
    | (refine store_rec 119 _ _ rfl rfl _ (Rec.vals m) (Rec.vals Mem.zero) 119 rfl rfl hN size_rmem rfl (Rec.one m) ?_; intro w4 hR hb4 hz4 hk4; have hB := hB.trans (hb4.mono (Nat.le_succ _)); clear hz4 hk4 hb4))
  refine bodyPost_ret (res_rmem Try.results62 rfl hR) rfl ⟨rfl, hB⟩

set_option maxRecDepth 100000 in
theorem rcounts_is (m : Mem) (w : World) : Calls Try.prog 97 #[.agg (Rec.vals m)] w fun e w' => e = .returned (.bool m.counts) ∧ Below w.heap.size w w' := by
  obtain ⟨hS, hB⟩ := mem_new w m 119
  have x5 : (World.alloc w (.cells (Rec.vals m) 119)).cell? ⟨w.heap.size, 5, none⟩ = some (.int .i64 m.status) := hS.cell 5
  clear hS
  by_cases h2 : m.status = 2
  · rw [Mem.counts_two h2]
    rw [h2] at x5
    clear h2
    go_enter Try.func97, Try.ntmps97
    go_wp2
    go_ret
    exact ⟨by first | rfl | simp, hB⟩
  · by_cases h3 : m.status = 3
    · rw [Mem.counts_three h3]
      rw [h3] at x5
      clear h2 h3
      go_enter Try.func97, Try.ntmps97
      go_wp2
      go_ret
      exact ⟨by first | rfl | simp, hB⟩
    · rw [Mem.counts_no h2 h3]
      have d2 : (m.status == 2) = false := by simp [h2]
      have d3 : (m.status == 3) = false := by simp [h3]
      have d4 : decide (m.status = 2) = false := by simp [h2]
      have d5 : decide (m.status = 3) = false := by simp [h3]
      clear h2 h3
      go_enter Try.func97, Try.ntmps97
      go_wp2
      go_ret
      exact ⟨by first | rfl | simp, hB⟩

/-- Two slices of the call's own, not in one block. -/
def Apart19 (u v : Value) : Prop := ∀ g, u.ownBlock = some g → v.ownBlock ≠ some g
theorem Apart19.nil (v : Value) : Apart19 (.slice none 0 0) v := fun g h => by simp [Value.ownBlock] at h
theorem Apart19.symm {u v : Value} (h : Apart19 u v) : Apart19 v u := fun g h1 h2 => h g h2 h1
/-- The one has grown; the other lies as it did. -/
theorem Apart19.grown {w : World} {B z n n2 c : Nat} {e : TypeId} {u v : Value} {xs : List Value} {g : Nat} (h : Apart19 u v) {H : Nat} (hu : w.ownsRow B e z u n xs) (hat : v.ownBlock = some g ∨ g = H) (hH : w.heap.size ≤ H) : Apart19 u (.slice (some ⟨g, 0, none⟩) n2 c) := fun b hb hb2 => by
  have hgb : g = b := by simpa [Value.ownBlock] using hb2
  subst hgb
  rcases hat with h1 | h1
  · exact h g hb h1
  · have := (hu.lt g hb).2
    omega
theorem own_boxed {w : World} {B z : Nat} {e : TypeId} {v : Value} {n : Nat} {xs : List Value} (h : w.ownsRow B e z v n xs) (o : Obj) : (w.alloc o).ownsRow B e z v n xs := own_kept h ((Below.refl _ _).alloc (Nat.le_refl _) _)
/-- Words that the call put together itself. -/
theorem words_own {w : World} {B : Nat} {v : Value} {n : Nat} {ns : List Nat} (hn : n = ns.length) (h : w.ownsRow B 35 1 v n (u64s ns)) : ∃ A c, v = .slice A ns.length c ∧ Row w w.heap.size A (u64s ns) := by
  subst hn
  rcases h.2 with ⟨rfl, h2⟩ | ⟨g, cap, cur, rfl, hb, hh, hn, hm, hs, ht⟩
  · obtain rfl := List.eq_nil_of_length_eq_zero h2
    exact ⟨none, 0, rfl, Row.nil _ _ _⟩
  · exact ⟨some ⟨g, 0, none⟩, cap, rfl, fun k v hv => ⟨_, rfl, (h.lt g rfl).2, h.cells (g := g) rfl k v hv⟩⟩
/-- What is picked so far, as the document has it. -/
structure Pick (l : List Mem) (xs : List Nat) (k : Nat) (l1 l2 : List Nat) : Prop where
  there : picked (isThere xs) l k = l1
  all : picked isAct l k = l2
theorem Pick.len {l : List Mem} {xs : List Nat} {k : Nat} {l1 l2 : List Nat} (h : Pick l xs k l1 l2) : l1.length ≤ k ∧ l2.length ≤ k := ⟨by rw [← h.there]; exact picked_len _ _ _, by rw [← h.all]; exact picked_len _ _ _⟩
theorem Pick.skip {l : List Mem} {xs : List Nat} {k : Nat} {l1 l2 : List Nat} {m : Mem} (h : Pick l xs k l1 l2) (hm : l[k]? = some m) (hc : m.counts = false) : Pick l xs (k + 1) l1 l2 :=
  ⟨by rw [picked_no hm (by simp [isThere, hc])]; exact h.there, by rw [picked_no hm (by simp [isAct, hc])]; exact h.all⟩
theorem Pick.here {l : List Mem} {xs : List Nat} {k : Nat} {l1 l2 : List Nat} {m : Mem} (h : Pick l xs k l1 l2) (hm : l[k]? = some m) (hc : m.counts = true) (hb : bitAt xs k = true) : Pick l xs (k + 1) (l1 ++ [m.s.eff]) (l2 ++ [m.s.eff]) :=
  ⟨by rw [picked_yes hm (by simp [isThere, hc, hb]), h.there], by rw [picked_yes hm (by simp [isAct, hc]), h.all]⟩
theorem Pick.gone {l : List Mem} {xs : List Nat} {k : Nat} {l1 l2 : List Nat} {m : Mem} (h : Pick l xs k l1 l2) (hm : l[k]? = some m) (hc : m.counts = true) (hb : bitAt xs k = false) : Pick l xs (k + 1) l1 (l2 ++ [m.s.eff]) :=
  ⟨by rw [picked_no hm (by simp [isThere, hc, hb])]; exact h.there, by rw [picked_yes hm (by simp [isAct, hc]), h.all]⟩
theorem u64s_snoc19 (l : List Nat) (x : Nat) : u64s (l ++ [x]) = u64s l ++ [.int .u64 (x : Int)] := by simp [u64s]

end Go.Proofs.Ytcaejanfhchacaa
