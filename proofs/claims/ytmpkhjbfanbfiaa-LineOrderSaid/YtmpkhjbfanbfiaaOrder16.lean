/- LineOrder: every list of numbers, every churn, everybody who is dropped: who waits comes out in the order in which they came, at most so many at a time, each once, without who was dropped; what was told may be written over. No condition. -/
import Derived.Test.YtmpkhjbfanbfiaaLinH
import Derived.Test.YtmpkhjbfanbfiaaLawI
import Derived.Test.YtmpkhjbfanbfiaaRows
import Derived.OpenShut
import Derived.Great.BuildSlice
namespace Go.Proofs.Ytmpkhjbfanbfiaa
namespace LineOrder
open Go.ChangeShapes Go.WideShapes Go.ChangeAt Go.RowKit Go.Shelf
set_option linter.unusedVariables false
set_option linter.unusedSimpArgs false

/-- n cells from an address on that may be written, in blocks from B on. -/
def Room (w : World) (B : Nat) (A : Option Addr) (n : Nat) : Prop := ∀ i, i < n → ∃ a v, A = some a ∧ B ≤ a.block ∧ w.cell? (a.add i) = some v ∧ w.frozen? (a.add i) = false
theorem Room.set {w : World} {B : Nat} {A : Option Addr} {n : Nat} (h : Room w B A n) (p : Addr) (u : Value) : Room (w.setCell p u) B A n := fun i hi => by
  obtain ⟨a, v, hA, hb, hc, hf⟩ := h i hi
  by_cases e : p = a.add i
  · subst e
    exact ⟨a, u, hA, hb, World.cell?_setCell_same (u := v) w _ _ hc, by rw [World.frozen?_setCell]; exact hf⟩
  · exact ⟨a, v, hA, hb, by rw [World.cell?_setCell_other _ _ _ _ e]; exact hc, by rw [World.frozen?_setCell]; exact hf⟩
theorem Room.own {w : World} {base : Nat} {A : Option Addr} {c : Nat} {l : List Int} (h : w.ownsRow base 3 1 (.slice A l.length c) l.length (ivals l)) : Room w base A l.length := fun i hi => by
  rcases h.2 with ⟨h1, h2⟩ | ⟨g, cap, cur, hv, hbg, hg, hnc, hcm, hcs, htake⟩
  · omega
  · injection hv with e1 e2 e3
    have hH := Go.holds_of_blockI hg (ss := l) (by have := htake; rw [Nat.mul_one] at this; exact this)
    obtain ⟨h1, h2⟩ := hH i (by simpa using hi)
    refine ⟨⟨g, 0, none⟩, .int .i64 l.toArray[i]!, e1, hbg, ?_, ?_⟩
    · rw [Addr.add_mid]; exact h1
    · rw [Addr.add_mid]; exact h2

set_option maxRecDepth 100000 in
set_option maxHeartbeats 1000000 in
theorem early (l : List Int) (A : Option Addr) (c : Nat) (churn gone : Int) (w : World) (hc : l.length ≤ c) (hcm : c ≤ maxLen) (h : churn < 1 ∨ 100 < churn ∨ 256 < l.length) :
    Calls Try.prog 5 #[.slice A l.length c, .int .i64 churn, .int .i64 gone] w fun e w' => e = .returned (.bool true) ∧ Below w.heap.size w w' := by
  unfold maxLen at hcm
  have ka := line_awake w
  by_cases h1 : churn < 1
  · have d1 : decide (churn < 1) = true := decide_eq_true h1
    clear h
    go_enter Try.func5, Try.ntmps5
    go_wp2_with (go_at_call 6; refine ka.mono ?_; clear ka; rintro e w1 ⟨rfl, hb1⟩)
    go_ret
    exact ⟨rfl, hb1⟩
  · have d1 : decide (churn < 1) = false := decide_eq_false h1
    by_cases h2 : 100 < churn
    · have d2 : decide (100 < churn) = true := decide_eq_true h2
      clear h
      go_enter Try.func5, Try.ntmps5
      go_wp2_with (go_at_call 6; refine ka.mono ?_; clear ka; rintro e w1 ⟨rfl, hb1⟩)
      go_ret
      exact ⟨rfl, hb1⟩
    · have d2 : decide (100 < churn) = false := decide_eq_false h2
      have h3 : 256 < l.length := by omega
      have d3 : decide ((256 : Int) < (l.length : Int)) = true := decide_eq_true (by omega)
      clear h
      go_enter Try.func5, Try.ntmps5
      go_wp2_with (go_at_call 6; refine ka.mono ?_; clear ka; rintro e w1 ⟨rfl, hb1⟩)
      go_ret
      exact ⟨rfl, hb1⟩

set_option maxRecDepth 100000 in
set_option maxHeartbeats 1000000 in
theorem refused (l : List Int) (A : Option Addr) (c f : Nat) (churn gone : Int) (w : World) (hc : l.length ≤ c) (hcm : c ≤ maxLen) (h1 : ¬ churn < 1) (h2 : ¬ 100 < churn) (h3 : ¬ 256 < l.length) (hf : f = 2 ∨ f = 231)
    (kn : ∀ w1, Below w.heap.size w w1 → Calls Try.prog 7 #[.slice A l.length c] w1 fun e w' => e = .returned (.tuple #[.pointer none, .int .i64 (f : Int)]) ∧ Below w1.heap.size w1 w') :
    Calls Try.prog 5 #[.slice A l.length c, .int .i64 churn, .int .i64 gone] w fun e w' => e = .returned (.bool true) ∧ Below w.heap.size w w' := by
  unfold maxLen at hcm
  have ka := line_awake w
  have d1 : decide (churn < 1) = false := decide_eq_false h1
  have d2 : decide (100 < churn) = false := decide_eq_false h2
  have d3 : decide ((256 : Int) < (l.length : Int)) = false := decide_eq_false (by omega)
  have d4 : decide (256 < l.length) = false := decide_eq_false h3
  have d5 : ((f : Int) != 0) = true := by rcases hf with rfl | rfl <;> rfl
  have d6 : ((f : Int) == 0) = false := by rcases hf with rfl | rfl <;> rfl
  clear hf
  go_enter Try.func5, Try.ntmps5
  go_wp2_with (first
    | (go_at_call 6; refine ka.mono ?_; clear ka; rintro e w1 ⟨rfl, hb1⟩)
    | (go_at_call 7; refine (kn w1 hb1).mono ?_; clear kn; rintro e w2 ⟨rfl, hb2⟩))
  all_goals go_ret
  all_goals exact ⟨by first | rfl | simp, Below.then hb1 hb2⟩

theorem chunk_len (D : List Int) (N t : Nat) : ((D.drop N).take t).length = min t (D.length - N) := by rw [List.length_take, List.length_drop]
theorem chunk_is (D : List Int) (N t : Nat) : (D.take (N + ((D.drop N).take t).length)).drop N = (D.drop N).take t := by
  rw [List.drop_take, Nat.add_sub_cancel_left, List.length_take, take_cap]
theorem chunk_rest (D : List Int) (N t : Nat) : (D.drop N).drop t = D.drop (N + ((D.drop N).take t).length) := by
  rw [← List.drop_drop, List.length_take, drop_cap]
theorem any_drop {w0 w : World} {g : Nat} {l : List Int} (h : HasLine w0 w g l) (x : Int) (hn : l.Nodup) (hl : l.length ≤ 1000000) :
    Calls Try.prog 16 #[.pointer (some ⟨g, 0, none⟩), .int .i64 x] w fun e w' => ∃ b, e = .returned (.bool b) ∧ HasLine w0 w' g (without l x) := by
  by_cases hx : x ∈ l
  · refine (h.drop_yes x hx hn hl).mono ?_
    rintro e w' ⟨rfl, h2, _⟩
    exact ⟨_, rfl, h2⟩
  · refine (h.drop_no x hx).mono ?_
    rintro e w' ⟨rfl, rfl⟩
    exact ⟨_, rfl, by rw [without_none hx]; exact h⟩

set_option maxRecDepth 100000 in
set_option maxHeartbeats 4000000 in
theorem runs (l : List Int) (A : Option Addr) (c : Nat) (churn gone : Int) (w : World) (hr : Row w w.heap.size A (ivals l)) (hc : l.length ≤ c) (hcm : c ≤ maxLen) (hz : A = none → c = 0) (h1 : ¬ churn < 1) (h2 : ¬ 100 < churn) (h3 : ¬ 256 < l.length) (h4 : ¬ ∃ x ∈ l, x < 0) (h5 : l.Nodup) :
    Calls Try.prog 5 #[.slice A l.length c, .int .i64 churn, .int .i64 gone] w fun e w' => e = .returned (.bool true) ∧ Below w.heap.size w w' := by
  obtain ⟨i0, hi0, hz0, hz1, hz2⟩ := info_parts int_info
  unfold maxLen at hcm
  have ka := line_awake w
  have kn := fun (w1 : World) (hb : Below w.heap.size w w1) => has_new l _ A c w w1 hb (Lie.ofRow (hr.below hb)) hz h4 h5 (by omega)
  have KN := Lib.hid kn
  have H5 := Lib.hid h5
  have HR := Lib.hid hr
  have d1 : decide (churn < 1) = false := decide_eq_false h1
  have d2 : decide (100 < churn) = false := decide_eq_false h2
  have d3 : decide ((256 : Int) < (l.length : Int)) = false := decide_eq_false (by omega)
  have d4 : decide (256 < l.length) = false := decide_eq_false h3
  clear kn h4 h5 hz hr
  go_enter Try.func5, Try.ntmps5
  go_wp2_with (first
    | (go_at_call 6; refine ka.mono ?_; clear ka; rintro e w1 ⟨rfl, hb1⟩)
    | (go_at_call 7; refine (KN.out w1 hb1).mono ?_; clear KN; rintro e w2 ⟨g, rfl, hg2, hL2, hb2⟩; clear hg2 hb2)
    | (go_at_call 18; refine (hL2.list (by omega)).mono ?_; rintro e w3 ⟨A3, c3, rfl, hown3, hL3, hb3⟩))
  have hroom := Room.own hown3
  clear hown3 hL3
  go_loopw [42] (fun iv wr => ∃ k : Nat, k ≤ l.length ∧ iv = .int .i64 (k : Int) ∧ Room wr w2.heap.size A3 l.length ∧ Below w2.heap.size w2 wr) (fun iv _ => l.length - (intOf iv).toNat)
  case atStart => exact ⟨0, Nat.zero_le _, rfl, hroom, hb3⟩
  case round =>
    obtain ⟨k, hk, rfl, hR, hB⟩ := hrel
    clear hroom hb3
    by_cases hlt : k < l.length
    · obtain ⟨a, v, rfl, hab, hac, haf⟩ := hR k hlt
      have HRR := Lib.hid hR
      clear hR
      go_wp2
      go_roundw
      case rel => exact ⟨k + 1, by omega, by go_num, HRR.out.set _ _, hB.setCell (by rw [addr_block]; exact hab) _⟩
      case measure => simp [intOf]; omega
    · obtain rfl : k = l.length := by omega
      have hL4 := hL2.up hB
      clear hL2 hR hB
      have kd := any_drop hL4 gone H5.out (by omega)
      go_wp2_with (go_at_call 16; refine kd.mono ?_; clear kd; rintro e w5 ⟨b5, rfl, hL5⟩)
      clear hL4
      go_loopw [11, 54] (fun ov iv wr => ∃ (k : Nat) (vo : Value), k ≤ l.length ∧ iv = .int .i64 (k : Int) ∧ vo = ov ∧
        wr.ownsRow w5.heap.size 3 1 vo (without (l.take k) gone).length (ivals (without (l.take k) gone)) ∧ Below w5.heap.size w5 wr) (fun _ iv _ => l.length - (intOf iv).toNat)
      case atStart => exact ⟨0, _, Nat.zero_le _, rfl, rfl, World.ownsRow_nil _ _ _ _, Below.refl _ _⟩
      case round =>
        obtain ⟨k, vo, hk, rfl, rfl, hown, hB⟩ := hrel
        by_cases hlt : k < l.length
        · obtain ⟨a, rfl, hb, hc⟩ := (Lie.ofRow HR.out).int hlt
          have hcr : wr.cell? (a.add k) = some (.int .i64 l[k]) := ((Below.then hL5.below hB).cell (World.block_lt_of_cell? w _ hc)).trans hc
          obtain ⟨y, hy⟩ : ∃ y, l[k] = y := ⟨_, rfl⟩
          have hn1 : (without (l.take k) gone).length ≤ l.length := by
            have := without_len (l.take k) gone
            rw [List.length_take] at this
            omega
          obtain ⟨p, hp⟩ : ∃ p, without (l.take k) gone = p := ⟨_, rfl⟩
          rw [hp] at hown hn1
          by_cases hyx : y = gone
          · have e1 := without_snoc_eq l (x := gone) hlt (by rw [hy, hyx])
            rw [hp] at e1
            have E1 := Lib.hid e1
            rw [hy] at hcr
            clear e1 hy hc hp
            subst hyx
            go_wp2
            go_roundw
            case rel =>
              refine ⟨k + 1, _, by omega, by go_num, rfl, ?_, hB⟩
              rw [E1.out]
              exact hown
            case measure => simp [intOf]; omega
          · have e1 := without_snoc_ne l (x := gone) hlt (by rw [hy]; exact hyx)
            rw [hp] at e1
            rw [hy] at hcr e1
            have E1 := Lib.hid e1
            clear e1 hy hc hp
            go_wp2_with (at_builtin; refine wpList_append_own _ rfl _ _ 22 rfl w5.heap.size 3 i0 (.int .i64 0) 1 8 Try.underlying22 hi0 hz0 hz1 hz2 rfl (by decide) _ _ _ rfl (hown.alloc _) ⟨wr.heap.size, 0, none⟩ 1 1 [.int .i64 y] rfl rfl ?c1 ?c2 ?c3 ?c4 ?c5 ?_)
            case c1 => exact new_first wr _ _
            case c2 => intro u hu; simp at hu; subst hu; rfl
            case c3 => simp only [maxLen]; omega
            case c4 => omega
            case c5 => have := hB.size; simp; omega
            intro v' w6 hown' hgrow _
            have hb' : Below w5.heap.size w5 w6 := (hB.alloc hB.size _).grown hgrow (by have := hB.size; simp; omega) (fun k hk => (hown.lt k hk).1)
            clear hgrow hown
            go_wp2
            go_roundw
            case rel =>
              refine ⟨k + 1, _, by omega, by go_num, rfl, ?_, hb'⟩
              rw [E1.out, ivals_snoc, List.length_append]
              exact hown'
            case measure => simp [intOf]; omega
        · obtain rfl : k = l.length := by omega
          rw [List.take_length] at hown
          have hL6 := hL5.up hB
          have hg5 := hL5.lt
          have hDl := without_len l gone
          obtain ⟨D, hD⟩ : ∃ D, without l gone = D := ⟨_, rfl⟩
          rw [hD] at hown hL6 hDl
          obtain ⟨A7, c7, rfl, hD1, hD2, -, -⟩ := Lie.own hown
          unfold maxLen at hD2
          clear hL5 hD hB
          go_wp2
          go_loopw [14] (fun nv wr => ∃ N : Nat, N ≤ D.length ∧ nv = .int .i64 (N : Int) ∧ HasLine w wr g (D.drop N) ∧ wr.ownsRow w5.heap.size 3 1 (.slice A7 D.length c7) D.length (ivals D)) (fun nv _ => D.length - (intOf nv).toNat)
          case atStart => exact ⟨0, Nat.zero_le _, rfl, hL6, hown⟩
          case round =>
            obtain ⟨N, hN, rfl, hL, hw⟩ := hrel
            clear hL6 hown
            have kl := hL.len
            rw [List.length_drop] at kl
            by_cases hlt : N < D.length
            · have e1 := chunk_len D N churn.toNat
              have e2 := chunk_is D N churn.toNat
              have e3 := chunk_rest D N churn.toNat
              have kp := hL.pop churn (by rw [List.length_drop]; omega)
              rw [e3] at kp
              obtain ⟨P, hP⟩ : ∃ P, (D.drop N).take churn.toNat = P := ⟨_, rfl⟩
              rw [hP] at e1 e2 kp
              obtain ⟨m, hm⟩ : ∃ m, P.length = m := ⟨_, rfl⟩
              rw [hm] at e1 e2 kp
              obtain ⟨K, hK⟩ : ∃ K, N + m = K := ⟨_, rfl⟩
              rw [hK] at e2 kp
              have hKD : K ≤ D.length := by omega
              have hm1 : 1 ≤ m := by omega
              have g1 : decide ((m : Int) < 1) = false := decide_eq_false (by omega)
              have g2 : decide (churn < (m : Int)) = false := decide_eq_false (by omega)
              have g3 : IntKind.i64.wrap ((N : Int) + (m : Int)) = (K : Int) := by rw [IntKind.wrap_i64]; omega
              have g4 : decide ((D.length : Int) < (K : Int)) = false := decide_eq_false (by omega)
              have g5 : decide (D.length < K) = false := decide_eq_false (by omega)
              have g6 : (0 : Int) < ((D.length - N : Nat) : Int) := by omega
              have g7 : decide (0 < D.length - N) = true := decide_eq_true (by omega)
              have hNK : N ≤ K := by omega
              have hKc : K ≤ c7 := by omega
              have hmK : P.length = K - N := by omega
              have ks : ∀ (w7 : World) (A8 : Option Addr) (c8 : Nat) (S : Nat → Prop), Lie w7 S A8 (ivals P) → w7.ownsRow w5.heap.size 3 1 (.slice A7 D.length c7) D.length (ivals D) →
                  Calls Try.prog 12 #[.slice A8 P.length c8, .slice (part A7 N c7) P.length (c7 - N)] w7 fun e w' => e = .returned (.bool true) ∧ Below w7.heap.size w7 w' := by
                intro w7 A8 c8 S ho hw7
                obtain ⟨A9, c9, e9, -, -, -, h9⟩ := Lie.own hw7
                injection e9 with e9 _ _
                subst e9
                have h10 := h9.piece hNK hKD hD1
                rw [e2] at h10
                exact rsame_true P S _ A8 (part A7 N c7) c8 (c7 - N) w7 ho h10 (by rw [hmK]; unfold maxLen; omega)
              rw [hm] at ks
              have KS := Lib.hid ks
              have KM := Lib.hid (show K - N = m by omega)
              have HKN := Lib.hid (show N + 1 ≤ K by omega)
              clear e1 e2 e3 hP hm hK hmK ks hL
              go_wp2_with fail
              refine kl.mono ?_
              clear kl
              rintro e w6 ⟨rfl, rfl⟩
              go_wp2_with fail
              refine kp.mono ?_
              clear kp
              rintro e w7 ⟨A8, c8, rfl, hown8, hL8, hg8⟩
              obtain ⟨A9, c9, e9, -, -, -, h9⟩ := Lie.own hown8
              injection e9 with e9 _ e10
              subst e9
              have hw8 := own_far hw hg8 (fun b hb e => by have := (hw.lt b hb).1; cases e; omega)
              have ks := KS.out w7 A8 c8 _ h9 hw8
              clear KS hw hown8 hg8 h9 e10
              go_wp2_with (first
                | (refine part_arm _ _ _ rfl rfl Try.underlying22 Try.sizeOf3 rfl rfl rfl hNK hKc ?_; rw [KM.out])
                | (go_at_call 12; refine ks.mono ?_; clear ks; rintro e w9 ⟨rfl, hb9⟩; have hL9 := hL8.up hb9; have hw9 := own_kept hw8 hb9))
              go_roundw
              case rel => exact ⟨K, hKD, by go_num, hL9, hw9⟩
              case measure => simp [intOf]; have := HKN.out; omega
            · obtain rfl : N = D.length := by omega
              rw [Nat.sub_self] at kl
              rw [show ((0 : Nat) : Int) = 0 from rfl] at kl
              go_wp2_with fail
              refine kl.mono ?_
              rintro e w6 ⟨rfl, rfl⟩
              go_wp2_with (go_at_call 19; refine kl.mono ?_; rintro e w7 ⟨rfl, rfl⟩)
              go_ret
              exact ⟨by first | rfl | simp, hL.below⟩

theorem walk (l : List Int) (A : Option Addr) (c : Nat) (churn gone : Int) (w : World) (hr : Row w w.heap.size A (ivals l)) (hf : ∀ x ∈ l, -9223372036854775808 ≤ x ∧ x ≤ 9223372036854775807) (hc : l.length ≤ c) (hcm : c ≤ maxLen) (hz : A = none → c = 0) :
    Calls Try.prog 5 #[.slice A l.length c, .int .i64 churn, .int .i64 gone] w fun e w' => e = .returned (.bool true) ∧ Below w.heap.size w w' := by
  by_cases h : churn < 1 ∨ 100 < churn ∨ 256 < l.length
  · exact early l A c churn gone w hc hcm h
  · have h1 : ¬ churn < 1 := fun e => h (.inl e)
    have h2 : ¬ 100 < churn := fun e => h (.inr (.inl e))
    have h3 : ¬ 256 < l.length := fun e => h (.inr (.inr e))
    rcases wrong_cases l with ⟨h4, _⟩ | ⟨h4, h5, _⟩ | ⟨_, _, h5, _⟩ | ⟨h4, h5, _, _⟩
    · exact refused l A c 2 churn gone w hc hcm h1 h2 h3 (.inl rfl) (fun w1 hb => new_below l _ A c w1 (Lie.ofRow (hr.below hb)) (by omega) h4)
    · exact refused l A c 231 churn gone w hc hcm h1 h2 h3 (.inr rfl) (fun w1 hb => new_twice l _ A c w1 (Lie.ofRow (hr.below hb)) (by omega) h4 h5)
    · exact absurd h5 h3
    · exact runs l A c churn gone w hr hc hcm hz h1 h2 h3 h4 h5

theorem own : ownKnob Try.prog.godebug = none := by kernel_rfl
theorem laidOut : laidOutB Try.prog = true := by kernel_rfl

set_option maxRecDepth 100000 in
theorem lifted (os : Os) (started : os.Started) (H : Type) (enc : TypeId × Value → H) :
    ReturnsInHanded {} Try.checked os 5 .any (Rows.lineOrderSpec.pre6 enc Try.prog Try.f5 Rows.lineOrderRow.domain false) (Rows.lineOrderSpec.post enc Try.prog Try.f5 false true false false) := by
  refine returnsInHanded_of_change (C := Try.checked) own started (by kernel_rfl) Try.func5
    (ChangeSpec.witness6 (enc := enc) (C := Try.checked) false ⟨#[], #[.slice none 0 0, .int .i64 0, .int .i64 0], []⟩ 8 (by kernel_rfl) (by kernel_rfl) (by kernel_rfl) (by kernel_rfl)) ?_
  intro W base args ds gs before hval0 hW hcnd _
  have hval : ∀ (j : Nat) t v, Try.f5.params[j]? = some t → args[j]? = some v → Value.okWide Try.prog W .any base t v := hval0
  have hW' := hW
  obtain ⟨p, q, hA0, hV, rfl, hfz, hnd⟩ := hW
  have hlt : ∀ x ∈ p ++ q, x.block < W.heap.size := fun x hx => hW'.lt x hx
  have hA : DataW.TrodAll enc Try.prog W 0 (fun _ => true) true Try.f5.params.toList args.toList ds p := hA0
  rw [Try.params5] at hA hval
  obtain ⟨v0, vs0, d0, ds0, p0, q0, hargs, rfl, rfl, h0, r0⟩ := trodAll_cons hA
  obtain ⟨v1, vs1, d1, ds1, p1, q1, rfl, rfl, rfl, h1, r1⟩ := trodAll_cons r0
  obtain ⟨v2, vs2, d2, ds2, p2, q2, rfl, rfl, rfl, h2, r2⟩ := trodAll_cons r1
  obtain ⟨rfl, rfl, rfl⟩ := trodAll_nil r2
  obtain rfl : args = #[v0, v1, v2] := by cases args; simp_all
  obtain ⟨rfl, rfl⟩ := trodVars_none hV
  obtain ⟨A0, n0, c0, rfl⟩ := okWide_slice Try.underlying22 (hval 0 22 v0 rfl rfl)
  obtain ⟨l0, hl0, hf0, hc0, hm0, hz0, hr0⟩ := open_i64s Try.underlying22 Try.underlying3 (by kernel_rfl) h0
  subst hl0
  obtain ⟨a1, rfl, rfl, rfl, w1⟩ := open_int Try.underlying3 (hval 1 3 v1 rfl rfl) h1
  obtain ⟨a2, rfl, rfl, rfl, w2⟩ := open_int Try.underlying3 (hval 2 3 v2 rfl rfl) h2
  clear hA0 hval0
  refine (walk l0 A0 c0 a1 a2 W hr0 hf0 hc0 hm0 hz0).mono fun e W' ⟨he, hg⟩ => ?_
  subst he
  exact ⟨_, rfl, law_post laidOut (by kernel_rfl) rfl rfl Try.underlying4 rfl hW' hg⟩

theorem over : Rows.lineOrderRow.holds Try.pinned (OpenSpec.ofChange Rows.lineOrderSpec) :=
  OpenClaim.holds_of_wide 5 Try.f5 rfl rfl rfl rfl rfl rfl rfl ⟨rfl, rfl, rfl, rfl, rfl⟩ rfl rfl rfl rfl rfl (by kernel_rfl) Try.func5 (by kernel_rfl)
    (of_decide_eq_true (by kernel_rfl)) (by unfold Func.isWrapper; first | (rw [if_pos (by decide +kernel)]; kernel_rfl) | (rw [if_neg (by decide +kernel)]; exact ⟨rfl, rfl⟩))
    (fun os started H enc _ => lifted os started H enc)

/-- The statement. -/
theorem proved : Rows.LineOrderSaid := over
#print axioms proved
end LineOrder
end Go.Proofs.Ytmpkhjbfanbfiaa
