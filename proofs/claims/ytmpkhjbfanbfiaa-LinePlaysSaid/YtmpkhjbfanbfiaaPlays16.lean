/- LinePlays: every list to begin with, every play of who comes, goes and is dropped: what New, Push, Pop, Drop, Place, List and Len answer is what the document's list answers. No condition. -/
import Derived.Test.YtmpkhjbfanbfiaaLinH
import Derived.Test.YtmpkhjbfanbfiaaLawI
import Derived.Test.YtmpkhjbfanbfiaaRows
import Derived.OpenShut
import Derived.Great.BuildSlice
namespace Go.Proofs.Ytmpkhjbfanbfiaa
namespace LinePlays
open Go.ChangeShapes Go.WideShapes Go.ChangeAt Go.RowKit Go.Shelf
set_option linter.unusedVariables false
set_option linter.unusedSimpArgs false

theorem op_size : (Try.prog.info? 31).map (·.size) = some 2 := by kernel_rfl
theorem made_below {w w' : World} {o : Obj} (h : Below w.heap.size (w.alloc o) w') : Below w.heap.size w w' := ((Below.refl _ _).alloc (Nat.le_refl _) _).trans h
theorem first_doc {w w3 : World} {g : Nat} {A : Option Addr} {c : Nat} {l : List Int} (hr : Row w w.heap.size A (ivals l)) (hb : Below w.heap.size w w3) (hg : w.heap.size ≤ g) (hc : l.length ≤ c) (hcm : c ≤ maxLen) (hz : A = none → c = 0) : DocAt w3 g A c l :=
  ⟨hc, hcm, (Lie.ofRow (hr.below hb)).imp (fun k _ hk => by omega), hz⟩
theorem doc_find {w : World} {g : Nat} {A : Option Addr} {c : Nat} {l : List Int} (h : DocAt w g A c l) (x : Int) :
    Calls Try.prog 14 #[.slice A l.length c, .int .i64 x] w fun e w' => e = .returned (.int .i64 (Lib.idxOf l x)) ∧ w = w' := rfind_is l x _ A c w h.lie (Nat.le_trans h.le h.cap)
theorem idx_at {l : List Int} {x z : Int} (h : Lib.idxOf l x = z) : (z < 0 ∧ x ∉ l) ∨ ∃ j : Nat, z = (j : Int) := by
  subst h
  rcases fnd_cases l x with ⟨h1, h2⟩ | ⟨k, _, _, h2, _⟩
  · exact .inl ⟨by omega, h1⟩
  · exact .inr ⟨k, h2⟩

set_option maxRecDepth 100000 in
set_option maxHeartbeats 1000000 in
theorem early (l : List Int) (A : Option Addr) (c : Nat) (ops : List (Int × Int)) (A2 : Option Addr) (c2 : Nat) (w : World) (hc : l.length ≤ c) (hcm : c ≤ maxLen) (hc2 : ops.length ≤ c2) (hcm2 : c2 ≤ maxLen) (h : 400 < l.length ∨ 100 < ops.length) :
    Calls Try.prog 3 #[.slice A l.length c, .slice A2 ops.length c2] w fun e w' => e = .returned (.bool true) ∧ Below w.heap.size w w' := by
  unfold maxLen at hcm hcm2
  have ka := line_awake w
  by_cases h1 : 400 < l.length
  · have d1 : decide ((400 : Int) < (l.length : Int)) = true := decide_eq_true (by omega)
    clear h
    go_enter Try.func3, Try.ntmps3
    go_wp2_with (go_at_call 6; refine ka.mono ?_; clear ka; rintro e w1 ⟨rfl, hb1⟩)
    go_ret
    exact ⟨rfl, hb1⟩
  · have d1 : decide ((400 : Int) < (l.length : Int)) = false := decide_eq_false (by omega)
    have h2 : 100 < ops.length := by omega
    have d2 : decide ((100 : Int) < (ops.length : Int)) = true := decide_eq_true (by omega)
    clear h
    go_enter Try.func3, Try.ntmps3
    go_wp2_with (go_at_call 6; refine ka.mono ?_; clear ka; rintro e w1 ⟨rfl, hb1⟩)
    go_ret
    exact ⟨rfl, hb1⟩

set_option maxRecDepth 100000 in
set_option maxHeartbeats 1000000 in
theorem refused (l : List Int) (A : Option Addr) (c f : Nat) (ops : List (Int × Int)) (A2 : Option Addr) (c2 : Nat) (w : World) (hc : l.length ≤ c) (hcm : c ≤ maxLen) (hc2 : ops.length ≤ c2) (hcm2 : c2 ≤ maxLen) (h1 : ¬ 400 < l.length) (h2 : ¬ 100 < ops.length) (hf : f = 2 ∨ f = 231 ∨ f = 161)
    (kn : ∀ w1, Below w.heap.size w w1 → Calls Try.prog 7 #[.slice A l.length c] w1 fun e w' => e = .returned (.tuple #[.pointer none, .int .i64 (f : Int)]) ∧ Below w1.heap.size w1 w')
    (kr : ∀ w1, Below w.heap.size w w1 → Calls Try.prog 8 #[.slice A l.length c] w1 fun e w' => e = .returned (.int .i64 (f : Int)) ∧ Below w1.heap.size w1 w') :
    Calls Try.prog 3 #[.slice A l.length c, .slice A2 ops.length c2] w fun e w' => e = .returned (.bool true) ∧ Below w.heap.size w w' := by
  unfold maxLen at hcm hcm2
  have ka := line_awake w
  have d1 : decide ((400 : Int) < (l.length : Int)) = false := decide_eq_false (by omega)
  have d2 : decide (400 < l.length) = false := decide_eq_false h1
  have d3 : decide ((100 : Int) < (ops.length : Int)) = false := decide_eq_false (by omega)
  have d4 : decide (100 < ops.length) = false := decide_eq_false h2
  have d5 : ((f : Int) != 0) = true := by rcases hf with rfl | rfl | rfl <;> rfl
  have d6 : ((f : Int) == 0) = false := by rcases hf with rfl | rfl | rfl <;> rfl
  clear hf
  go_enter Try.func3, Try.ntmps3
  go_wp2_with (first
    | (go_at_call 6; refine ka.mono ?_; clear ka; rintro e w1 ⟨rfl, hb1⟩)
    | (go_at_call 7; refine (kn w1 hb1).mono ?_; clear kn; rintro e w2 ⟨rfl, hb2⟩)
    | (go_at_call 8; refine (kr w2 (Below.then hb1 hb2)).mono ?_; clear kr; rintro e w3 ⟨rfl, hb3⟩))
  all_goals go_ret
  all_goals exact ⟨by first | rfl | simp, Below.then (Below.then hb1 hb2) hb3⟩

set_option maxRecDepth 100000 in
set_option maxHeartbeats 20000000 in
theorem runs (l : List Int) (A : Option Addr) (c : Nat) (ops : List (Int × Int)) (A2 : Option Addr) (c2 : Nat) (w : World) (hr : Row w w.heap.size A (ivals l)) (hc : l.length ≤ c) (hcm : c ≤ maxLen) (hz : A = none → c = 0) (ho : PairsIn w w.heap.size A2 ops) (hc2 : ops.length ≤ c2) (hcm2 : c2 ≤ maxLen) (h1 : ¬ 400 < l.length) (h2 : ¬ 100 < ops.length) (h4 : ¬ ∃ x ∈ l, x < 0) (h5 : l.Nodup) (h6 : l.length ≤ 256) :
    Calls Try.prog 3 #[.slice A l.length c, .slice A2 ops.length c2] w fun e w' => e = .returned (.bool true) ∧ Below w.heap.size w w' := by
  have ka := line_awake w
  have kn := fun (w1 : World) (hb : Below w.heap.size w w1) => has_new l _ A c w w1 hb (Lie.ofRow (hr.below hb)) hz h4 h5 (by omega)
  have kr := fun (w1 : World) (hb : Below w.heap.size w w1) => rwrong_is l _ A c w1 (Lie.ofRow (hr.below hb)) hc hcm
  rw [wrong_none h4 h5 (by omega)] at kr
  rw [show ((0 : Nat) : Int) = 0 from rfl] at kr
  have kd := fun (w3 : World) (g : Nat) (hb : Below w.heap.size w w3) (hg : w.heap.size ≤ g) => first_doc hr hb hg hc hcm hz
  have KN := Lib.hid kn
  have KR := Lib.hid kr
  have KD := Lib.hid kd
  have H5 := Lib.hid h5
  have HO := Lib.hid ho
  unfold maxLen at hcm hcm2
  have d1 : decide ((400 : Int) < (l.length : Int)) = false := decide_eq_false (by omega)
  have d2 : decide (400 < l.length) = false := decide_eq_false h1
  have d3 : decide ((100 : Int) < (ops.length : Int)) = false := decide_eq_false (by omega)
  have d4 : decide (100 < ops.length) = false := decide_eq_false h2
  clear kn kr kd h4 h5 hz hr ho
  go_enter Try.func3, Try.ntmps3
  go_wp2_with (first
    | (go_at_call 6; refine ka.mono ?_; clear ka; rintro e w1 ⟨rfl, hb1⟩)
    | (go_at_call 7; refine (KN.out w1 hb1).mono ?_; clear KN; rintro e w2 ⟨g, rfl, hg2, hL2, hb2⟩)
    | (go_at_call 8; refine (KR.out w2 hL2.below).mono ?_; clear KR; rintro e w3 ⟨rfl, hb3⟩; have hL3 := hL2.up hb3))
  have hD3 := KD.out w3 g hL3.below hL3.old
  clear KD hL2 hb3 hb2 hg2 d1 d2 d3 d4
  go_loopw [8, 53] (fun dv iv wr => ∃ (k : Nat) (A1 : Option Addr) (c1 : Nat) (L : List Int), k ≤ ops.length ∧ iv = .int .i64 (k : Int) ∧ dv = .slice A1 L.length c1 ∧ DocAt wr g A1 c1 L ∧ HasLine w wr g L ∧ Hid L.Nodup ∧ L.length ≤ 256) (fun _ iv _ => ops.length - (intOf iv).toNat)
  case atStart => exact ⟨0, _, _, _, Nat.zero_le _, rfl, rfl, hD3, hL3, H5, h6⟩
  case round =>
    obtain ⟨k, A1, c1, L, hk, rfl, rfl, hD, hL, HN, hLl⟩ := hrel
    clear hD3 hL3 h6 H5 hb1
    by_cases hlt : k < ops.length
    · obtain ⟨⟨kind, x⟩, hx⟩ : ∃ p, ops[k]? = some p := ⟨_, List.getElem?_eq_getElem hlt⟩
      obtain ⟨a, rfl, hab, hq0, hq1⟩ := HO.out k _ hx
      rw [← Addr.add_add] at hq1
      have hk0 : wr.cell? (a.add (k * 2)) = some (.int .i64 kind) := ((hL.below).cell (by rw [addr_block]; exact hab)).trans hq0
      have hk1 : wr.cell? ((a.add (k * 2)).add 1) = some (.int .i64 x) := ((hL.below).cell (by rw [addr_block, addr_block]; exact hab)).trans hq1
      clear hq0 hq1
      have hgw := hL.lt
      have hcap := hD.cap
      have hle := hD.le
      unfold maxLen at hcap
      clear hx hab
      by_cases e1 : kind = 1
      · subst e1
        by_cases hx0 : x < 0
        · have kp := fun (w5 : World) (h : HasLine w w5 g L) => h.push_below x hx0
          have kq := fun (w5 : World) (A1 : Option Addr) (c1 : Nat) (h : DocAt w5 g A1 c1 L) => rpush_below g A1 c1 L x w5 h hx0
          have KP := Lib.hid kp
          have KQ := Lib.hid kq
          clear kp kq hx0
          go_wp2_with (first
            | (refine load_pair_at op_size Try.underlying31 _ rfl rfl _ (1, x) rfl hk0 hk1 ?_)
            | (refine store_pair op_size _ _ rfl rfl _ (1, x) (0, 0) 31 rfl rfl (PairAt.new wr (0, 0) 31 rfl) ?_; intro w5 hS5 hb5; have hb5 := made_below hb5; have hL5 := hL.up hb5; have hD5 := hD.below hb5; have c0 := hS5.c0; have c1 := hS5.c1; clear hL hD hb5)
            | (go_at_call 9; refine (KQ.out w5 _ _ hD5).mono ?_; rintro e wq ⟨rfl, rfl⟩)
            | (go_at_call 10; refine (KP.out w5 hL5).mono ?_; rintro e wq ⟨rfl, rfl⟩))
          have HN5 := HN
          obtain ⟨z, hz⟩ : ∃ z, Lib.idxOf L x = z := ⟨_, rfl⟩
          rcases idx_at hz with ⟨hneg, hno⟩ | ⟨j, rfl⟩
          · have kl := hL5.place_no x hno
            have kf := doc_find hD5 x
            rw [hz] at kf
            have g1 : max z 0 = 0 := by omega
            have g2 : decide (0 ≤ z) = false := decide_eq_false (by omega)
            clear hneg
            have ki := hL5.list (by omega)
            clear hz hno
            refine kl.mono ?_
            clear kl
            rintro e wq ⟨rfl, rfl⟩
            go_wp2_with (first
              | (go_at_call 14; refine kf.mono ?_; clear kf; rintro e wq ⟨rfl, rfl⟩)
              | (go_at_call 18; refine ki.mono ?_; clear ki; rintro e wi ⟨Ai, ci, rfl, howni, hLi, hbi⟩; have hDi := hD5.below hbi; obtain ⟨Aj, cj, ej, -, -, -, hi⟩ := Lie.own howni; injection ej with ej _ ek; subst ej; clear ek howni)
              | (go_at_call 12; refine (rsame_true L _ _ _ _ _ _ wi hi hDi.lie (Nat.le_trans hDi.le hDi.cap)).mono ?_; rintro e wj ⟨rfl, hbj⟩; have hLj := hLi.up hbj; have hDj := hDi.below hbj; clear hbj hi)
              | (go_at_call 19; refine hLj.len.mono ?_; rintro e wq ⟨rfl, rfl⟩))
            go_roundw
            case rel => exact ⟨k + 1, _, _, _, by omega, by go_num, rfl, hDj, hLj, HN5, by omega⟩
            case measure => simp [intOf]; omega
          · have kl := hL5.place_yes x j hz
            have kf := doc_find hD5 x
            rw [hz] at kf
            have ki := hL5.list (by omega)
            clear hz
            refine kl.mono ?_
            clear kl
            rintro e wq ⟨rfl, rfl⟩
            go_wp2_with (first
              | (go_at_call 14; refine kf.mono ?_; clear kf; rintro e wq ⟨rfl, rfl⟩)
              | (go_at_call 18; refine ki.mono ?_; clear ki; rintro e wi ⟨Ai, ci, rfl, howni, hLi, hbi⟩; have hDi := hD5.below hbi; obtain ⟨Aj, cj, ej, -, -, -, hi⟩ := Lie.own howni; injection ej with ej _ ek; subst ej; clear ek howni)
              | (go_at_call 12; refine (rsame_true L _ _ _ _ _ _ wi hi hDi.lie (Nat.le_trans hDi.le hDi.cap)).mono ?_; rintro e wj ⟨rfl, hbj⟩; have hLj := hLi.up hbj; have hDj := hDi.below hbj; clear hbj hi)
              | (go_at_call 19; refine hLj.len.mono ?_; rintro e wq ⟨rfl, rfl⟩))
            go_roundw
            case rel => exact ⟨k + 1, _, _, _, by omega, by go_num, rfl, hDj, hLj, HN5, by omega⟩
            case measure => simp [intOf]; omega
        · by_cases hm : x ∈ L
          · have kp := fun (w5 : World) (h : HasLine w w5 g L) => h.push_twice x hx0 hm
            have kq := fun (w5 : World) (A1 : Option Addr) (c1 : Nat) (h : DocAt w5 g A1 c1 L) => rpush_twice g A1 c1 L x w5 h hx0 hm
            have KP := Lib.hid kp
            have KQ := Lib.hid kq
            clear kp kq hx0 hm
            go_wp2_with (first
              | (refine load_pair_at op_size Try.underlying31 _ rfl rfl _ (1, x) rfl hk0 hk1 ?_)
              | (refine store_pair op_size _ _ rfl rfl _ (1, x) (0, 0) 31 rfl rfl (PairAt.new wr (0, 0) 31 rfl) ?_; intro w5 hS5 hb5; have hb5 := made_below hb5; have hL5 := hL.up hb5; have hD5 := hD.below hb5; have c0 := hS5.c0; have c1 := hS5.c1; clear hL hD hb5)
              | (go_at_call 9; refine (KQ.out w5 _ _ hD5).mono ?_; rintro e wq ⟨rfl, rfl⟩)
              | (go_at_call 10; refine (KP.out w5 hL5).mono ?_; rintro e wq ⟨rfl, rfl⟩))
            have HN5 := HN
            obtain ⟨z, hz⟩ : ∃ z, Lib.idxOf L x = z := ⟨_, rfl⟩
            rcases idx_at hz with ⟨hneg, hno⟩ | ⟨j, rfl⟩
            · have kl := hL5.place_no x hno
              have kf := doc_find hD5 x
              rw [hz] at kf
              have g1 : max z 0 = 0 := by omega
              have g2 : decide (0 ≤ z) = false := decide_eq_false (by omega)
              clear hneg
              have ki := hL5.list (by omega)
              clear hz hno
              refine kl.mono ?_
              clear kl
              rintro e wq ⟨rfl, rfl⟩
              go_wp2_with (first
                | (go_at_call 14; refine kf.mono ?_; clear kf; rintro e wq ⟨rfl, rfl⟩)
                | (go_at_call 18; refine ki.mono ?_; clear ki; rintro e wi ⟨Ai, ci, rfl, howni, hLi, hbi⟩; have hDi := hD5.below hbi; obtain ⟨Aj, cj, ej, -, -, -, hi⟩ := Lie.own howni; injection ej with ej _ ek; subst ej; clear ek howni)
                | (go_at_call 12; refine (rsame_true L _ _ _ _ _ _ wi hi hDi.lie (Nat.le_trans hDi.le hDi.cap)).mono ?_; rintro e wj ⟨rfl, hbj⟩; have hLj := hLi.up hbj; have hDj := hDi.below hbj; clear hbj hi)
                | (go_at_call 19; refine hLj.len.mono ?_; rintro e wq ⟨rfl, rfl⟩))
              go_roundw
              case rel => exact ⟨k + 1, _, _, _, by omega, by go_num, rfl, hDj, hLj, HN5, by omega⟩
              case measure => simp [intOf]; omega
            · have kl := hL5.place_yes x j hz
              have kf := doc_find hD5 x
              rw [hz] at kf
              have ki := hL5.list (by omega)
              clear hz
              refine kl.mono ?_
              clear kl
              rintro e wq ⟨rfl, rfl⟩
              go_wp2_with (first
                | (go_at_call 14; refine kf.mono ?_; clear kf; rintro e wq ⟨rfl, rfl⟩)
                | (go_at_call 18; refine ki.mono ?_; clear ki; rintro e wi ⟨Ai, ci, rfl, howni, hLi, hbi⟩; have hDi := hD5.below hbi; obtain ⟨Aj, cj, ej, -, -, -, hi⟩ := Lie.own howni; injection ej with ej _ ek; subst ej; clear ek howni)
                | (go_at_call 12; refine (rsame_true L _ _ _ _ _ _ wi hi hDi.lie (Nat.le_trans hDi.le hDi.cap)).mono ?_; rintro e wj ⟨rfl, hbj⟩; have hLj := hLi.up hbj; have hDj := hDi.below hbj; clear hbj hi)
                | (go_at_call 19; refine hLj.len.mono ?_; rintro e wq ⟨rfl, rfl⟩))
              go_roundw
              case rel => exact ⟨k + 1, _, _, _, by omega, by go_num, rfl, hDj, hLj, HN5, by omega⟩
              case measure => simp [intOf]; omega
          · by_cases hf : 256 ≤ L.length
            · have kp := fun (w5 : World) (h : HasLine w w5 g L) => h.push_full x hx0 hm hf
              have kq := fun (w5 : World) (A1 : Option Addr) (c1 : Nat) (h : DocAt w5 g A1 c1 L) => rpush_full g A1 c1 L x w5 h hx0 hm hf
              have KP := Lib.hid kp
              have KQ := Lib.hid kq
              clear kp kq hx0 hm hf
              go_wp2_with (first
                | (refine load_pair_at op_size Try.underlying31 _ rfl rfl _ (1, x) rfl hk0 hk1 ?_)
                | (refine store_pair op_size _ _ rfl rfl _ (1, x) (0, 0) 31 rfl rfl (PairAt.new wr (0, 0) 31 rfl) ?_; intro w5 hS5 hb5; have hb5 := made_below hb5; have hL5 := hL.up hb5; have hD5 := hD.below hb5; have c0 := hS5.c0; have c1 := hS5.c1; clear hL hD hb5)
                | (go_at_call 9; refine (KQ.out w5 _ _ hD5).mono ?_; rintro e wq ⟨rfl, rfl⟩)
                | (go_at_call 10; refine (KP.out w5 hL5).mono ?_; rintro e wq ⟨rfl, rfl⟩))
              have HN5 := HN
              obtain ⟨z, hz⟩ : ∃ z, Lib.idxOf L x = z := ⟨_, rfl⟩
              rcases idx_at hz with ⟨hneg, hno⟩ | ⟨j, rfl⟩
              · have kl := hL5.place_no x hno
                have kf := doc_find hD5 x
                rw [hz] at kf
                have g1 : max z 0 = 0 := by omega
                have g2 : decide (0 ≤ z) = false := decide_eq_false (by omega)
                clear hneg
                have ki := hL5.list (by omega)
                clear hz hno
                refine kl.mono ?_
                clear kl
                rintro e wq ⟨rfl, rfl⟩
                go_wp2_with (first
                  | (go_at_call 14; refine kf.mono ?_; clear kf; rintro e wq ⟨rfl, rfl⟩)
                  | (go_at_call 18; refine ki.mono ?_; clear ki; rintro e wi ⟨Ai, ci, rfl, howni, hLi, hbi⟩; have hDi := hD5.below hbi; obtain ⟨Aj, cj, ej, -, -, -, hi⟩ := Lie.own howni; injection ej with ej _ ek; subst ej; clear ek howni)
                  | (go_at_call 12; refine (rsame_true L _ _ _ _ _ _ wi hi hDi.lie (Nat.le_trans hDi.le hDi.cap)).mono ?_; rintro e wj ⟨rfl, hbj⟩; have hLj := hLi.up hbj; have hDj := hDi.below hbj; clear hbj hi)
                  | (go_at_call 19; refine hLj.len.mono ?_; rintro e wq ⟨rfl, rfl⟩))
                go_roundw
                case rel => exact ⟨k + 1, _, _, _, by omega, by go_num, rfl, hDj, hLj, HN5, by omega⟩
                case measure => simp [intOf]; omega
              · have kl := hL5.place_yes x j hz
                have kf := doc_find hD5 x
                rw [hz] at kf
                have ki := hL5.list (by omega)
                clear hz
                refine kl.mono ?_
                clear kl
                rintro e wq ⟨rfl, rfl⟩
                go_wp2_with (first
                  | (go_at_call 14; refine kf.mono ?_; clear kf; rintro e wq ⟨rfl, rfl⟩)
                  | (go_at_call 18; refine ki.mono ?_; clear ki; rintro e wi ⟨Ai, ci, rfl, howni, hLi, hbi⟩; have hDi := hD5.below hbi; obtain ⟨Aj, cj, ej, -, -, -, hi⟩ := Lie.own howni; injection ej with ej _ ek; subst ej; clear ek howni)
                  | (go_at_call 12; refine (rsame_true L _ _ _ _ _ _ wi hi hDi.lie (Nat.le_trans hDi.le hDi.cap)).mono ?_; rintro e wj ⟨rfl, hbj⟩; have hLj := hLi.up hbj; have hDj := hDi.below hbj; clear hbj hi)
                  | (go_at_call 19; refine hLj.len.mono ?_; rintro e wq ⟨rfl, rfl⟩))
                go_roundw
                case rel => exact ⟨k + 1, _, _, _, by omega, by go_num, rfl, hDj, hLj, HN5, by omega⟩
                case measure => simp [intOf]; omega
            · have hn7 := nodup_snoc HN.out hm
              have hl7 : (L ++ [x]).length = L.length + 1 := by simp
              have kp := fun (w5 : World) (h : HasLine w w5 g L) => h.push_ok x hx0 hm hf
              have kq := fun (w5 : World) (A1 : Option Addr) (c1 : Nat) (h : DocAt w5 g A1 c1 L) => rpush_ok g A1 c1 L x w5 h hx0 hm hf
              obtain ⟨M, hM⟩ : ∃ M, L ++ [x] = M := ⟨_, rfl⟩
              rw [hM] at kp kq hn7 hl7
              have hl8 : M.length ≤ 256 := by omega
              have HN7 := Lib.hid hn7
              have KP := Lib.hid kp
              have KQ := Lib.hid kq
              clear kp kq hn7 hl7 hM hm hf
              go_wp2_with (first
                | (refine load_pair_at op_size Try.underlying31 _ rfl rfl _ (1, x) rfl hk0 hk1 ?_)
                | (refine store_pair op_size _ _ rfl rfl _ (1, x) (0, 0) 31 rfl rfl (PairAt.new wr (0, 0) 31 rfl) ?_; intro w5 hS5 hb5; have hb5 := made_below hb5; have hL5 := hL.up hb5; have hD5 := hD.below hb5; have c0 := hS5.c0; have c1 := hS5.c1; clear hL hD hb5)
                | (go_at_call 9; refine (KQ.out w5 _ _ hD5).mono ?_; rintro e w6 ⟨v6, rfl, hown6, hb6⟩; have hg5 := hL5.lt; have hL6 := hL5.up hb6; have hS6 := hS5.up hb6; have c1 := hS6.c1; obtain ⟨A6, c6, rfl, hD6⟩ := DocAt.own hown6 hg5; clear hown6 hb6 hD5 hL5)
                | (go_at_call 10; refine (KP.out w6 hL6).mono ?_; rintro e w7 ⟨rfl, hL7, hg7⟩; have hD7 := hD6.turned hg7; have hS7 := hS6.far hg7 (by omega); have c1 := hS7.c1; clear hL6 hD6 hS6))
              obtain ⟨z, hz⟩ : ∃ z, Lib.idxOf M x = z := ⟨_, rfl⟩
              rcases idx_at hz with ⟨hneg, hno⟩ | ⟨j, rfl⟩
              · have kl := hL7.place_no x hno
                have kf := doc_find hD7 x
                rw [hz] at kf
                have g1 : max z 0 = 0 := by omega
                have g2 : decide (0 ≤ z) = false := decide_eq_false (by omega)
                clear hneg
                have ki := hL7.list (by omega)
                clear hz hno
                refine kl.mono ?_
                clear kl
                rintro e wq ⟨rfl, rfl⟩
                go_wp2_with (first
                  | (go_at_call 14; refine kf.mono ?_; clear kf; rintro e wq ⟨rfl, rfl⟩)
                  | (go_at_call 18; refine ki.mono ?_; clear ki; rintro e wi ⟨Ai, ci, rfl, howni, hLi, hbi⟩; have hDi := hD7.below hbi; obtain ⟨Aj, cj, ej, -, -, -, hi⟩ := Lie.own howni; injection ej with ej _ ek; subst ej; clear ek howni)
                  | (go_at_call 12; refine (rsame_true M _ _ _ _ _ _ wi hi hDi.lie (Nat.le_trans hDi.le hDi.cap)).mono ?_; rintro e wj ⟨rfl, hbj⟩; have hLj := hLi.up hbj; have hDj := hDi.below hbj; clear hbj hi)
                  | (go_at_call 19; refine hLj.len.mono ?_; rintro e wq ⟨rfl, rfl⟩))
                go_roundw
                case rel => exact ⟨k + 1, _, _, _, by omega, by go_num, rfl, hDj, hLj, HN7, by omega⟩
                case measure => simp [intOf]; omega
              · have kl := hL7.place_yes x j hz
                have kf := doc_find hD7 x
                rw [hz] at kf
                have ki := hL7.list (by omega)
                clear hz
                refine kl.mono ?_
                clear kl
                rintro e wq ⟨rfl, rfl⟩
                go_wp2_with (first
                  | (go_at_call 14; refine kf.mono ?_; clear kf; rintro e wq ⟨rfl, rfl⟩)
                  | (go_at_call 18; refine ki.mono ?_; clear ki; rintro e wi ⟨Ai, ci, rfl, howni, hLi, hbi⟩; have hDi := hD7.below hbi; obtain ⟨Aj, cj, ej, -, -, -, hi⟩ := Lie.own howni; injection ej with ej _ ek; subst ej; clear ek howni)
                  | (go_at_call 12; refine (rsame_true M _ _ _ _ _ _ wi hi hDi.lie (Nat.le_trans hDi.le hDi.cap)).mono ?_; rintro e wj ⟨rfl, hbj⟩; have hLj := hLi.up hbj; have hDj := hDi.below hbj; clear hbj hi)
                  | (go_at_call 19; refine hLj.len.mono ?_; rintro e wq ⟨rfl, rfl⟩))
                go_roundw
                case rel => exact ⟨k + 1, _, _, _, by omega, by go_num, rfl, hDj, hLj, HN7, by omega⟩
                case measure => simp [intOf]; omega
      · by_cases e2 : kind = 2
        · subst e2
          clear e1
          have hn7 : (L.drop x.toNat).Nodup := HN.out.sublist (List.drop_sublist _ _)
          have hl7 : (L.drop x.toNat).length ≤ L.length := by rw [List.length_drop]; omega
          have hl9 : (L.take x.toNat).length ≤ L.length := by rw [List.length_take]; omega
          have kp := fun (w5 : World) (h : HasLine w w5 g L) => h.pop x (by omega)
          have kq := fun (w5 : World) (A1 : Option Addr) (c1 : Nat) (h : DocAt w5 g A1 c1 L) => rpop_is g A1 c1 L x w5 h (by omega)
          obtain ⟨M, hM⟩ : ∃ M, L.drop x.toNat = M := ⟨_, rfl⟩
          obtain ⟨T, hT⟩ : ∃ T, L.take x.toNat = T := ⟨_, rfl⟩
          rw [hM] at kp kq hn7 hl7
          rw [hT] at kp kq hl9
          have hl8 : M.length ≤ 256 := by omega
          have HN8 := Lib.hid hn7
          have KP := Lib.hid kp
          have KQ := Lib.hid kq
          clear kp kq hn7 hl7 hM hT
          go_wp2_with (first
            | (refine load_pair_at op_size Try.underlying31 _ rfl rfl _ (2, x) rfl hk0 hk1 ?_)
            | (refine store_pair op_size _ _ rfl rfl _ (2, x) (0, 0) 31 rfl rfl (PairAt.new wr (0, 0) 31 rfl) ?_; intro w5 hS5 hb5; have hb5 := made_below hb5; have hL5 := hL.up hb5; have hD5 := hD.below hb5; have c0 := hS5.c0; have c1 := hS5.c1; clear hL hD hb5)
            | (go_at_call 11; refine (KQ.out w5 _ _ hD5).mono ?_; rintro e w6 ⟨v6, u6, rfl, hown6, hrest6, hb6⟩; have hg5 := hL5.lt; have hL6 := hL5.up hb6; have hS6 := hS5.up hb6; have c1 := hS6.c1; obtain ⟨A6, c6, rfl, hD6⟩ := DocAt.own hrest6 hg5; obtain ⟨A7, c7, rfl, hT6⟩ := DocAt.own hown6 hg5; clear hown6 hrest6 hb6 hD5 hL5)
            | (go_at_call 13; refine (KP.out w6 hL6).mono ?_; rintro e w7 ⟨A8, c8, rfl, hown8, hL7, hg7⟩; have hD7 := hD6.turned hg7; have hS7 := hS6.far hg7 (by omega); have hT7 := hT6.turned hg7; have c1 := hS7.c1; obtain ⟨A9, c9, e9, -, -, -, h9⟩ := Lie.own hown8; injection e9 with e9 _ e10; subst e9; clear hL6 hD6 hS6 hT6 hown8 e10)
            | (go_at_call 12; refine (rsame_true T _ _ _ _ _ _ w7 h9 hT7.lie (Nat.le_trans hT7.le hT7.cap)).mono ?_; rintro e w8 ⟨rfl, hb8⟩; have hL8 := hL7.up hb8; have hD8 := hD7.below hb8; have hS8 := hS7.up hb8; have c1 := hS8.c1; clear hL7 hD7 hS7 hT7 h9 hb8))
          obtain ⟨z, hz⟩ : ∃ z, Lib.idxOf M x = z := ⟨_, rfl⟩
          rcases idx_at hz with ⟨hneg, hno⟩ | ⟨j, rfl⟩
          · have kl := hL8.place_no x hno
            have kf := doc_find hD8 x
            rw [hz] at kf
            have g1 : max z 0 = 0 := by omega
            have g2 : decide (0 ≤ z) = false := decide_eq_false (by omega)
            clear hneg
            have ki := hL8.list (by omega)
            clear hz hno
            refine kl.mono ?_
            clear kl
            rintro e wq ⟨rfl, rfl⟩
            go_wp2_with (first
              | (go_at_call 14; refine kf.mono ?_; clear kf; rintro e wq ⟨rfl, rfl⟩)
              | (go_at_call 18; refine ki.mono ?_; clear ki; rintro e wi ⟨Ai, ci, rfl, howni, hLi, hbi⟩; have hDi := hD8.below hbi; obtain ⟨Aj, cj, ej, -, -, -, hi⟩ := Lie.own howni; injection ej with ej _ ek; subst ej; clear ek howni)
              | (go_at_call 12; refine (rsame_true M _ _ _ _ _ _ wi hi hDi.lie (Nat.le_trans hDi.le hDi.cap)).mono ?_; rintro e wj ⟨rfl, hbj⟩; have hLj := hLi.up hbj; have hDj := hDi.below hbj; clear hbj hi)
              | (go_at_call 19; refine hLj.len.mono ?_; rintro e wq ⟨rfl, rfl⟩))
            go_roundw
            case rel => exact ⟨k + 1, _, _, _, by omega, by go_num, rfl, hDj, hLj, HN8, by omega⟩
            case measure => simp [intOf]; omega
          · have kl := hL8.place_yes x j hz
            have kf := doc_find hD8 x
            rw [hz] at kf
            have ki := hL8.list (by omega)
            clear hz
            refine kl.mono ?_
            clear kl
            rintro e wq ⟨rfl, rfl⟩
            go_wp2_with (first
              | (go_at_call 14; refine kf.mono ?_; clear kf; rintro e wq ⟨rfl, rfl⟩)
              | (go_at_call 18; refine ki.mono ?_; clear ki; rintro e wi ⟨Ai, ci, rfl, howni, hLi, hbi⟩; have hDi := hD8.below hbi; obtain ⟨Aj, cj, ej, -, -, -, hi⟩ := Lie.own howni; injection ej with ej _ ek; subst ej; clear ek howni)
              | (go_at_call 12; refine (rsame_true M _ _ _ _ _ _ wi hi hDi.lie (Nat.le_trans hDi.le hDi.cap)).mono ?_; rintro e wj ⟨rfl, hbj⟩; have hLj := hLi.up hbj; have hDj := hDi.below hbj; clear hbj hi)
              | (go_at_call 19; refine hLj.len.mono ?_; rintro e wq ⟨rfl, rfl⟩))
            go_roundw
            case rel => exact ⟨k + 1, _, _, _, by omega, by go_num, rfl, hDj, hLj, HN8, by omega⟩
            case measure => simp [intOf]; omega
        · by_cases e3 : kind = 3
          · subst e3
            clear e1 e2
            by_cases hm : x ∈ L
            · have hn7 := without_nodup x HN.out
              have hl7 := without_len L x
              have kf := fun (w5 : World) (A1 : Option Addr) (c1 : Nat) (h : DocAt w5 g A1 c1 L) => rfind_is L x _ A1 c1 w5 h.lie (Nat.le_trans h.le h.cap)
              rcases fnd_cases L x with ⟨h0, _⟩ | ⟨j0, _, _, hj0, _⟩
              · exact absurd hm h0
              rw [hj0] at kf
              have kp := fun (w5 : World) (h : HasLine w w5 g L) => h.drop_yes x hm HN.out (by omega)
              have kq := fun (w5 : World) (A1 : Option Addr) (c1 : Nat) (h : DocAt w5 g A1 c1 L) => rdrop_is g A1 c1 L x w5 h (by omega)
              obtain ⟨M, hM⟩ : ∃ M, without L x = M := ⟨_, rfl⟩
              rw [hM] at kp kq hn7 hl7
              have hl8 : M.length ≤ 256 := by omega
              have HN7 := Lib.hid hn7
              have KP := Lib.hid kp
              have KQ := Lib.hid kq
              have KF := Lib.hid kf
              clear kp kq kf hn7 hl7 hm hM hj0
              go_wp2_with (first
                | (refine load_pair_at op_size Try.underlying31 _ rfl rfl _ (3, x) rfl hk0 hk1 ?_)
                | (refine store_pair op_size _ _ rfl rfl _ (3, x) (0, 0) 31 rfl rfl (PairAt.new wr (0, 0) 31 rfl) ?_; intro w5 hS5 hb5; have hb5 := made_below hb5; have hL5 := hL.up hb5; have hD5 := hD.below hb5; have c0 := hS5.c0; have c1 := hS5.c1; clear hL hD hb5)
                | (go_at_call 14; refine (KF.out w5 _ _ hD5).mono ?_; clear KF; rintro e wq ⟨rfl, rfl⟩)
                | (go_at_call 15; refine (KQ.out w5 _ _ hD5).mono ?_; rintro e w6 ⟨v6, rfl, hown6, hb6⟩; have hg5 := hL5.lt; have hL6 := hL5.up hb6; have hS6 := hS5.up hb6; have c1 := hS6.c1; obtain ⟨A6, c6, rfl, hD6⟩ := DocAt.own hown6 hg5; clear hown6 hb6 hD5 hL5)
                | (go_at_call 16; refine (KP.out w6 hL6).mono ?_; rintro e w7 ⟨rfl, hL7, hg7⟩; have hD7 := hD6.turned hg7; have hS7 := hS6.far hg7 (by omega); have c1 := hS7.c1; clear hL6 hD6 hS6))
              obtain ⟨z, hz⟩ : ∃ z, Lib.idxOf M x = z := ⟨_, rfl⟩
              rcases idx_at hz with ⟨hneg, hno⟩ | ⟨j, rfl⟩
              · have kl := hL7.place_no x hno
                have kf := doc_find hD7 x
                rw [hz] at kf
                have g1 : max z 0 = 0 := by omega
                have g2 : decide (0 ≤ z) = false := decide_eq_false (by omega)
                clear hneg
                have ki := hL7.list (by omega)
                clear hz hno
                refine kl.mono ?_
                clear kl
                rintro e wq ⟨rfl, rfl⟩
                go_wp2_with (first
                  | (go_at_call 14; refine kf.mono ?_; clear kf; rintro e wq ⟨rfl, rfl⟩)
                  | (go_at_call 18; refine ki.mono ?_; clear ki; rintro e wi ⟨Ai, ci, rfl, howni, hLi, hbi⟩; have hDi := hD7.below hbi; obtain ⟨Aj, cj, ej, -, -, -, hi⟩ := Lie.own howni; injection ej with ej _ ek; subst ej; clear ek howni)
                  | (go_at_call 12; refine (rsame_true M _ _ _ _ _ _ wi hi hDi.lie (Nat.le_trans hDi.le hDi.cap)).mono ?_; rintro e wj ⟨rfl, hbj⟩; have hLj := hLi.up hbj; have hDj := hDi.below hbj; clear hbj hi)
                  | (go_at_call 19; refine hLj.len.mono ?_; rintro e wq ⟨rfl, rfl⟩))
                go_roundw
                case rel => exact ⟨k + 1, _, _, _, by omega, by go_num, rfl, hDj, hLj, HN7, by omega⟩
                case measure => simp [intOf]; omega
              · have kl := hL7.place_yes x j hz
                have kf := doc_find hD7 x
                rw [hz] at kf
                have ki := hL7.list (by omega)
                clear hz
                refine kl.mono ?_
                clear kl
                rintro e wq ⟨rfl, rfl⟩
                go_wp2_with (first
                  | (go_at_call 14; refine kf.mono ?_; clear kf; rintro e wq ⟨rfl, rfl⟩)
                  | (go_at_call 18; refine ki.mono ?_; clear ki; rintro e wi ⟨Ai, ci, rfl, howni, hLi, hbi⟩; have hDi := hD7.below hbi; obtain ⟨Aj, cj, ej, -, -, -, hi⟩ := Lie.own howni; injection ej with ej _ ek; subst ej; clear ek howni)
                  | (go_at_call 12; refine (rsame_true M _ _ _ _ _ _ wi hi hDi.lie (Nat.le_trans hDi.le hDi.cap)).mono ?_; rintro e wj ⟨rfl, hbj⟩; have hLj := hLi.up hbj; have hDj := hDi.below hbj; clear hbj hi)
                  | (go_at_call 19; refine hLj.len.mono ?_; rintro e wq ⟨rfl, rfl⟩))
                go_roundw
                case rel => exact ⟨k + 1, _, _, _, by omega, by go_num, rfl, hDj, hLj, HN7, by omega⟩
                case measure => simp [intOf]; omega
            · have hn7 := without_nodup x HN.out
              have hl7 := without_len L x
              have kf := fun (w5 : World) (A1 : Option Addr) (c1 : Nat) (h : DocAt w5 g A1 c1 L) => rfind_is L x _ A1 c1 w5 h.lie (Nat.le_trans h.le h.cap)
              rw [fnd_miss (before_of hm _)] at kf
              have kp := fun (w5 : World) (h : HasLine w w5 g L) => h.drop_no x hm
              have kq := fun (w5 : World) (A1 : Option Addr) (c1 : Nat) (h : DocAt w5 g A1 c1 L) => rdrop_is g A1 c1 L x w5 h (by omega)
              rw [without_none hm] at hn7 hl7 kq
              have HN7 := Lib.hid hn7
              have KP := Lib.hid kp
              have KQ := Lib.hid kq
              have KF := Lib.hid kf
              clear kp kq kf hn7 hl7 hm
              go_wp2_with (first
                | (refine load_pair_at op_size Try.underlying31 _ rfl rfl _ (3, x) rfl hk0 hk1 ?_)
                | (refine store_pair op_size _ _ rfl rfl _ (3, x) (0, 0) 31 rfl rfl (PairAt.new wr (0, 0) 31 rfl) ?_; intro w5 hS5 hb5; have hb5 := made_below hb5; have hL5 := hL.up hb5; have hD5 := hD.below hb5; have c0 := hS5.c0; have c1 := hS5.c1; clear hL hD hb5)
                | (go_at_call 14; refine (KF.out w5 _ _ hD5).mono ?_; clear KF; rintro e wq ⟨rfl, rfl⟩)
                | (go_at_call 15; refine (KQ.out w5 _ _ hD5).mono ?_; rintro e w6 ⟨v6, rfl, hown6, hb6⟩; have hg5 := hL5.lt; have hL6 := hL5.up hb6; have hS6 := hS5.up hb6; have c1 := hS6.c1; obtain ⟨A6, c6, rfl, hD6⟩ := DocAt.own hown6 hg5; clear hown6 hb6 hD5 hL5)
                | (go_at_call 16; refine (KP.out w6 hL6).mono ?_; rintro e wq ⟨rfl, rfl⟩; have hL7 := hL6; have hD7 := hD6; have hS7 := hS6; clear hL6 hD6 hS6))
              obtain ⟨z, hz⟩ : ∃ z, Lib.idxOf L x = z := ⟨_, rfl⟩
              rcases idx_at hz with ⟨hneg, hno⟩ | ⟨j, rfl⟩
              · have kl := hL7.place_no x hno
                have kf := doc_find hD7 x
                rw [hz] at kf
                have g1 : max z 0 = 0 := by omega
                have g2 : decide (0 ≤ z) = false := decide_eq_false (by omega)
                clear hneg
                have ki := hL7.list (by omega)
                clear hz hno
                refine kl.mono ?_
                clear kl
                rintro e wq ⟨rfl, rfl⟩
                go_wp2_with (first
                  | (go_at_call 14; refine kf.mono ?_; clear kf; rintro e wq ⟨rfl, rfl⟩)
                  | (go_at_call 18; refine ki.mono ?_; clear ki; rintro e wi ⟨Ai, ci, rfl, howni, hLi, hbi⟩; have hDi := hD7.below hbi; obtain ⟨Aj, cj, ej, -, -, -, hi⟩ := Lie.own howni; injection ej with ej _ ek; subst ej; clear ek howni)
                  | (go_at_call 12; refine (rsame_true L _ _ _ _ _ _ wi hi hDi.lie (Nat.le_trans hDi.le hDi.cap)).mono ?_; rintro e wj ⟨rfl, hbj⟩; have hLj := hLi.up hbj; have hDj := hDi.below hbj; clear hbj hi)
                  | (go_at_call 19; refine hLj.len.mono ?_; rintro e wq ⟨rfl, rfl⟩))
                go_roundw
                case rel => exact ⟨k + 1, _, _, _, by omega, by go_num, rfl, hDj, hLj, HN7, by omega⟩
                case measure => simp [intOf]; omega
              · have kl := hL7.place_yes x j hz
                have kf := doc_find hD7 x
                rw [hz] at kf
                have ki := hL7.list (by omega)
                clear hz
                refine kl.mono ?_
                clear kl
                rintro e wq ⟨rfl, rfl⟩
                go_wp2_with (first
                  | (go_at_call 14; refine kf.mono ?_; clear kf; rintro e wq ⟨rfl, rfl⟩)
                  | (go_at_call 18; refine ki.mono ?_; clear ki; rintro e wi ⟨Ai, ci, rfl, howni, hLi, hbi⟩; have hDi := hD7.below hbi; obtain ⟨Aj, cj, ej, -, -, -, hi⟩ := Lie.own howni; injection ej with ej _ ek; subst ej; clear ek howni)
                  | (go_at_call 12; refine (rsame_true L _ _ _ _ _ _ wi hi hDi.lie (Nat.le_trans hDi.le hDi.cap)).mono ?_; rintro e wj ⟨rfl, hbj⟩; have hLj := hLi.up hbj; have hDj := hDi.below hbj; clear hbj hi)
                  | (go_at_call 19; refine hLj.len.mono ?_; rintro e wq ⟨rfl, rfl⟩))
                go_roundw
                case rel => exact ⟨k + 1, _, _, _, by omega, by go_num, rfl, hDj, hLj, HN7, by omega⟩
                case measure => simp [intOf]; omega
          · have n1 : (kind == 1) = false := by simpa using e1
            have n2 : (kind == 2) = false := by simpa using e2
            have n3 : (kind == 3) = false := by simpa using e3
            go_wp2_with (first
              | (refine load_pair_at op_size Try.underlying31 _ rfl rfl _ (kind, x) rfl hk0 hk1 ?_)
              | (refine store_pair op_size _ _ rfl rfl _ (kind, x) (0, 0) 31 rfl rfl (PairAt.new wr (0, 0) 31 rfl) ?_; intro w5 hS5 hb5; have hb5 := made_below hb5; have hL5 := hL.up hb5; have hD5 := hD.below hb5; have c0 := hS5.c0; have c1 := hS5.c1; clear hL hD hb5))
            have HN5 := HN
            obtain ⟨z, hz⟩ : ∃ z, Lib.idxOf L x = z := ⟨_, rfl⟩
            rcases idx_at hz with ⟨hneg, hno⟩ | ⟨j, rfl⟩
            · have kl := hL5.place_no x hno
              have kf := doc_find hD5 x
              rw [hz] at kf
              have g1 : max z 0 = 0 := by omega
              have g2 : decide (0 ≤ z) = false := decide_eq_false (by omega)
              clear hneg
              have ki := hL5.list (by omega)
              clear hz hno
              refine kl.mono ?_
              clear kl
              rintro e wq ⟨rfl, rfl⟩
              go_wp2_with (first
                | (go_at_call 14; refine kf.mono ?_; clear kf; rintro e wq ⟨rfl, rfl⟩)
                | (go_at_call 18; refine ki.mono ?_; clear ki; rintro e wi ⟨Ai, ci, rfl, howni, hLi, hbi⟩; have hDi := hD5.below hbi; obtain ⟨Aj, cj, ej, -, -, -, hi⟩ := Lie.own howni; injection ej with ej _ ek; subst ej; clear ek howni)
                | (go_at_call 12; refine (rsame_true L _ _ _ _ _ _ wi hi hDi.lie (Nat.le_trans hDi.le hDi.cap)).mono ?_; rintro e wj ⟨rfl, hbj⟩; have hLj := hLi.up hbj; have hDj := hDi.below hbj; clear hbj hi)
                | (go_at_call 19; refine hLj.len.mono ?_; rintro e wq ⟨rfl, rfl⟩))
              go_roundw
              case rel => exact ⟨k + 1, _, _, _, by omega, by go_num, rfl, hDj, hLj, HN5, by omega⟩
              case measure => simp [intOf]; omega
            · have kl := hL5.place_yes x j hz
              have kf := doc_find hD5 x
              rw [hz] at kf
              have ki := hL5.list (by omega)
              clear hz
              refine kl.mono ?_
              clear kl
              rintro e wq ⟨rfl, rfl⟩
              go_wp2_with (first
                | (go_at_call 14; refine kf.mono ?_; clear kf; rintro e wq ⟨rfl, rfl⟩)
                | (go_at_call 18; refine ki.mono ?_; clear ki; rintro e wi ⟨Ai, ci, rfl, howni, hLi, hbi⟩; have hDi := hD5.below hbi; obtain ⟨Aj, cj, ej, -, -, -, hi⟩ := Lie.own howni; injection ej with ej _ ek; subst ej; clear ek howni)
                | (go_at_call 12; refine (rsame_true L _ _ _ _ _ _ wi hi hDi.lie (Nat.le_trans hDi.le hDi.cap)).mono ?_; rintro e wj ⟨rfl, hbj⟩; have hLj := hLi.up hbj; have hDj := hDi.below hbj; clear hbj hi)
                | (go_at_call 19; refine hLj.len.mono ?_; rintro e wq ⟨rfl, rfl⟩))
              go_roundw
              case rel => exact ⟨k + 1, _, _, _, by omega, by go_num, rfl, hDj, hLj, HN5, by omega⟩
              case measure => simp [intOf]; omega
    · obtain rfl : k = ops.length := by omega
      go_wp2
      go_ret
      exact ⟨rfl, hL.below⟩

theorem walk (l : List Int) (A : Option Addr) (c : Nat) (ops : List (Int × Int)) (A2 : Option Addr) (c2 : Nat) (w : World) (hr : Row w w.heap.size A (ivals l)) (hf : ∀ x ∈ l, -9223372036854775808 ≤ x ∧ x ≤ 9223372036854775807) (hc : l.length ≤ c) (hcm : c ≤ maxLen) (hz : A = none → c = 0) (ho : PairsIn w w.heap.size A2 ops) (hc2 : ops.length ≤ c2) (hcm2 : c2 ≤ maxLen) :
    Calls Try.prog 3 #[.slice A l.length c, .slice A2 ops.length c2] w fun e w' => e = .returned (.bool true) ∧ Below w.heap.size w w' := by
  by_cases h : 400 < l.length ∨ 100 < ops.length
  · exact early l A c ops A2 c2 w hc hcm hc2 hcm2 h
  · have h1 : ¬ 400 < l.length := fun e => h (.inl e)
    have h2 : ¬ 100 < ops.length := fun e => h (.inr e)
    have kr := fun (w1 : World) (hb : Below w.heap.size w w1) => rwrong_is l _ A c w1 (Lie.ofRow (hr.below hb)) hc hcm
    rcases wrong_cases l with ⟨h4, e⟩ | ⟨h4, h5, e⟩ | ⟨h4, h5, h6, e⟩ | ⟨h4, h5, h6, e⟩
    · rw [e] at kr
      exact refused l A c 2 ops A2 c2 w hc hcm hc2 hcm2 h1 h2 (.inl rfl) (fun w1 hb => new_below l _ A c w1 (Lie.ofRow (hr.below hb)) (by omega) h4) kr
    · rw [e] at kr
      exact refused l A c 231 ops A2 c2 w hc hcm hc2 hcm2 h1 h2 (.inr (.inl rfl)) (fun w1 hb => new_twice l _ A c w1 (Lie.ofRow (hr.below hb)) (by omega) h4 h5) kr
    · rw [e] at kr
      exact refused l A c 161 ops A2 c2 w hc hcm hc2 hcm2 h1 h2 (.inr (.inr rfl)) (fun w1 hb => new_full l _ A c w1 (Lie.ofRow (hr.below hb)) (by omega) h4 h5 h6) kr
    · exact runs l A c ops A2 c2 w hr hc hcm hz ho hc2 hcm2 h1 h2 h4 h5 h6

theorem own : ownKnob Try.prog.godebug = none := by kernel_rfl
theorem laidOut : laidOutB Try.prog = true := by kernel_rfl

set_option maxRecDepth 100000 in
theorem lifted (os : Os) (started : os.Started) (H : Type) (enc : TypeId × Value → H) :
    ReturnsInHanded {} Try.checked os 3 .any (Rows.linePlaysSpec.pre6 enc Try.prog Try.f3 Rows.linePlaysRow.domain false) (Rows.linePlaysSpec.post enc Try.prog Try.f3 false true false false) := by
  refine returnsInHanded_of_change (C := Try.checked) own started (by kernel_rfl) Try.func3
    (ChangeSpec.witness6 (enc := enc) (C := Try.checked) false ⟨#[], #[.slice none 0 0, .slice none 0 0], []⟩ 8 (by kernel_rfl) (by kernel_rfl) (by kernel_rfl) (by kernel_rfl)) ?_
  intro W base args ds gs before hval0 hW hcnd _
  have hval : ∀ (j : Nat) t v, Try.f3.params[j]? = some t → args[j]? = some v → Value.okWide Try.prog W .any base t v := hval0
  have hW' := hW
  obtain ⟨p, q, hA0, hV, rfl, hfz, hnd⟩ := hW
  have hlt : ∀ x ∈ p ++ q, x.block < W.heap.size := fun x hx => hW'.lt x hx
  have hA : DataW.TrodAll enc Try.prog W 0 (fun _ => true) true Try.f3.params.toList args.toList ds p := hA0
  rw [Try.params3] at hA hval
  obtain ⟨v0, vs0, d0, ds0, p0, q0, hargs, rfl, rfl, h0, r0⟩ := trodAll_cons hA
  obtain ⟨v1, vs1, d1, ds1, p1, q1, rfl, rfl, rfl, h1, r1⟩ := trodAll_cons r0
  obtain ⟨rfl, rfl, rfl⟩ := trodAll_nil r1
  obtain rfl : args = #[v0, v1] := by cases args; simp_all
  obtain ⟨rfl, rfl⟩ := trodVars_none hV
  obtain ⟨A0, n0, c0, rfl⟩ := okWide_slice Try.underlying22 (hval 0 22 v0 rfl rfl)
  obtain ⟨l0, hl0, hf0, hc0, hm0, hz0, hr0⟩ := open_i64s Try.underlying22 Try.underlying3 (by kernel_rfl) h0
  subst hl0
  obtain ⟨A1, n1, c1, rfl⟩ := okWide_slice Try.underlying23 (hval 1 23 v1 rfl rfl)
  obtain ⟨l1, hl1, hc1, hm1, ho1⟩ := open_pairs Try.underlying23 Try.underlying31 (by kernel_rfl) Try.underlying3 Try.underlying3 (by kernel_rfl) h1
  subst hl1
  clear hA0 hval0
  refine (walk l0 A0 c0 l1 A1 c1 W hr0 hf0 hc0 hm0 hz0 ho1 hc1 hm1).mono fun e W' ⟨he, hg⟩ => ?_
  subst he
  exact ⟨_, rfl, law_post laidOut (by kernel_rfl) rfl rfl Try.underlying4 rfl hW' hg⟩

theorem over : Rows.linePlaysRow.holds Try.pinned (OpenSpec.ofChange Rows.linePlaysSpec) :=
  OpenClaim.holds_of_wide 3 Try.f3 rfl rfl rfl rfl rfl rfl rfl ⟨rfl, rfl, rfl, rfl, rfl⟩ rfl rfl rfl rfl rfl (by kernel_rfl) Try.func3 (by kernel_rfl)
    (of_decide_eq_true (by kernel_rfl)) (by unfold Func.isWrapper; first | (rw [if_pos (by decide +kernel)]; kernel_rfl) | (rw [if_neg (by decide +kernel)]; exact ⟨rfl, rfl⟩))
    (fun os started H enc _ => lifted os started H enc)

/-- The statement. -/
theorem proved : Rows.LinePlaysSaid := over
#print axioms proved
end LinePlays
end Go.Proofs.Ytmpkhjbfanbfiaa
