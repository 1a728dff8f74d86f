/- Law RollTurns (P20.2, P20.3): any ring, turned by any marks, and any member's run, are the document's. No condition. -/
import Derived.Test.YtbahcbnnogdmfaaRows
import Derived.Test.YtbahcbnnogdmfaaLawR
import Derived.Test.YtbahcbnnogdmfaaRolD
namespace Go.Proofs.Ytbahcbnnogdmfaa.RollTurns
open Go.ChangeShapes Go.WideShapes Go.ChangeAt Go.RowKit
set_option linter.unusedVariables false
set_option linter.unusedSimpArgs false

set_option maxRecDepth 100000 in
set_option maxHeartbeats 2000000 in
theorem walk_short (l L3 : List BV) (ms : List Nat) (i : Int) (A Am : Option Addr) (c cm : Nat) (w : World) (hr : Ring w A l) (hm : Row w w.heap.size Am (u8s ms)) (hx : ∀ x ∈ ms, x < 256) (hz : A = none → c = 0) (hl : l.length ≤ c) (hc : c ≤ maxLen) (hi : i ≤ 9223372036854775807)
    (h50 : l.length ≤ 50) (hs : ∀ b ∈ l, b.bs.length ≤ 100) (hms : ms.length ≤ 100) (hmm : ∀ b ∈ l, b.bs.length ≤ maxLen) (h8 : l.length ≤ 8) :
    Calls Try.prog 4 #[.slice A l.length c, .slice Am ms.length cm, .int .i64 i] w fun e w' => e = .returned (.bool true) ∧ Below w.heap.size w w' := by
  have hD : decide ((l.length : Int) ≤ 8) = true := decide_eq_true (by omega)
  have hD2 : decide ((100 : Int) < (ms.length : Int)) = false := decide_eq_false (by omega)
  obtain ⟨n, hn⟩ : ∃ n, l.length = n := ⟨_, rfl⟩
  obtain ⟨q, hq⟩ : ∃ q, lasting (l.map BV.bs) i = q := ⟨_, rfl⟩
  have hq50 : q ≤ 50 := by
    rw [← hq]
    refine Nat.le_trans (lasting_le _ _) ?_
    rw [List.length_map]
    exact h50
  have kf := fun u (h : Ring u A l) => few_is l A c u h hl hc hmm
  have kf : ∀ u, Ring u A l → Calls Try.prog 12 #[.slice A l.length c] u fun e w' => e = .returned (.bool true) ∧ u = w' := fun u h => (kf u h).mono fun e w' h2 => ⟨answers_true h2.1 ⟨h50, hs⟩, h2.2⟩
  have kt := fun u (h : Ring u A l) (h' : Row u u.heap.size Am (u8s ms)) => turn_is l ms A Am c cm u h h' (fun b hb => by have := hs b hb; omega) (by omega) hl hc
  have jt := fun u (h : Ring u A l) => rturn_is l ms A Am c cm u h hl hc
  have kr := fun u (h : Ring u A l) => run_is l i A c u h hl hc hi
  have jr := fun u (h : Ring u A l) => rrun_is l i A c u h hl hc hi
  have kc := fun u (h : Ring u A l) (h' : Row u u.heap.size Am (u8s ms)) => check_is l ms A Am c cm u h h' hx hz hl hc
  have kR := fun u (h' : Row u u.heap.size Am (u8s ms)) => rright_is ms _ Am cm u (row_lies h') hx (by omega)
  rw [hq] at kr jr
  have hall : ∀ x ∈ turned (l.map BV.bs) ms, ∀ y ∈ x, y < 256 := by
    intro x hx' y hy
    unfold turned at hx'
    rcases List.mem_cons.1 hx' with rfl | h
    · exact hx y hy
    · obtain ⟨b, hb, rfl⟩ := List.mem_map.1 (List.mem_of_mem_take h)
      exact (hr.each b hb).2 y hy
  have htl : (turned (l.map BV.bs) ms).length ≤ 8 := by unfold turned; simp; omega
  have hts : ∀ x ∈ turned (l.map BV.bs) ms, x.length ≤ 1000 := by
    intro x hx'
    unfold turned at hx'
    rcases List.mem_cons.1 hx' with rfl | h
    · omega
    · obtain ⟨b, hb, rfl⟩ := List.mem_map.1 (List.mem_of_mem_take h)
      have := hs b hb
      omega
  obtain ⟨L4, hL4⟩ : ∃ L : List BV, L = ⟨Am, ms, cm⟩ :: l.take 7 := ⟨_, rfl⟩
  rw [← hL4] at jt
  have h4m : L4.map BV.bs = turned (l.map BV.bs) ms := by rw [hL4]; unfold turned; rw [← List.map_take]; rfl
  have h4e : ∀ u, Ring u A l → Row u u.heap.size Am (u8s ms) → ∀ b ∈ L4, Row u u.heap.size b.row (u8s b.bs) ∧ ∀ x ∈ b.bs, x < 256 := by
    intro u h h' b hb
    rw [hL4] at hb
    rcases List.mem_cons.1 hb with rfl | h2
    · exact ⟨h', hx⟩
    · exact h.each b (List.mem_of_mem_take h2)
  have hRR : ∀ r : Bool, (r = true ↔ IsMarks ms) → ∀ b : Bool, (b = true ↔ (r = true ∧ ∀ x ∈ l, IsMarks x.bs)) → l.length ≤ 8 → (b = true ↔ (RightRing (l.map BV.bs) ms )) := by
    intro r h1 b h2 h3
    unfold RightRing
    rw [h2, h1, List.length_map]
    simp [h3]
  have hno : Hid (True) := Lib.hid (trivial)
  have HL := Lib.hid hn
  have KF := Lib.hid kf
  have KT := Lib.hid kt
  have JT := Lib.hid jt
  have KR := Lib.hid kr
  have JR := Lib.hid jr
  have KC := Lib.hid kc
  have KRI := Lib.hid kR
  have HALL := Lib.hid hall
  have HTL := Lib.hid htl
  have HTS := Lib.hid hts
  have HTS2 := Lib.hid hs
  have H4M := Lib.hid h4m
  have H4E := Lib.hid h4e
  have HRR := Lib.hid hRR
  have H8 := Lib.hid h8
  clear kf kt jt kr jr kc kR hall htl hts h4m h4e hRR h8 hL4 hq hs hmm hz hl hc
  have hI : (l.length : Int) ≤ 50 := by omega
  have hn50 : n ≤ 50 := by omega
  rw [hn] at hI hD KF KT JT KR JR KC ⊢
  clear hn h50
  go_enter Try.func4, Try.ntmps4
  go_wp2_with (first
    | (go_at_call 6; refine (roll_awake w).mono ?_; rintro e w1 ⟨rfl, hb1⟩; have hr1 := hr.up hb1; have hm1 := row_kept hm hb1; have kf := Lib.hid (KF.out w1 hr1); have kR := Lib.hid (KRI.out w1 hm1); clear KF KRI)
    | (go_at_call 12; refine kf.out.mono ?_; clear kf; rintro e w2 ⟨rfl, rfl⟩)
    | (go_at_call 11; refine kR.out.mono ?_; clear kR; rintro e w2 ⟨⟨r, rfl, hr0⟩, rfl⟩; have HR0 := Lib.hid hr0; clear hr0))
  go_loopw [7, 29] (fun bv iv wr => ∃ (k : Nat) (b : Bool), k ≤ n ∧ iv = .int .i64 (k : Int) ∧ bv = .bool b ∧ Hid (b = true ↔ (r = true ∧ ∀ x ∈ l.take k, IsMarks x.bs)) ∧ w1 = wr) (fun _ iv _ => n - (intOf iv).toNat)
  case atStart => exact ⟨0, r, Nat.zero_le _, rfl, rfl, Lib.hid (by simp), rfl⟩
  case round =>
    obtain ⟨k, b, hk, rfl, rfl, HB, rfl⟩ := hrel
    by_cases hlt : k < n
    · have hlt' : k < l.length := by rw [HL.out]; exact hlt
      obtain ⟨a, rfl, hab, hcell, hrow, hxx⟩ := hr1.at hlt'
      have htk := List.take_succ_eq_append_getElem hlt'
      obtain ⟨bb, hbb⟩ : ∃ b, l[k] = b := ⟨_, rfl⟩
      rw [hbb] at hcell hrow hxx htk
      obtain ⟨Ab, bs, cb⟩ := bb
      simp only at hcell hrow hxx
      have hkI : (k : Int) < (n : Int) := by omega
      have HTK := Lib.hid htk
      have hbl : Hid (bs.length ≤ 100000) := Lib.hid (by
        have := HTS2.out _ (List.getElem_mem hlt')
        rw [hbb] at this
        simp only at this
        omega)
      have kR := Lib.hid (rright_is bs _ Ab cb w1 (row_lies hrow) hxx hbl.out)
      clear htk hbb hrow hxx hab
      cases b
      · clear kR
        go_wp2
        go_roundw
        case rel =>
          refine ⟨k + 1, false, by omega, by go_num, rfl, Lib.hid ?_, trivial⟩
          have hf := HB.out
          simp only [Bool.false_eq_true, false_iff] at hf ⊢
          intro h
          refine hf ⟨h.1, fun x hx => h.2 x ?_⟩
          rw [HTK.out]
          exact List.mem_append_left _ hx
        case measure => simp [intOf]; omega
      · go_wp2_with (go_at_call 11; refine kR.out.mono ?_; clear kR; rintro e w2 ⟨⟨r', rfl, hr'⟩, rfl⟩; have HR' := Lib.hid hr'; clear hr')
        go_roundw
        case rel =>
          refine ⟨k + 1, r', by omega, by go_num, rfl, Lib.hid ?_, trivial⟩
          rw [HTK.out, HR'.out]
          have ht := HB.out.1 (by trivial)
          constructor
          · intro h
            refine ⟨ht.1, fun x hx => ?_⟩
            rcases List.mem_append.1 hx with h1 | h1
            · exact ht.2 x h1
            · simp at h1; subst h1; exact h
          · intro h
            exact h.2 ⟨Ab, bs, cb⟩ (by simp)
        case measure => simp [intOf]; omega
    · obtain rfl : k = n := by omega
      have hbr : Hid (b = true ↔ RightRing (l.map BV.bs) ms) := Lib.hid (HRR.out r HR0.out b (by
        have h := HB.out
        rwa [← HL.out, List.take_length] at h) H8.out)
      cases b
      · have kt := Lib.hid (KT.out w1 hr1 hm1)
        clear KT HRR hlt
        go_wp2_with (first
          | (go_at_call 14; refine kt.out.mono ?_; clear kt; rintro e w2 ⟨v2, rfl, hmd, hb2⟩; obtain ⟨A3, c3, l3, rfl, hl3, hlc3, hcm3, hz3, hr3⟩ := hmd.ring HALL.out; have hr2 := hr1.up hb2; have hm2 := row_kept hm1 hb2; have jt := Lib.hid (JT.out w2 hr2); have hB2 := Below.then hb1 hb2; have HL3 := Lib.hid hl3; clear hmd hl3 hlc3 hcm3 hz3 hr1 hm1 hb1 hb2 JT)
          | (go_at_call 15; refine jt.out.mono ?_; clear jt; rintro e w3 ⟨v3, rfl, ho4, hb3⟩; obtain ⟨A4, c4, rfl, hc4, hm4, hrow4⟩ := Row.of_own ho4; have hr3b := hr2.up hb3; have hm3 := row_kept hm2 hb3; have hr33 := hr3.up hb3; have hR4 : Ring w3 A4 L4 := ⟨hrow4, H4E.out w3 hr3b hm3⟩; have hB3 := Below.then hB2 hb3; have ks := Lib.hid (rings_same l3 L4 A3 A4 c3 c4 w3 hr33 hR4 (by have h1 := HTL.out; rw [← HL3.out, List.length_map] at h1; omega) (fun b hb => HTS.out _ (by rw [← HL3.out]; exact List.mem_map_of_mem hb)) (by rw [HL3.out, H4M.out])); clear ho4 hc4 hm4 hrow4 hr2 hm2 hr3 hr33 hR4 hB2 hb3)
          | (go_at_call 13; refine ks.out.mono ?_; clear ks; rintro e w4 ⟨rfl, hb4⟩; have hr4 := hr3b.up hb4; have hm4 := row_kept hm3 hb4; have hB4 := Below.then hB3 hb4; have kr := Lib.hid (KR.out w4 hr4); clear hr3b hm3 hB3 hb4 KR)
          | (go_at_call 16; refine kr.out.mono ?_; clear kr; rintro e w5 ⟨rfl, hb5⟩; have hr5 := hr4.up hb5; have hm5 := row_kept hm4 hb5; have hB5 := Below.then hB4 hb5; have jr := Lib.hid (JR.out w5 hr5); have kc := Lib.hid (KC.out w5 hr5 hm5); clear hr4 hm4 hB4 hb5 JR)
          | (go_at_call 17; refine jr.out.mono ?_; clear jr; rintro e w6 ⟨rfl, rfl⟩)
          | (go_at_call 18; refine kc.out.mono ?_; clear kc; rintro e w7 ⟨hck, hb7⟩; obtain rfl := hck.resolve_left (fun h => by have := hbr.out.2 h.1; simp at this) |>.2; have hr7 := hr5.up hb7; have hm7 := row_kept hm5 hb7; have hB7 := Below.then hB5 hb7; have kc2 := Lib.hid (KC.out w7 hr7 hm7); clear hck hr5 hm5 hB5 hb7 KC hr7 hm7)
          | (go_at_call 18; refine kc2.out.mono ?_; clear kc2; rintro e w8 ⟨hck, hb8⟩; obtain rfl := hck.resolve_left (fun h => by have := hbr.out.2 h.1; simp at this) |>.2; have hB8 := Below.then hB7 hb8; clear hck hb8 hB7))
        go_ret
        exact ⟨rfl, hB8⟩
      · have kt := Lib.hid (KT.out w1 hr1 hm1)
        clear KT HRR hlt
        go_wp2_with (first
          | (go_at_call 14; refine kt.out.mono ?_; clear kt; rintro e w2 ⟨v2, rfl, hmd, hb2⟩; obtain ⟨A3, c3, l3, rfl, hl3, hlc3, hcm3, hz3, hr3⟩ := hmd.ring HALL.out; have hr2 := hr1.up hb2; have hm2 := row_kept hm1 hb2; have jt := Lib.hid (JT.out w2 hr2); have hB2 := Below.then hb1 hb2; have HL3 := Lib.hid hl3; clear hmd hl3 hlc3 hcm3 hz3 hr1 hm1 hb1 hb2 JT)
          | (go_at_call 15; refine jt.out.mono ?_; clear jt; rintro e w3 ⟨v3, rfl, ho4, hb3⟩; obtain ⟨A4, c4, rfl, hc4, hm4, hrow4⟩ := Row.of_own ho4; have hr3b := hr2.up hb3; have hm3 := row_kept hm2 hb3; have hr33 := hr3.up hb3; have hR4 : Ring w3 A4 L4 := ⟨hrow4, H4E.out w3 hr3b hm3⟩; have hB3 := Below.then hB2 hb3; have ks := Lib.hid (rings_same l3 L4 A3 A4 c3 c4 w3 hr33 hR4 (by have h1 := HTL.out; rw [← HL3.out, List.length_map] at h1; omega) (fun b hb => HTS.out _ (by rw [← HL3.out]; exact List.mem_map_of_mem hb)) (by rw [HL3.out, H4M.out])); clear ho4 hc4 hm4 hrow4 hr2 hm2 hr3 hr33 hR4 hB2 hb3)
          | (go_at_call 13; refine ks.out.mono ?_; clear ks; rintro e w4 ⟨rfl, hb4⟩; have hr4 := hr3b.up hb4; have hm4 := row_kept hm3 hb4; have hB4 := Below.then hB3 hb4; have kr := Lib.hid (KR.out w4 hr4); clear hr3b hm3 hB3 hb4 KR)
          | (go_at_call 16; refine kr.out.mono ?_; clear kr; rintro e w5 ⟨rfl, hb5⟩; have hr5 := hr4.up hb5; have hm5 := row_kept hm4 hb5; have hB5 := Below.then hB4 hb5; have jr := Lib.hid (JR.out w5 hr5); have kc := Lib.hid (KC.out w5 hr5 hm5); clear hr4 hm4 hB4 hb5 JR)
          | (go_at_call 17; refine jr.out.mono ?_; clear jr; rintro e w6 ⟨rfl, rfl⟩)
          | (go_at_call 18; refine kc.out.mono ?_; clear kc; rintro e w7 ⟨hck, hb7⟩; obtain rfl := hck.resolve_right (fun h => h.1 (hbr.out.1 (by trivial))) |>.2; have hB7 := Below.then hB5 hb7; clear hck hr5 hm5 hB5 hb7 KC))
        go_ret
        exact ⟨rfl, hB7⟩


set_option maxRecDepth 100000 in
set_option maxHeartbeats 2000000 in
theorem walk_long (l L3 : List BV) (ms : List Nat) (i : Int) (A Am : Option Addr) (c cm : Nat) (w : World) (hr : Ring w A l) (hm : Row w w.heap.size Am (u8s ms)) (hx : ∀ x ∈ ms, x < 256) (hz : A = none → c = 0) (hl : l.length ≤ c) (hc : c ≤ maxLen) (hi : i ≤ 9223372036854775807)
    (h50 : l.length ≤ 50) (hs : ∀ b ∈ l, b.bs.length ≤ 100) (hms : ms.length ≤ 100) (hmm : ∀ b ∈ l, b.bs.length ≤ maxLen) (h8 : ¬ l.length ≤ 8) :
    Calls Try.prog 4 #[.slice A l.length c, .slice Am ms.length cm, .int .i64 i] w fun e w' => e = .returned (.bool true) ∧ Below w.heap.size w w' := by
  have hD : decide ((l.length : Int) ≤ 8) = false := decide_eq_false (by omega)
  have hD2 : decide ((100 : Int) < (ms.length : Int)) = false := decide_eq_false (by omega)
  obtain ⟨n, hn⟩ : ∃ n, l.length = n := ⟨_, rfl⟩
  obtain ⟨q, hq⟩ : ∃ q, lasting (l.map BV.bs) i = q := ⟨_, rfl⟩
  have hq50 : q ≤ 50 := by
    rw [← hq]
    refine Nat.le_trans (lasting_le _ _) ?_
    rw [List.length_map]
    exact h50
  have kf := fun u (h : Ring u A l) => few_is l A c u h hl hc hmm
  have kf : ∀ u, Ring u A l → Calls Try.prog 12 #[.slice A l.length c] u fun e w' => e = .returned (.bool true) ∧ u = w' := fun u h => (kf u h).mono fun e w' h2 => ⟨answers_true h2.1 ⟨h50, hs⟩, h2.2⟩
  have kt := fun u (h : Ring u A l) (h' : Row u u.heap.size Am (u8s ms)) => turn_is l ms A Am c cm u h h' (fun b hb => by have := hs b hb; omega) (by omega) hl hc
  have jt := fun u (h : Ring u A l) => rturn_is l ms A Am c cm u h hl hc
  have kr := fun u (h : Ring u A l) => run_is l i A c u h hl hc hi
  have jr := fun u (h : Ring u A l) => rrun_is l i A c u h hl hc hi
  have kc := fun u (h : Ring u A l) (h' : Row u u.heap.size Am (u8s ms)) => check_is l ms A Am c cm u h h' hx hz hl hc
  have kR := fun u (h' : Row u u.heap.size Am (u8s ms)) => rright_is ms _ Am cm u (row_lies h') hx (by omega)
  rw [hq] at kr jr
  have hall : ∀ x ∈ turned (l.map BV.bs) ms, ∀ y ∈ x, y < 256 := by
    intro x hx' y hy
    unfold turned at hx'
    rcases List.mem_cons.1 hx' with rfl | h
    · exact hx y hy
    · obtain ⟨b, hb, rfl⟩ := List.mem_map.1 (List.mem_of_mem_take h)
      exact (hr.each b hb).2 y hy
  have htl : (turned (l.map BV.bs) ms).length ≤ 8 := by unfold turned; simp; omega
  have hts : ∀ x ∈ turned (l.map BV.bs) ms, x.length ≤ 1000 := by
    intro x hx'
    unfold turned at hx'
    rcases List.mem_cons.1 hx' with rfl | h
    · omega
    · obtain ⟨b, hb, rfl⟩ := List.mem_map.1 (List.mem_of_mem_take h)
      have := hs b hb
      omega
  obtain ⟨L4, hL4⟩ : ∃ L : List BV, L = ⟨Am, ms, cm⟩ :: l.take 7 := ⟨_, rfl⟩
  rw [← hL4] at jt
  have h4m : L4.map BV.bs = turned (l.map BV.bs) ms := by rw [hL4]; unfold turned; rw [← List.map_take]; rfl
  have h4e : ∀ u, Ring u A l → Row u u.heap.size Am (u8s ms) → ∀ b ∈ L4, Row u u.heap.size b.row (u8s b.bs) ∧ ∀ x ∈ b.bs, x < 256 := by
    intro u h h' b hb
    rw [hL4] at hb
    rcases List.mem_cons.1 hb with rfl | h2
    · exact ⟨h', hx⟩
    · exact h.each b (List.mem_of_mem_take h2)
  have hRR : ∀ r : Bool, (r = true ↔ IsMarks ms) → ∀ b : Bool, (b = true ↔ (r = true ∧ ∀ x ∈ l, IsMarks x.bs)) → True → (b = true ↔ (RightRing (l.map BV.bs) ms ∨ (IsMarks ms ∧ ∀ x ∈ l, IsMarks x.bs))) := by
    intro r h1 b h2 h3
    unfold RightRing
    rw [h2, h1, List.length_map]
    simp [h8]
  have hno : Hid (¬ RightRing (l.map BV.bs) ms) := Lib.hid (fun h => h8 (by have := h.1; rwa [List.length_map] at this))
  have HL := Lib.hid hn
  have KF := Lib.hid kf
  have KT := Lib.hid kt
  have JT := Lib.hid jt
  have KR := Lib.hid kr
  have JR := Lib.hid jr
  have KC := Lib.hid kc
  have KRI := Lib.hid kR
  have HALL := Lib.hid hall
  have HTL := Lib.hid htl
  have HTS := Lib.hid hts
  have H4M := Lib.hid h4m
  have H4E := Lib.hid h4e
  have HRR := Lib.hid hRR
  have H8 := Lib.hid h8
  clear kf kt jt kr jr kc kR hall htl hts h4m h4e hRR h8 hL4 hq hs hmm hz hl hc
  have hI : (l.length : Int) ≤ 50 := by omega
  have hn50 : n ≤ 50 := by omega
  rw [hn] at hI hD KF KT JT KR JR KC ⊢
  clear hn h50
  go_enter Try.func4, Try.ntmps4
  go_wp2_with (first
    | (go_at_call 6; refine (roll_awake w).mono ?_; rintro e w1 ⟨rfl, hb1⟩; have hr1 := hr.up hb1; have hm1 := row_kept hm hb1; have kf := Lib.hid (KF.out w1 hr1); have kR := Lib.hid (KRI.out w1 hm1); clear KF KRI)
    | (go_at_call 12; refine kf.out.mono ?_; clear kf; rintro e w2 ⟨rfl, rfl⟩))
  clear kR
  go_loopw [7, 29] (fun bv iv wr => ∃ (k : Nat) (b : Bool), k ≤ n ∧ iv = .int .i64 (k : Int) ∧ bv = .bool b ∧ b = false ∧ w1 = wr) (fun _ iv _ => n - (intOf iv).toNat)
  case atStart => exact ⟨0, false, Nat.zero_le _, rfl, rfl, rfl, rfl⟩
  case round =>
    obtain ⟨k, b, hk, rfl, rfl, rfl, rfl⟩ := hrel
    by_cases hlt : k < n
    · have hlt' : k < l.length := by rw [HL.out]; exact hlt
      obtain ⟨a, rfl, hab, hcell, hrow, hxx⟩ := hr1.at hlt'
      have htk := List.take_succ_eq_append_getElem hlt'
      obtain ⟨bb, hbb⟩ : ∃ b, l[k] = b := ⟨_, rfl⟩
      rw [hbb] at hcell hrow hxx htk
      obtain ⟨Ab, bs, cb⟩ := bb
      simp only at hcell hrow hxx
      have hkI : (k : Int) < (n : Int) := by omega
      have HTK := Lib.hid htk
      clear htk hbb hrow hxx hab
      go_wp2
      go_roundw
      case rel => exact ⟨k + 1, false, by omega, by go_num, rfl, rfl, trivial⟩
      case measure => simp [intOf]; omega
    · obtain rfl : k = n := by omega
      have hbr : Hid (false = true ↔ RightRing (l.map BV.bs) ms) := Lib.hid (by simpa using hno.out)
      have kt := Lib.hid (KT.out w1 hr1 hm1)
      clear KT HRR hlt
      go_wp2_with (first
        | (go_at_call 14; refine kt.out.mono ?_; clear kt; rintro e w2 ⟨v2, rfl, hmd, hb2⟩; obtain ⟨A3, c3, l3, rfl, hl3, hlc3, hcm3, hz3, hr3⟩ := hmd.ring HALL.out; have hr2 := hr1.up hb2; have hm2 := row_kept hm1 hb2; have jt := Lib.hid (JT.out w2 hr2); have hB2 := Below.then hb1 hb2; have HL3 := Lib.hid hl3; clear hmd hl3 hlc3 hcm3 hz3 hr1 hm1 hb1 hb2 JT)
        | (go_at_call 15; refine jt.out.mono ?_; clear jt; rintro e w3 ⟨v3, rfl, ho4, hb3⟩; obtain ⟨A4, c4, rfl, hc4, hm4, hrow4⟩ := Row.of_own ho4; have hr3b := hr2.up hb3; have hm3 := row_kept hm2 hb3; have hr33 := hr3.up hb3; have hR4 : Ring w3 A4 L4 := ⟨hrow4, H4E.out w3 hr3b hm3⟩; have hB3 := Below.then hB2 hb3; have ks := Lib.hid (rings_same l3 L4 A3 A4 c3 c4 w3 hr33 hR4 (by have h1 := HTL.out; rw [← HL3.out, List.length_map] at h1; omega) (fun b hb => HTS.out _ (by rw [← HL3.out]; exact List.mem_map_of_mem hb)) (by rw [HL3.out, H4M.out])); clear ho4 hc4 hm4 hrow4 hr2 hm2 hr3 hr33 hR4 hB2 hb3)
        | (go_at_call 13; refine ks.out.mono ?_; clear ks; rintro e w4 ⟨rfl, hb4⟩; have hr4 := hr3b.up hb4; have hm4 := row_kept hm3 hb4; have hB4 := Below.then hB3 hb4; have kr := Lib.hid (KR.out w4 hr4); clear hr3b hm3 hB3 hb4 KR)
        | (go_at_call 16; refine kr.out.mono ?_; clear kr; rintro e w5 ⟨rfl, hb5⟩; have hr5 := hr4.up hb5; have hm5 := row_kept hm4 hb5; have hB5 := Below.then hB4 hb5; have jr := Lib.hid (JR.out w5 hr5); have kc := Lib.hid (KC.out w5 hr5 hm5); clear hr4 hm4 hB4 hb5 JR)
        | (go_at_call 17; refine jr.out.mono ?_; clear jr; rintro e w6 ⟨rfl, rfl⟩)
        | (go_at_call 18; refine kc.out.mono ?_; clear kc; rintro e w7 ⟨hck, hb7⟩; obtain rfl := hck.resolve_left (fun h => by have := hbr.out.2 h.1; simp at this) |>.2; have hr7 := hr5.up hb7; have hm7 := row_kept hm5 hb7; have hB7 := Below.then hB5 hb7; have kc2 := Lib.hid (KC.out w7 hr7 hm7); clear hck hr5 hm5 hB5 hb7 KC hr7 hm7)
        | (go_at_call 18; refine kc2.out.mono ?_; clear kc2; rintro e w8 ⟨hck, hb8⟩; obtain rfl := hck.resolve_left (fun h => by have := hbr.out.2 h.1; simp at this) |>.2; have hB8 := Below.then hB7 hb8; clear hck hb8 hB7))
      go_ret
      exact ⟨rfl, hB8⟩

set_option maxRecDepth 100000 in
set_option maxHeartbeats 1000000 in
theorem walk (l : List BV) (A : Option Addr) (c : Nat) (ms : List Nat) (Am : Option Addr) (cm : Nat) (i : Int) (w : World) (hr : Ring w A l) (hmm : ∀ b ∈ l, b.bs.length ≤ maxLen) (hl : l.length ≤ c) (hc : c ≤ maxLen) (hz : A = none → c = 0)
    (hm : Row w w.heap.size Am (u8s ms)) (hx : ∀ x ∈ ms, x < 256) (hml : ms.length ≤ cm) (hcm : cm ≤ maxLen) (hzm : Am = none → cm = 0) (hi0 : -9223372036854775808 ≤ i) (hi : i ≤ 9223372036854775807) :
    Calls Try.prog 4 #[.slice A l.length c, .slice Am ms.length cm, .int .i64 i] w fun e w' => e = .returned (.bool true) ∧ Below w.heap.size w w' := by
  by_cases hF : l.length ≤ 50 ∧ ∀ b ∈ l, b.bs.length ≤ 100
  · by_cases hM : ms.length ≤ 100
    · by_cases h8 : l.length ≤ 8
      · exact walk_short l [] ms i A Am c cm w hr hm hx hz hl hc hi hF.1 hF.2 hM hmm h8
      · exact walk_long l [] ms i A Am c cm w hr hm hx hz hl hc hi hF.1 hF.2 hM hmm h8
    · have hD2 : decide ((100 : Int) < (ms.length : Int)) = true := decide_eq_true (by omega)
      have hmI : (ms.length : Int) ≤ 9223372036854775807 := by unfold maxLen at hcm; omega
      have kf : ∀ u, Ring u A l → Calls Try.prog 12 #[.slice A l.length c] u fun e w' => e = .returned (.bool true) ∧ u = w' := fun u h => (few_is l A c u h hl hc hmm).mono fun e w' h2 => ⟨answers_true h2.1 hF, h2.2⟩
      have KF := Lib.hid kf
      clear kf hF hM hmm hx hm
      go_enter Try.func4, Try.ntmps4
      go_wp2_with (first
        | (go_at_call 6; refine (roll_awake w).mono ?_; rintro e w1 ⟨rfl, hb1⟩; have kf := Lib.hid (KF.out w1 (hr.up hb1)); clear KF)
        | (go_at_call 12; refine kf.out.mono ?_; clear kf; rintro e w2 ⟨rfl, rfl⟩))
      go_ret
      exact ⟨rfl, hb1⟩
  · have kf : ∀ u, Ring u A l → Calls Try.prog 12 #[.slice A l.length c] u fun e w' => e = .returned (.bool false) ∧ u = w' := fun u h => (few_is l A c u h hl hc hmm).mono fun e w' h2 => ⟨answers_false h2.1 hF, h2.2⟩
    have KF := Lib.hid kf
    clear kf hF hmm hx hm
    go_enter Try.func4, Try.ntmps4
    go_wp2_with (first
      | (go_at_call 6; refine (roll_awake w).mono ?_; rintro e w1 ⟨rfl, hb1⟩; have kf := Lib.hid (KF.out w1 (hr.up hb1)); clear KF)
      | (go_at_call 12; refine kf.out.mono ?_; clear kf; rintro e w2 ⟨rfl, rfl⟩))
    go_ret
    exact ⟨rfl, hb1⟩

theorem own : ownKnob Try.prog.godebug = none := by kernel_rfl
theorem laidOut : laidOutB Try.prog = true := by kernel_rfl

set_option maxRecDepth 100000 in
theorem lifted (os : Os) (started : os.Started) (H : Type) (enc : TypeId × Value → H) :
    ReturnsInHanded {} Try.checked os 4 .any (Rows.rollTurnsSpec.pre6 enc Try.prog Try.f4 Rows.rollTurnsRow.domain false) (Rows.rollTurnsSpec.post enc Try.prog Try.f4 false true false false) := by
  refine returnsInHanded_of_change (C := Try.checked) own started (by kernel_rfl) Try.func4
    (ChangeSpec.witness6 (enc := enc) (C := Try.checked) false ⟨#[], #[.slice none 0 0, .slice none 0 0, .int .i64 0], []⟩ 8 (by kernel_rfl) (by kernel_rfl) (by kernel_rfl) (by kernel_rfl)) ?_
  intro W base args ds gs before hval0 hW hcnd _
  have hval : ∀ (j : Nat) t v, Try.f4.params[j]? = some t → args[j]? = some v → Value.okWide Try.prog W .any base t v := hval0
  have hW' := hW
  obtain ⟨p, q, hA0, hV, rfl, hfz, hnd⟩ := hW
  have hlt : ∀ x ∈ p ++ q, x.block < W.heap.size := fun x hx => hW'.lt x hx
  have hA : DataW.TrodAll enc Try.prog W 0 (fun _ => true) true Try.f4.params.toList args.toList ds p := hA0
  rw [Try.params4] at hA hval
  obtain ⟨v0, vs0, d0, ds0, p0, q0, hargs, rfl, rfl, h0, r0⟩ := trodAll_cons hA
  obtain ⟨v1, vs1, d1, ds1, p1, q1, rfl, rfl, rfl, h1, r1⟩ := trodAll_cons r0
  obtain ⟨v2, vs2, d2, ds2, p2, q2, rfl, rfl, rfl, h2, r2⟩ := trodAll_cons r1
  obtain ⟨rfl, rfl, rfl⟩ := trodAll_nil r2
  obtain rfl : args = #[v0, v1, v2] := by cases args; simp_all
  obtain ⟨rfl, rfl⟩ := trodVars_none hV
  obtain ⟨A0, n0, c0, rfl⟩ := okWide_slice Try.underlying33 (hval 0 33 v0 rfl rfl)
  obtain ⟨l0, hl0, hb0, hc0, hm0, hz0, hr0⟩ := open_bss h0
  subst hl0
  obtain ⟨A1, n1, c1, rfl⟩ := okWide_slice Try.underlying22 (hval 1 22 v1 rfl rfl)
  obtain ⟨ns1, hl1, hn1, hc1, hm1, hr1, hA1⟩ := open_u8s Try.underlying22 Try.underlying5 (by kernel_rfl) h1
  subst hl1
  obtain ⟨a2, rfl, rfl, rfl, w2⟩ := open_int Try.underlying3 (hval 2 3 v2 rfl rfl) h2
  have b2 := i64_fits w2
  clear hA0 hval0
  refine (walk l0 A0 c0 ns1 A1 c1 a2 W hr0 hb0 hc0 hm0 hz0 hr1 hn1 hc1 hm1 hA1 b2.1 b2.2).mono fun e W' ⟨he, hg⟩ => ?_
  subst he
  exact ⟨_, rfl, law_post laidOut (by kernel_rfl) rfl rfl Try.underlying4 rfl hW' hg⟩

theorem over : Rows.rollTurnsRow.holds Try.pinned (OpenSpec.ofChange Rows.rollTurnsSpec) :=
  OpenClaim.holds_of_wide 4 Try.f4 rfl rfl rfl rfl rfl rfl rfl ⟨rfl, rfl, rfl, rfl, rfl⟩ rfl rfl rfl rfl rfl (by kernel_rfl) Try.func4 (by kernel_rfl)
    (of_decide_eq_true (by kernel_rfl)) (by unfold Func.isWrapper; first | (rw [if_pos (by decide +kernel)]; kernel_rfl) | (rw [if_neg (by decide +kernel)]; exact ⟨rfl, rfl⟩))
    (fun os started H enc _ => lifted os started H enc)

/-- The statement. -/
theorem proved : Rows.RollTurnsSaid := over
#print axioms proved
end Go.Proofs.Ytbahcbnnogdmfaa.RollTurns
