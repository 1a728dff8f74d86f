/- Layer 23 (moot): what is over, where one more has its place, what is ripe. By contracts. -/
import Derived.Test.YtcaejanfhchacaaMooM
import Derived.Test.YtcaejanfhchacaaMotW
import Derived.Test.YtcaejanfhchacaaMooW
import Derived.Shelf.Abstract
import Derived.Deep.AppendLies
namespace Go.Proofs.Ytcaejanfhchacaa
open Go.RowKit Go.Shelf
set_option linter.unusedVariables false
set_option linter.unusedSimpArgs false

set_option maxRecDepth 100000 in
set_option maxHeartbeats 1000000 in
theorem over_is (m : Mot) (w : World) : Calls Try.prog 86 #[.agg (Rec.vals m)] w fun e w' => e = .returned (.bool (m.pure.over)) ∧ Below w.heap.size w w' := by
  have hB : Below w.heap.size w (w.alloc (.cells (Rec.vals m) 40)) := (Below.refl _ _).alloc (Nat.le_refl _) _
  have hO : (w.alloc (.cells (Rec.vals m) 40)).cell? ⟨w.heap.size, 30, none⟩ = some (.int .i64 m.st) := (RecAt.new w (Rec.vals m) 40).cell 30
  by_cases h3 : m.st = 3
  · have e : m.pure.over = true := by simp [PMot.over, Mot.pure, h3]
    rw [e]
    rw [h3] at hO
    clear h3 e
    go_enter Try.func86, Try.ntmps86
    go_wp2
    go_ret
    exact ⟨by first | rfl | simp, hB⟩
  · by_cases h4 : m.st = 4
    · have e : m.pure.over = true := by simp [PMot.over, Mot.pure, h4]
      rw [e]
      rw [h4] at hO
      clear h3 h4 e
      go_enter Try.func86, Try.ntmps86
      go_wp2
      go_ret
      exact ⟨by first | rfl | simp, hB⟩
    · have e : m.pure.over = false := by simp [PMot.over, Mot.pure, h3, h4]
      rw [e]
      have b3 : (m.st == 3) = false := by simp [h3]
      have b4 : (m.st == 4) = false := by simp [h4]
      clear h3 h4 e
      go_enter Try.func86, Try.ntmps86
      go_wp2
      go_ret
      exact ⟨by first | rfl | simp, hB⟩

set_option maxRecDepth 100000 in
set_option maxHeartbeats 1000000 in
theorem urgent_is (m : Mot) (w : World) : Calls Try.prog 64 #[.agg (Rec.vals m)] w fun e w' => e = .returned (.bool ((decide (m.what = 3) || decide (m.what = 4)))) ∧ Below w.heap.size w w' := by
  have hB : Below w.heap.size w (w.alloc (.cells (Rec.vals m) 40)) := (Below.refl _ _).alloc (Nat.le_refl _) _
  have hO : (w.alloc (.cells (Rec.vals m) 40)).cell? ⟨w.heap.size, 1, none⟩ = some (.int .i64 m.what) := (RecAt.new w (Rec.vals m) 40).cell 1
  by_cases h3 : m.what = 3
  · have e : (decide (m.what = 3) || decide (m.what = 4)) = true := by simp [PMot.over, Mot.pure, h3]
    rw [e]
    rw [h3] at hO
    clear h3 e
    go_enter Try.func64, Try.ntmps64
    go_wp2
    go_ret
    exact ⟨by first | rfl | simp, hB⟩
  · by_cases h4 : m.what = 4
    · have e : (decide (m.what = 3) || decide (m.what = 4)) = true := by simp [PMot.over, Mot.pure, h4]
      rw [e]
      rw [h4] at hO
      clear h3 h4 e
      go_enter Try.func64, Try.ntmps64
      go_wp2
      go_ret
      exact ⟨by first | rfl | simp, hB⟩
    · have e : (decide (m.what = 3) || decide (m.what = 4)) = false := by simp [PMot.over, Mot.pure, h3, h4]
      rw [e]
      have b3 : (m.what == 3) = false := by simp [h3]
      have b4 : (m.what == 4) = false := by simp [h4]
      clear h3 h4 e
      go_enter Try.func64, Try.ntmps64
      go_wp2
      go_ret
      exact ⟨by first | rfl | simp, hB⟩

/-- None of the first k. -/
def NoneP {α : Type} (p : α → Bool) (l : List α) (k : Nat) : Prop := ∀ j x, j < k → l[j]? = some x → p x = false
theorem NoneP.succ {α : Type} {p : α → Bool} {l : List α} {k : Nat} {s : α} (h : NoneP p l k) (hk : l[k]? = some s) (h0 : p s = false) : NoneP p l (k + 1) := fun j x hj hx => by
  by_cases e : j = k
  · subst e
    rw [hk] at hx
    cases hx
    exact h0
  · exact h j x (by omega) hx
theorem NoneP.all {α : Type} {p : α → Bool} {l : List α} (h : NoneP p l l.length) : l.findIdx? p = none := by
  rw [List.findIdx?_eq_none_iff]
  intro x hx
  obtain ⟨j, hj, rfl⟩ := List.getElem_of_mem hx
  exact h j _ hj (List.getElem?_eq_getElem hj)
theorem NoneP.hit {α : Type} {p : α → Bool} {l : List α} {k : Nat} {s : α} (h : NoneP p l k) (hk : l[k]? = some s) (h1 : p s = true) : l.findIdx? p = some k := by
  obtain ⟨hlt, e⟩ := List.getElem?_eq_some_iff.1 hk
  rw [List.findIdx?_eq_some_iff_getElem]
  refine ⟨hlt, by rw [e]; exact h1, fun j hj => ?_⟩
  have := h j _ hj (List.getElem?_eq_getElem (by omega))
  simp [this]
/-- A place, or -1. -/
def spotOf : Option Nat → Int
  | some k => (k : Int)
  | none => -1
theorem freeOf_none {L : List PMot} (h : NoneP PMot.over L L.length) : freeOf L = L.length := by unfold freeOf; rw [h.all]; rfl
theorem freeOf_hit {L : List PMot} {k : Nat} {q : PMot} (h : NoneP PMot.over L k) (hk : L[k]? = some q) (h1 : q.over = true) : freeOf L = k := by unfold freeOf; rw [h.hit hk h1]; rfl

set_option maxRecDepth 100000 in
set_option maxHeartbeats 1000000 in
theorem index_over (l : List Mot) (A : Option Addr) (c : Nat) (w : World) (hm : Mots w A c l) (hlen : l.length ≤ 100000) :
    Calls Try.prog 85 #[.slice A l.length c, .func (.func 86) #[] #[]] w fun e w' => e = .returned (.int .i64 (spotOf ((l.map Mot.pure).findIdx? PMot.over))) ∧ Below w.heap.size w w' := by
  have eg := enters_of (P := Try.prog) Try.func86 (by kernel_rfl) rfl
  have HM := Lib.hid hm
  clear hm
  go_enter Try.func85, Try.ntmps85
  go_wp2
  go_loopw [8] (fun i wr => ∃ k : Nat, k ≤ l.length ∧ i = .int .i64 k ∧ Hid (NoneP PMot.over (l.map Mot.pure) k) ∧ Below w.heap.size w wr) (fun i _ => l.length - (intOf i).toNat)
  case atStart => exact ⟨0, Nat.zero_le _, rfl, Lib.hid (fun j x hj => absurd hj (Nat.not_lt_zero _)), Below.refl _ _⟩
  case round =>
    obtain ⟨k, hk, rfl, HN, hB⟩ := hrel
    by_cases hlt : k < l.length
    · obtain ⟨s, hs⟩ : ∃ s, l[k]? = some s := ⟨_, List.getElem?_eq_getElem hlt⟩
      obtain ⟨a, rfl, hab, hat, hMA⟩ := (HM.out.up hB).at hs
      have hki : (k : Int) < (l.length : Int) := by omega
      have hk0 : (0 : Int) ≤ (k : Int) := by omega
      have HS : Hid ((l.map Mot.pure)[k]? = some s.pure) := Lib.hid (by rw [List.getElem?_map, hs]; rfl)
      have kw := over_is s wr
      clear hs hMA hab
      by_cases hsm : s.pure.over = true
      · rw [hsm] at kw
        have HM2 := Lib.hid hsm
        clear hsm
        go_wp2_with (first
          | ((with_reducible refine slot_is 15 rfl ?_); refine load_rec 40 _ rfl rfl _ (Rec.vals s) rfl hat Try.underlying40 size_mot ?_)
          | (go_at_call 86; refine kw.mono ?_; clear kw; rintro e w3 ⟨rfl, hb3⟩)
          | (go_at_fn 86; refine kw.mono ?_; clear kw; rintro e w3 ⟨rfl, hb3⟩))
        go_ret
        exact ⟨by rw [HN.out.hit HS.out HM2.out]; rfl, Below.then hB hb3⟩
      · have hsm : s.pure.over = false := by simpa using hsm
        rw [hsm] at kw
        have HM2 := Lib.hid hsm
        clear hsm
        go_wp2_with (first
          | ((with_reducible refine slot_is 15 rfl ?_); refine load_rec 40 _ rfl rfl _ (Rec.vals s) rfl hat Try.underlying40 size_mot ?_)
          | (go_at_call 86; refine kw.mono ?_; clear kw; rintro e w3 ⟨rfl, hb3⟩)
          | (go_at_fn 86; refine kw.mono ?_; clear kw; rintro e w3 ⟨rfl, hb3⟩))
        go_roundw
        case rel => exact ⟨k + 1, by omega, by go_num, Lib.hid (HN.out.succ HS.out HM2.out), Below.then hB hb3⟩
        case measure => simp [intOf]; omega
    · obtain rfl : k = l.length := by omega
      have hN := HN.out
      have HN2 : Hid (NoneP PMot.over (l.map Mot.pure) (l.map Mot.pure).length) := Lib.hid (by rw [List.length_map]; exact hN)
      clear hN HN
      go_wp2
      go_ret
      exact ⟨by rw [HN2.out.all]; rfl, hB⟩

set_option maxRecDepth 100000 in
set_option maxHeartbeats 1000000 in
/-- Where one more has its place. -/
theorem free_is (l : List Mot) (A : Option Addr) (c : Nat) (w : World) (hm : Mots w A c l) (hlen : l.length ≤ 100000) :
    Calls Try.prog 46 #[.slice A l.length c] w fun e w' => e = .returned (.int .i64 ((freeOf (l.map Mot.pure) : Nat) : Int)) ∧ Below w.heap.size w w' := by
  have ki := index_over l A c w hm hlen
  unfold freeOf
  cases hf : (l.map Mot.pure).findIdx? PMot.over with
  | none =>
    rw [hf] at ki
    have ki2 : Calls Try.prog 85 #[.slice A l.length c, .func (.func 86) #[] #[]] w fun e w' => e = .returned (.int .i64 (-1)) ∧ Below w.heap.size w w' := ki
    have KI := Lib.hid ki2
    clear ki ki2 hm hf
    go_enter Try.func46, Try.ntmps46
    go_wp2_with (go_at_call 85; refine KI.out.mono ?_; clear KI; rintro e w3 ⟨rfl, hb3⟩)
    go_ret
    exact ⟨by simp, hb3⟩
  | some k =>
    rw [hf] at ki
    have ki2 : Calls Try.prog 85 #[.slice A l.length c, .func (.func 86) #[] #[]] w fun e w' => e = .returned (.int .i64 (k : Int)) ∧ Below w.heap.size w w' := ki
    have KI := Lib.hid ki2
    have hk0 : (0 : Int) ≤ (k : Int) := by omega
    clear ki ki2 hm hf
    go_enter Try.func46, Try.ntmps46
    go_wp2_with (go_at_call 85; refine KI.out.mono ?_; clear KI; rintro e w3 ⟨rfl, hb3⟩)
    go_ret
    exact ⟨by first | rfl | simp, hb3⟩

set_option maxRecDepth 100000 in
set_option maxHeartbeats 4000000 in
theorem ripe_is (l : List Mot) (A : Option Addr) (c : Nat) (ep : Int) (q : Bool) (w : World) (hm : Mots w A c l) (hl : l.length ≤ 100000) :
    Calls Try.prog 26 #[.slice A l.length c, .int .i64 ep, .bool q] w fun e w' => ∃ A' c', e = .returned (.slice A' (ripes (l.map Mot.pure) ep q l.length).length c') ∧ Row w' w'.heap.size A' (zvals (ripes (l.map Mot.pure) ep q l.length)) ∧ Below w.heap.size w w' := by
  obtain ⟨i0, hi0, hz0, hz1, hz2⟩ := info_parts zval_info
  have HM := Lib.hid hm
  clear hm
  go_enter Try.func26, Try.ntmps26
  go_wp2
  go_loopw [7, 12] (fun v7 iv wr => ∃ (k : Nat) (l1 : List Int), k ≤ l.length ∧ iv = .int .i64 (k : Int) ∧ Hid (ripes (l.map Mot.pure) ep q k = l1) ∧ Hid (wr.ownsRow w.heap.size 3 1 v7 l1.length (zvals l1)) ∧ Below w.heap.size w wr) (fun _ iv _ => l.length - (intOf iv).toNat)
  case atStart => exact ⟨0, [], Nat.zero_le _, rfl, Lib.hid rfl, Lib.hid (World.ownsRow_nil _ _ _ _), Below.refl _ _⟩
  case round =>
    obtain ⟨k, l1, hk, rfl, HP, HO, hB⟩ := hrel
    by_cases hlt : k < l.length
    · obtain ⟨m, hs⟩ : ∃ m, l[k]? = some m := ⟨_, List.getElem?_eq_getElem hlt⟩
      obtain ⟨a, rfl, hab, hat, hMA⟩ := (HM.out.up hB).at hs
      have hki : (k : Int) < (l.length : Int) := by omega
      have hk0 : (0 : Int) ≤ (k : Int) := by omega
      have hpj : (l.map Mot.pure)[k]? = some m.pure := by rw [List.getElem?_map, hs]; rfl
      have HLN := Lib.hid (show l1.length ≤ k by rw [← HP.out]; exact ripes_len _ _ _ _)
      have hyes := fun h => (ripes_yes (epoch := ep) (q := q) hpj h).trans (congrArg (· ++ [(k : Int)]) HP.out)
      have hno := fun h => (ripes_no (epoch := ep) (q := q) hpj h).trans HP.out
      have ku := fun W => urgent_is m W
      clear hs hab hMA hpj HP
      by_cases hst : m.st = 2
      · by_cases hdue : m.due ≤ ep
        · have d1 : decide (m.due ≤ ep) = true := decide_eq_true hdue
          cases q with
          | true =>
            have HP2 := Lib.hid (hyes (by simp [PMot.ripe, Mot.pure, hst, hdue]))
            clear hyes hno
            clear ku
            go_wp2_with (first
              | (refine load_rec 40 _ rfl rfl _ (Rec.vals m) rfl hat Try.underlying40 size_mot ?_)
              | (refine store_rec 40 _ _ rfl rfl _ (Rec.vals m) (Rec.vals Mot.zero) 40 rfl rfl (RecAt.new _ (Rec.vals Mot.zero) _) size_mot rfl (Rec.one m) ?_; intro w2 hS2 hb2 hsz hkp; clear hsz hkp; have hb2 := rec_made (Below.refl _ _) hb2; have HO := Lib.hid (own_kept HO.out hb2); have hB := Below.then hB hb2; clear hb2 hat; have x30 : w2.cell? ⟨wr.heap.size, 30, none⟩ = some (.int .i64 2) := (hS2.cell 30).trans (by show some (Value.int .i64 m.st) = _; rw [hst]); have x29 : w2.cell? ⟨wr.heap.size, 29, none⟩ = some (.int .i64 m.due) := (hS2.cell 29).trans rfl)
              | (at_builtin; refine wpList_append_lies _ rfl _ _ 71 rfl w.heap.size 3 i0 (.int .i64 0) 1 8 Try.underlying71 hi0 hz0 hz1 hz2 rfl (by decide) _ l1.length (zvals l1) rfl (own_kept HO.out ((Below.refl _ _).alloc (Nat.le_refl _) _)) ⟨w2.heap.size, 0, none⟩ 1 1 [.int .i64 (k : Int)] rfl rfl (new_first _ _ _) ?c2 (by decide) ?c3 ?c4 ?c5 _ rfl ?_))
            case c2 => intro u hu; simp at hu; subst hu; rfl
            case c3 => have := HLN.out; simp only [maxLen]; omega
            case c4 => have := HLN.out; omega
            case c5 => have := hB.size; simp; omega
            intro g5 cap5 w5 hown hg hat5 hlt5
            have hB5 : Below w.heap.size w w5 := (hB.alloc hB.size _).grown hg (Nat.le_trans hB.size (by simp)) (fun b hb => (HO.out.lt b hb).1)
            have HO5 : Hid (w5.ownsRow w.heap.size 3 1 (.slice (some ⟨g5, 0, none⟩) (l1.length + 1) cap5) (l1 ++ [(k : Int)]).length (zvals (l1 ++ [(k : Int)]))) := Lib.hid (by rw [zvals_snoc, List.length_append]; exact hown)
            clear hown hg hat5 hlt5 HO
            go_wp2
            go_roundw
            case rel => exact ⟨k + 1, l1 ++ [(k : Int)], by omega, by go_num, HP2, HO5, hB5⟩
            case measure => simp [intOf]; omega
          | false =>
            cases hu : (decide (m.what = 3) || decide (m.what = 4)) with
            | true =>
              rw [hu] at ku
              have hu2 : m.what = 3 ∨ m.what = 4 := by simpa using hu
              have HP2 := Lib.hid (hyes (by simp [PMot.ripe, Mot.pure, hst, hdue, hu2]))
              clear hyes hno
              go_wp2_with (first
                | (refine load_rec 40 _ rfl rfl _ (Rec.vals m) rfl hat Try.underlying40 size_mot ?_)
                | (refine store_rec 40 _ _ rfl rfl _ (Rec.vals m) (Rec.vals Mot.zero) 40 rfl rfl (RecAt.new _ (Rec.vals Mot.zero) _) size_mot rfl (Rec.one m) ?_; intro w2 hS2 hb2 hsz hkp; clear hsz hkp; have hb2 := rec_made (Below.refl _ _) hb2; have HO := Lib.hid (own_kept HO.out hb2); have hB := Below.then hB hb2; clear hb2 hat; have x30 : w2.cell? ⟨wr.heap.size, 30, none⟩ = some (.int .i64 2) := (hS2.cell 30).trans (by show some (Value.int .i64 m.st) = _; rw [hst]); have x29 : w2.cell? ⟨wr.heap.size, 29, none⟩ = some (.int .i64 m.due) := (hS2.cell 29).trans rfl)
                | ((with_reducible refine slot_is 29 rfl ?_); refine load_rec 40 _ rfl rfl _ (Rec.vals m) rfl hS2.lies Try.underlying40 size_mot ?_)
                | (go_at_call 64; refine (ku _).mono ?_; clear ku; rintro e w3 ⟨rfl, hb3⟩; have HO := Lib.hid (own_kept HO.out hb3); have hB := Below.then hB hb3; clear hb3)
                | (at_builtin; refine wpList_append_lies _ rfl _ _ 71 rfl w.heap.size 3 i0 (.int .i64 0) 1 8 Try.underlying71 hi0 hz0 hz1 hz2 rfl (by decide) _ l1.length (zvals l1) rfl (own_kept HO.out ((Below.refl _ _).alloc (Nat.le_refl _) _)) ⟨w3.heap.size, 0, none⟩ 1 1 [.int .i64 (k : Int)] rfl rfl (new_first _ _ _) ?c2 (by decide) ?c3 ?c4 ?c5 _ rfl ?_))
              case c2 => intro u hu; simp at hu; subst hu; rfl
              case c3 => have := HLN.out; simp only [maxLen]; omega
              case c4 => have := HLN.out; omega
              case c5 => have := hB.size; simp; omega
              intro g5 cap5 w5 hown hg hat5 hlt5
              have hB5 : Below w.heap.size w w5 := (hB.alloc hB.size _).grown hg (Nat.le_trans hB.size (by simp)) (fun b hb => (HO.out.lt b hb).1)
              have HO5 : Hid (w5.ownsRow w.heap.size 3 1 (.slice (some ⟨g5, 0, none⟩) (l1.length + 1) cap5) (l1 ++ [(k : Int)]).length (zvals (l1 ++ [(k : Int)]))) := Lib.hid (by rw [zvals_snoc, List.length_append]; exact hown)
              clear hown hg hat5 hlt5 HO
              go_wp2
              go_roundw
              case rel => exact ⟨k + 1, l1 ++ [(k : Int)], by omega, by go_num, HP2, HO5, hB5⟩
              case measure => simp [intOf]; omega
            | false =>
              rw [hu] at ku
              have hu2 : ¬ m.what = 3 ∧ ¬ m.what = 4 := by simpa using hu
              have HP2 := Lib.hid (hno (by simp [PMot.ripe, Mot.pure, hst, hdue, hu2.1, hu2.2]))
              clear hyes hno
              go_wp2_with (first
                | (refine load_rec 40 _ rfl rfl _ (Rec.vals m) rfl hat Try.underlying40 size_mot ?_)
                | (refine store_rec 40 _ _ rfl rfl _ (Rec.vals m) (Rec.vals Mot.zero) 40 rfl rfl (RecAt.new _ (Rec.vals Mot.zero) _) size_mot rfl (Rec.one m) ?_; intro w2 hS2 hb2 hsz hkp; clear hsz hkp; have hb2 := rec_made (Below.refl _ _) hb2; have HO := Lib.hid (own_kept HO.out hb2); have hB := Below.then hB hb2; clear hb2 hat; have x30 : w2.cell? ⟨wr.heap.size, 30, none⟩ = some (.int .i64 2) := (hS2.cell 30).trans (by show some (Value.int .i64 m.st) = _; rw [hst]); have x29 : w2.cell? ⟨wr.heap.size, 29, none⟩ = some (.int .i64 m.due) := (hS2.cell 29).trans rfl)
                | ((with_reducible refine slot_is 29 rfl ?_); refine load_rec 40 _ rfl rfl _ (Rec.vals m) rfl hS2.lies Try.underlying40 size_mot ?_)
                | (go_at_call 64; refine (ku _).mono ?_; clear ku; rintro e w3 ⟨rfl, hb3⟩; have HO := Lib.hid (own_kept HO.out hb3); have hB := Below.then hB hb3; clear hb3))
              go_roundw
              case rel => exact ⟨k + 1, l1, by omega, by go_num, HP2, HO, hB⟩
              case measure => simp [intOf]; omega
        · have d1 : decide (m.due ≤ ep) = false := decide_eq_false hdue
          have HP2 := Lib.hid (hno (by simp [PMot.ripe, Mot.pure, hst, hdue]))
          clear hyes hno
          clear ku
          go_wp2_with (first
            | (refine load_rec 40 _ rfl rfl _ (Rec.vals m) rfl hat Try.underlying40 size_mot ?_)
            | (refine store_rec 40 _ _ rfl rfl _ (Rec.vals m) (Rec.vals Mot.zero) 40 rfl rfl (RecAt.new _ (Rec.vals Mot.zero) _) size_mot rfl (Rec.one m) ?_; intro w2 hS2 hb2 hsz hkp; clear hsz hkp; have hb2 := rec_made (Below.refl _ _) hb2; have HO := Lib.hid (own_kept HO.out hb2); have hB := Below.then hB hb2; clear hb2 hat; have x30 : w2.cell? ⟨wr.heap.size, 30, none⟩ = some (.int .i64 2) := (hS2.cell 30).trans (by show some (Value.int .i64 m.st) = _; rw [hst]); have x29 : w2.cell? ⟨wr.heap.size, 29, none⟩ = some (.int .i64 m.due) := (hS2.cell 29).trans rfl))
          go_roundw
          case rel => exact ⟨k + 1, l1, by omega, by go_num, HP2, HO, hB⟩
          case measure => simp [intOf]; omega
      · have b1 : (m.st == 2) = false := by simp [hst]
        have HP2 := Lib.hid (hno (by simp [PMot.ripe, Mot.pure, hst]))
        clear hyes hno
        clear ku
        go_wp2_with (first
          | (refine load_rec 40 _ rfl rfl _ (Rec.vals m) rfl hat Try.underlying40 size_mot ?_)
          | (refine store_rec 40 _ _ rfl rfl _ (Rec.vals m) (Rec.vals Mot.zero) 40 rfl rfl (RecAt.new _ (Rec.vals Mot.zero) _) size_mot rfl (Rec.one m) ?_; intro w2 hS2 hb2 hsz hkp; clear hsz hkp; have hb2 := rec_made (Below.refl _ _) hb2; have HO := Lib.hid (own_kept HO.out hb2); have hB := Below.then hB hb2; clear hb2 hat; have x30 : w2.cell? ⟨wr.heap.size, 30, none⟩ = some (.int .i64 m.st) := (hS2.cell 30).trans rfl))
        go_roundw
        case rel => exact ⟨k + 1, l1, by omega, by go_num, HP2, HO, hB⟩
        case measure => simp [intOf]; omega
    · obtain rfl : k = l.length := by omega
      have hP := HP.out
      subst hP
      obtain ⟨A7, c7, rfl, -, -, hr7⟩ := Row.of_own HO.out
      have HR7 := Lib.hid hr7
      clear HP HO hr7
      go_wp2
      go_ret
      exact ⟨A7, c7, by first | rfl | simp, HR7.out, hB⟩

set_option maxRecDepth 100000 in
set_option maxHeartbeats 4000000 in
theorem rripe_is (l : List Mot) (A : Option Addr) (c : Nat) (ep : Int) (q : Bool) (w : World) (hm : Mots w A c l) (hl : l.length ≤ 100000) :
    Calls Try.prog 27 #[.slice A l.length c, .int .i64 ep, .bool q] w fun e w' => ∃ A' c', e = .returned (.slice A' (ripes (l.map Mot.pure) ep q l.length).length c') ∧ Row w' w'.heap.size A' (zvals (ripes (l.map Mot.pure) ep q l.length)) ∧ Below w.heap.size w w' := by
  obtain ⟨i0, hi0, hz0, hz1, hz2⟩ := info_parts zval_info
  have HM := Lib.hid hm
  clear hm
  go_enter Try.func27, Try.ntmps27
  go_wp2
  go_loopw [7, 8] (fun v7 iv wr => ∃ (k : Nat) (l1 : List Int), k ≤ l.length ∧ iv = .int .i64 (k : Int) ∧ Hid (ripes (l.map Mot.pure) ep q k = l1) ∧ Hid (wr.ownsRow w.heap.size 3 1 v7 l1.length (zvals l1)) ∧ Below w.heap.size w wr) (fun _ iv _ => l.length - (intOf iv).toNat)
  case atStart => exact ⟨0, [], Nat.zero_le _, rfl, Lib.hid rfl, Lib.hid (World.ownsRow_nil _ _ _ _), Below.refl _ _⟩
  case round =>
    obtain ⟨k, l1, hk, rfl, HP, HO, hB⟩ := hrel
    by_cases hlt : k < l.length
    · obtain ⟨m, hs⟩ : ∃ m, l[k]? = some m := ⟨_, List.getElem?_eq_getElem hlt⟩
      obtain ⟨a, rfl, hab, hat, hMA⟩ := (HM.out.up hB).at hs
      have hki : (k : Int) < (l.length : Int) := by omega
      have hk0 : (0 : Int) ≤ (k : Int) := by omega
      have hpj : (l.map Mot.pure)[k]? = some m.pure := by rw [List.getElem?_map, hs]; rfl
      have HLN := Lib.hid (show l1.length ≤ k by rw [← HP.out]; exact ripes_len _ _ _ _)
      have hyes := fun h => (ripes_yes (epoch := ep) (q := q) hpj h).trans (congrArg (· ++ [(k : Int)]) HP.out)
      have hno := fun h => (ripes_no (epoch := ep) (q := q) hpj h).trans HP.out
      have ku := fun W => urgent_is m W
      clear hs hab hMA hpj HP
      by_cases hst : m.st = 2
      · by_cases hdue : m.due ≤ ep
        · have d1 : decide (m.due ≤ ep) = true := decide_eq_true hdue
          cases q with
          | true =>
            have HP2 := Lib.hid (hyes (by simp [PMot.ripe, Mot.pure, hst, hdue]))
            clear hyes hno
            clear ku
            have x30 : wr.cell? ⟨(a.add (k * 33)).block, (a.add (k * 33)).off + 30, none⟩ = some (.int .i64 2) := (hat.fld 29 rfl).trans (by show some (Value.int .i64 m.st) = _; rw [hst])
            have x29 : wr.cell? ⟨(a.add (k * 33)).block, (a.add (k * 33)).off + 29, none⟩ = some (.int .i64 m.due) := (hat.fld 28 rfl).trans rfl
            clear hat
            go_wp2_with (first
              | (at_builtin; refine wpList_append_lies _ rfl _ _ 71 rfl w.heap.size 3 i0 (.int .i64 0) 1 8 Try.underlying71 hi0 hz0 hz1 hz2 rfl (by decide) _ l1.length (zvals l1) rfl (own_kept HO.out ((Below.refl _ _).alloc (Nat.le_refl _) _)) ⟨wr.heap.size, 0, none⟩ 1 1 [.int .i64 (k : Int)] rfl rfl (new_first _ _ _) ?c2 (by decide) ?c3 ?c4 ?c5 _ rfl ?_))
            case c2 => intro u hu; simp at hu; subst hu; rfl
            case c3 => have := HLN.out; simp only [maxLen]; omega
            case c4 => have := HLN.out; omega
            case c5 => have := hB.size; simp; omega
            intro g5 cap5 w5 hown hg hat5 hlt5
            have hB5 : Below w.heap.size w w5 := (hB.alloc hB.size _).grown hg (Nat.le_trans hB.size (by simp)) (fun b hb => (HO.out.lt b hb).1)
            have HO5 : Hid (w5.ownsRow w.heap.size 3 1 (.slice (some ⟨g5, 0, none⟩) (l1.length + 1) cap5) (l1 ++ [(k : Int)]).length (zvals (l1 ++ [(k : Int)]))) := Lib.hid (by rw [zvals_snoc, List.length_append]; exact hown)
            clear hown hg hat5 hlt5 HO
            go_wp2
            go_roundw
            case rel => exact ⟨k + 1, l1 ++ [(k : Int)], by omega, by go_num, HP2, HO5, hB5⟩
            case measure => simp [intOf]; omega
          | false =>
            by_cases h3 : m.what = 3
            · skip
              have HP2 := Lib.hid (hyes (by simp [PMot.ripe, Mot.pure, hst, hdue, h3]))
              clear hyes hno
              clear ku
              have x30 : wr.cell? ⟨(a.add (k * 33)).block, (a.add (k * 33)).off + 30, none⟩ = some (.int .i64 2) := (hat.fld 29 rfl).trans (by show some (Value.int .i64 m.st) = _; rw [hst])
              have x29 : wr.cell? ⟨(a.add (k * 33)).block, (a.add (k * 33)).off + 29, none⟩ = some (.int .i64 m.due) := (hat.fld 28 rfl).trans rfl
              have x1 : wr.cell? ⟨(a.add (k * 33)).block, (a.add (k * 33)).off + 1, none⟩ = some (.int .i64 3) := (hat.fld 0 rfl).trans (by show some (Value.int .i64 m.what) = _; rw [h3])
              clear hat
              go_wp2_with (first
                | (at_builtin; refine wpList_append_lies _ rfl _ _ 71 rfl w.heap.size 3 i0 (.int .i64 0) 1 8 Try.underlying71 hi0 hz0 hz1 hz2 rfl (by decide) _ l1.length (zvals l1) rfl (own_kept HO.out ((Below.refl _ _).alloc (Nat.le_refl _) _)) ⟨wr.heap.size, 0, none⟩ 1 1 [.int .i64 (k : Int)] rfl rfl (new_first _ _ _) ?c2 (by decide) ?c3 ?c4 ?c5 _ rfl ?_))
              case c2 => intro u hu; simp at hu; subst hu; rfl
              case c3 => have := HLN.out; simp only [maxLen]; omega
              case c4 => have := HLN.out; omega
              case c5 => have := hB.size; simp; omega
              intro g5 cap5 w5 hown hg hat5 hlt5
              have hB5 : Below w.heap.size w w5 := (hB.alloc hB.size _).grown hg (Nat.le_trans hB.size (by simp)) (fun b hb => (HO.out.lt b hb).1)
              have HO5 : Hid (w5.ownsRow w.heap.size 3 1 (.slice (some ⟨g5, 0, none⟩) (l1.length + 1) cap5) (l1 ++ [(k : Int)]).length (zvals (l1 ++ [(k : Int)]))) := Lib.hid (by rw [zvals_snoc, List.length_append]; exact hown)
              clear hown hg hat5 hlt5 HO
              go_wp2
              go_roundw
              case rel => exact ⟨k + 1, l1 ++ [(k : Int)], by omega, by go_num, HP2, HO5, hB5⟩
              case measure => simp [intOf]; omega
            · by_cases h4 : m.what = 4
              · skip
                have HP2 := Lib.hid (hyes (by simp [PMot.ripe, Mot.pure, hst, hdue, h4]))
                clear hyes hno
                clear ku
                have x30 : wr.cell? ⟨(a.add (k * 33)).block, (a.add (k * 33)).off + 30, none⟩ = some (.int .i64 2) := (hat.fld 29 rfl).trans (by show some (Value.int .i64 m.st) = _; rw [hst])
                have x29 : wr.cell? ⟨(a.add (k * 33)).block, (a.add (k * 33)).off + 29, none⟩ = some (.int .i64 m.due) := (hat.fld 28 rfl).trans rfl
                have x1 : wr.cell? ⟨(a.add (k * 33)).block, (a.add (k * 33)).off + 1, none⟩ = some (.int .i64 4) := (hat.fld 0 rfl).trans (by show some (Value.int .i64 m.what) = _; rw [h4])
                clear hat
                go_wp2_with (first
                  | (at_builtin; refine wpList_append_lies _ rfl _ _ 71 rfl w.heap.size 3 i0 (.int .i64 0) 1 8 Try.underlying71 hi0 hz0 hz1 hz2 rfl (by decide) _ l1.length (zvals l1) rfl (own_kept HO.out ((Below.refl _ _).alloc (Nat.le_refl _) _)) ⟨wr.heap.size, 0, none⟩ 1 1 [.int .i64 (k : Int)] rfl rfl (new_first _ _ _) ?c2 (by decide) ?c3 ?c4 ?c5 _ rfl ?_))
                case c2 => intro u hu; simp at hu; subst hu; rfl
                case c3 => have := HLN.out; simp only [maxLen]; omega
                case c4 => have := HLN.out; omega
                case c5 => have := hB.size; simp; omega
                intro g5 cap5 w5 hown hg hat5 hlt5
                have hB5 : Below w.heap.size w w5 := (hB.alloc hB.size _).grown hg (Nat.le_trans hB.size (by simp)) (fun b hb => (HO.out.lt b hb).1)
                have HO5 : Hid (w5.ownsRow w.heap.size 3 1 (.slice (some ⟨g5, 0, none⟩) (l1.length + 1) cap5) (l1 ++ [(k : Int)]).length (zvals (l1 ++ [(k : Int)]))) := Lib.hid (by rw [zvals_snoc, List.length_append]; exact hown)
                clear hown hg hat5 hlt5 HO
                go_wp2
                go_roundw
                case rel => exact ⟨k + 1, l1 ++ [(k : Int)], by omega, by go_num, HP2, HO5, hB5⟩
                case measure => simp [intOf]; omega
              · skip
                have b3 : (m.what == 3) = false := by simp [h3]
                have b4 : (m.what == 4) = false := by simp [h4]
                have HP2 := Lib.hid (hno (by simp [PMot.ripe, Mot.pure, hst, hdue, h3, h4]))
                clear hyes hno
                clear ku
                have x30 : wr.cell? ⟨(a.add (k * 33)).block, (a.add (k * 33)).off + 30, none⟩ = some (.int .i64 2) := (hat.fld 29 rfl).trans (by show some (Value.int .i64 m.st) = _; rw [hst])
                have x29 : wr.cell? ⟨(a.add (k * 33)).block, (a.add (k * 33)).off + 29, none⟩ = some (.int .i64 m.due) := (hat.fld 28 rfl).trans rfl
                have x1 : wr.cell? ⟨(a.add (k * 33)).block, (a.add (k * 33)).off + 1, none⟩ = some (.int .i64 m.what) := (hat.fld 0 rfl).trans rfl
                clear hat
                go_wp2
                go_roundw
                case rel => exact ⟨k + 1, l1, by omega, by go_num, HP2, HO, hB⟩
                case measure => simp [intOf]; omega
        · have d1 : decide (m.due ≤ ep) = false := decide_eq_false hdue
          have HP2 := Lib.hid (hno (by simp [PMot.ripe, Mot.pure, hst, hdue]))
          clear hyes hno
          clear ku
          have x30 : wr.cell? ⟨(a.add (k * 33)).block, (a.add (k * 33)).off + 30, none⟩ = some (.int .i64 2) := (hat.fld 29 rfl).trans (by show some (Value.int .i64 m.st) = _; rw [hst])
          have x29 : wr.cell? ⟨(a.add (k * 33)).block, (a.add (k * 33)).off + 29, none⟩ = some (.int .i64 m.due) := (hat.fld 28 rfl).trans rfl
          clear hat
          go_wp2
          go_roundw
          case rel => exact ⟨k + 1, l1, by omega, by go_num, HP2, HO, hB⟩
          case measure => simp [intOf]; omega
      · have b1 : (m.st == 2) = false := by simp [hst]
        have HP2 := Lib.hid (hno (by simp [PMot.ripe, Mot.pure, hst]))
        clear hyes hno
        clear ku
        have x30 : wr.cell? ⟨(a.add (k * 33)).block, (a.add (k * 33)).off + 30, none⟩ = some (.int .i64 m.st) := (hat.fld 29 rfl).trans rfl
        clear hat
        go_wp2
        go_roundw
        case rel => exact ⟨k + 1, l1, by omega, by go_num, HP2, HO, hB⟩
        case measure => simp [intOf]; omega
    · obtain rfl : k = l.length := by omega
      have hP := HP.out
      subst hP
      obtain ⟨A7, c7, rfl, -, -, hr7⟩ := Row.of_own HO.out
      have HR7 := Lib.hid hr7
      clear HP HO hr7
      go_wp2
      go_ret
      exact ⟨A7, c7, by first | rfl | simp, HR7.out, hB⟩

set_option maxRecDepth 100000 in
set_option maxHeartbeats 1000000 in
/-- Whole numbers held against the same ones. -/
theorem zsame_true (l : List Int) (A A' : Option Addr) (c c' B : Nat) (w : World) (hr : Row w B A (zvals l)) (hr' : Row w B A' (zvals l)) (hlen : l.length ≤ maxLen) :
    Calls Try.prog 25 #[.slice A l.length c, .slice A' l.length c'] w fun e w' => e = .returned (.bool true) ∧ Below w.heap.size w w' := by
  unfold maxLen at hlen
  go_enter Try.func25, Try.ntmps25
  go_wp2
  go_loopw [5] (fun i wr => ∃ k q : Nat, k ≤ l.length ∧ i = .int .i64 k ∧ wr = w.drewN q) (fun i _ => l.length - (intOf i).toNat)
  case atStart => exact ⟨0, 0, Nat.zero_le _, rfl, rfl⟩
  case round =>
    obtain ⟨k, q, hk, rfl, rfl⟩ := hrel
    by_cases hlt : k < l.length
    · obtain ⟨a, rfl, hb, hc⟩ := hr.get (k := k) (by rw [zvals_len]; exact hlt)
      obtain ⟨a', rfl, hb', hc'⟩ := hr'.get (k := k) (by rw [zvals_len]; exact hlt)
      have hcb : (zvals l)[k]'(by rw [zvals_len]; exact hlt) = .int .i64 (l.getD k 0) := by simp [zvals, hlt]
      rw [hcb] at hc hc'
      have hki : (k : Int) < (l.length : Int) := by omega
      have hk0 : (0 : Int) ≤ (k : Int) := by omega
      generalize l.getD k 0 = b at hc hc'
      clear hcb
      go_wp2
      go_quiet (fail)
      go_wp2
      go_roundw
      case rel => exact ⟨k + 1, _, by omega, by go_num, rfl⟩
      case measure => simp [intOf]; omega
    · obtain rfl : k = l.length := by omega
      go_wp2
      go_ret
      exact ⟨rfl, below_drewN (Below.refl _ _) _⟩
end Go.Proofs.Ytcaejanfhchacaa
