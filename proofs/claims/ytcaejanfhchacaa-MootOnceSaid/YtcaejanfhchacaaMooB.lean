/- Layer 21 (supply): copies of lists, by contracts: slices.Clone at each type that a state holds. · Layer 23 (moot): each of a list changed, in memory of the call's own, by a function that is handed one; one of them. By contracts. -/
import Derived.Test.YtcaejanfhchacaaBytes
import Derived.Test.YtcaejanfhchacaaProg
import Derived.Laws.AppendOwnNone
import Derived.Lib.SliceRun
import Derived.Test.YtcaejanfhchacaaMooM
import Derived.Test.YtcaejanfhchacaaMotW
import Derived.Test.YtcaejanfhchacaaBytesV
import Derived.Deep.RegionHeld3
import Derived.Shelf.Abstract
import Derived.Laws.OwnMore
namespace Go.Proofs.Ytcaejanfhchacaa
open Go.RowKit
set_option linter.unusedVariables false
set_option linter.unusedSimpArgs false

theorem cinfo_mot : (Try.prog.info? 40).map (fun i => (i.zero, i.size, i.bytes)) = some (some (.agg #[.int .i64 0, .int .i64 0, .int .u64 0, .int .u64 0, .int .u64 0, .int .u64 0, .int .u64 0, .int .u64 0, .int .u64 0, .int .u64 0, .int .u64 0, .int .u64 0, .int .u64 0, .int .u64 0, .int .u64 0, .int .u64 0, .int .i64 0, .int .i64 0, .int .i64 0, .int .i64 0, .int .i64 0, .int .i64 0, .int .i64 0, .int .i64 0, .int .i64 0, .int .i64 0, .int .i64 0, .int .u64 0, .int .i64 0, .int .i64 0, .int .i64 0, .slice none 0 0, .slice none 0 0]), 33, 296) := by kernel_rfl
set_option maxRecDepth 100000 in
set_option maxHeartbeats 1000000 in
/-- A copy, in memory of its own. -/
theorem clones_mot (xs : List Value) (n B : Nat) (A : Option Addr) (c : Nat) (w : World) (hx : Row w B A xs) (hn : xs.length = n * 33) (h1 : ∀ v ∈ xs, v.oneCell' = true) (hl : n * 296 ≤ 140737488355328) :
    Calls Try.prog 93 #[.slice A n c] w fun e w' => ∃ v, e = .returned v ∧ w'.ownsRow w.heap.size 40 33 v n xs ∧ Below w.heap.size w w' := by
  have q22 : ∀ (w : World) (a : Option Addr) (n c n' c' : Nat), (binOp .eql 22 (.slice a n c) (.slice none n' c')).run Try.prog w = .ok (.bool a.isNone) w := fun w a n c n' c' => Lib.run_eql_slice_nil w _ _ a n c n' c' Try.underlying22
  rcases A with _ | a
  · have hxs : xs = [] := by
      cases xs with
      | nil => rfl
      | cons x r => obtain ⟨a, ha, _⟩ := hx 0 x rfl; cases ha
    subst hxs
    have hn0 : n = 0 := by simp at hn; omega
    subst hn0
    go_enter Try.func93, Try.ntmps93
    go_wp2
    refine bodyPost_ret (v := .slice none 0 0) (by simp [results, Try.results93, go_sem]) rfl ⟨_, rfl, World.ownsRow_nil _ _ _ _, Below.refl _ _⟩
  · obtain ⟨i0, hi0, hz0, hz1, hz2⟩ := info_parts cinfo_mot
    have hsrc2 : ∀ o j u, xs[j]? = some u → (w.alloc o).cell? (a.add j) = some u := fun o j u hj => by
      obtain ⟨a', ha', _, this⟩ := hx j u hj
      cases ha'
      rw [World.cell?_alloc_lt _ _ _ (World.block_lt_of_cell? w _ this)]; exact this
    have HS := Lib.hid hsrc2
    have HN := Lib.hid hn
    have H1 := Lib.hid h1
    clear hsrc2 hn h1
    go_enter Try.func93, Try.ntmps93
    go_wp2_with (at_builtin; refine wpList_append_own _ rfl _ _ 22 rfl w.heap.size 40 i0 _ 33 296 Try.underlying22 hi0 hz0 hz1 hz2 rfl (by decide) _ _ _ rfl (World.ownsRow_made w #[] 0 (Nat.le_refl _) (Nat.zero_le _) rfl) a n c xs rfl ?c1 ?c2 ?c3 ?c4 ?c5 ?c6 ?_)
    case c1 => exact HN.out
    case c2 => exact HS.out _
    case c3 => exact H1.out
    case c4 => simp only [maxLen]; omega
    try (case c5 => omega)
    try (case c6 => simp)
    intro v' w3 hown hgrow _
    have hb' : Below w.heap.size w w3 := ((Below.refl _ w).alloc (Nat.le_refl _) _).grown hgrow (by simp) (by intro k hk; simp [Value.ownBlock] at hk; omega)
    clear hgrow
    go_wp2
    refine bodyPost_ret (v := v') (by simp [results, Try.results93, go_sem]) rfl ⟨_, rfl, by simpa using hown, hb'⟩

end Go.Proofs.Ytcaejanfhchacaa
namespace Go.Proofs.Ytcaejanfhchacaa
open Go.RowKit Go.Shelf
set_option linter.unusedVariables false
set_option linter.unusedSimpArgs false

set_option maxRecDepth 100000 in
set_option maxHeartbeats 4000000 in
/-- Each of a list, changed by a function that took something with it, in memory of the call's own. -/
theorem changed_is (f : FuncId) (caps : Array Value) (eg : Enters Try.prog f) (F : Nat → PMot → PMot) (l : List Mot) (A : Option Addr) (c : Nat) (w : World) (hm : Mots w A c l) (hl : l.length ≤ 100000) (hT : TurnsAll w f caps (l.map Mot.pure) F) :
    Calls Try.prog 54 #[.slice A l.length c, .func (.func f) #[] caps] w fun e w' => JustMots w ((l.map Mot.pure).mapIdx F) e w' := by
  have kc := clones_mot (rows l) l.length _ A c w hm.row (rows_len _) (rows_onecell _) (by omega)
  have kb := fun (b : BV) (W : World) (hb : BvAt W b) => clone_is b.bs _ b.row b.cap W (Lies.ofRow hb.sl.row) (by have := hb.sl.fit; omega)
  have eg2 : ∀ (args : Array Value) (w : World), (callFunc f args).run Try.prog w = .ok (.enter f args) w := eg
  have HM := Lib.hid hm
  have HT := Lib.hid hT
  have KC := Lib.hid kc
  have KB := Lib.hid kb
  clear hm hT kc kb
  go_enter Try.func54, Try.ntmps54
  go_wp2_with (go_at_call 93; refine KC.out.mono ?_; clear KC; rintro e w1 ⟨v, rfl, ho, hb⟩; obtain ⟨A1, c1, rfl⟩ := own_slice ho; have HO := Lib.hid ho; have hB := hb; clear ho hb)
  go_loopw [12] (fun iv wr => ∃ (k : Nat) (N : List Mot), k ≤ l.length ∧ iv = .int .i64 (k : Int) ∧ Hid (N.length = k) ∧ Hid (N.map Mot.pure = ((l.map Mot.pure).mapIdx F).take k) ∧ Hid (wr.ownsRow w.heap.size 40 33 (.slice A1 l.length c1) l.length (rows (N ++ l.drop k))) ∧ Hid (∀ m ∈ N, MotOwn wr w.heap.size m) ∧ Below w.heap.size w wr) (fun iv _ => l.length - (intOf iv).toNat)
  case atStart => exact ⟨0, [], Nat.zero_le _, rfl, Lib.hid rfl, Lib.hid rfl, HO, Lib.hid (fun m h => by cases h), hB⟩
  case round =>
    obtain ⟨k, N, hk, rfl, HNL, HNP, HMr, HE, hB⟩ := hrel
    clear HO
    by_cases hlt : k < l.length
    · obtain ⟨x, hx⟩ : ∃ x, l[k]? = some x := ⟨_, List.getElem?_eq_getElem hlt⟩
      obtain ⟨g, hg, hgL⟩ := own_some HMr.out (by omega)
      subst hg
      have hcx := mid_at HNL.out hx
      have hgr : g < wr.heap.size := (HMr.out.lt g rfl).2
      have hat : LiesAt wr ⟨g, k * 33, none⟩ (Rec.vals x) := own_lies (α := Mot) HMr.out hcx
      have hmx : MotAt wr.drew x := ((HM.out.each x (List.mem_of_getElem? hx)).up hB).up (Below.refl _ _).drew
      have cy : wr.drew.cell? ⟨g, k * 33 + 31, none⟩ = some (.slice x.yes.row x.yes.bs.length x.yes.cap) := hat.fld 30 rfl
      have cn : wr.drew.cell? ⟨g, k * 33 + 32, none⟩ = some (.slice x.no.row x.no.bs.length x.no.cap) := hat.fld 31 rfl
      have fy : wr.drew.frozen? ⟨g, k * 33 + 31, none⟩ = false := HMr.out.frozenAt _
      have fn : wr.drew.frozen? ⟨g, k * 33 + 32, none⟩ = false := HMr.out.frozenAt _
      have hki : (k : Int) < (l.length : Int) := by omega
      have hk0 : (0 : Int) ≤ (k : Int) := by omega
      have HX := Lib.hid hx
      have HCX := Lib.hid hcx
      have HMX := Lib.hid hmx
      clear hx hcx hmx hat
      go_upto_region 6 with fail
      have hbl : w.heap.size ≤ wr.heap.size := hB.size
      go_region_with (first
        | (go_at_call 69; (with_reducible refine (KB.out x.yes _ HMX.out.yes).mono ?_); rintro e w21 ⟨v1, rfl, ho1, hb21⟩; obtain ⟨A2, c2, rfl⟩ := own_slice ho1; have cy2 : w21.cell? ⟨g, k * 33 + 31, none⟩ = some (.slice x.yes.row x.yes.bs.length x.yes.cap) := (hb21.cell hgr).trans cy; have cn2 : w21.cell? ⟨g, k * 33 + 32, none⟩ = some (.slice x.no.row x.no.bs.length x.no.cap) := (hb21.cell hgr).trans cn; have fy2 : w21.frozen? ⟨g, k * 33 + 31, none⟩ = false := (hb21.frozen hgr).trans fy; have fn2 : w21.frozen? ⟨g, k * 33 + 32, none⟩ = false := (hb21.frozen hgr).trans fn)
        | (go_at_call 69; (with_reducible refine (KB.out x.no _ (HMX.out.no.up hb21)).mono ?_); rintro e w22 ⟨v2, rfl, ho2, hb22⟩; obtain ⟨A3, c3, rfl⟩ := own_slice ho2; have hgr2 : g < w21.heap.size := Nat.lt_of_lt_of_le hgr hb21.size; have cy3 : w22.cell? ⟨g, k * 33 + 31, none⟩ = some (.slice x.yes.row x.yes.bs.length x.yes.cap) := (hb22.cell hgr2).trans cy2; have cn3 : w22.cell? ⟨g, k * 33 + 32, none⟩ = some (.slice x.no.row x.no.bs.length x.no.cap) := (hb22.cell hgr2).trans cn2; have fy3 : w22.frozen? ⟨g, k * 33 + 31, none⟩ = false := (hb22.frozen hgr2).trans fy2; have fn3 : w22.frozen? ⟨g, k * 33 + 32, none⟩ = false := (hb22.frozen hgr2).trans fn2))
      all_goals
        have hb02 : Below wr.heap.size wr w22 := Below.then (((Below.refl _ _).drew).trans hb21) hb22
        have hM22 := own_kept HMr.out hb02
        have hput := mot_put hM22 HCX.out A2 A3 c2 c3
        generalize ((w22.setCell ⟨g, k * 33 + 31, none⟩ (.slice A2 x.yes.bs.length c2)).setCell ⟨g, k * 33 + 32, none⟩ (.slice A3 x.no.bs.length c3)) = w23 at *
        obtain ⟨y, hyy⟩ : ∃ y : Mot, y = ⟨x.acct, x.what, x.p, x.dest, x.amt, x.ends, x.due, x.st, ⟨A2, x.yes.bs, c2⟩, ⟨A3, x.no.bs, c3⟩⟩ := ⟨_, rfl⟩
        have hyp : y.pure = x.pure := by rw [hyy]; rfl
        have hown : MotOwn w23 w.heap.size y := MotOwn.apart (w := w22) ⟨by rw [hyy]; exact own_base (own_kept ho1 hb22) hbl, by rw [hyy]; exact own_base ho2 (Nat.le_trans hbl hb21.size), by rw [hyp]; exact HMX.out.fine⟩ hM22 hput.2
        have hE : ∀ m ∈ N, MotOwn w23 w.heap.size m := fun m hm => ((HE.out m hm).up hb02).apart hM22 hput.2
        rw [← hyy] at hput
        have hrow := hput.1
        rw [mid_put HNL.out hlt] at hrow
        have hB23 : Below w.heap.size w w23 := (Below.then hB hb02).trans (grown_to hput.2 hgL (Nat.le_trans hbl hb02.size))
        have hMA : MAt w23 w.heap.size g l.length c1 ((N ++ [y]) ++ l.drop (k + 1)) k y := ⟨by rw [List.append_assoc, List.getElem?_append_right (Nat.le_of_eq HNL.out), HNL.out, Nat.sub_self]; rfl, hrow, hown⟩
        have hLs : (l.map Mot.pure)[k]? = some y.pure := by rw [List.getElem?_map, HX.out, hyp]; rfl
        have kt := HT.out w.heap.size g l.length c1 k _ y w23 hB23 (Nat.le_refl _) hMA hLs
        have HE3 := Lib.hid hE
        have HMA := Lib.hid hMA
        have HLS := Lib.hid hLs
        have HYP := Lib.hid hyp
        clear cy cn fy fn cy2 cn2 fy2 fn2 cy3 cn3 fy3 fn3 hput hrow hE hMA hLs hyp hyy hown hM22 hb02 hb21 hb22 ho1 ho2 HE HMr HCX HMX
        go_wp2_with (go_at_fn f; refine kt.mono ?_; clear kt; rintro e w24 ⟨rfl, z, hz, hzo, hzr, hzg⟩)
        have hP3 : (N ++ [z]).map Mot.pure = ((l.map Mot.pure).mapIdx F).take (k + 1) := by
          rw [mapIdx_next HLS.out, List.map_append, HNP.out, ← hz]
          rfl
        have hrow2 : w24.ownsRow w.heap.size 40 33 (.slice (some ⟨g, 0, none⟩) l.length c1) l.length (rows ((N ++ [z]) ++ l.drop (k + 1))) := by
          have e : ((N ++ [y]) ++ l.drop (k + 1)).set k z = (N ++ [z]) ++ l.drop (k + 1) := by
            rw [List.append_assoc, List.set_append_right _ _ (Nat.le_of_eq HNL.out), HNL.out, Nat.sub_self, List.append_assoc]
            rfl
          rw [← e]; exact hzr
        have hE4 : ∀ m ∈ N ++ [z], MotOwn w24 w.heap.size m := fun m hm => by
          rcases List.mem_append.1 hm with h | h
          · exact (HE3.out m h).apart HMA.out.row hzg
          · simp only [List.mem_cons, List.not_mem_nil, or_false] at h
            rw [h]; exact hzo
        have hB24 : Below w.heap.size w w24 := hB23.trans (grown_to hzg hgL hB23.size)
        have HP3 := Lib.hid hP3
        have HR2 := Lib.hid hrow2
        have HE4 := Lib.hid hE4
        have HNL2 := Lib.hid (show (N ++ [z]).length = k + 1 by rw [List.length_append, HNL.out]; rfl)
        clear hP3 hrow2 hE4 hz hzo hzr hzg HE3 HMA HLS HYP
        go_wp2
        go_roundw
        case rel => exact ⟨k + 1, N ++ [z], by omega, by go_num, HNL2, HP3, HR2, HE4, hB24⟩
        case measure => simp [intOf]; omega
    · obtain rfl : k = l.length := by omega
      have hM := HMr.out
      rw [List.drop_length, List.append_nil] at hM
      have hP := HNP.out
      rw [List.take_of_length_le (by simp)] at hP
      have hNL := HNL.out
      have hlen : l.length * 296 ≤ 140737488355328 := by omega
      have hS := own_sl (b := 296) hM hlen
      have hE := HE.out
      clear HMr HNP HE
      go_wp2
      go_ret
      exact ⟨N, A1, c1, by first | (rw [hNL]; rfl) | (rw [hNL]; simp), hP, ⟨by rw [hNL]; exact hS.le, hS.most, hS.none, hS.row, fun m hm => (hE m hm).at⟩, hB⟩

set_option maxRecDepth 100000 in
set_option maxHeartbeats 1000000 in
/-- A function that changes just one, as a function that changes each by its place. -/
theorem one1_is (f : FuncId) (caps : Array Value) (eg : Enters Try.prog f) (G : PMot → PMot) (i : Int) (b1 b2 : Nat) (Ls : List PMot) (w : World) (h1 : w.cell? ⟨b1, 0, none⟩ = some (.int .i64 i)) (h2 : w.cell? ⟨b2, 0, none⟩ = some (.func (.func f) #[] caps))
    (hT : ∀ (j : Nat) q, i = (j : Int) → Ls[j]? = some q → Turns w f caps q (G q)) : TurnsAll w 68 #[.pointer (some ⟨b1, 0, none⟩), .pointer (some ⟨b2, 0, none⟩)] Ls (oneF i G) := by
  intro L g n c k cur m u hu hL hM hLs
  have eg2 : ∀ (args : Array Value) (w : World), (callFunc f args).run Try.prog w = .ok (.enter f args) w := eg
  have c1 : u.cell? ⟨b1, 0, none⟩ = some (.int .i64 i) := (hu.cell (World.block_lt_of_cell? w _ h1)).trans h1
  have c2 : u.cell? ⟨b2, 0, none⟩ = some (.func (.func f) #[] caps) := (hu.cell (World.block_lt_of_cell? w _ h2)).trans h2
  show Calls Try.prog 68 #[.int .i64 (k : Int), .pointer (some ⟨g, k * 33, none⟩), .pointer (some ⟨b1, 0, none⟩), .pointer (some ⟨b2, 0, none⟩)] u _
  unfold oneF
  by_cases he : (k : Int) = i
  · subst he
    rw [if_pos rfl]
    have kt := hT k _ rfl hLs L g n c k cur m u hu hL hM rfl
    clear hT hM hLs h1 h2
    go_enter Try.func68, Try.ntmps68
    go_wp2_with (go_at_fn f; refine kt.mono ?_; clear kt; rintro e w24 ⟨rfl, hP⟩)
    go_end0
    exact ⟨rfl, hP⟩
  · rw [if_neg he]
    have hb : ((k : Int) == i) = false := by simp [he]
    have hs := hM.same (Below.refl _ _)
    clear hT hM hLs h1 h2
    go_enter Try.func68, Try.ntmps68
    go_wp2
    go_end0
    exact ⟨rfl, hs⟩

set_option maxRecDepth 100000 in
set_option maxHeartbeats 1000000 in
/-- Just one of a list changed, in memory of the call's own. -/
theorem one_is (f : FuncId) (caps : Array Value) (eg : Enters Try.prog f) (G : PMot → PMot) (i : Int) (l : List Mot) (A : Option Addr) (c : Nat) (w : World) (hm : Mots w A c l) (hl : l.length ≤ 100000) (hT : ∀ (j : Nat) q, i = (j : Int) → (l.map Mot.pure)[j]? = some q → Turns w f caps q (G q)) :
    Calls Try.prog 33 #[.slice A l.length c, .int .i64 i, .func (.func f) #[] caps] w fun e w' => JustMots w ((l.map Mot.pure).mapIdx (oneF i G)) e w' := by
  have e1 := enters_of (P := Try.prog) Try.func68 (by kernel_rfl) rfl
  have kk : ∀ (b1 b2 : Nat) (W : World), Below w.heap.size w W → W.cell? ⟨b1, 0, none⟩ = some (.int .i64 i) → W.cell? ⟨b2, 0, none⟩ = some (.func (.func f) #[] caps) → Calls Try.prog 54 #[.slice A l.length c, .func (.func 68) #[] #[.pointer (some ⟨b1, 0, none⟩), .pointer (some ⟨b2, 0, none⟩)]] W fun e w' => JustMots W ((l.map Mot.pure).mapIdx (oneF i G)) e w' :=
    fun b1 b2 W hB h1 h2 => changed_is _ _ e1 _ l A c W (hm.up hB) hl (one1_is f caps eg G i b1 b2 _ W h1 h2 (fun j q hj hq => (hT j q hj hq).up hB))
  have KK := Lib.hid kk
  clear kk hm hT e1 eg
  go_enter Try.func33, Try.ntmps33
  go_upto_region 1 with fail
  generalize hw0 : World.alloc (World.alloc _ _) _ = w0
  have hB : Below w.heap.size w w0 := by rw [← hw0]; exact ((Below.refl _ _).alloc (Nat.le_refl _) _).alloc (by simp) _
  have h1 : w0.cell? ⟨w.heap.size, 0, none⟩ = some (.int .i64 i) := by rw [← hw0]; simp [World.cell?_alloc_lt, cell_of_row _ _ _ _ _ _ (heap_alloc_new w _)]
  have h2 : w0.cell? ⟨w.heap.size + 1, 0, none⟩ = some (.func (.func f) #[] caps) := by
    rw [← hw0]
    have := cell_of_row _ (w.heap.size + 1) 0 _ _ _ (by have := heap_alloc_new (w.alloc (.cells #[.int .i64 i] 3)) (.cells #[.func (.func f) #[] caps] 88); rwa [World.size_alloc] at this)
    exact this
  clear hw0
  go_wp2_with (go_at_call 54; refine (KK.out _ _ _ hB h1 h2).mono ?_; clear KK; rintro e w1 ⟨l2, A2, c2, rfl, hl2, hm2, hb2⟩)
  go_ret
  exact ⟨l2, A2, c2, by first | rfl | simp, hl2, hm2, Below.then hB hb2⟩
end Go.Proofs.Ytcaejanfhchacaa
