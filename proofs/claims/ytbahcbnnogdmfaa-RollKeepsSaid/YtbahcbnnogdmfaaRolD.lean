/- Layer 20 (roll): a ring checked; the law's looks at rings; the document's run. By contracts. -/
import Derived.Test.YtbahcbnnogdmfaaRolB
import Derived.Test.YtbahcbnnogdmfaaRolC
namespace Go.Proofs.Ytbahcbnnogdmfaa
open Go.RowKit
set_option linter.unusedVariables false
set_option linter.unusedSimpArgs false

section
variable {P : Program} {w : World} {ops : Array Oper} {rest : List Oper} {o : Oper} {a : Act} {Q : Exit → Act → World → Prop}
/-- A list that may be none, behind a slice of the call's own. -/
theorem append_own_any (hgd : o.guard = none) (s x : Operand) (t : TypeId) (ho : o.op = .call { callee := .builtin .append, args := #[s, x], argTypes := #[t, t] })
    (base : Nat) (e : TypeId) (i : TypeInfo) (z : Value) (size bytes : Nat) (ht : P.underlying t = some (.slice e)) (hi : P.info? e = some i) (hz : i.zero = some z)
    (hsize : i.size = size) (hby : i.bytes = bytes) (hzs : z.cells.size = size) (hsz : 0 < size)
    (v : Value) (n : Nat) (xs : List Value) (hs : a.eval s = v) (hown : w.ownsRow base e size v n xs)
    (A : Option Addr) (m c : Nat) (news : List Value) (hx : a.eval x = .slice A m c) (hz0 : A = none → m = 0 ∧ c = 0) (hl : news.length = m * size) (hnews : ∀ j u, news[j]? = some u → ∃ ad, A = some ad ∧ w.cell? (ad.add j) = some u) (h1 : ∀ u ∈ news, u.oneCell' = true)
    (h63 : n + m ≤ maxLen) (hbytes : (n + m) * bytes ≤ 140737488355328) (hbase : base ≤ w.heap.size)
    (h : ∀ v' w', w'.ownsRow base e size v' (n + m) (xs ++ news) → w.grownBy w' v.ownBlock → wpList P ops Q rest (a.put o.dst v') w') : wpList P ops Q (o :: rest) a w := by
  rcases A with _ | ad
  · obtain ⟨rfl, rfl⟩ := hz0 rfl
    obtain rfl : news = [] := List.eq_nil_of_length_eq_zero (by simpa using hl)
    refine wpList_append_own_none hgd s x t ho base e i size ht hi v n xs hs hown hx (h v w (by simpa using hown) (grown_refl _ _))
  · exact wpList_append_own _ hgd s x t ho base e i z size bytes ht hi hz hsize hby hzs hsz v n xs hs hown ad m c news hx hl (fun j u hu => by
      obtain ⟨ad', e, h⟩ := hnews j u hu
      cases e
      exact h) h1 h63 hbytes hbase fun v' w' h2 h3 _ => h v' w' h2 h3
end

/-- An answer: 0, or the error's number. -/
def Checked (p : Prop) (e : Ending) : Prop := (p ∧ e = .returned (.int .i64 0)) ∨ (¬ p ∧ e = .returned (.int .i64 60))

set_option maxRecDepth 100000 in
set_option maxHeartbeats 1000000 in
theorem check_is (l : List BV) (ms : List Nat) (A Am : Option Addr) (c cm : Nat) (w : World) (hr : Ring w A l) (hm : Row w w.heap.size Am (u8s ms)) (hx : ∀ x ∈ ms, x < 256) (hz : A = none → c = 0) (hl : l.length ≤ c) (hc : c ≤ maxLen) :
    Calls Try.prog 18 #[.slice A l.length c, .slice Am ms.length cm] w fun e w' => Checked (RightRing (l.map BV.bs) ms) e ∧ Below w.heap.size w w' := by
  have hlm : (l.length : Int) ≤ 9223372036854775807 := by unfold maxLen at hc; omega
  by_cases h8 : 8 < l.length
  · have hI : (8 : Int) < (l.length : Int) := by omega
    have hno : Hid (¬ RightRing (l.map BV.bs) ms) := Lib.hid fun h => by have := h.1; simp at this; omega
    clear hr hm hx
    go_enter Try.func18, Try.ntmps18
    go_wp2
    go_ret
    exact ⟨.inr ⟨hno.out, rfl⟩, Below.refl _ _⟩
  · obtain ⟨i0, hi0, hz0, hz1, hz2⟩ := info_parts bv_info
    have hl8 : l.length ≤ 8 := by omega
    have hI : (l.length : Int) ≤ 8 := by omega
    have hst := World.ownsRow_lit w #[.slice Am ms.length cm] (base := w.heap.size) (e := 22) (size := 1) 1 (Nat.le_refl _) (by decide) rfl
    have hB0 : Below w.heap.size w (w.alloc (.cells #[.slice Am ms.length cm] 22)) := (Below.refl _ w).alloc (Nat.le_refl _) _
    have hR0 := hr.up hB0
    obtain ⟨L, hL⟩ : ∃ L : List BV, L = ⟨Am, ms, cm⟩ :: l := ⟨_, rfl⟩
    have hLl : L.length = l.length + 1 := by rw [hL]; simp
    have hring : Ring w Am [] := Ring.nil _ _
    have heach : ∀ W, Below w.heap.size w W → ∀ b ∈ L, Row W W.heap.size b.row (u8s b.bs) ∧ ∀ x ∈ b.bs, x < 256 := by
      intro W hB b hb
      rw [hL] at hb
      rcases List.mem_cons.1 hb with rfl | h
      · exact ⟨row_kept hm hB, hx⟩
      · exact (hr.up hB).each b h
    have hLb : bvs L = [.slice Am ms.length cm] ++ bvs l := by rw [hL]; rfl
    have hLR : (∀ b ∈ L, IsMarks b.bs) ↔ RightRing (l.map BV.bs) ms := by
      unfold RightRing
      rw [hL]
      simp
      intro _ _
      omega
    have HE := Lib.hid heach
    have HLb := Lib.hid hLb
    have HLR := Lib.hid hLR
    have HLl := Lib.hid hLl
    have hsrc : Hid (∀ j u, (bvs l)[j]? = some u → ∃ a, A = some a ∧ (w.alloc (.cells #[.slice Am ms.length cm] 22)).cell? (a.add j) = some u) := Lib.hid fun j u hu => by
      obtain ⟨a, hA, _, hc⟩ := hR0.row j u hu
      exact ⟨a, hA, hc⟩
    have hz' : A = none → l.length = 0 ∧ c = 0 := fun e => ⟨by have := hz e; omega, hz e⟩
    have HZ := Lib.hid hz'
    clear hL hring hR0 heach hLb hLR hLl hr hm hx h8 hc hz hz' hl
    go_enter Try.func18, Try.ntmps18
    go_wp2_with (at_builtin; refine append_own_any rfl (.tmp 11) (.tmp 12) 33 rfl w.heap.size 22 i0 (.slice none 0 0) 1 24 Try.underlying33 hi0 hz0 hz1 hz2 rfl (by decide) _ _ _ rfl hst A l.length c (bvs l) rfl HZ.out ?c1 hsrc.out bvs_one ?c2 ?c3 hB0.size ?_)
    case c1 => exact bvs_len l
    case c2 => simp only [maxLen]; omega
    case c3 => omega
    intro v3 w3 hown hgrow
    have hB3 : Below w.heap.size w w3 := hB0.grown hgrow (Nat.le_of_lt (by simp)) (by intro k hk; simp [Value.ownBlock] at hk; omega)
    have hown2 : w3.ownsRow w.heap.size 22 1 v3 L.length (bvs L) := by
      rw [HLb.out, HLl.out, Nat.add_comm]
      exact hown
    obtain ⟨A3, c3, rfl, hc3, hm3, hr3⟩ := Row.of_own hown2
    have hR3 : Ring w3 A3 L := ⟨hr3, HE.out w3 hB3⟩
    have HR3 := Lib.hid hR3
    have hL9 : L.length ≤ 9 := by have := HLl.out; omega
    have eL : ((l.length : Int) + 1) = (L.length : Int) := by have := HLl.out; omega
    have eL2 : (1 + (l.length : Int)) = (L.length : Int) := by have := HLl.out; omega
    have eL3 : 1 + l.length = L.length := by have := HLl.out; omega
    have eL4 : l.length + 1 = L.length := by have := HLl.out; omega
    clear hown hgrow hown2 hr3 hR3 hst hsrc HZ HE HLb HLl
    clear eL eL2 eL3 eL4
    go_wp2
    go_loopw [15] (fun iv wr => ∃ k : Nat, k ≤ L.length ∧ iv = .int .i64 (k : Int) ∧ Hid (∀ b ∈ L.take k, IsMarks b.bs) ∧ Below w3.heap.size w3 wr) (fun iv _ => L.length - (intOf iv).toNat)
    case atStart => exact ⟨0, Nat.zero_le _, rfl, Lib.hid (by intro b hb; simp at hb), Below.refl _ _⟩
    case round =>
      obtain ⟨k, hk, rfl, HT, hBr⟩ := hrel
      by_cases hlt : k < L.length
      · obtain ⟨a3, rfl, hab, hcell, hrow, hx⟩ := (HR3.out.up hBr).at hlt
        have htk := List.take_succ_eq_append_getElem hlt
        have hmem := List.getElem_mem hlt
        obtain ⟨b, hbb⟩ : ∃ b, L[k] = b := ⟨_, rfl⟩
        rw [hbb] at hcell hrow hx htk hmem
        obtain ⟨Ab, bs, cb⟩ := b
        simp only at hcell hrow hx
        have hkI : (k : Int) < (L.length : Int) := by omega
        have hBw : Below w.heap.size w wr := hB3.trans (hBr.mono hB3.size)
        have HTK := Lib.hid htk
        have HM := Lib.hid hmem
        by_cases hF : IsMarks bs
        · have kc := check_yes bs _ Ab cb 128 wr (row_lies hrow) hx hF
          have HF := Lib.hid hF
          clear htk hmem hbb hx hrow hab hF
          go_wp2_with (go_at_call 20; refine kc.mono ?_; clear kc; rintro e w4 ⟨rfl, hb4⟩)
          go_roundw
          case rel =>
            refine ⟨k + 1, by omega, by go_num, Lib.hid fun b hb => ?_, hBr.trans (hb4.mono hBr.size)⟩
            rw [HTK.out] at hb
            rcases List.mem_append.1 hb with h1 | h1
            · exact HT.out b h1
            · simp at h1; subst h1; exact HF.out
          case measure => simp [intOf]; omega
        · have kc := check_no bs _ Ab cb 128 wr (row_lies hrow) hx hF
          have HF := Lib.hid hF
          clear htk hmem hbb hx hrow hab hF
          go_wp2_with (go_at_call 20; refine kc.mono ?_; clear kc; rintro e w4 ⟨rfl, hb4⟩)
          go_ret
          exact ⟨.inr ⟨fun h => HF.out (HLR.out.2 h _ HM.out), rfl⟩, Below.then hBw hb4⟩
      · obtain rfl : k = L.length := by omega
        go_wp2
        go_ret
        refine ⟨.inl ⟨HLR.out.1 fun b hb => HT.out b ?_, rfl⟩, hB3.trans (hBr.mono hB3.size)⟩
        rw [List.take_length]
        exact hb

set_option maxRecDepth 100000 in
set_option maxHeartbeats 1000000 in
/-- The law's look at whether there are few. -/
theorem few_is (l : List BV) (A : Option Addr) (c : Nat) (w : World) (hr : Ring w A l) (hl : l.length ≤ c) (hc : c ≤ maxLen) (hb : ∀ b ∈ l, b.bs.length ≤ maxLen) :
    Calls Try.prog 12 #[.slice A l.length c] w fun e w' => Answers (l.length ≤ 50 ∧ ∀ b ∈ l, b.bs.length ≤ 100) e ∧ w = w' := by
  have hlm : (l.length : Int) ≤ 9223372036854775807 := by unfold maxLen at hc; omega
  have HR := Lib.hid hr
  have HB := Lib.hid hb
  clear hr hc hb hl
  go_enter Try.func12, Try.ntmps12
  go_wp2
  go_loopw [7] (fun iv wr => ∃ k : Nat, k ≤ l.length ∧ iv = .int .i64 (k : Int) ∧ Hid (∀ b ∈ l.take k, b.bs.length ≤ 100) ∧ w = wr) (fun iv _ => l.length - (intOf iv).toNat)
  case atStart => exact ⟨0, Nat.zero_le _, rfl, Lib.hid (by intro b hb; simp at hb), rfl⟩
  case round =>
    obtain ⟨k, hk, rfl, HT, rfl⟩ := hrel
    by_cases hlt : k < l.length
    · obtain ⟨a3, rfl, hab, hcell, hrow, hx⟩ := HR.out.at hlt
      have htk := List.take_succ_eq_append_getElem hlt
      have hmem := List.getElem_mem hlt
      have hbm := HB.out _ hmem
      obtain ⟨b, hbb⟩ : ∃ b, l[k] = b := ⟨_, rfl⟩
      rw [hbb] at hcell htk hmem hbm
      obtain ⟨Ab, bs, cb⟩ := b
      simp only at hcell hbm
      have hbm2 : (bs.length : Int) ≤ 9223372036854775807 := by unfold maxLen at hbm; omega
      have hkI : (k : Int) < (l.length : Int) := by omega
      have HTK := Lib.hid htk
      have HM := Lib.hid hmem
      clear htk hmem hbb hx hrow hab hbm
      by_cases hF : bs.length ≤ 100
      · have hI : ¬ (100 : Int) < (bs.length : Int) := by omega
        go_wp2
        go_roundw
        case rel =>
          refine ⟨k + 1, by omega, by go_num, Lib.hid fun b hb => ?_, trivial⟩
          rw [HTK.out] at hb
          rcases List.mem_append.1 hb with h1 | h1
          · exact HT.out b h1
          · simp at h1; subst h1; exact hF
        case measure => simp [intOf]; omega
      · have hI : (100 : Int) < (bs.length : Int) := by omega
        have HF := Lib.hid hF
        clear hF
        go_wp2
        go_ret
        exact ⟨answer_no (fun h => HF.out (h.2 _ HM.out)) rfl, rfl⟩
    · obtain rfl : k = l.length := by omega
      have hall : Hid (∀ b ∈ l, b.bs.length ≤ 100) := Lib.hid fun b hb => HT.out b (by rw [List.take_length]; exact hb)
      go_wp2
      go_ret
      refine ⟨⟨decide ((l.length : Int) ≤ 50), rfl, ?_⟩, rfl⟩
      rw [decide_eq_true_iff]
      exact ⟨fun h => ⟨by omega, hall.out⟩, fun h => by have := h.1; omega⟩

set_option maxRecDepth 100000 in
set_option maxHeartbeats 1000000 in
/-- Two rings of the same marks. -/
theorem rings_same (l l' : List BV) (A A' : Option Addr) (c c' : Nat) (w : World) (hr : Ring w A l) (hr' : Ring w A' l') (hl : l.length ≤ 100) (hs : ∀ b ∈ l, b.bs.length ≤ 1000) (h : l.map BV.bs = l'.map BV.bs) :
    Calls Try.prog 13 #[.slice A l.length c, .slice A' l'.length c'] w fun e w' => e = .returned (.bool true) ∧ Below w.heap.size w w' := by
  have hln : l.length = l'.length := by have := congrArg List.length h; simpa using this
  have hget : ∀ k (h1 : k < l.length) (h2 : k < l'.length), (l[k]).bs = (l'[k]).bs := by
    intro k h1 h2
    have := congrArg (fun x : List (List Nat) => x[k]?) h
    simpa [h1, h2] using this
  obtain ⟨n, hn⟩ : ∃ n, l.length = n := ⟨_, rfl⟩
  have hn' : l'.length = n := hln ▸ hn
  rw [hn, hn']
  rw [hn] at hl
  have HN := Lib.hid hn
  have HN' := Lib.hid hn'
  have HG := Lib.hid hget
  have HR := Lib.hid hr
  have HR' := Lib.hid hr'
  have HS := Lib.hid hs
  clear h hln hget hr hr' hs hn hn'
  have hnI : (n : Int) ≤ 100 := by omega
  go_enter Try.func13, Try.ntmps13
  go_wp2
  go_loopw [14] (fun iv wr => ∃ k : Nat, k ≤ n ∧ iv = .int .i64 (k : Int) ∧ Below w.heap.size w wr) (fun iv _ => n - (intOf iv).toNat)
  case atStart => exact ⟨0, Nat.zero_le _, rfl, Below.refl _ _⟩
  case round =>
    obtain ⟨k, hk, rfl, hBr⟩ := hrel
    by_cases hlt : k < n
    · have h1 : k < l.length := by rw [HN.out]; exact hlt
      have h2 : k < l'.length := by rw [HN'.out]; exact hlt
      have hg := HG.out k h1 h2
      obtain ⟨a, rfl, hab, hcell, hrow, hx⟩ := (HR.out.up hBr).at h1
      obtain ⟨a', rfl, hab', hcell', hrow', hx'⟩ := (HR'.out.up hBr).at h2
      have hsl := HS.out _ (List.getElem_mem h1)
      obtain ⟨b, hbb⟩ : ∃ b, l[k] = b := ⟨_, rfl⟩
      obtain ⟨b', hbb'⟩ : ∃ b, l'[k] = b := ⟨_, rfl⟩
      rw [hbb] at hg hcell hrow hsl
      rw [hbb'] at hg hcell' hrow'
      obtain ⟨Ab, bs, cb⟩ := b
      obtain ⟨Ab', bs', cb'⟩ := b'
      simp only at hg hcell hrow hcell' hrow' hsl
      subst hg
      have ks := same_true bs _ _ Ab Ab' cb cb' wr (row_lies hrow) (row_lies hrow') (by unfold maxLen; omega)
      have hkI : (k : Int) < (n : Int) := by omega
      have h0 : (0 : Int) ≤ (k : Int) := by omega
      clear hbb hbb' hx hx' hrow hrow' hab hab' h1 h2 hsl
      go_wp2_with (go_at_call 9; refine ks.mono ?_; clear ks; rintro e w4 ⟨rfl, hb4⟩)
      go_roundw
      case rel => exact ⟨k + 1, by omega, by go_num, hBr.trans (hb4.mono hBr.size)⟩
      case measure => simp [intOf]; omega
    · obtain rfl : k = n := by omega
      go_wp2
      go_ret
      exact ⟨rfl, hBr⟩

set_option maxRecDepth 100000 in
set_option maxHeartbeats 1000000 in
/-- The document's run. -/
theorem rrun_is (l : List BV) (i : Int) (A : Option Addr) (c : Nat) (w : World) (hr : Ring w A l) (hl : l.length ≤ c) (hc : c ≤ maxLen) (hi : i ≤ 9223372036854775807) :
    Calls Try.prog 17 #[.slice A l.length c, .int .i64 i] w fun e w' => e = .returned (.int .i64 (lasting (l.map BV.bs) i : Nat)) ∧ w = w' := by
  have hlm : (l.length : Int) ≤ 9223372036854775807 := by unfold maxLen at hc; omega
  have HR := Lib.hid hr
  obtain ⟨r, hrr⟩ : ∃ r, lasting (l.map BV.bs) i = r := ⟨_, rfl⟩
  have HRR := Lib.hid hrr
  rw [hrr]
  clear hr hc hl hrr
  go_enter Try.func17, Try.ntmps17
  go_wp2
  go_loopw [5] (fun iv wr => ∃ k : Nat, k ≤ l.length ∧ iv = .int .i64 (k : Int) ∧ Hid (∀ x ∈ (l.map BV.bs).take k, bitI x i = true) ∧ w = wr) (fun iv _ => l.length - (intOf iv).toNat)
  case atStart => exact ⟨0, Nat.zero_le _, rfl, Lib.hid (by intro b hb; simp at hb), rfl⟩
  case round =>
    obtain ⟨k, hk, rfl, HT, rfl⟩ := hrel
    by_cases hlt : k < l.length
    · have hlt' : k < (l.map BV.bs).length := by simpa using hlt
      obtain ⟨a3, rfl, hab, hcell, hrow, hx⟩ := HR.out.at hlt
      have htk := List.take_succ_eq_append_getElem hlt'
      have hgk : (l.map BV.bs)[k] = (l[k]).bs := by simp
      obtain ⟨b, hbb⟩ : ∃ b, l[k] = b := ⟨_, rfl⟩
      rw [hbb] at hcell hrow hx hgk
      obtain ⟨Ab, bs, cb⟩ := b
      simp only at hcell hrow hx hgk
      have kg := rget_ok bs _ Ab cb i w (row_lies hrow) hx hi
      have hkI : (k : Int) < (l.length : Int) := by omega
      have h0 : (0 : Int) ≤ (k : Int) := by omega
      rw [hgk] at htk
      have HTK := Lib.hid htk
      have HGK := Lib.hid hgk
      obtain ⟨y, hy⟩ : ∃ y, bitI bs i = y := ⟨_, rfl⟩
      rw [hy] at kg
      have HY := Lib.hid hy
      clear htk hgk hbb hx hrow hab hy
      cases y
      · go_wp2_with (go_at_call 19; refine kg.mono ?_; clear kg; rintro e w4 ⟨rfl, rfl⟩)
        have hfin := lasting_at hlt' HT.out (by rw [HGK.out]; exact HY.out)
        rw [HRR.out] at hfin
        subst hfin
        go_ret
        exact ⟨rfl, rfl⟩
      · go_wp2_with (go_at_call 19; refine kg.mono ?_; clear kg; rintro e w4 ⟨rfl, rfl⟩)
        go_roundw
        case rel =>
          refine ⟨k + 1, by omega, by go_num, Lib.hid fun x hx => ?_, trivial⟩
          rw [HTK.out] at hx
          rcases List.mem_append.1 hx with h1 | h1
          · exact HT.out x h1
          · simp at h1; subst h1; exact HY.out
        case measure => simp [intOf]; omega
    · obtain rfl : k = l.length := by omega
      have hfin := lasting_all (xs := l.map BV.bs) (i := i) fun x hx => HT.out x (by rw [List.take_of_length_le (by simp)]; exact hx)
      rw [HRR.out, List.length_map] at hfin
      subst hfin
      go_wp2
      go_ret
      exact ⟨rfl, rfl⟩
end Go.Proofs.Ytbahcbnnogdmfaa
