/- Layer 23 (moot): a motion that is moved, by the document. By contracts. -/
import Derived.Test.YtcaejanfhchacaaMooX
import Derived.Test.YtcaejanfhchacaaMooR
import Derived.Test.YtcaejanfhchacaaParSb
import Derived.Test.YtcaejanfhchacaaDeedY
import Derived.Test.YtcaejanfhchacaaDeedIn
import Derived.Test.YtcaejanfhchacaaDeedW0
namespace Go.Proofs.Ytcaejanfhchacaa
open Go.RowKit
set_option linter.unusedVariables false
set_option linter.unusedSimpArgs false

/-- The first that is over, of those from k on; or behind all. -/
structure FromK (L : List PMot) (k a : Nat) : Prop where
  le : k ≤ a ∧ a ≤ L.length
  none : ∀ j q, k ≤ j → j < a → L[j]? = some q → q.over = false
  hit : ∀ q, L[a]? = some q → q.over = true
theorem FromK.start (L : List PMot) : FromK L L.length L.length := ⟨⟨Nat.le_refl _, Nat.le_refl _⟩, fun j q h1 h2 => by omega, fun q h => by rw [List.getElem?_eq_none (Nat.le_refl _)] at h; cases h⟩
theorem FromK.yes {L : List PMot} {k a : Nat} {q : PMot} (h : FromK L (k + 1) a) (hk : L[k]? = some q) (h1 : q.over = true) : FromK L k k :=
  ⟨⟨Nat.le_refl _, Nat.le_of_lt (List.getElem?_eq_some_iff.1 hk).1⟩, fun j q' h1 h2 => by omega, fun q' h => by rw [hk] at h; cases h; exact h1⟩
theorem FromK.no {L : List PMot} {k a : Nat} {q : PMot} (h : FromK L (k + 1) a) (hk : L[k]? = some q) (h1 : q.over = false) : FromK L k a :=
  ⟨⟨by have := h.le; omega, h.le.2⟩, fun j q' h2 h3 hj => by
    by_cases e : j = k
    · subst e
      rw [hk] at hj
      cases hj
      exact h1
    · exact h.none j q' (by omega) h3 hj, h.hit⟩
theorem FromK.free {L : List PMot} {a : Nat} (h : FromK L 0 a) : freeOf L = a := by
  have hn : NoneP PMot.over L a := fun j x hj hx => h.none j x (Nat.zero_le _) hj hx
  by_cases ha : a < L.length
  · obtain ⟨q, hq⟩ : ∃ q, L[a]? = some q := ⟨_, List.getElem?_eq_getElem ha⟩
    exact freeOf_hit hn hq (h.hit q hq)
  · obtain rfl : a = L.length := by have := h.le; omega
    exact freeOf_none hn
theorem zeros_own {w : World} {base g : Nat} (hb : base ≤ g) (h : w.heap[g]? = some (.cells (madeCells #[Value.int .u8 0] 16) 5 (0, 0))) : w.ownsRow base 5 1 (.slice (some ⟨g, 0, none⟩) 16 16) 16 (u8s (List.replicate 16 0)) := by
  refine owns_bytes hb (by simp) (by unfold maxLen; omega) ?_
  rw [h, ← u8s_zero]

/-- Bytes of the call's own don't lie in a block that holds a motion. -/
theorem own_block {w w' : World} {lo n g : Nat} {v : Value} {xs : List Value} {C : Array Value} (h : w.ownsRow lo 5 1 v n xs) (hS : RecAt w g C 45) (hg : w.grownBy w' (some g)) : w'.ownsRow lo 5 1 v n xs :=
  own_apart h hg (fun q e e2 => by
    rcases h.2 with ⟨rfl, _⟩ | ⟨g1, c1, cur1, rfl, _, hh1, _⟩
    · cases e
    · simp only [Value.ownBlock, Option.some.injEq] at e e2
      have h3 : w.heap[g1]? = some (.cells C 45 (0, 0)) := by rw [e, ← e2]; exact hS
      rw [hh1] at h3
      simp only [Option.some.injEq, Obj.cells.injEq] at h3
      exact absurd h3.2.1 (by decide))

set_option maxRecDepth 100000 in
set_option maxHeartbeats 4000000 in
theorem ropen_param (p : Par) (l : List Mot) (A : Option Addr) (c : Nat) (d : Dd) (AD : Option Addr) (cD : Nat) (ep : Int) (w : World) (h : ¬ ∃ T, Par.Right p T) :
    Calls Try.prog 16 #[.agg p.vals, .slice A l.length c, .agg (d.vals AD cD), .int .i64 ep] w fun e w' => OpenOf w ([], 0, 70) e w' := by
  have KC := fun W => refright_no p W h
  clear h
  go_enter Try.func16, Try.ntmps16
  go_upto_region 1 with fail
  generalize hw0 : World.alloc (World.alloc _ _) _ = w0
  have hB : Below w.heap.size w w0 := by rw [← hw0]; exact ((Below.refl _ _).alloc (Nat.le_refl _) _).alloc (by simp) _
  have hP : ParAt w0 w.heap.size p 43 := by rw [← hw0]; exact (ParAt.new w p 43).up ((Below.refl _ _).alloc (Nat.le_refl _) _)
  have hD : DeedAt w0 (w.heap.size + 1) d AD cD 57 := by
    rw [← hw0]
    have := DeedAt.new (w.alloc (.cells p.vals 43)) d AD cD 57
    rw [World.size_alloc] at this
    exact this
  clear hw0
  go_wp2_with (first
    | ((with_reducible refine slot_is 15 rfl ?_); refine load_ref _ rfl rfl _ p _ rfl hP ?_)
    | (go_at_call 19; refine (KC _).mono ?_; clear KC; rintro e w1 ⟨rfl, hb⟩; have hP := hP.up hb; have hD := hD.next hb; have hB := Below.then hB hb; clear hb))
  go_ret3
  exact ⟨[], _, _, by first | rfl | simp, rfl, Mots.nil _, hB⟩

set_option maxRecDepth 100000 in
set_option maxHeartbeats 4000000 in
theorem ropen_kind (p : Par) (l : List Mot) (A : Option Addr) (c : Nat) (d : Dd) (AD : Option Addr) (cD : Nat) (ep : Int) (w : World) (T : Nat) (h : Par.Right p T) (hk : ¬ d.kind = 6) :
    Calls Try.prog 16 #[.agg p.vals, .slice A l.length c, .agg (d.vals AD cD), .int .i64 ep] w fun e w' => OpenOf w ([], 0, 80) e w' := by
  have KC := fun W => refright_ok p T W h
  have b1 : (d.kind == 6) = false := by simp [hk]
  have b2 : (d.kind != 6) = true := by simp [hk]
  clear h hk
  go_enter Try.func16, Try.ntmps16
  go_upto_region 1 with fail
  generalize hw0 : World.alloc (World.alloc _ _) _ = w0
  have hB : Below w.heap.size w w0 := by rw [← hw0]; exact ((Below.refl _ _).alloc (Nat.le_refl _) _).alloc (by simp) _
  have hP : ParAt w0 w.heap.size p 43 := by rw [← hw0]; exact (ParAt.new w p 43).up ((Below.refl _ _).alloc (Nat.le_refl _) _)
  have hD : DeedAt w0 (w.heap.size + 1) d AD cD 57 := by
    rw [← hw0]
    have := DeedAt.new (w.alloc (.cells p.vals 43)) d AD cD 57
    rw [World.size_alloc] at this
    exact this
  clear hw0
  go_wp2_with (first
    | ((with_reducible refine slot_is 15 rfl ?_); refine load_ref _ rfl rfl _ p _ rfl hP ?_)
    | (go_at_call 19; refine (KC _).mono ?_; clear KC; rintro e w1 ⟨rfl, hb⟩; have hP := hP.up hb; have hD := hD.next hb; have hB := Below.then hB hb; clear hb; have k0 : w1.cell? ⟨w.heap.size + 1, 0, none⟩ = some (.int .i64 d.kind) := hD.k0))
  go_ret3
  exact ⟨[], _, _, by first | rfl | simp, rfl, Mots.nil _, hB⟩

set_option maxRecDepth 100000 in
set_option maxHeartbeats 4000000 in
theorem ropen_deed (p : Par) (l : List Mot) (A : Option Addr) (c : Nat) (d : Dd) (AD : Option Addr) (cD : Nat) (ep : Int) (w : World) (T : Nat) (h : Par.Right p T) (hk : d.kind = 6) (hf : d.Fits) (hd : ¬ d.Right) :
    Calls Try.prog 16 #[.agg p.vals, .slice A l.length c, .agg (d.vals AD cD), .int .i64 ep] w fun e w' => OpenOf w ([], 0, 80) e w' := by
  have KC := fun W => refright_ok p T W h
  have KR := fun W => rright_is d AD cD W false hf (by simp [hd])
  clear h hf hd
  go_enter Try.func16, Try.ntmps16
  go_upto_region 1 with fail
  generalize hw0 : World.alloc (World.alloc _ _) _ = w0
  have hB : Below w.heap.size w w0 := by rw [← hw0]; exact ((Below.refl _ _).alloc (Nat.le_refl _) _).alloc (by simp) _
  have hP : ParAt w0 w.heap.size p 43 := by rw [← hw0]; exact (ParAt.new w p 43).up ((Below.refl _ _).alloc (Nat.le_refl _) _)
  have hD : DeedAt w0 (w.heap.size + 1) d AD cD 57 := by
    rw [← hw0]
    have := DeedAt.new (w.alloc (.cells p.vals 43)) d AD cD 57
    rw [World.size_alloc] at this
    exact this
  clear hw0
  go_wp2_with (first
    | ((with_reducible refine slot_is 15 rfl ?_); refine load_ref _ rfl rfl _ p _ rfl hP ?_)
    | (go_at_call 19; refine (KC _).mono ?_; clear KC; rintro e w1 ⟨rfl, hb⟩; have hP := hP.up hb; have hD := hD.next hb; have hB := Below.then hB hb; clear hb; have k0 : w1.cell? ⟨w.heap.size + 1, 0, none⟩ = some (.int .i64 6) := hD.k0.trans (by rw [hk]))
    | ((with_reducible refine slot_is 22 rfl ?_); refine load_rdeed _ rfl rfl _ d AD cD _ rfl hD ?_)
    | (go_at_call 50; refine (KR _).mono ?_; clear KR; rintro e w2 ⟨rfl, hb⟩; have hP := hP.up hb; have hD := hD.next hb; have hB := Below.then hB hb; clear hb; clear k0))
  go_ret3
  exact ⟨[], _, _, by first | rfl | simp, rfl, Mots.nil _, hB⟩

set_option maxRecDepth 100000 in
set_option maxHeartbeats 4000000 in
theorem ropen_arg (p : Par) (l : List Mot) (A : Option Addr) (c : Nat) (d : Dd) (AD : Option Addr) (cD : Nat) (ep : Int) (w : World) (T : Nat) (h : Par.Right p T) (hk : d.kind = 6) (hf : d.Fits) (hd : d.Right) (he : ¬ (0 ≤ ep ∧ ep ≤ 1073741824)) :
    Calls Try.prog 16 #[.agg p.vals, .slice A l.length c, .agg (d.vals AD cD), .int .i64 ep] w fun e w' => OpenOf w ([], 0, 2) e w' := by
  have KC := fun W => refright_ok p T W h
  have KR := fun W => rright_is d AD cD W true hf (by simp [hd])
  have KI := fun W => rin23_is ep 0 1073741824 W
  rw [inB_no he] at KI
  clear h hf hd he
  go_enter Try.func16, Try.ntmps16
  go_upto_region 1 with fail
  generalize hw0 : World.alloc (World.alloc _ _) _ = w0
  have hB : Below w.heap.size w w0 := by rw [← hw0]; exact ((Below.refl _ _).alloc (Nat.le_refl _) _).alloc (by simp) _
  have hP : ParAt w0 w.heap.size p 43 := by rw [← hw0]; exact (ParAt.new w p 43).up ((Below.refl _ _).alloc (Nat.le_refl _) _)
  have hD : DeedAt w0 (w.heap.size + 1) d AD cD 57 := by
    rw [← hw0]
    have := DeedAt.new (w.alloc (.cells p.vals 43)) d AD cD 57
    rw [World.size_alloc] at this
    exact this
  clear hw0
  go_wp2_with (first
    | ((with_reducible refine slot_is 15 rfl ?_); refine load_ref _ rfl rfl _ p _ rfl hP ?_)
    | (go_at_call 19; refine (KC _).mono ?_; clear KC; rintro e w1 ⟨rfl, hb⟩; have hP := hP.up hb; have hD := hD.next hb; have hB := Below.then hB hb; clear hb; have k0 : w1.cell? ⟨w.heap.size + 1, 0, none⟩ = some (.int .i64 6) := hD.k0.trans (by rw [hk]))
    | ((with_reducible refine slot_is 22 rfl ?_); refine load_rdeed _ rfl rfl _ d AD cD _ rfl hD ?_)
    | (go_at_call 50; refine (KR _).mono ?_; clear KR; rintro e w2 ⟨rfl, hb⟩; have hP := hP.up hb; have hD := hD.next hb; have hB := Below.then hB hb; clear hb; clear k0)
    | (go_at_call 36; refine (KI _).mono ?_; clear KI; rintro e w' ⟨rfl, rfl⟩))
  go_ret3
  exact ⟨[], _, _, by first | rfl | simp, rfl, Mots.nil _, hB⟩

set_option maxRecDepth 100000 in
set_option maxHeartbeats 4000000 in
theorem ropen_full (p : Par) (l : List Mot) (A : Option Addr) (c : Nat) (d : Dd) (AD : Option Addr) (cD : Nat) (ep : Int) (w : World) (T : Nat) (h : Par.Right p T) (hk : d.kind = 6) (hf : d.Fits) (hd : d.Right) (he : 0 ≤ ep ∧ ep ≤ 1073741824) (hm : Mots w A c l) (hl : l.length ≤ 100000) (h5 : ¬ freeOf (l.map Mot.pure) < 32) :
    Calls Try.prog 16 #[.agg p.vals, .slice A l.length c, .agg (d.vals AD cD), .int .i64 ep] w fun e w' => OpenOf w ([], 0, 161) e w' := by
  have KC := fun W => refright_ok p T W h
  have KR := fun W => rright_is d AD cD W true hf (by simp [hd])
  have KI := fun W => rin23_is ep 0 1073741824 W
  rw [inB_yes he] at KI
  have hda : d.amount < 18446744073709551616 := hf.amount
  have hdp : d.par.Fits := hf.par
  have hpo : 0 ≤ p.poll ∧ p.poll ≤ 2147483647 := by have h0 := h.spans.poll0; have h1 := h.spans.poll1; omega
  clear h hf hd he hda hdp hpo
  go_enter Try.func16, Try.ntmps16
  go_upto_region 1 with fail
  generalize hw0 : World.alloc (World.alloc _ _) _ = w0
  have hB : Below w.heap.size w w0 := by rw [← hw0]; exact ((Below.refl _ _).alloc (Nat.le_refl _) _).alloc (by simp) _
  have hP : ParAt w0 w.heap.size p 43 := by rw [← hw0]; exact (ParAt.new w p 43).up ((Below.refl _ _).alloc (Nat.le_refl _) _)
  have hD : DeedAt w0 (w.heap.size + 1) d AD cD 57 := by
    rw [← hw0]
    have := DeedAt.new (w.alloc (.cells p.vals 43)) d AD cD 57
    rw [World.size_alloc] at this
    exact this
  clear hw0
  go_wp2_with (first
    | ((with_reducible refine slot_is 15 rfl ?_); refine load_ref _ rfl rfl _ p _ rfl hP ?_)
    | (go_at_call 19; refine (KC _).mono ?_; clear KC; rintro e w1 ⟨rfl, hb⟩; have hP := hP.up hb; have hD := hD.next hb; have hB := Below.then hB hb; clear hb; have k0 : w1.cell? ⟨w.heap.size + 1, 0, none⟩ = some (.int .i64 6) := hD.k0.trans (by rw [hk]))
    | ((with_reducible refine slot_is 22 rfl ?_); refine load_rdeed _ rfl rfl _ d AD cD _ rfl hD ?_)
    | (go_at_call 50; refine (KR _).mono ?_; clear KR; rintro e w2 ⟨rfl, hb⟩; have hP := hP.up hb; have hD := hD.next hb; have hB := Below.then hB hb; clear hb; clear k0)
    | (go_at_call 36; refine (KI _).mono ?_; clear KI; rintro e w' ⟨rfl, rfl⟩))
  have HMS0 := Lib.hid (hm)
  go_loopw [11, 12] (fun av iv wr => ∃ (k a : Nat), k ≤ l.length ∧ iv = .int .i64 ((k : Int) - 1) ∧ av = .int .i64 (a : Int) ∧ Hid (FromK (l.map Mot.pure) k a) ∧ wr = w2) (fun _ iv _ => (intOf iv + 1).toNat)
  case atStart => exact ⟨l.length, l.length, Nat.le_refl _, rfl, rfl, Lib.hid (by have := FromK.start (l.map Mot.pure); rw [List.length_map] at this; exact this), rfl⟩
  case round =>
    obtain ⟨k, a1, hk, rfl, rfl, HF, rfl⟩ := hrel
    cases k with
    | succ j =>
      have hj : ((j + 1 : Nat) : Int) - 1 = (j : Int) := by omega
      rw [hj]
      have hjl : j < l.length := by omega
      obtain ⟨m, hs⟩ : ∃ m, l[j]? = some m := ⟨_, List.getElem?_eq_getElem hjl⟩
      obtain ⟨a, rfl, hab, hat, -⟩ := (HMS0.out.up hB).at hs
      have hp : (l.map Mot.pure)[j]? = some m.pure := by rw [List.getElem?_map, hs]; rfl
      have hjI : (j : Int) < (l.length : Int) := by omega
      have hj0 : (0 : Int) ≤ (j : Int) := by omega
      have hyes := fun h => HF.out.yes hp h
      have hno := fun h => HF.out.no hp h
      clear hs hab hp HF
      by_cases h3 : m.st = 3
      · have HF2 := Lib.hid (hyes (by simp [PMot.over, Mot.pure, h3]))
        have x7 : wr.cell? ⟨(a.add (j * 33)).block, (a.add (j * 33)).off + 30, none⟩ = some (.int .i64 3) := (hat.fld 29 rfl).trans (by show some (Value.int .i64 m.st) = _; rw [h3])
        clear hyes hno hat h3
        go_wp2
        go_roundw
        case rel => exact ⟨j, j, by omega, by go_num, rfl, HF2, trivial⟩
        case measure => simp [intOf]
      · by_cases h4 : m.st = 4
        · have HF2 := Lib.hid (hyes (by simp [PMot.over, Mot.pure, h4]))
          have x7 : wr.cell? ⟨(a.add (j * 33)).block, (a.add (j * 33)).off + 30, none⟩ = some (.int .i64 4) := (hat.fld 29 rfl).trans (by show some (Value.int .i64 m.st) = _; rw [h4])
          clear hyes hno hat h3 h4
          go_wp2
          go_roundw
          case rel => exact ⟨j, j, by omega, by go_num, rfl, HF2, trivial⟩
          case measure => simp [intOf]
        · have HF2 := Lib.hid (hno (by simp [PMot.over, Mot.pure, h3, h4]))
          have x7 : wr.cell? ⟨(a.add (j * 33)).block, (a.add (j * 33)).off + 30, none⟩ = some (.int .i64 m.st) := hat.fld 29 rfl
          have b3 : (m.st == 3) = false := by simp [h3]
          have b4 : (m.st == 4) = false := by simp [h4]
          clear hyes hno hat h3 h4
          go_wp2
          go_roundw
          case rel => exact ⟨j, a1, by omega, by go_num, rfl, HF2, trivial⟩
          case measure => simp [intOf]
    | zero =>
      have hz : ((0 : Nat) : Int) - 1 = -1 := rfl
      rw [hz]
      have hfr := HF.out.free
      rw [hfr] at h5
      obtain ⟨w5, rfl⟩ : ∃ x : World, x = wr := ⟨_, rfl⟩
      have n1 : decide ((31 : Int) < (a1 : Int)) = true := decide_eq_true (by omega)
      have n2 : decide (31 < a1) = true := decide_eq_true (by omega)
      clear HF hfr h5
      go_wp2
      go_ret3
      exact ⟨[], _, _, by first | rfl | simp, rfl, Mots.nil _, hB⟩

set_option maxRecDepth 100000 in
set_option maxHeartbeats 4000000 in
theorem ropen_set (p : Par) (l : List Mot) (A : Option Addr) (c : Nat) (d : Dd) (AD : Option Addr) (cD : Nat) (ep : Int) (w : World) (T : Nat) (h : Par.Right p T) (hk : d.kind = 6) (hf : d.Fits) (hd : d.Right) (he : 0 ≤ ep ∧ ep ≤ 1073741824) (hm : Mots w A c l) (hl : l.length ≤ 100000) (h5 : freeOf (l.map Mot.pure) < 32) (h6 : freeOf (l.map Mot.pure) < l.length) :
    Calls Try.prog 16 #[.agg p.vals, .slice A l.length c, .agg (d.vals AD cD), .int .i64 ep] w fun e w' => OpenOf w ((l.map Mot.pure).set (freeOf (l.map Mot.pure)) (movedOf d (ep + p.poll)), freeOf (l.map Mot.pure), 0) e w' := by
  have KC := fun W => refright_ok p T W h
  have KR := fun W => rright_is d AD cD W true hf (by simp [hd])
  have KI := fun W => rin23_is ep 0 1073741824 W
  rw [inB_yes he] at KI
  have hda : d.amount < 18446744073709551616 := hf.amount
  have hdp : d.par.Fits := hf.par
  have hpo : 0 ≤ p.poll ∧ p.poll ≤ 2147483647 := by have h0 := h.spans.poll0; have h1 := h.spans.poll1; omega
  obtain ⟨i0, hi0, hz0, hz1, hz2⟩ := info_parts u8_info
  have HMK : Hid (∀ W : World, (Instr.makeSlice 38 (.int .i64 16) (.int .i64 16)).run Try.prog W =
      .ok (.slice (some ⟨W.heap.size, 0, none⟩) 16 16) (W.alloc (.cells (madeCells #[.int .u8 0] 16) 5))) := Lib.hid (by
    intro W
    have h := run_make (P := Try.prog) W 38 5 i0 (.int .u8 0) Try.underlying38 hi0 hz0 .i64 .i64 16 16 (by omega) (by omega) (by rw [hz2]; omega) (by omega)
    rw [hz1] at h
    exact h)
  clear hi0 hz0 hz1 hz2
  obtain ⟨s, hs⟩ : ∃ s, ep + p.poll = s := ⟨_, rfl⟩
  have HS := Lib.hid hs
  have HL := Lib.hid hl
  obtain ⟨fr, hfr0⟩ : ∃ fr, freeOf (l.map Mot.pure) = fr := ⟨_, rfl⟩
  rw [hfr0] at h5 h6 ⊢
  have HFR := Lib.hid hfr0
  have hls : l.length ≤ 100000 := hl
  clear h hf hd hs hfr0
  go_enter Try.func16, Try.ntmps16
  go_upto_region 1 with fail
  generalize hw0 : World.alloc (World.alloc _ _) _ = w0
  have hB : Below w.heap.size w w0 := by rw [← hw0]; exact ((Below.refl _ _).alloc (Nat.le_refl _) _).alloc (by simp) _
  have hP : ParAt w0 w.heap.size p 43 := by rw [← hw0]; exact (ParAt.new w p 43).up ((Below.refl _ _).alloc (Nat.le_refl _) _)
  have hD : DeedAt w0 (w.heap.size + 1) d AD cD 57 := by
    rw [← hw0]
    have := DeedAt.new (w.alloc (.cells p.vals 43)) d AD cD 57
    rw [World.size_alloc] at this
    exact this
  clear hw0
  go_wp2_with (first
    | ((with_reducible refine slot_is 15 rfl ?_); refine load_ref _ rfl rfl _ p _ rfl hP ?_)
    | (go_at_call 19; refine (KC _).mono ?_; clear KC; rintro e w1 ⟨rfl, hb⟩; have hP := hP.up hb; have hD := hD.next hb; have hB := Below.then hB hb; clear hb; have k0 : w1.cell? ⟨w.heap.size + 1, 0, none⟩ = some (.int .i64 6) := hD.k0.trans (by rw [hk]))
    | ((with_reducible refine slot_is 22 rfl ?_); refine load_rdeed _ rfl rfl _ d AD cD _ rfl hD ?_)
    | (go_at_call 50; refine (KR _).mono ?_; clear KR; rintro e w2 ⟨rfl, hb⟩; have hP := hP.up hb; have hD := hD.next hb; have hB := Below.then hB hb; clear hb; clear k0)
    | (go_at_call 36; refine (KI _).mono ?_; clear KI; rintro e w' ⟨rfl, rfl⟩))
  have HMS0 := Lib.hid (hm)
  go_loopw [11, 12] (fun av iv wr => ∃ (k a : Nat), k ≤ l.length ∧ iv = .int .i64 ((k : Int) - 1) ∧ av = .int .i64 (a : Int) ∧ Hid (FromK (l.map Mot.pure) k a) ∧ wr = w2) (fun _ iv _ => (intOf iv + 1).toNat)
  case atStart => exact ⟨l.length, l.length, Nat.le_refl _, rfl, rfl, Lib.hid (by have := FromK.start (l.map Mot.pure); rw [List.length_map] at this; exact this), rfl⟩
  case round =>
    obtain ⟨k, a1, hk, rfl, rfl, HF, rfl⟩ := hrel
    cases k with
    | succ j =>
      have hj : ((j + 1 : Nat) : Int) - 1 = (j : Int) := by omega
      rw [hj]
      have hjl : j < l.length := by omega
      obtain ⟨m, hs⟩ : ∃ m, l[j]? = some m := ⟨_, List.getElem?_eq_getElem hjl⟩
      obtain ⟨a, rfl, hab, hat, -⟩ := (HMS0.out.up hB).at hs
      have hp : (l.map Mot.pure)[j]? = some m.pure := by rw [List.getElem?_map, hs]; rfl
      have hjI : (j : Int) < (l.length : Int) := by omega
      have hj0 : (0 : Int) ≤ (j : Int) := by omega
      have hyes := fun h => HF.out.yes hp h
      have hno := fun h => HF.out.no hp h
      clear hs hab hp HF
      by_cases h3 : m.st = 3
      · have HF2 := Lib.hid (hyes (by simp [PMot.over, Mot.pure, h3]))
        have x7 : wr.cell? ⟨(a.add (j * 33)).block, (a.add (j * 33)).off + 30, none⟩ = some (.int .i64 3) := (hat.fld 29 rfl).trans (by show some (Value.int .i64 m.st) = _; rw [h3])
        clear hyes hno hat h3
        go_wp2
        go_roundw
        case rel => exact ⟨j, j, by omega, by go_num, rfl, HF2, trivial⟩
        case measure => simp [intOf]
      · by_cases h4 : m.st = 4
        · have HF2 := Lib.hid (hyes (by simp [PMot.over, Mot.pure, h4]))
          have x7 : wr.cell? ⟨(a.add (j * 33)).block, (a.add (j * 33)).off + 30, none⟩ = some (.int .i64 4) := (hat.fld 29 rfl).trans (by show some (Value.int .i64 m.st) = _; rw [h4])
          clear hyes hno hat h3 h4
          go_wp2
          go_roundw
          case rel => exact ⟨j, j, by omega, by go_num, rfl, HF2, trivial⟩
          case measure => simp [intOf]
        · have HF2 := Lib.hid (hno (by simp [PMot.over, Mot.pure, h3, h4]))
          have x7 : wr.cell? ⟨(a.add (j * 33)).block, (a.add (j * 33)).off + 30, none⟩ = some (.int .i64 m.st) := hat.fld 29 rfl
          have b3 : (m.st == 3) = false := by simp [h3]
          have b4 : (m.st == 4) = false := by simp [h4]
          clear hyes hno hat h3 h4
          go_wp2
          go_roundw
          case rel => exact ⟨j, a1, by omega, by go_num, rfl, HF2, trivial⟩
          case measure => simp [intOf]
    | zero =>
      have hz : ((0 : Nat) : Int) - 1 = -1 := rfl
      rw [hz]
      have hfr := HF.out.free
      have hfa : a1 = fr := by rw [← HFR.out]; exact hfr.symm
      subst hfa
      obtain ⟨w5, rfl⟩ : ∃ x : World, x = wr := ⟨_, rfl⟩
      have we : IntKind.i64.wrap (ep + p.poll) = s := by rw [IntWalk.i64_in _ (by omega)]; exact HS.out
      have n1 : decide ((31 : Int) < (a1 : Int)) = false := decide_eq_false (by omega)
      have n2 : decide (31 < a1) = false := decide_eq_false (by omega)
      clear HF
      go_upto_region 15 with fail
      have C1 : ∀ w1, Below w5.heap.size w5 w1 → w1.cell? ⟨w.heap.size + 1, 1, none⟩ = some (.int .i64 d.account) := fun w1 hb => (hD.next hb).k1
      have C3 : ∀ w1, Below w5.heap.size w5 w1 → w1.cell? ⟨w.heap.size + 1, 3, none⟩ = some (.int .i64 d.dest) := fun w1 hb => (hD.next hb).k3
      have C4 : ∀ w1, Below w5.heap.size w5 w1 → w1.cell? ⟨w.heap.size + 1, 4, none⟩ = some (.int .u64 (d.amount : Int)) := fun w1 hb => (hD.next hb).k4
      have C7 : ∀ w1, Below w5.heap.size w5 w1 → w1.cell? ⟨w.heap.size + 1, 7, none⟩ = some (.int .i64 d.what) := fun w1 hb => (hD.next hb).k7
      have CP : ∀ w1, Below w5.heap.size w5 w1 → LiesAt w1 ⟨w.heap.size + 1, 8, none⟩ d.par.vals := fun w1 hb => deed_par (hD.next hb)
      have CQ : ∀ w1, Below w5.heap.size w5 w1 → w1.cell? ⟨w.heap.size, 21, none⟩ = some (.int .i64 p.poll) := fun w1 hb => (hP.up hb).cell 21
      refine region_vary [17] 18 (fun w' => Below w5.heap.size w5 w') (by kernel_rfl) (by kernel_rfl) (Below.refl _ _).drew ?_
      simp only [List.take_succ_cons, List.take_zero, List.drop_succ_cons, List.drop_zero]
      refine SeqV.take (fun _ => .pointer (some ⟨w.heap.size + 1, 1, none⟩)) (fun _ => by rfl) (by rfl) (fun _ _ _ => rfl) (fun val w1 hS hR => ?_) ?_; · (go_simp <;> with_reducible rfl)
      simp only [Act.put, List.setIfInBounds_toArray, List.set_cons_zero, List.set_cons_succ]
      refine SeqV.take (fun _ => .int .i64 d.account) (fun _ => by rfl) (by rfl) (fun _ _ _ => rfl) (fun val w1 hS hR => ?_) ?_; · (have x := C1 w1 hS; go_simp <;> with_reducible rfl)
      simp only [Act.put, List.setIfInBounds_toArray, List.set_cons_zero, List.set_cons_succ]
      refine SeqV.take (fun _ => .pointer (some ⟨w.heap.size + 1, 7, none⟩)) (fun _ => by rfl) (by rfl) (fun _ _ _ => rfl) (fun val w1 hS hR => ?_) ?_; · (go_simp <;> with_reducible rfl)
      simp only [Act.put, List.setIfInBounds_toArray, List.set_cons_zero, List.set_cons_succ]
      refine SeqV.take (fun _ => .int .i64 d.what) (fun _ => by rfl) (by rfl) (fun _ _ _ => rfl) (fun val w1 hS hR => ?_) ?_; · (have x := C7 w1 hS; go_simp <;> with_reducible rfl)
      simp only [Act.put, List.setIfInBounds_toArray, List.set_cons_zero, List.set_cons_succ]
      refine SeqV.take (fun _ => .pointer (some ⟨w.heap.size + 1, 8, none⟩)) (fun _ => by rfl) (by rfl) (fun _ _ _ => rfl) (fun val w1 hS hR => ?_) ?_; · (go_simp <;> with_reducible rfl)
      simp only [Act.put, List.setIfInBounds_toArray, List.set_cons_zero, List.set_cons_succ]
      refine SeqV.take (fun _ => .agg d.par.vals) (fun _ => by rfl) (by rfl) (fun _ _ _ => rfl) (fun val w1 hS hR => exec_load_rec 43 _ rfl _ d.par.vals rfl (CP w1 hS) Try.underlying43 rpar_size) ?_
      simp only [Act.put, List.setIfInBounds_toArray, List.set_cons_zero, List.set_cons_succ]
      refine SeqV.take (fun _ => .pointer (some ⟨w.heap.size + 1, 3, none⟩)) (fun _ => by rfl) (by rfl) (fun _ _ _ => rfl) (fun val w1 hS hR => ?_) ?_; · (go_simp <;> with_reducible rfl)
      simp only [Act.put, List.setIfInBounds_toArray, List.set_cons_zero, List.set_cons_succ]
      refine SeqV.take (fun _ => .int .i64 d.dest) (fun _ => by rfl) (by rfl) (fun _ _ _ => rfl) (fun val w1 hS hR => ?_) ?_; · (have x := C3 w1 hS; go_simp <;> with_reducible rfl)
      simp only [Act.put, List.setIfInBounds_toArray, List.set_cons_zero, List.set_cons_succ]
      refine SeqV.take (fun _ => .pointer (some ⟨w.heap.size + 1, 4, none⟩)) (fun _ => by rfl) (by rfl) (fun _ _ _ => rfl) (fun val w1 hS hR => ?_) ?_; · (go_simp <;> with_reducible rfl)
      simp only [Act.put, List.setIfInBounds_toArray, List.set_cons_zero, List.set_cons_succ]
      refine SeqV.take (fun _ => .int .u64 (d.amount : Int)) (fun _ => by rfl) (by rfl) (fun _ _ _ => rfl) (fun val w1 hS hR => ?_) ?_; · (have x := C4 w1 hS; go_simp <;> with_reducible rfl)
      simp only [Act.put, List.setIfInBounds_toArray, List.set_cons_zero, List.set_cons_succ]
      refine SeqV.take (fun _ => .int .i64 ep) (fun _ => by rfl) (by rfl) (fun _ _ _ => rfl) (fun val w1 hS hR => ?_) ?_; · (go_simp <;> with_reducible rfl)
      simp only [Act.put, List.setIfInBounds_toArray, List.set_cons_zero, List.set_cons_succ]
      refine SeqV.take (fun _ => .pointer (some ⟨w.heap.size, 21, none⟩)) (fun _ => by rfl) (by rfl) (fun _ _ _ => rfl) (fun val w1 hS hR => ?_) ?_; · (go_simp <;> with_reducible rfl)
      simp only [Act.put, List.setIfInBounds_toArray, List.set_cons_zero, List.set_cons_succ]
      refine SeqV.take (fun _ => .int .i64 p.poll) (fun _ => by rfl) (by rfl) (fun _ _ _ => rfl) (fun val w1 hS hR => ?_) ?_; · (have x := CQ w1 hS; go_simp <;> with_reducible rfl)
      simp only [Act.put, List.setIfInBounds_toArray, List.set_cons_zero, List.set_cons_succ]
      refine SeqV.take (fun _ => .int .i64 s) (fun _ => by rfl) (by rfl) (fun _ _ _ => rfl) (fun val w1 hS hR => ?_) ?_; · (go_simp <;> with_reducible rfl)
      simp only [Act.put, List.setIfInBounds_toArray, List.set_cons_zero, List.set_cons_succ]
      refine SeqV.rows 16 w5.heap.size (.cells (madeCells #[.int .u8 0] 16) 5) (fun _ => by rfl) (by rfl) (fun w1 hS => hS.size) (fun w1 hS => hS.alloc hS.size _) (fun val w1 => ?_) ?_; · (have x := HMK.out w1; go_simp)
      simp only [Act.put, List.setIfInBounds_toArray, List.set_cons_zero, List.set_cons_succ]
      refine SeqV.rows 16 w5.heap.size (.cells (madeCells #[.int .u8 0] 16) 5) (fun _ => by rfl) (by rfl) (fun w1 hS => hS.size) (fun w1 hS => hS.alloc hS.size _) (fun val w1 => ?_) ?_; · (have x := HMK.out w1; go_simp)
      simp only [Act.put, List.setIfInBounds_toArray, List.set_cons_zero, List.set_cons_succ]
      refine SeqV.some (fun _ v w1 => ∃ A1 A2, v = .agg (Rec.vals ((⟨d.account, d.what, d.par, d.dest, d.amount, s, 0, 1, ⟨A1, List.replicate 16 0, 16⟩, ⟨A2, List.replicate 16 0, 16⟩⟩) : Mot)) ∧ w1.ownsRow w5.heap.size 5 1 (.slice A1 16 16) 16 (u8s (List.replicate 16 0)) ∧ w1.ownsRow w5.heap.size 5 1 (.slice A2 16 16) 16 (u8s (List.replicate 16 0))) (fun _ => by rfl) (by rfl) (fun _ _ _ v w h => h) (fun _ v w1 w2 ⟨A1, A2, h1, h2, h3⟩ hb => ⟨A1, A2, h1, own_kept h2 hb, own_kept h3 hb⟩) (fun val w1 hS hR => ?_) ?_
      · obtain ⟨g1, e1, hg1, hh1⟩ := hR 14 (by kernel_rfl)
        obtain ⟨g2, e2, hg2, hh2⟩ := hR 15 (by kernel_rfl)
        refine ⟨_, exec_build_rec 45 _ rfl (Rec.vals ((⟨d.account, d.what, d.par, d.dest, d.amount, s, 0, 1, ⟨some ⟨g1, 0, none⟩, List.replicate 16 0, 16⟩, ⟨some ⟨g2, 0, none⟩, List.replicate 16 0, 16⟩⟩) : Mot)) (by simp only [e1, e2]; kernel_rfl) w1, some ⟨g1, 0, none⟩, some ⟨g2, 0, none⟩, rfl, zeros_own hg1 hh1, zeros_own hg2 hh2⟩
      simp only [Act.put, List.setIfInBounds_toArray, List.set_cons_zero, List.set_cons_succ]
      refine SeqV.new (w5.heap.size) (.cells (Rec.vals Mot.zero) 45) (fun _ => by rfl) (fun w1 hS => hS.size) (fun w1 hS => hS.alloc hS.size _) (fun val w1 => by rfl) ?_
      simp only [Act.put, List.setIfInBounds_toArray, List.set_cons_zero, List.set_cons_succ]
      intro val w6 hS1 hR1 hD1
      obtain ⟨A1, A2, e16, o1, o2⟩ : ∃ A1 A2, val 16 = .agg (Rec.vals ((⟨d.account, d.what, d.par, d.dest, d.amount, s, 0, 1, ⟨A1, List.replicate 16 0, 16⟩, ⟨A2, List.replicate 16 0, 16⟩⟩) : Mot)) ∧ w6.ownsRow w5.heap.size 5 1 (.slice A1 16 16) 16 (u8s (List.replicate 16 0)) ∧ w6.ownsRow w5.heap.size 5 1 (.slice A2 16 16) 16 (u8s (List.replicate 16 0)) := hR1 16 (by decide)
      obtain ⟨g, eg, hg0, hg⟩ : ∃ g, val 17 = .pointer (some ⟨g, 0, none⟩) ∧ w5.heap.size ≤ g ∧ RecAt w6 g (Rec.vals Mot.zero) 45 := hR1 17 (by decide)
      simp only [e16, eg]
      have hB6 := Below.then hB hS1
      have hgw : w.heap.size ≤ g := Nat.le_trans hB.size hg0
      have O1 := Lib.hid o1
      have O2 := Lib.hid o2
      have hwg : w5.heap.size < w6.heap.size ∨ True := .inr trivial
      clear hR1 hD1 C1 C3 C4 C7 CP CQ hD hP e16 eg we n1 n2 hwg
      have hfin : (movedOf d s).Fine := ⟨fun x hx => by have := List.eq_of_mem_replicate hx; omega, fun x hx => by have := List.eq_of_mem_replicate hx; omega, by show (List.replicate 16 0).length ≤ _; simp, by show (List.replicate 16 0).length ≤ _; simp, hda, hdp⟩
      have HFIN := Lib.hid hfin
      clear hfin hS1 o1 o2
      have KO := Lib.hid (fun (W : World) (hB : Below w.heap.size w W) => rown_is l A c W (HMS0.out.up hB) HL.out)
      obtain ⟨x, hx⟩ : ∃ x, l[a1]? = some x := ⟨_, List.getElem?_eq_getElem (by omega)⟩
      have HX := Lib.hid hx
      have hal : a1 < l.length := by omega
      have haI : (a1 : Int) < (l.length : Int) := by omega
      have ha0 : (0 : Int) ≤ (a1 : Int) := by omega
      have z1 : ((a1 : Int) == (l.length : Int)) = false := by simp; omega
      have z2 : (a1 == l.length) = false := by simp; omega
      clear hx hfr h5
      go_wp2_with (first
        | (refine store_rec 45 _ _ rfl rfl _ (Rec.vals ((⟨d.account, d.what, d.par, d.dest, d.amount, s, 0, 1, ⟨A1, List.replicate 16 0, 16⟩, ⟨A2, List.replicate 16 0, 16⟩⟩) : Mot)) (Rec.vals Mot.zero) 45 rfl rfl hg size_rmot rfl (Rec.one ((⟨d.account, d.what, d.par, d.dest, d.amount, s, 0, 1, ⟨A1, List.replicate 16 0, 16⟩, ⟨A2, List.replicate 16 0, 16⟩⟩) : Mot)) ?_; intro w7 hR hb7 hz7 hk7; have hB7 := hB6.trans (hb7.mono hgw); have hG7 := grown_but hb7 hk7; have G1 := Lib.hid (own_block O1.out hg hG7); have G2 := Lib.hid (own_block O2.out hg hG7); clear hz7 hk7 hb7 hG7 O1 O2)
        | (go_at_call 39; refine (KO.out _ hB7).mono ?_; clear KO; rintro e w8 ⟨v8, rfl, ho8, hb⟩; obtain ⟨A8, c8, rfl⟩ := own_slice ho8; have hR := hR.up hb; have hB8 := Below.then hB7 hb; obtain ⟨g8, hg8, hgL8⟩ := own_some ho8 (Nat.zero_lt_of_lt hal); subst hg8; have HO8 := Lib.hid ho8; have HB8 := Lib.hid hb; clear ho8 hb)
        | ((with_reducible refine slot_is 85 rfl ?_); refine load_rec 45 _ rfl rfl _ (Rec.vals ((⟨d.account, d.what, d.par, d.dest, d.amount, s, 0, 1, ⟨A1, List.replicate 16 0, 16⟩, ⟨A2, List.replicate 16 0, 16⟩⟩) : Mot)) rfl hR.lies Try.underlying45 size_rmot ?_)
        | (refine store_row_rec 45 _ _ rfl rfl g8 a1 _ _ _ _ l x ((⟨d.account, d.what, d.par, d.dest, d.amount, s, 0, 1, ⟨A1, List.replicate 16 0, 16⟩, ⟨A2, List.replicate 16 0, 16⟩⟩) : Mot) rfl rfl HO8.out HX.out size_rmot ?_; intro w9 ho9 hg9 hz9))
      have hb9 : Below w7.heap.size w7 w9 := HB8.out.trans (grown_to hg9 hgL8 HB8.out.size)
      have hya : ∀ W, Below w7.heap.size w7 W → MotAt W ((⟨d.account, d.what, d.par, d.dest, d.amount, s, 0, 1, ⟨A1, List.replicate 16 0, 16⟩, ⟨A2, List.replicate 16 0, 16⟩⟩) : Mot) := fun W hb => ⟨⟨own_sl (own_kept G1.out hb) (by show (List.replicate 16 0).length * 1 ≤ _; simp), HFIN.out.yes⟩, ⟨own_sl (own_kept G2.out hb) (by show (List.replicate 16 0).length * 1 ≤ _; simp), HFIN.out.no⟩, HFIN.out.amt, HFIN.out.par⟩
      have hb90 : Below w.heap.size w w9 := hB7.trans (hb9.mono hB7.size)
      have hMS := mots_set (y := ((⟨d.account, d.what, d.par, d.dest, d.amount, s, 0, 1, ⟨A1, List.replicate 16 0, 16⟩, ⟨A2, List.replicate 16 0, 16⟩⟩) : Mot)) HMS0.out hb90 ho9 rfl HL.out (hya w9 hb9)
      have hp : (l.set a1 ((⟨d.account, d.what, d.par, d.dest, d.amount, s, 0, 1, ⟨A1, List.replicate 16 0, 16⟩, ⟨A2, List.replicate 16 0, 16⟩⟩) : Mot)).map Mot.pure = (l.map Mot.pure).set a1 (movedOf d s) := by rw [List.map_set]; rfl
      have HPP := Lib.hid hp
      have HMS2 := Lib.hid hMS
      clear hp hMS hya G1 G2 HB8 hg9 hz9 ho9 HO8 hR
      go_wp2
      go_ret3
      refine ⟨l.set a1 ((⟨d.account, d.what, d.par, d.dest, d.amount, s, 0, 1, ⟨A1, List.replicate 16 0, 16⟩, ⟨A2, List.replicate 16 0, 16⟩⟩) : Mot), _, _, by rw [List.length_set]; first | rfl | simp, ?_, HMS2.out, hb90⟩
      rw [HPP.out, HS.out]

set_option maxRecDepth 100000 in
set_option maxHeartbeats 4000000 in
theorem ropen_app (p : Par) (l : List Mot) (A : Option Addr) (c : Nat) (d : Dd) (AD : Option Addr) (cD : Nat) (ep : Int) (w : World) (T : Nat) (h : Par.Right p T) (hk : d.kind = 6) (hf : d.Fits) (hd : d.Right) (he : 0 ≤ ep ∧ ep ≤ 1073741824) (hm : Mots w A c l) (hl : l.length ≤ 100000) (h5 : freeOf (l.map Mot.pure) < 32) (h6 : freeOf (l.map Mot.pure) = l.length) :
    Calls Try.prog 16 #[.agg p.vals, .slice A l.length c, .agg (d.vals AD cD), .int .i64 ep] w fun e w' => OpenOf w (l.map Mot.pure ++ [movedOf d (ep + p.poll)], freeOf (l.map Mot.pure), 0) e w' := by
  have KC := fun W => refright_ok p T W h
  have KR := fun W => rright_is d AD cD W true hf (by simp [hd])
  have KI := fun W => rin23_is ep 0 1073741824 W
  rw [inB_yes he] at KI
  have hda : d.amount < 18446744073709551616 := hf.amount
  have hdp : d.par.Fits := hf.par
  have hpo : 0 ≤ p.poll ∧ p.poll ≤ 2147483647 := by have h0 := h.spans.poll0; have h1 := h.spans.poll1; omega
  obtain ⟨i0, hi0, hz0, hz1, hz2⟩ := info_parts u8_info
  have HMK : Hid (∀ W : World, (Instr.makeSlice 38 (.int .i64 16) (.int .i64 16)).run Try.prog W =
      .ok (.slice (some ⟨W.heap.size, 0, none⟩) 16 16) (W.alloc (.cells (madeCells #[.int .u8 0] 16) 5))) := Lib.hid (by
    intro W
    have h := run_make (P := Try.prog) W 38 5 i0 (.int .u8 0) Try.underlying38 hi0 hz0 .i64 .i64 16 16 (by omega) (by omega) (by rw [hz2]; omega) (by omega)
    rw [hz1] at h
    exact h)
  clear hi0 hz0 hz1 hz2
  obtain ⟨s, hs⟩ : ∃ s, ep + p.poll = s := ⟨_, rfl⟩
  have HS := Lib.hid hs
  have HL := Lib.hid hl
  obtain ⟨fr, hfr0⟩ : ∃ fr, freeOf (l.map Mot.pure) = fr := ⟨_, rfl⟩
  rw [hfr0] at h5 h6 ⊢
  have HFR := Lib.hid hfr0
  have hls : l.length ≤ 100000 := hl
  clear h hf hd hs hfr0
  go_enter Try.func16, Try.ntmps16
  go_upto_region 1 with fail
  generalize hw0 : World.alloc (World.alloc _ _) _ = w0
  have hB : Below w.heap.size w w0 := by rw [← hw0]; exact ((Below.refl _ _).alloc (Nat.le_refl _) _).alloc (by simp) _
  have hP : ParAt w0 w.heap.size p 43 := by rw [← hw0]; exact (ParAt.new w p 43).up ((Below.refl _ _).alloc (Nat.le_refl _) _)
  have hD : DeedAt w0 (w.heap.size + 1) d AD cD 57 := by
    rw [← hw0]
    have := DeedAt.new (w.alloc (.cells p.vals 43)) d AD cD 57
    rw [World.size_alloc] at this
    exact this
  clear hw0
  go_wp2_with (first
    | ((with_reducible refine slot_is 15 rfl ?_); refine load_ref _ rfl rfl _ p _ rfl hP ?_)
    | (go_at_call 19; refine (KC _).mono ?_; clear KC; rintro e w1 ⟨rfl, hb⟩; have hP := hP.up hb; have hD := hD.next hb; have hB := Below.then hB hb; clear hb; have k0 : w1.cell? ⟨w.heap.size + 1, 0, none⟩ = some (.int .i64 6) := hD.k0.trans (by rw [hk]))
    | ((with_reducible refine slot_is 22 rfl ?_); refine load_rdeed _ rfl rfl _ d AD cD _ rfl hD ?_)
    | (go_at_call 50; refine (KR _).mono ?_; clear KR; rintro e w2 ⟨rfl, hb⟩; have hP := hP.up hb; have hD := hD.next hb; have hB := Below.then hB hb; clear hb; clear k0)
    | (go_at_call 36; refine (KI _).mono ?_; clear KI; rintro e w' ⟨rfl, rfl⟩))
  have HMS0 := Lib.hid (hm)
  go_loopw [11, 12] (fun av iv wr => ∃ (k a : Nat), k ≤ l.length ∧ iv = .int .i64 ((k : Int) - 1) ∧ av = .int .i64 (a : Int) ∧ Hid (FromK (l.map Mot.pure) k a) ∧ wr = w2) (fun _ iv _ => (intOf iv + 1).toNat)
  case atStart => exact ⟨l.length, l.length, Nat.le_refl _, rfl, rfl, Lib.hid (by have := FromK.start (l.map Mot.pure); rw [List.length_map] at this; exact this), rfl⟩
  case round =>
    obtain ⟨k, a1, hk, rfl, rfl, HF, rfl⟩ := hrel
    cases k with
    | succ j =>
      have hj : ((j + 1 : Nat) : Int) - 1 = (j : Int) := by omega
      rw [hj]
      have hjl : j < l.length := by omega
      obtain ⟨m, hs⟩ : ∃ m, l[j]? = some m := ⟨_, List.getElem?_eq_getElem hjl⟩
      obtain ⟨a, rfl, hab, hat, -⟩ := (HMS0.out.up hB).at hs
      have hp : (l.map Mot.pure)[j]? = some m.pure := by rw [List.getElem?_map, hs]; rfl
      have hjI : (j : Int) < (l.length : Int) := by omega
      have hj0 : (0 : Int) ≤ (j : Int) := by omega
      have hyes := fun h => HF.out.yes hp h
      have hno := fun h => HF.out.no hp h
      clear hs hab hp HF
      by_cases h3 : m.st = 3
      · have HF2 := Lib.hid (hyes (by simp [PMot.over, Mot.pure, h3]))
        have x7 : wr.cell? ⟨(a.add (j * 33)).block, (a.add (j * 33)).off + 30, none⟩ = some (.int .i64 3) := (hat.fld 29 rfl).trans (by show some (Value.int .i64 m.st) = _; rw [h3])
        clear hyes hno hat h3
        go_wp2
        go_roundw
        case rel => exact ⟨j, j, by omega, by go_num, rfl, HF2, trivial⟩
        case measure => simp [intOf]
      · by_cases h4 : m.st = 4
        · have HF2 := Lib.hid (hyes (by simp [PMot.over, Mot.pure, h4]))
          have x7 : wr.cell? ⟨(a.add (j * 33)).block, (a.add (j * 33)).off + 30, none⟩ = some (.int .i64 4) := (hat.fld 29 rfl).trans (by show some (Value.int .i64 m.st) = _; rw [h4])
          clear hyes hno hat h3 h4
          go_wp2
          go_roundw
          case rel => exact ⟨j, j, by omega, by go_num, rfl, HF2, trivial⟩
          case measure => simp [intOf]
        · have HF2 := Lib.hid (hno (by simp [PMot.over, Mot.pure, h3, h4]))
          have x7 : wr.cell? ⟨(a.add (j * 33)).block, (a.add (j * 33)).off + 30, none⟩ = some (.int .i64 m.st) := hat.fld 29 rfl
          have b3 : (m.st == 3) = false := by simp [h3]
          have b4 : (m.st == 4) = false := by simp [h4]
          clear hyes hno hat h3 h4
          go_wp2
          go_roundw
          case rel => exact ⟨j, a1, by omega, by go_num, rfl, HF2, trivial⟩
          case measure => simp [intOf]
    | zero =>
      have hz : ((0 : Nat) : Int) - 1 = -1 := rfl
      rw [hz]
      have hfr := HF.out.free
      have hfa : a1 = fr := by rw [← HFR.out]; exact hfr.symm
      subst hfa
      obtain ⟨w5, rfl⟩ : ∃ x : World, x = wr := ⟨_, rfl⟩
      have we : IntKind.i64.wrap (ep + p.poll) = s := by rw [IntWalk.i64_in _ (by omega)]; exact HS.out
      have n1 : decide ((31 : Int) < (a1 : Int)) = false := decide_eq_false (by omega)
      have n2 : decide (31 < a1) = false := decide_eq_false (by omega)
      clear HF
      go_upto_region 15 with fail
      have C1 : ∀ w1, Below w5.heap.size w5 w1 → w1.cell? ⟨w.heap.size + 1, 1, none⟩ = some (.int .i64 d.account) := fun w1 hb => (hD.next hb).k1
      have C3 : ∀ w1, Below w5.heap.size w5 w1 → w1.cell? ⟨w.heap.size + 1, 3, none⟩ = some (.int .i64 d.dest) := fun w1 hb => (hD.next hb).k3
      have C4 : ∀ w1, Below w5.heap.size w5 w1 → w1.cell? ⟨w.heap.size + 1, 4, none⟩ = some (.int .u64 (d.amount : Int)) := fun w1 hb => (hD.next hb).k4
      have C7 : ∀ w1, Below w5.heap.size w5 w1 → w1.cell? ⟨w.heap.size + 1, 7, none⟩ = some (.int .i64 d.what) := fun w1 hb => (hD.next hb).k7
      have CP : ∀ w1, Below w5.heap.size w5 w1 → LiesAt w1 ⟨w.heap.size + 1, 8, none⟩ d.par.vals := fun w1 hb => deed_par (hD.next hb)
      have CQ : ∀ w1, Below w5.heap.size w5 w1 → w1.cell? ⟨w.heap.size, 21, none⟩ = some (.int .i64 p.poll) := fun w1 hb => (hP.up hb).cell 21
      refine region_vary [17] 18 (fun w' => Below w5.heap.size w5 w') (by kernel_rfl) (by kernel_rfl) (Below.refl _ _).drew ?_
      simp only [List.take_succ_cons, List.take_zero, List.drop_succ_cons, List.drop_zero]
      refine SeqV.take (fun _ => .pointer (some ⟨w.heap.size + 1, 1, none⟩)) (fun _ => by rfl) (by rfl) (fun _ _ _ => rfl) (fun val w1 hS hR => ?_) ?_; · (go_simp <;> with_reducible rfl)
      simp only [Act.put, List.setIfInBounds_toArray, List.set_cons_zero, List.set_cons_succ]
      refine SeqV.take (fun _ => .int .i64 d.account) (fun _ => by rfl) (by rfl) (fun _ _ _ => rfl) (fun val w1 hS hR => ?_) ?_; · (have x := C1 w1 hS; go_simp <;> with_reducible rfl)
      simp only [Act.put, List.setIfInBounds_toArray, List.set_cons_zero, List.set_cons_succ]
      refine SeqV.take (fun _ => .pointer (some ⟨w.heap.size + 1, 7, none⟩)) (fun _ => by rfl) (by rfl) (fun _ _ _ => rfl) (fun val w1 hS hR => ?_) ?_; · (go_simp <;> with_reducible rfl)
      simp only [Act.put, List.setIfInBounds_toArray, List.set_cons_zero, List.set_cons_succ]
      refine SeqV.take (fun _ => .int .i64 d.what) (fun _ => by rfl) (by rfl) (fun _ _ _ => rfl) (fun val w1 hS hR => ?_) ?_; · (have x := C7 w1 hS; go_simp <;> with_reducible rfl)
      simp only [Act.put, List.setIfInBounds_toArray, List.set_cons_zero, List.set_cons_succ]
      refine SeqV.take (fun _ => .pointer (some ⟨w.heap.size + 1, 8, none⟩)) (fun _ => by rfl) (by rfl) (fun _ _ _ => rfl) (fun val w1 hS hR => ?_) ?_; · (go_simp <;> with_reducible rfl)
      simp only [Act.put, List.setIfInBounds_toArray, List.set_cons_zero, List.set_cons_succ]
      refine SeqV.take (fun _ => .agg d.par.vals) (fun _ => by rfl) (by rfl) (fun _ _ _ => rfl) (fun val w1 hS hR => exec_load_rec 43 _ rfl _ d.par.vals rfl (CP w1 hS) Try.underlying43 rpar_size) ?_
      simp only [Act.put, List.setIfInBounds_toArray, List.set_cons_zero, List.set_cons_succ]
      refine SeqV.take (fun _ => .pointer (some ⟨w.heap.size + 1, 3, none⟩)) (fun _ => by rfl) (by rfl) (fun _ _ _ => rfl) (fun val w1 hS hR => ?_) ?_; · (go_simp <;> with_reducible rfl)
      simp only [Act.put, List.setIfInBounds_toArray, List.set_cons_zero, List.set_cons_succ]
      refine SeqV.take (fun _ => .int .i64 d.dest) (fun _ => by rfl) (by rfl) (fun _ _ _ => rfl) (fun val w1 hS hR => ?_) ?_; · (have x := C3 w1 hS; go_simp <;> with_reducible rfl)
      simp only [Act.put, List.setIfInBounds_toArray, List.set_cons_zero, List.set_cons_succ]
      refine SeqV.take (fun _ => .pointer (some ⟨w.heap.size + 1, 4, none⟩)) (fun _ => by rfl) (by rfl) (fun _ _ _ => rfl) (fun val w1 hS hR => ?_) ?_; · (go_simp <;> with_reducible rfl)
      simp only [Act.put, List.setIfInBounds_toArray, List.set_cons_zero, List.set_cons_succ]
      refine SeqV.take (fun _ => .int .u64 (d.amount : Int)) (fun _ => by rfl) (by rfl) (fun _ _ _ => rfl) (fun val w1 hS hR => ?_) ?_; · (have x := C4 w1 hS; go_simp <;> with_reducible rfl)
      simp only [Act.put, List.setIfInBounds_toArray, List.set_cons_zero, List.set_cons_succ]
      refine SeqV.take (fun _ => .int .i64 ep) (fun _ => by rfl) (by rfl) (fun _ _ _ => rfl) (fun val w1 hS hR => ?_) ?_; · (go_simp <;> with_reducible rfl)
      simp only [Act.put, List.setIfInBounds_toArray, List.set_cons_zero, List.set_cons_succ]
      refine SeqV.take (fun _ => .pointer (some ⟨w.heap.size, 21, none⟩)) (fun _ => by rfl) (by rfl) (fun _ _ _ => rfl) (fun val w1 hS hR => ?_) ?_; · (go_simp <;> with_reducible rfl)
      simp only [Act.put, List.setIfInBounds_toArray, List.set_cons_zero, List.set_cons_succ]
      refine SeqV.take (fun _ => .int .i64 p.poll) (fun _ => by rfl) (by rfl) (fun _ _ _ => rfl) (fun val w1 hS hR => ?_) ?_; · (have x := CQ w1 hS; go_simp <;> with_reducible rfl)
      simp only [Act.put, List.setIfInBounds_toArray, List.set_cons_zero, List.set_cons_succ]
      refine SeqV.take (fun _ => .int .i64 s) (fun _ => by rfl) (by rfl) (fun _ _ _ => rfl) (fun val w1 hS hR => ?_) ?_; · (go_simp <;> with_reducible rfl)
      simp only [Act.put, List.setIfInBounds_toArray, List.set_cons_zero, List.set_cons_succ]
      refine SeqV.rows 16 w5.heap.size (.cells (madeCells #[.int .u8 0] 16) 5) (fun _ => by rfl) (by rfl) (fun w1 hS => hS.size) (fun w1 hS => hS.alloc hS.size _) (fun val w1 => ?_) ?_; · (have x := HMK.out w1; go_simp)
      simp only [Act.put, List.setIfInBounds_toArray, List.set_cons_zero, List.set_cons_succ]
      refine SeqV.rows 16 w5.heap.size (.cells (madeCells #[.int .u8 0] 16) 5) (fun _ => by rfl) (by rfl) (fun w1 hS => hS.size) (fun w1 hS => hS.alloc hS.size _) (fun val w1 => ?_) ?_; · (have x := HMK.out w1; go_simp)
      simp only [Act.put, List.setIfInBounds_toArray, List.set_cons_zero, List.set_cons_succ]
      refine SeqV.some (fun _ v w1 => ∃ A1 A2, v = .agg (Rec.vals ((⟨d.account, d.what, d.par, d.dest, d.amount, s, 0, 1, ⟨A1, List.replicate 16 0, 16⟩, ⟨A2, List.replicate 16 0, 16⟩⟩) : Mot)) ∧ w1.ownsRow w5.heap.size 5 1 (.slice A1 16 16) 16 (u8s (List.replicate 16 0)) ∧ w1.ownsRow w5.heap.size 5 1 (.slice A2 16 16) 16 (u8s (List.replicate 16 0))) (fun _ => by rfl) (by rfl) (fun _ _ _ v w h => h) (fun _ v w1 w2 ⟨A1, A2, h1, h2, h3⟩ hb => ⟨A1, A2, h1, own_kept h2 hb, own_kept h3 hb⟩) (fun val w1 hS hR => ?_) ?_
      · obtain ⟨g1, e1, hg1, hh1⟩ := hR 14 (by kernel_rfl)
        obtain ⟨g2, e2, hg2, hh2⟩ := hR 15 (by kernel_rfl)
        refine ⟨_, exec_build_rec 45 _ rfl (Rec.vals ((⟨d.account, d.what, d.par, d.dest, d.amount, s, 0, 1, ⟨some ⟨g1, 0, none⟩, List.replicate 16 0, 16⟩, ⟨some ⟨g2, 0, none⟩, List.replicate 16 0, 16⟩⟩) : Mot)) (by simp only [e1, e2]; kernel_rfl) w1, some ⟨g1, 0, none⟩, some ⟨g2, 0, none⟩, rfl, zeros_own hg1 hh1, zeros_own hg2 hh2⟩
      simp only [Act.put, List.setIfInBounds_toArray, List.set_cons_zero, List.set_cons_succ]
      refine SeqV.new (w5.heap.size) (.cells (Rec.vals Mot.zero) 45) (fun _ => by rfl) (fun w1 hS => hS.size) (fun w1 hS => hS.alloc hS.size _) (fun val w1 => by rfl) ?_
      simp only [Act.put, List.setIfInBounds_toArray, List.set_cons_zero, List.set_cons_succ]
      intro val w6 hS1 hR1 hD1
      obtain ⟨A1, A2, e16, o1, o2⟩ : ∃ A1 A2, val 16 = .agg (Rec.vals ((⟨d.account, d.what, d.par, d.dest, d.amount, s, 0, 1, ⟨A1, List.replicate 16 0, 16⟩, ⟨A2, List.replicate 16 0, 16⟩⟩) : Mot)) ∧ w6.ownsRow w5.heap.size 5 1 (.slice A1 16 16) 16 (u8s (List.replicate 16 0)) ∧ w6.ownsRow w5.heap.size 5 1 (.slice A2 16 16) 16 (u8s (List.replicate 16 0)) := hR1 16 (by decide)
      obtain ⟨g, eg, hg0, hg⟩ : ∃ g, val 17 = .pointer (some ⟨g, 0, none⟩) ∧ w5.heap.size ≤ g ∧ RecAt w6 g (Rec.vals Mot.zero) 45 := hR1 17 (by decide)
      simp only [e16, eg]
      have hB6 := Below.then hB hS1
      have hgw : w.heap.size ≤ g := Nat.le_trans hB.size hg0
      have O1 := Lib.hid o1
      have O2 := Lib.hid o2
      have hwg : w5.heap.size < w6.heap.size ∨ True := .inr trivial
      clear hR1 hD1 C1 C3 C4 C7 CP CQ hD hP e16 eg we n1 n2 hwg
      have hfin : (movedOf d s).Fine := ⟨fun x hx => by have := List.eq_of_mem_replicate hx; omega, fun x hx => by have := List.eq_of_mem_replicate hx; omega, by show (List.replicate 16 0).length ≤ _; simp, by show (List.replicate 16 0).length ≤ _; simp, hda, hdp⟩
      have HFIN := Lib.hid hfin
      clear hfin hS1 o1 o2
      have KO := Lib.hid (fun (W : World) (hB : Below w.heap.size w W) => rown_is l A c W (HMS0.out.up hB) HL.out)
      obtain ⟨i1, hi1, hy0, hy1, hy2⟩ := info_parts info_rmot
      have z1 : ((a1 : Int) == (l.length : Int)) = true := by simp; omega
      have z2 : (a1 == l.length) = true := by simp; omega
      have h31 : l.length ≤ 31 := by omega
      have H6 := Lib.hid h6
      clear hfr h5 h6
      go_wp2_with (first
        | (refine store_rec 45 _ _ rfl rfl _ (Rec.vals ((⟨d.account, d.what, d.par, d.dest, d.amount, s, 0, 1, ⟨A1, List.replicate 16 0, 16⟩, ⟨A2, List.replicate 16 0, 16⟩⟩) : Mot)) (Rec.vals Mot.zero) 45 rfl rfl hg size_rmot rfl (Rec.one ((⟨d.account, d.what, d.par, d.dest, d.amount, s, 0, 1, ⟨A1, List.replicate 16 0, 16⟩, ⟨A2, List.replicate 16 0, 16⟩⟩) : Mot)) ?_; intro w7 hR hb7 hz7 hk7; have hB7 := hB6.trans (hb7.mono hgw); have hG7 := grown_but hb7 hk7; have G1 := Lib.hid (own_block O1.out hg hG7); have G2 := Lib.hid (own_block O2.out hg hG7); clear hz7 hk7 hb7 hG7 O1 O2)
        | (go_at_call 39; refine (KO.out _ hB7).mono ?_; clear KO; rintro e w8 ⟨v8, rfl, ho8, hb⟩; obtain ⟨A8, c8, rfl⟩ := own_slice ho8; have hR := hR.up hb; have hB8 := Below.then hB7 hb; have HO8 := Lib.hid ho8; have HB8 := Lib.hid hb; clear ho8 hb)
        | ((with_reducible refine slot_is 79 rfl ?_); refine load_rec 45 _ rfl rfl _ (Rec.vals ((⟨d.account, d.what, d.par, d.dest, d.amount, s, 0, 1, ⟨A1, List.replicate 16 0, 16⟩, ⟨A2, List.replicate 16 0, 16⟩⟩) : Mot)) rfl hR.lies Try.underlying45 size_rmot ?_)
        | (refine list_one_rec 30 45 rfl _ rfl Try.underlying30 (Rec.vals ((⟨d.account, d.what, d.par, d.dest, d.amount, s, 0, 1, ⟨A1, List.replicate 16 0, 16⟩, ⟨A2, List.replicate 16 0, 16⟩⟩) : Mot)) (Rec.vals Mot.zero) info_rmot rfl (by decide) (by decide) (fill_mot ((⟨d.account, d.what, d.par, d.dest, d.amount, s, 0, 1, ⟨A1, List.replicate 16 0, 16⟩, ⟨A2, List.replicate 16 0, 16⟩⟩) : Mot)) rfl ?_)
        | (at_builtin; refine wpList_append_lies _ rfl _ _ 30 rfl w7.heap.size 45 i1 _ (Rec.z Mot) 296 Try.underlying30 hi1 hy0 hy1 hy2 rfl (by decide) _ l.length (rows l) rfl (own_kept HO8.out ((Below.refl _ _).alloc (Nat.le_refl _) _)) ⟨w8.heap.size, 0, none⟩ 1 1 (Rec.vals ((⟨d.account, d.what, d.par, d.dest, d.amount, s, 0, 1, ⟨A1, List.replicate 16 0, 16⟩, ⟨A2, List.replicate 16 0, 16⟩⟩) : Mot)).toList rfl rfl (RecAt.new w8 (Rec.vals ((⟨d.account, d.what, d.par, d.dest, d.amount, s, 0, 1, ⟨A1, List.replicate 16 0, 16⟩, ⟨A2, List.replicate 16 0, 16⟩⟩) : Mot)) 45).lies (rec_onecell ((⟨d.account, d.what, d.par, d.dest, d.amount, s, 0, 1, ⟨A1, List.replicate 16 0, 16⟩, ⟨A2, List.replicate 16 0, 16⟩⟩) : Mot)) (by decide) ?c1 ?c2 ?c3 _ rfl ?_))
      case c1 => simp only [maxLen]; omega
      case c2 => omega
      case c3 => exact Nat.le_trans HB8.out.size (by first | exact Nat.le_succ _ | simp)
      intro g9 cap9 w9 ho9 hg9 hat9 hlt9
      have hb9 : Below w7.heap.size w7 w9 := (HB8.out.alloc HB8.out.size _).grown hg9 (Nat.le_trans HB8.out.size (by simp)) (fun b hb => (HO8.out.lt b hb).1)
      rw [← rows_snoc] at ho9
      have hya : ∀ W, Below w7.heap.size w7 W → MotAt W ((⟨d.account, d.what, d.par, d.dest, d.amount, s, 0, 1, ⟨A1, List.replicate 16 0, 16⟩, ⟨A2, List.replicate 16 0, 16⟩⟩) : Mot) := fun W hb => ⟨⟨own_sl (own_kept G1.out hb) (by show (List.replicate 16 0).length * 1 ≤ _; simp), HFIN.out.yes⟩, ⟨own_sl (own_kept G2.out hb) (by show (List.replicate 16 0).length * 1 ≤ _; simp), HFIN.out.no⟩, HFIN.out.amt, HFIN.out.par⟩
      have hb90 : Below w.heap.size w w9 := hB7.trans (hb9.mono hB7.size)
      have hSl := own_sl (b := 296) ho9 (by omega)
      have hMS : Mots w9 (some ⟨g9, 0, none⟩) cap9 (l ++ [((⟨d.account, d.what, d.par, d.dest, d.amount, s, 0, 1, ⟨A1, List.replicate 16 0, 16⟩, ⟨A2, List.replicate 16 0, 16⟩⟩) : Mot)]) := ⟨by rw [List.length_append]; exact hSl.le, hSl.most, hSl.none, hSl.row, fun x hx => by
        rcases List.mem_append.1 hx with h | h
        · exact (HMS0.out.each x h).up hb90
        · simp only [List.mem_cons, List.not_mem_nil, or_false] at h
          rw [h]; exact hya w9 hb9⟩
      have hp : (l ++ [((⟨d.account, d.what, d.par, d.dest, d.amount, s, 0, 1, ⟨A1, List.replicate 16 0, 16⟩, ⟨A2, List.replicate 16 0, 16⟩⟩) : Mot)]).map Mot.pure = l.map Mot.pure ++ [movedOf d s] := by rw [List.map_append]; rfl
      have HPP := Lib.hid hp
      have HMS2 := Lib.hid hMS
      clear hp hMS hya G1 G2 HB8 hg9 hat9 hlt9 ho9 HO8 hR hSl
      go_wp2
      go_ret3
      refine ⟨l ++ [((⟨d.account, d.what, d.par, d.dest, d.amount, s, 0, 1, ⟨A1, List.replicate 16 0, 16⟩, ⟨A2, List.replicate 16 0, 16⟩⟩) : Mot)], _, _, by rw [List.length_append]; first | rfl | simp, ?_, HMS2.out, hb90⟩
      rw [HPP.out, HS.out]

/-- What comes of a motion that is moved, by the document. -/
theorem ropen_is (p : Par) (l : List Mot) (A : Option Addr) (c : Nat) (d : Dd) (AD : Option Addr) (cD : Nat) (ep : Int) (w : World) (hd : d.Fits) (hm : Mots w A c l) (hl : l.length ≤ 100000) :
    Calls Try.prog 16 #[.agg p.vals, .slice A l.length c, .agg (d.vals AD cD), .int .i64 ep] w fun e w' => OpenOf w (popen p (l.map Mot.pure) d ep) e w' := by
  unfold popen
  by_cases h1 : ∃ T, Par.Right p T
  · rw [if_pos h1]
    obtain ⟨T, hT⟩ := h1
    by_cases h2 : d.kind = 6 ∧ d.Right
    · rw [if_pos h2]
      by_cases h3 : 0 ≤ ep ∧ ep ≤ 1073741824
      · rw [if_pos h3]
        by_cases h5 : freeOf (l.map Mot.pure) < 32
        · rw [if_pos h5]
          by_cases h6 : freeOf (l.map Mot.pure) = (l.map Mot.pure).length
          · rw [if_pos h6]
            exact ropen_app p l A c d AD cD ep w T hT h2.1 hd h2.2 h3 hm hl h5 (by rw [h6, List.length_map])
          · rw [if_neg h6]
            have := freeOf_le (l.map Mot.pure)
            rw [List.length_map] at this h6
            exact ropen_set p l A c d AD cD ep w T hT h2.1 hd h2.2 h3 hm hl h5 (by omega)
        · rw [if_neg h5]
          exact ropen_full p l A c d AD cD ep w T hT h2.1 hd h2.2 h3 hm hl h5
      · rw [if_neg h3]
        exact ropen_arg p l A c d AD cD ep w T hT h2.1 hd h2.2 h3
    · rw [if_neg h2]
      by_cases hk : d.kind = 6
      · exact ropen_deed p l A c d AD cD ep w T hT hk hd (fun h => h2 ⟨hk, h⟩)
      · exact ropen_kind p l A c d AD cD ep w T hT hk
  · rw [if_neg h1]
    exact ropen_param p l A c d AD cD ep w h1
end Go.Proofs.Ytcaejanfhchacaa
