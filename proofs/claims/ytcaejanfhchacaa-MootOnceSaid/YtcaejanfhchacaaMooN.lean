/- The chapter's example, which every law of layer 7 asks for first. · Check of the example's parameters. · Layer 23 (moot): the chapter's example, which every law of the layer asks for first. -/
import Derived.Test.YtcaejanfhchacaaParE
import Derived.Test.YtcaejanfhchacaaParL
import Derived.Test.YtcaejanfhchacaaMooX
import Derived.Test.YtcaejanfhchacaaMooE
namespace Go.Proofs.Ytcaejanfhchacaa
open Go.RowKit
set_option linter.unusedVariables false

/-- The example's parameters. -/
def Par.simple : Par := ⟨10, 30, 10, 40, 10, 5, 4, 100, 8, 50, 2, 100, 1048576, 1, 2, 4, 100, 100, 5000, 2, 2, 2, 1, 3000⟩

theorem simple_right : Par.Right Par.simple 12 where
  spans := by constructor <;> decide
  halt := ⟨by decide, by decide, .inr (by decide), by decide⟩
  most := by decide
  score := by decide
theorem none_fits : Par.none.Fits := ⟨by decide, by decide⟩

set_option maxRecDepth 100000 in
set_option maxHeartbeats 1000000 in
theorem simple_is (w : World) :
    Calls Try.prog 28 #[] w fun e w' => e = .returned (.agg Par.simple.vals) ∧ Below w.heap.size w w' := by
  have hP0 := ParAt.new w Par.none 37
  go_enter Try.func28, Try.ntmps28
  go_wp2_with (first
    | (refine build_par _ rfl rfl Par.simple (by kernel_rfl) ?_)
    | (refine store_par _ _ rfl rfl w.heap.size Par.simple Par.none 37 rfl rfl hP0 ?_))
  exact bodyPost_ret (res_par1 Try.results28 rfl (ParAt.set hP0)) rfl ⟨rfl, below_setRow ((Below.refl _ _).alloc (Nat.le_refl _) _) (Nat.le_refl _) _⟩

end Go.Proofs.Ytcaejanfhchacaa
namespace Go.Proofs.Ytcaejanfhchacaa
end Go.Proofs.Ytcaejanfhchacaa
namespace Go.Proofs.Ytcaejanfhchacaa
open Go.RowKit Go.Deep
set_option linter.unusedVariables false
set_option linter.unusedSimpArgs false

/-- The example's deed: to switch something on. -/
def Dd.switch : Dd := ⟨6, 0, 0, 0, 0, 0, [], 3, Par.none, 0, false⟩
theorem switch_right : Dd.switch.Right := .other 0 3 (by decide) (by decide) (by decide)
theorem switch_fits : Dd.switch.Fits := ⟨by decide, by decide, (fun x h => by cases h), none_fits⟩
theorem simple_fits : Par.simple.Fits := ⟨by decide, by decide⟩
set_option maxRecDepth 100000 in
theorem open_switch : popen Par.simple [] Dd.switch 5 = ([movedOf Dd.switch 7], 0, 0) := by
  unfold popen
  rw [if_pos ⟨12, simple_right⟩, if_pos ⟨rfl, switch_right⟩, if_pos (by decide), if_pos (by decide), if_pos (by rfl)]
  rfl
set_option maxRecDepth 100000 in
theorem vote_switch : ∃ L, pvote [movedOf Dd.switch 7] 0 3 true = (L, 0) ∧ L.length = 1 :=
  ⟨_, by
    rw [show (0 : Int) = ((0 : Nat) : Int) from rfl]
    exact pvote_ok (m := movedOf Dd.switch 7) true rfl rfl ⟨by decide, by decide, by show _ < (List.replicate 16 0).length; simp, by show _ < (List.replicate 16 0).length; simp⟩ (by decide), by simp⟩

set_option maxRecDepth 100000 in
set_option maxHeartbeats 2000000 in
theorem moot_awake (w : World) :
    Calls Try.prog 7 #[] w fun e w' => e = .returned (.bool true) ∧ Below w.heap.size w w' := by
  have ko := fun W => mopen_is Par.simple [] none 0 Dd.switch none 0 5 W simple_fits switch_fits (Mots.nil W) (by simp)
  have e0 := open_switch
  simp only [List.map_nil, List.length_nil] at ko
  rw [e0] at ko
  obtain ⟨L, hL, hL1⟩ := vote_switch
  have kv := fun (l : List Mot) (A : Option Addr) (c : Nat) (W : World) (hp : l.map Mot.pure = [movedOf Dd.switch 7]) (hm : Mots W A c l) => (by have := vote_is l A c 0 3 true W hm (by have := congrArg List.length hp; simp at this; rw [this]; decide); rw [hp, hL] at this; exact this : Calls Try.prog 9 #[.slice A l.length c, .int .i64 0, .int .i64 3, .bool true] W fun e w' => MotsOf W (L, 0) e w')
  have kw := fun (l : List Mot) (A : Option Addr) (c : Nat) (W : World) (hp : l.map Mot.pure = L) (hm : Mots W A c l) => (by have := vote_is l A c 0 3 false W hm (by have := congrArg List.length hp; simp at this; rw [this, hL1]; decide); rw [hp, pvote_again hL] at this; exact this : Calls Try.prog 9 #[.slice A l.length c, .int .i64 0, .int .i64 3, .bool false] W fun e w' => MotsOf W ([], 231) e w')
  have KO := Lib.hid ko
  have KV := Lib.hid kv
  have KW := Lib.hid kw
  have hdb : Try.prog.built 48 [(0, .int .i64 6), (7, .int .i64 3)] = some (Dd.switch.vals none 0) := by kernel_rfl
  clear ko kv kw e0 hL hL1
  go_enter Try.func7, Try.ntmps7
  go_upto_region 3 with (first
    | (refine load_par _ rfl rfl _ Par.simple _ rfl (by assumption) ?_)
    | (refine store_par_new _ _ rfl rfl _ Par.simple Par.none 37 rfl rfl (ParAt.new _ Par.none _) ?_; intro w2 hP hb2; have hB := below_made hb1 hb2; clear hb2 hb1)
    | (go_at_call 28; refine (simple_is _).mono ?_; rintro e w1 ⟨rfl, hb1⟩)
    | (refine build_deed _ rfl rfl Dd.switch none 0 hdb ?_)
    | (go_at_call 15; refine (KO.out _).mono ?_; clear KO; rintro e w3 ⟨l, A, c, rfl, hl, hm, hb⟩; have hB := Below.then hB hb; clear hb hP))
  obtain ⟨m, rfl⟩ : ∃ m, l = [m] := List.length_eq_one_iff.1 (by have := congrArg List.length hl; simpa using this)
  have hmp : m.pure = movedOf Dd.switch 7 := by simpa using hl
  obtain ⟨a, rfl, ha, hat, hma⟩ := hm.at (k := 0) rfl
  have x5 : w3.cell? ⟨a.block, a.off + 28, none⟩ = some (.int .i64 7) := by
    have := hat 28 (.int .i64 m.ends) rfl
    rw [show m.ends = 7 from congrArg PMot.ends hmp] at this
    rw [← this]
    unfold Addr.add
    simp
  clear hat ha hma hmp
  have HL := Lib.hid hl
  have HM := Lib.hid hm
  clear hl hm
  go_wp2_with (first
    | (go_at_call 9; refine (KV.out [m] _ c _ HL.out HM.out).mono ?_; clear KV; rintro e w4 ⟨l2, A2, c2, rfl, hl2, hm2, hb⟩; have hB := Below.then hB hb; have HL2 := Lib.hid hl2; have HM2 := Lib.hid hm2; clear hl2 hm2 hb x5)
    | (go_at_call 9; refine (KW.out l2 A2 c2 _ HL2.out HM2.out).mono ?_; clear KW; rintro e w5 ⟨l3, A3, c3, rfl, hl3, hm3, hb⟩; have hB := Below.then hB hb; clear hl3 hm3 hb))
  go_ret
  exact ⟨by first | rfl | simp, hB⟩
end Go.Proofs.Ytcaejanfhchacaa
