/- Layer 5 (coder): a reader of bytes; two texts held against each other. By contracts. · Layer 7 (param): bytes as parameters. By contracts. -/
import Derived.Test.YtjgbpgdnmghcpaaBytesV
import Derived.Test.YtjgbpgdnmghcpaaCoderS
import Derived.Test.YtjgbpgdnmghcpaaCoderO
import Derived.Laws.AppendOwnNone
import Derived.Test.YtjgbpgdnmghcpaaParH
import Derived.Test.YtjgbpgdnmghcpaaParC
namespace Go.Proofs.Ytjgbpgdnmghcpaa
open Go.RowKit
set_option linter.unusedVariables false
set_option linter.unusedSimpArgs false

theorem open_is (xs : List Nat) (S : Nat → Prop) (A : Option Addr) (c : Nat) (w : World) (hx : Lies w S A xs) (hl : xs.length ≤ 140737488355328) (hb : ∀ x ∈ xs, x < 256) :
    Calls Try.prog 46 #[.slice A xs.length c] w fun e w' => ∃ (b : Nat) (A' : Option Addr) (c' : Nat), e = .returned (.pointer (some ⟨b, 0, none⟩)) ∧ ReaderAt w' b (fun k => w.heap.size ≤ k ∧ k < b) xs (0, 0) A' c' ∧ w.heap.size ≤ b ∧ Below w.heap.size w w' := by
  have k := clone_is xs S A c w hx hl
  go_enter Try.func46, Try.ntmps46
  go_wp2_with (go_at_call 67; refine k.mono ?_; rintro e w1 ⟨v, rfl, hown, hb1⟩; obtain ⟨A', c', rfl, hl1, hl2, _, hL⟩ := Lies.own hown)
  refine bodyPost_ret (v := .pointer (some ⟨w1.heap.size, 0, none⟩)) (by simp [results, Try.results46, go_sem]) rfl ⟨w1.heap.size, A', c', rfl, ?_, hb1.size, hb1.alloc hb1.size _⟩
  refine ⟨heap_alloc_new w1 _, ?_, hl1, hl2, Nat.zero_le _, Nat.zero_le _, fun h => Nat.lt_irrefl _ h.2, hb⟩
  intro j x hj
  obtain ⟨a, hA, hS, hc⟩ := hL j x hj
  exact ⟨a, hA, ⟨hS.1, hS.2.1⟩, by rw [World.cell?_alloc_lt _ _ _ (World.block_lt_of_cell? w1 _ hc)]; exact hc⟩

end Go.Proofs.Ytjgbpgdnmghcpaa
namespace Go.Proofs.Ytjgbpgdnmghcpaa
open Go.RowKit
set_option linter.unusedVariables false
set_option linter.unusedSimpArgs false

theorem pres_bad {bs : List Nat} {s st : Nat × Nat} {q : Par} {ee : Nat} (h : PRes bs s q ee st) (he : ee ≠ 0) : q = Par.none := by
  rcases h.2 with ⟨_, h1, _⟩ | ⟨_, p, _, _, ⟨_, _, h1⟩ | ⟨_, h1, _⟩⟩
  · exact h1
  · exact absurd h1 he
  · exact h1

set_option maxRecDepth 100000 in
set_option maxHeartbeats 2000000 in
theorem decode_bad (xs : List Nat) (S : Nat → Prop) (A : Option Addr) (c ee : Nat) (st : Nat × Nat) (w : World) (hx : Lies w S A xs) (hl : xs.length ≤ 140737488355328) (hb : ∀ x ∈ xs, x < 256) (hres : Hid (PRes xs (0, 0) Par.none ee st)) (he : ee ≠ 0) :
    Calls Try.prog 22 #[.slice A xs.length c] w fun e w' => e = .returned (.tuple #[.agg Par.none.vals, .int .i64 0, .int .i64 (ee : Int)]) ∧ Below w.heap.size w w' := by
  have hP0 := ParAt.new w Par.none 24
  have hx0 : Lies (w.alloc (.cells Par.none.vals 24)) S A xs := fun k x hk => by
    obtain ⟨a, h1, h2, h3⟩ := hx k x hk
    exact ⟨a, h1, h2, (World.cell?_alloc_lt _ _ _ (World.block_lt_of_cell? w _ h3)).trans h3⟩
  have ko := open_is xs S A c _ hx0 hl hb
  have d1 : ((ee : Int) != 0) = true := by simp; omega
  have hs0 : (w.alloc (.cells Par.none.vals 24)).heap.size = w.heap.size + 1 := by simp
  rw [hs0] at ko
  clear hx hx0 hl hb he
  go_enter Try.func22, Try.ntmps22
  go_wp2_with (first
    | (go_at_call 46; refine ko.mono ?_; clear ko; rintro e w1 ⟨rb, A', c', rfl, hR1, hrb, hb1⟩; have hP1 := hP0.below hb1 (by simp))
    | (go_at_call 47; refine (pread_is rb _ xs (0, 0) A' c' Par.none ee st _ hR1 (fun k hk => Nat.lt_trans hk.2 hR1.lt) hres).mono ?_; rintro e w2 ⟨rfl, hR2, hg2⟩; have hP2 := hP1.grown hg2 (by omega); have hP3 : ParAt (w2.setRow w.heap.size Par.none.vals) w.heap.size Par.none 24 := hP2.set)
    | (refine build_par _ rfl rfl Par.none (by kernel_rfl) ?_)
    | (refine store_par _ _ rfl rfl w.heap.size Par.none Par.none 24 rfl rfl (by assumption) ?_))
  refine bodyPost_ret (res_par3 Try.results22 rfl (ParAt.set hP3)) rfl ⟨rfl, ?_⟩
  have h1 : Below w.heap.size w w1 := ((Below.refl _ _).alloc (Nat.le_refl _) _).trans (hb1.mono (by omega))
  exact below_setRow (below_setRow (h1.trans (below_of_grown hg2 (by omega) h1.size)) (Nat.le_refl _) _) (Nat.le_refl _) _

set_option maxRecDepth 100000 in
set_option maxHeartbeats 2000000 in
theorem decode_ok (xs : List Nat) (S : Nat → Prop) (A : Option Addr) (c : Nat) (q : Par) (st : Nat × Nat) (w : World) (hx : Lies w S A xs) (hl : xs.length ≤ 140737488355328) (hb : ∀ x ∈ xs, x < 256) (hres : Hid (PRes xs (0, 0) q 0 st)) :
    Calls Try.prog 22 #[.slice A xs.length c] w fun e w' => e = .returned (.tuple #[.agg q.vals, .int .i64 (st.1 : Int), .int .i64 0]) ∧ Below w.heap.size w w' := by
  have hP0 := ParAt.new w Par.none 24
  have hx0 : Lies (w.alloc (.cells Par.none.vals 24)) S A xs := fun k x hk => by
    obtain ⟨a, h1, h2, h3⟩ := hx k x hk
    exact ⟨a, h1, h2, (World.cell?_alloc_lt _ _ _ (World.block_lt_of_cell? w _ h3)).trans h3⟩
  have ko := open_is xs S A c _ hx0 hl hb
  have hs0 : (w.alloc (.cells Par.none.vals 24)).heap.size = w.heap.size + 1 := by simp
  rw [hs0] at ko
  clear hx hx0 hl hb
  go_enter Try.func22, Try.ntmps22
  go_wp2_with (first
    | (go_at_call 46; refine ko.mono ?_; clear ko; rintro e w1 ⟨rb, A', c', rfl, hR1, hrb, hb1⟩; have hP1 := hP0.below hb1 (by simp))
    | (go_at_call 47; refine (pread_is rb _ xs (0, 0) A' c' q 0 st _ hR1 (fun k hk => Nat.lt_trans hk.2 hR1.lt) hres).mono ?_; rintro e w2 ⟨rfl, hR2, hg2⟩; have hP2 := hP1.grown hg2 (by omega))
    | (refine store_par _ _ rfl rfl w.heap.size q Par.none 24 rfl rfl (by assumption) ?_))
  have hP3 : ParAt (w2.setRow w.heap.size q.vals) w.heap.size q 24 := hP2.set
  have hR3 : ReaderAt (w2.setRow w.heap.size q.vals) rb (fun k => w.heap.size + 1 ≤ k ∧ k < rb) xs st A' c' := hR2.grown (grown_setRow w2 w.heap.size q.vals) (by simp; omega) (fun k hk e => by injection e with e; omega)
  refine wp_region_still_tail 3 (by kernel_rfl) (by kernel_rfl) ?_
  simp only [List.take_succ_cons, List.take_zero, List.drop_succ_cons, List.drop_zero]
  generalize hW : ({ (w2.setRow w.heap.size q.vals) with drawn := (w2.setRow w.heap.size q.vals).drawn + 1 } : World) = W
  have hP4 : ParAt W w.heap.size q 24 := by subst hW; exact hP3
  have hR4 : ReaderAt W rb (fun k => w.heap.size + 1 ≤ k ∧ k < rb) xs st A' c' := by subst hW; exact hR3.drewN 1
  have h1 : Below w.heap.size w w1 := ((Below.refl _ _).alloc (Nat.le_refl _) _).trans (hb1.mono (by omega))
  have hB4 : Below w.heap.size w W := by subst hW; exact (below_setRow (h1.trans (below_of_grown hg2 (by omega) h1.size)) (Nat.le_refl _) _).drew
  clear hW
  refine still_load_par rfl _ rfl w.heap.size q _ rfl hP4 ?_
  still_step
  still_call ((rat_is rb _ xs st A' c' W hR4).mono fun _ _ h => ⟨h.1, h.2.symm⟩)
  refine wpStill_nil ?_
  go_wp2_with (refine store_par _ _ rfl rfl w.heap.size q q 24 rfl rfl hP4 ?_)
  exact bodyPost_ret (res_par3 Try.results22 rfl (ParAt.set hP4)) rfl ⟨rfl, below_setRow hB4 (Nat.le_refl _) _⟩
end Go.Proofs.Ytjgbpgdnmghcpaa
