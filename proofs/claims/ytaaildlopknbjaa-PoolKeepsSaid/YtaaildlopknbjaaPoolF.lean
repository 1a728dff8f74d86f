/- Layer 18 (pool): what is ripe, and what isn't. By contracts. -/
import Derived.Test.YtaaildlopknbjaaPoolE
namespace Go.Proofs.Ytaaildlopknbjaa
open Go.RowKit Go.Shelf Go.Deep
set_option linter.unusedVariables false
set_option linter.unusedSimpArgs false

/-- Two slices of the call's own, not in one block. -/
def Apart (u v : Value) : Prop := ∀ g, u.ownBlock = some g → v.ownBlock ≠ some g
theorem Apart.nil (v : Value) : Apart (.slice none 0 0) v := fun g h => by simp [Value.ownBlock] at h
theorem Apart.symm {u v : Value} (h : Apart u v) : Apart v u := fun g h1 h2 => h g h2 h1

/-- One of them more to a list of the call's own: a box with it, a list of it, an append (the world as the walk has it at the append). -/
theorem own_more {w : World} {B z : Nat} {e : TypeId} {v : Value} {n : Nat} {xs : List Value} (h : w.ownsRow B e z v n xs) (o : Obj) : (w.alloc o).ownsRow B e z v n xs := own_kept h ((Below.refl _ _).alloc (Nat.le_refl _) _)

set_option maxRecDepth 100000 in
set_option maxHeartbeats 4000000 in
theorem pripe_is (l : List Due) (now : Int) (A : Option Addr) (c : Nat) (w : World) (hr : Row w w.heap.size A (rows l)) (hl : l.length ≤ 1000000) :
    Calls Try.prog 16 #[.slice A l.length c, .int .i64 now] w fun e w' => ∃ A1 c1 A2 c2, e = .returned (.tuple #[.slice A1 (ripeOf now l).length c1, .slice A2 (restOf now l).length c2]) ∧
      Row w' w'.heap.size A1 (rows (ripeOf now l)) ∧ Row w' w'.heap.size A2 (rows (restOf now l)) ∧ Below w.heap.size w w' := by
  obtain ⟨i0, hi0, hz0, hz1, hz2⟩ := info_parts info_due
  have HR := Lib.hid hr
  clear hr
  go_enter Try.func16, Try.ntmps16
  go_wp2
  go_loopw [4, 5, 10] (fun v4 v5 iv wr => ∃ (k : Nat) (l1 l2 : List Due), k ≤ l.length ∧ iv = .int .i64 (k : Int) ∧ Hid (l1 = ripeOf now (l.take k)) ∧ Hid (l2 = restOf now (l.take k)) ∧ l1.length ≤ k ∧ l2.length ≤ k ∧ Hid (Apart v4 v5) ∧
      Hid (wr.ownsRow w.heap.size 50 (Rec.z Due) v4 l1.length (rows l1)) ∧ Hid (wr.ownsRow w.heap.size 50 (Rec.z Due) v5 l2.length (rows l2)) ∧ Below w.heap.size w wr) (fun _ _ iv _ => l.length - (intOf iv).toNat)
  case atStart => exact ⟨0, [], [], Nat.zero_le _, rfl, Lib.hid rfl, Lib.hid rfl, Nat.le_refl _, Nat.le_refl _, Lib.hid (Apart.nil _), Lib.hid (World.ownsRow_nil _ _ _ _), Lib.hid (World.ownsRow_nil _ _ _ _), Below.refl _ _⟩
  case round =>
    obtain ⟨k, l1, l2, hk, rfl, H1, H2, hn1, hn2, HA, HO4, HO5, hB⟩ := hrel
    by_cases hlt : k < l.length
    · have hs : l[k]? = some l[k] := List.getElem?_eq_getElem hlt
      obtain ⟨a, rfl, hab, hat0⟩ := rows_row (HR.out.below hB) hs
      have hat : LiesAt wr (a.add (k * 3)) (Rec.vals l[k]) := hat0
      have t1 := ripeOf_take now hlt
      have t2 := restOf_take now hlt
      rw [← H1.out] at t1
      rw [← H2.out] at t2
      obtain ⟨s, es⟩ : ∃ s, l[k] = s := ⟨_, rfl⟩
      rw [es] at hat t1 t2
      have hki : (k : Int) < (l.length : Int) := by omega
      have hk0 : (0 : Int) ≤ (k : Int) := by omega
      have HN1 := Lib.hid hn1
      have HN2 := Lib.hid hn2
      clear hs hat0 es hn1 hn2
      by_cases ht : s.tick ≤ now
      · have hrp : isRipe now s = true := decide_eq_true ht
        rw [hrp, if_pos rfl] at t1 t2
        rw [List.append_nil] at t2
        have T1 := Lib.hid t1
        have T2 := Lib.hid t2
        clear t1 t2 hrp
        go_wp2_with (first
          | (refine load_rec 50 _ rfl rfl _ (Rec.vals s) rfl hat Try.underlying50 size_due ?_)
          | (refine store_rec 50 _ _ rfl rfl _ (Rec.vals s) (Rec.vals Due.zero) 50 rfl rfl (RecAt.new _ _ _) size_due rfl (Rec.one s) ?_; intro w2 hS2 hb2 hsz hkp; clear hsz hkp; have hb2 := rec_made (Below.refl _ _) hb2; have HO42 := Lib.hid (own_kept HO4.out hb2); have HO52 := Lib.hid (own_kept HO5.out hb2); have hB2 := Below.then hB hb2; have x1 : w2.cell? ⟨wr.heap.size, 1, none⟩ = some (.int .i64 s.tick) := hS2.cell 1; clear hb2 hat)
          | (refine load_rec 50 _ rfl rfl _ (Rec.vals s) rfl hS2.lies Try.underlying50 size_due ?_)
          | (refine list_one_rec 37 50 rfl _ rfl Try.underlying37 (Rec.vals s) (Rec.vals Due.zero) info_due rfl (by decide) (by decide) (fill_due s) rfl ?_)
          | (at_builtin; refine wpList_append_lies _ rfl _ _ 37 rfl w.heap.size 50 i0 _ (Rec.z Due) 24 Try.underlying37 hi0 hz0 hz1 hz2 rfl (by decide) _ l1.length (rows l1) rfl (own_more HO42.out _) ⟨w2.heap.size, 0, none⟩ 1 1 (Rec.vals s).toList rfl rfl (RecAt.new w2 (Rec.vals s) 50).lies (rec_onecell s) (by decide) ?c1 ?c2 ?c3 _ rfl ?_))
        case c1 => have := HN1.out; simp only [maxLen]; omega
        case c2 => have := HN1.out; omega
        case c3 => exact Nat.le_trans hB2.size (by first | exact Nat.le_succ _ | simp)
        intro g cap w7 hown7 hg7 hat7 hlt7
        have hB7 : Below w.heap.size w w7 := (hB2.alloc hB2.size _).grown hg7 (Nat.le_trans hB2.size (by simp)) (fun b hb => (HO42.out.lt b hb).1)
        have HO47 : Hid (w7.ownsRow w.heap.size 50 (Rec.z Due) (.slice (some ⟨g, 0, none⟩) (l1.length + 1) cap) (l1 ++ [s]).length (rows (l1 ++ [s]))) := Lib.hid (by rw [rows_snoc, List.length_append]; exact hown7)
        have HO57 := Lib.hid (own_apart (own_more HO52.out _) hg7 (fun b hb e => HA.out b e hb))
        have HA7 : Hid (Apart (.slice (some ⟨g, 0, none⟩) (l1.length + 1) cap) u5) := Lib.hid (fun b hb hb5 => by
          have hgb : g = b := by simpa [Value.ownBlock] using hb
          subst hgb
          rcases hat7 with h | h
          · exact HA.out g h hb5
          · have h5 := (HO52.out.lt g hb5).2
            (try simp at h)
            omega)
        clear hown7 hg7 hat7 hlt7 HO4 HO5 HO42 HO52 HA
        go_wp2
        go_roundw
        case rel => exact ⟨k + 1, l1 ++ [s], l2, by omega, by go_num, Lib.hid T1.out.symm, Lib.hid T2.out.symm, by have := HN1.out; simp; omega, by have := HN2.out; omega, HA7, HO47, HO57, hB7⟩
        case measure => simp [intOf]; omega
      · have hrp : isRipe now s = false := decide_eq_false ht
        rw [hrp, if_neg (by simp)] at t1 t2
        rw [List.append_nil] at t1
        have T1 := Lib.hid t1
        have T2 := Lib.hid t2
        clear t1 t2 hrp
        go_wp2_with (first
          | (refine load_rec 50 _ rfl rfl _ (Rec.vals s) rfl hat Try.underlying50 size_due ?_)
          | (refine store_rec 50 _ _ rfl rfl _ (Rec.vals s) (Rec.vals Due.zero) 50 rfl rfl (RecAt.new _ _ _) size_due rfl (Rec.one s) ?_; intro w2 hS2 hb2 hsz hkp; clear hsz hkp; have hb2 := rec_made (Below.refl _ _) hb2; have HO42 := Lib.hid (own_kept HO4.out hb2); have HO52 := Lib.hid (own_kept HO5.out hb2); have hB2 := Below.then hB hb2; have x1 : w2.cell? ⟨wr.heap.size, 1, none⟩ = some (.int .i64 s.tick) := hS2.cell 1; clear hb2 hat)
          | (refine load_rec 50 _ rfl rfl _ (Rec.vals s) rfl hS2.lies Try.underlying50 size_due ?_)
          | (refine list_one_rec 37 50 rfl _ rfl Try.underlying37 (Rec.vals s) (Rec.vals Due.zero) info_due rfl (by decide) (by decide) (fill_due s) rfl ?_)
          | (at_builtin; refine wpList_append_lies _ rfl _ _ 37 rfl w.heap.size 50 i0 _ (Rec.z Due) 24 Try.underlying37 hi0 hz0 hz1 hz2 rfl (by decide) _ l2.length (rows l2) rfl (own_more HO52.out _) ⟨w2.heap.size, 0, none⟩ 1 1 (Rec.vals s).toList rfl rfl (RecAt.new w2 (Rec.vals s) 50).lies (rec_onecell s) (by decide) ?c1 ?c2 ?c3 _ rfl ?_))
        case c1 => have := HN2.out; simp only [maxLen]; omega
        case c2 => have := HN2.out; omega
        case c3 => exact Nat.le_trans hB2.size (by first | exact Nat.le_succ _ | simp)
        intro g cap w7 hown7 hg7 hat7 hlt7
        have hB7 : Below w.heap.size w w7 := (hB2.alloc hB2.size _).grown hg7 (Nat.le_trans hB2.size (by simp)) (fun b hb => (HO52.out.lt b hb).1)
        have HO57 : Hid (w7.ownsRow w.heap.size 50 (Rec.z Due) (.slice (some ⟨g, 0, none⟩) (l2.length + 1) cap) (l2 ++ [s]).length (rows (l2 ++ [s]))) := Lib.hid (by rw [rows_snoc, List.length_append]; exact hown7)
        have HO47 := Lib.hid (own_apart (own_more HO42.out _) hg7 (fun b hb e => HA.out b hb e))
        have HA7 : Hid (Apart u4 (.slice (some ⟨g, 0, none⟩) (l2.length + 1) cap)) := Lib.hid (fun b hb4 hb => by
          have hgb : g = b := by simpa [Value.ownBlock] using hb
          subst hgb
          rcases hat7 with h | h
          · exact HA.out g hb4 h
          · have h5 := (HO42.out.lt g hb4).2
            (try simp at h)
            omega)
        clear hown7 hg7 hat7 hlt7 HO4 HO5 HO42 HO52 HA
        go_wp2
        go_roundw
        case rel => exact ⟨k + 1, l1, l2 ++ [s], by omega, by go_num, Lib.hid T1.out.symm, Lib.hid T2.out.symm, by have := HN1.out; omega, by have := HN2.out; simp; omega, HA7, HO47, HO57, hB7⟩
        case measure => simp [intOf]; omega
    · obtain rfl : k = l.length := by omega
      have e1 := H1.out
      have e2 := H2.out
      rw [List.take_length] at e1 e2
      subst e1 e2
      obtain ⟨A1, c1, rfl, -, -, -, hr1⟩ := rows_of_own rfl HO4.out
      obtain ⟨A2, c2, rfl, -, -, -, hr2⟩ := rows_of_own rfl HO5.out
      clear HO4 HO5 HA hn1 hn2 H1 H2
      go_wp2
      refine bodyPost_ret (v := .tuple #[.slice A1 (ripeOf now l).length c1, .slice A2 (restOf now l).length c2]) (by simp [results, Try.results16, go_sem]) rfl ⟨A1, c1, A2, c2, rfl, hr1, hr2, hB⟩
end Go.Proofs.Ytaaildlopknbjaa
