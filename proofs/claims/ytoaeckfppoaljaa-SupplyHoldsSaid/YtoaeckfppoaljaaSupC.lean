/- Layer 21 (supply): what each part of a state amounts to, and all of them; whether it is accounted for. By contracts. · Layer 21 (supply): a sheet and its total, the parts of a state, whether it holds. By contracts. · Layer 21 (supply): whether all money is accounted for. By contracts. -/
import Derived.Test.YtoaeckfppoaljaaSta
import Derived.Test.YtoaeckfppoaljaaPoolT
import Derived.Test.YtoaeckfppoaljaaTold
namespace Go.Proofs.Ytoaeckfppoaljaa
open Go.RowKit Go.Shelf
set_option linter.unusedVariables false
set_option linter.unusedSimpArgs false

/-- What members have. -/
def bals (l : List Mem) : List Nat := l.map fun m => m.s.bal
theorem bals_len (l : List Mem) : (bals l).length = l.length := by simp [bals]
theorem bals_fit {l : List Mem} (h : ∀ m ∈ l, m.s.Fits) : ∀ x ∈ bals l, x ≤ 18446744073709551615 := fun x hx => by
  obtain ⟨m, hm, rfl⟩ := List.mem_map.1 hx
  have := (h m hm).bal
  omega
theorem size_mem21 : (Try.prog.info? 60).map (·.size) = some (Rec.z Mem) := by kernel_rfl

set_option maxRecDepth 100000 in
set_option maxHeartbeats 2000000 in
theorem staked_told (l : List Mem) (A : Option Addr) (c : Nat) (w : World) (hr : Row w w.heap.size A (rows l)) (hl : l.length ≤ 1000000) (hx : ∀ m ∈ l, m.s.Fits) :
    Calls Try.prog 18 #[.slice A l.length c] w fun e w' => e = .returned (.tuple #[.int .u64 (tx (tot (bals l)) : Nat), .int .i64 (te (tot (bals l)) : Nat)]) ∧ Below w.heap.size w w' := by
  obtain ⟨i0, hi0, hz0, hz1, hz2⟩ := info_parts word_info
  obtain ⟨Z, hZ, hZl⟩ : ∃ Z : List Value, madeCells #[.int .u64 0] l.length = Z.toArray ∧ Z.length = l.length := ⟨(madeCells #[.int .u64 0] l.length).toList, by simp, by simp [size_madeCells]⟩
  have hmk : ∀ V : World, (Instr.makeSlice 25 (.int .i64 (l.length : Int)) (.int .i64 (l.length : Int))).run Try.prog V =
      .ok (.slice (some ⟨V.heap.size, 0, none⟩) l.length l.length) (V.alloc (.cells Z.toArray 22)) := by
    intro V
    have h := run_make (P := Try.prog) V 25 22 i0 (.int .u64 0) Try.underlying25 hi0 hz0 .i64 .i64 (l.length : Int) (l.length : Int) (by omega) (by omega) (by rw [hz2]; omega) (by omega)
    rw [hz1, Int.toNat_natCast, Nat.mul_one] at h
    rw [← hZ]
    exact h
  obtain ⟨P, hPl⟩ : ∃ P, Hid (bals l = P) := ⟨_, rfl⟩
  have hPn : P.length = l.length := by rw [← hPl.out, bals_len]
  have hPx : ∀ x ∈ P, x ≤ 18446744073709551615 := by rw [← hPl.out]; exact bals_fit hx
  rw [hPl.out]
  have hB0 : Below w.heap.size w (w.alloc (.cells Z.toArray 22)) := (Below.refl _ w).alloc (Nat.le_refl _) _
  have hst : (w.alloc (.cells Z.toArray 22)).ownsRow w.heap.size 22 1 (.slice (some ⟨w.heap.size, 0, none⟩) l.length l.length) l.length Z :=
    owns_row (Nat.le_refl _) (by rw [hZl, Nat.mul_one]) (by unfold maxLen; omega) (heap_alloc_new w _)
  have HPN := Lib.hid hPn
  have HPX := Lib.hid hPx
  have HZ := Lib.hid hZl
  have HR := Lib.hid hr
  clear hPn hPx hZl hr hx hZ hi0 hz0 hz1 hz2
  go_enter Try.func18, Try.ntmps18
  go_wp2
  clear hmk
  go_loopw [12] (fun iv wr => ∃ k : Nat, k ≤ l.length ∧ iv = .int .i64 (k : Int) ∧ Hid (wr.ownsRow w.heap.size 22 1 (.slice (some ⟨w.heap.size, 0, none⟩) l.length l.length) l.length (u64s (P.take k) ++ Z.drop k)) ∧ Below w.heap.size w wr) (fun iv _ => l.length - (intOf iv).toNat)
  case atStart => exact ⟨0, Nat.zero_le _, rfl, Lib.hid (by simpa [u64s] using hst), hB0⟩
  case round =>
    obtain ⟨k, hk, rfl, HO, hB⟩ := hrel
    clear hst hB0
    by_cases hlt : k < l.length
    · obtain ⟨s, hs⟩ : ∃ s, l[k]? = some s := ⟨_, List.getElem?_eq_getElem hlt⟩
      obtain ⟨a, rfl, hab, hat0⟩ := rows_row (HR.out.below hB) hs
      have hat : LiesAt wr (a.add (k * 6)) (Rec.vals s) := hat0
      have hkP : k < P.length := by rw [HPN.out]; exact hlt
      have hPk : P[k] = s.s.bal := by
        have h1 : P[k]? = some s.s.bal := by rw [← hPl.out]; unfold bals; rw [List.getElem?_map, hs]; rfl
        rw [List.getElem?_eq_getElem hkP] at h1
        exact Option.some.inj h1
      have hset := set_mid (Z := Z) hkP (by rw [HZ.out, HPN.out])
      rw [hPk] at hset
      have HSET := Lib.hid hset
      have hlen : k < (u64s (P.take k) ++ Z.drop k).length := by
        rw [List.length_append, u64s_len, List.length_take, List.length_drop, HZ.out, HPN.out]; omega
      have HLEN := Lib.hid hlen
      have hki : (k : Int) < (l.length : Int) := by omega
      have hk0 : (0 : Int) ≤ (k : Int) := by omega
      clear hset hPk hkP hs hat0 hlen
      go_wp2_with (first
        | (refine load_rec 60 _ rfl rfl _ (Rec.vals s) rfl hat Try.underlying60 size_mem21 ?_)
        | (refine store_rec 60 _ _ rfl rfl _ (Rec.vals s) (Rec.vals Mem.zero) 60 rfl rfl (RecAt.new _ _ _) size_mem21 rfl (Rec.one s) ?_; intro w2 hS2 hb2 _ _; have hb2 := rec_made (Below.refl _ _) hb2; have HO2 := Lib.hid (own_kept HO.out hb2); have hB2 := Below.then hB hb2; have hcD := own_at HO2.out HLEN.out; have hfD : w2.frozen? ⟨w.heap.size, k, none⟩ = false := HO2.out.frozenAt k; have hc0 : w2.cell? ⟨wr.heap.size, 0, none⟩ = some (.int .u64 (s.s.bal : Int)) := hS2.cell 0; clear hb2 hat))
      go_roundw
      case rel =>
        refine ⟨k + 1, by omega, by go_num, Lib.hid ?_, hB2.setCell (Nat.le_refl _) _⟩
        rw [← HSET.out]
        exact (World.ownsRow.stored HO2.out k _).1
      case measure => simp [intOf]; omega
    · obtain rfl : k = l.length := by omega
      have hO := HO.out
      rw [List.drop_eq_nil_of_le (by rw [HZ.out]; omega), List.append_nil, ← HPN.out, List.take_length] at hO
      obtain ⟨A', c', e1, -, -, hrow⟩ := Row.of_own hO
      rw [HPN.out] at e1
      have ks := sum_told P A' c' wr.heap.size wr hrow (by rw [HPN.out]; unfold maxLen; omega) HPX.out
      rw [HPN.out] at ks
      simp only [Value.slice.injEq] at e1
      obtain ⟨rfl, -, rfl⟩ := e1
      clear hO hrow HO
      go_wp2_with (go_at_call 21; refine ks.mono ?_; clear ks; rintro e w4 ⟨rfl, rfl⟩)
      go_ret2
      exact ⟨rfl, hB⟩

theorem purse_all_told (ns : List Nat) (A : Option Addr) (c B : Nat) (w : World) (hr : Row w B A (u64s ns)) (hlen : ns.length ≤ maxLen) (hn : ∀ n ∈ ns, n ≤ 18446744073709551615) :
    Calls Try.prog 19 #[.slice A ns.length c] w fun e w' => e = .returned (.tuple #[.int .u64 (tx (tot ns) : Nat), .int .i64 (te (tot ns) : Nat)]) ∧ w = w' := by
  have k := sum_told ns A c B w hr hlen hn
  clear hn
  go_enter Try.func19, Try.ntmps19
  go_wp2_with (go_at_call 21; refine k.mono ?_; clear k; rintro e w' ⟨rfl, rfl⟩)
  go_ret2
  exact ⟨rfl, rfl⟩
end Go.Proofs.Ytoaeckfppoaljaa
namespace Go.Proofs.Ytoaeckfppoaljaa
open Go.RowKit Go.Shelf
set_option linter.unusedVariables false
set_option linter.unusedSimpArgs false

/-- Where all money is: five sums. -/
structure Sht where
  st : Nat
  pu : Nat
  po : Nat
  du : Nat
  tr : Nat
def Sht.vals (x : Sht) : Array Value := #[.int .u64 (x.st : Int), .int .u64 (x.pu : Int), .int .u64 (x.po : Int), .int .u64 (x.du : Int), .int .u64 (x.tr : Int)]
instance : Rec Sht := ⟨Sht.vals, 5, fun _ => rfl, by decide, fun d => by simp [Sht.vals, Value.oneCell']⟩
def Sht.zero : Sht := ⟨0, 0, 0, 0, 0⟩
def Sht.all (x : Sht) : Nat := x.st + (x.pu + (x.po + (x.du + (x.tr + 0))))
theorem Sht.all_is (x : Sht) : tot [x.st, x.pu, x.po, x.du, x.tr] = x.all := rfl
theorem size_sht : (Try.prog.info? 41).map (·.size) = some (Rec.z Sht) := by kernel_rfl
structure Sht.Fits (x : Sht) : Prop where
  st : x.st ≤ 18446744073709551615
  pu : x.pu ≤ 18446744073709551615
  po : x.po ≤ 18446744073709551615
  du : x.du ≤ 18446744073709551615
  tr : x.tr ≤ 18446744073709551615
/-- Each part by itself: what they are, or that one is too much. -/
def parted (a b c d t : Nat) : Sht × Nat := if a ≤ 18446744073709551615 ∧ b ≤ 18446744073709551615 ∧ c ≤ 18446744073709551615 ∧ d ≤ 18446744073709551615 then (⟨a, b, c, d, t⟩, 0) else (Sht.zero, 10)
def Sta.parts (s : Sta) : Sht × Nat := parted (tot (bals s.mems.l)) (tot s.purses.l) (totDep s.pool.l) (totDue s.dues.l) s.treas
theorem parted_no {a b c d t : Nat} (h : 18446744073709551615 < a ∨ 18446744073709551615 < b ∨ 18446744073709551615 < c ∨ 18446744073709551615 < d) : parted a b c d t = (Sht.zero, 10) := if_neg (by omega)
theorem parted_ok {a b c d t : Nat} (h1 : a ≤ 18446744073709551615) (h2 : b ≤ 18446744073709551615) (h3 : c ≤ 18446744073709551615) (h4 : d ≤ 18446744073709551615) : parted a b c d t = (⟨a, b, c, d, t⟩, 0) := if_pos ⟨h1, h2, h3, h4⟩
theorem parted_fits {a b c d t : Nat} (ht : t < 18446744073709551616) : (parted a b c d t).1.Fits := by
  unfold parted
  split
  · rename_i h
    exact ⟨h.1, h.2.1, h.2.2.1, h.2.2.2, by show t ≤ _; omega⟩
  · exact ⟨by decide, by decide, by decide, by decide, by decide⟩

set_option maxRecDepth 100000 in
theorem total_is (x : Sht) (w : World) (hx : x.Fits) : Calls Try.prog 13 #[.agg (Rec.vals x)] w fun e w' => e = .returned (.tuple #[.int .u64 (tx x.all : Nat), .int .i64 (te x.all : Nat)]) ∧ Below w.heap.size w w' := by
  have ks : ∀ W : World, Calls Try.prog 21 #[.slice (some ⟨W.heap.size, 0, none⟩) 5 5] (W.alloc (.cells #[.int .u64 (x.st : Int), .int .u64 (x.pu : Int), .int .u64 (x.po : Int), .int .u64 (x.du : Int), .int .u64 (x.tr : Int)] 22)) fun e w' => e = .returned (.tuple #[.int .u64 (tx x.all : Nat), .int .i64 (te x.all : Nat)]) ∧ W.alloc (.cells #[.int .u64 (x.st : Int), .int .u64 (x.pu : Int), .int .u64 (x.po : Int), .int .u64 (x.du : Int), .int .u64 (x.tr : Int)] 22) = w' := fun W =>
    sum_told [x.st, x.pu, x.po, x.du, x.tr] _ 5 _ _ (row_new W [x.st, x.pu, x.po, x.du, x.tr] 22) (by show 5 ≤ maxLen; decide) (by
      intro n hn
      simp only [List.mem_cons, List.not_mem_nil, or_false] at hn
      rcases hn with rfl | rfl | rfl | rfl | rfl
      · exact hx.st
      · exact hx.pu
      · exact hx.po
      · exact hx.du
      · exact hx.tr)
  have hS : RecAt (w.alloc (.cells (Rec.vals x) 41)) w.heap.size (Rec.vals x) 41 := RecAt.new _ _ _
  have hB : Below w.heap.size w (w.alloc (.cells (Rec.vals x) 41)) := (Below.refl _ _).alloc (Nat.le_refl _) _
  clear hx
  go_enter Try.func13, Try.ntmps13
  go_upto_region 1 with fail
  generalize hw0 : World.alloc _ _ = w0 at hS hB ⊢
  clear hw0
  have c0 : w0.cell? ⟨w.heap.size, 0, none⟩ = some (.int .u64 (x.st : Int)) := hS.cell 0
  have c1 : w0.cell? ⟨w.heap.size, 1, none⟩ = some (.int .u64 (x.pu : Int)) := hS.cell 1
  have c2 : w0.cell? ⟨w.heap.size, 2, none⟩ = some (.int .u64 (x.po : Int)) := hS.cell 2
  have c3 : w0.cell? ⟨w.heap.size, 3, none⟩ = some (.int .u64 (x.du : Int)) := hS.cell 3
  have c4 : w0.cell? ⟨w.heap.size, 4, none⟩ = some (.int .u64 (x.tr : Int)) := hS.cell 4
  clear hS
  go_wp2_with (go_at_call 21; refine (ks _).mono ?_; clear ks; rintro e w1 ⟨rfl, rfl⟩)
  go_ret2
  exact ⟨rfl, hB.alloc hB.size _⟩

set_option maxRecDepth 100000 in
set_option maxHeartbeats 1000000 in
theorem parts_0 (s : Sta) (w : World) (hs : StaAt w s) (a b c d : Nat) (ha : tot (bals s.mems.l) = a) (hb : tot s.purses.l = b) (hc : totDep s.pool.l = c) (hd : totDue s.dues.l = d) (h1 : s.mems.l.length ≤ 1000000) (h2 : s.pool.l.length ≤ 1000000) (h3 : s.dues.l.length ≤ 1000000)
    (g0 : 18446744073709551615 < a) :
    Calls Try.prog 8 #[.agg (Rec.vals s)] w fun e w' => e = .returned (.tuple #[.agg (Rec.vals (Sht.zero : Sht)), .int .i64 10]) ∧ Below w.heap.size w w' := by
  have k0 := fun (W : World) (hB : Below w.heap.size w W) => staked_told s.mems.l s.mems.A s.mems.c W (row_kept hs.mems.row hB) h1 hs.mem
  rw [ha, tx_out (by omega), te_out (by omega)] at k0
  rw [show ((0 : Nat) : Int) = 0 from rfl, show ((10 : Nat) : Int) = 10 from rfl] at k0
  have K0 := Lib.hid k0
  clear k0 hs ha hb hc hd h1 h2 h3
  go_enter Try.func8, Try.ntmps8
  go_upto_region 1 with fail
  generalize hw0 : World.alloc (World.alloc _ _) _ = w0
  have hS : RecAt w0 w.heap.size (Rec.vals s) 34 := by rw [← hw0]; exact (RecAt.new w (Rec.vals s) 34).up ((Below.refl _ _).alloc (Nat.le_refl _) _)
  have hN : RecAt w0 (w.heap.size + 1) (Rec.vals Sht.zero) 41 := by
    rw [← hw0]
    have := RecAt.new (w.alloc (.cells (Rec.vals s) 34)) (Rec.vals Sht.zero) 41
    rw [World.size_alloc] at this
    exact this
  have hB : Below w.heap.size w w0 := by rw [← hw0]; exact ((Below.refl _ _).alloc (Nat.le_refl _) _).alloc (by simp) _
  clear hw0
  have c33 : w0.cell? ⟨w.heap.size, 33, none⟩ = some (.slice s.mems.A s.mems.l.length s.mems.c) := hS.cell 33
  go_wp2_with (first
    | (go_at_call 18; refine (K0.out w0 hB).mono ?_; clear K0; rintro e w1 ⟨rfl, hb⟩; have hS := hS.up hb; have hN := hN.up hb; have hB := Below.then hB hb; clear hb; have c32 : w1.cell? ⟨w.heap.size, 32, none⟩ = some (.slice s.purses.A s.purses.l.length s.purses.c) := hS.cell 32)
    | (refine build_rec 41 #[] rfl rfl (Rec.vals Sht.zero) ?_ ?_; · kernel_rfl)
    | (refine store_rec 41 _ _ rfl rfl _ (Rec.vals (Sht.zero : Sht)) (Rec.vals Sht.zero) 41 rfl rfl hN size_sht rfl (Rec.one (Sht.zero : Sht)) ?_; intro w5 hR hb5 hz5 hk5; have hB := hB.trans (hb5.mono (Nat.le_succ _)); clear hz5 hk5 hb5))
  refine bodyPost_ret (res_rec2 _ Try.results8 rfl hR Try.underlying41 size_sht) rfl ⟨by first | rfl | simp, hB⟩

set_option maxRecDepth 100000 in
set_option maxHeartbeats 1000000 in
theorem parts_1 (s : Sta) (w : World) (hs : StaAt w s) (a b c d : Nat) (ha : tot (bals s.mems.l) = a) (hb : tot s.purses.l = b) (hc : totDep s.pool.l = c) (hd : totDue s.dues.l = d) (h1 : s.mems.l.length ≤ 1000000) (h2 : s.pool.l.length ≤ 1000000) (h3 : s.dues.l.length ≤ 1000000)
    (g0 : a ≤ 18446744073709551615) (g1 : 18446744073709551615 < b) :
    Calls Try.prog 8 #[.agg (Rec.vals s)] w fun e w' => e = .returned (.tuple #[.agg (Rec.vals (Sht.zero : Sht)), .int .i64 10]) ∧ Below w.heap.size w w' := by
  have k0 := fun (W : World) (hB : Below w.heap.size w W) => staked_told s.mems.l s.mems.A s.mems.c W (row_kept hs.mems.row hB) h1 hs.mem
  rw [ha, tx_in (by omega), te_in (by omega)] at k0
  have k1 := fun (W : World) (hB : Below w.heap.size w W) => purse_all_told s.purses.l s.purses.A s.purses.c _ W (row_kept hs.purses.row hB) (Nat.le_trans hs.purses.le hs.purses.most) hs.purse
  rw [hb, tx_out (by omega), te_out (by omega)] at k1
  rw [show ((0 : Nat) : Int) = 0 from rfl] at k0
  rw [show ((0 : Nat) : Int) = 0 from rfl, show ((10 : Nat) : Int) = 10 from rfl] at k1
  have K0 := Lib.hid k0
  have K1 := Lib.hid k1
  clear k0 k1 hs ha hb hc hd h1 h2 h3
  go_enter Try.func8, Try.ntmps8
  go_upto_region 1 with fail
  generalize hw0 : World.alloc (World.alloc _ _) _ = w0
  have hS : RecAt w0 w.heap.size (Rec.vals s) 34 := by rw [← hw0]; exact (RecAt.new w (Rec.vals s) 34).up ((Below.refl _ _).alloc (Nat.le_refl _) _)
  have hN : RecAt w0 (w.heap.size + 1) (Rec.vals Sht.zero) 41 := by
    rw [← hw0]
    have := RecAt.new (w.alloc (.cells (Rec.vals s) 34)) (Rec.vals Sht.zero) 41
    rw [World.size_alloc] at this
    exact this
  have hB : Below w.heap.size w w0 := by rw [← hw0]; exact ((Below.refl _ _).alloc (Nat.le_refl _) _).alloc (by simp) _
  clear hw0
  have c33 : w0.cell? ⟨w.heap.size, 33, none⟩ = some (.slice s.mems.A s.mems.l.length s.mems.c) := hS.cell 33
  go_wp2_with (first
    | (go_at_call 18; refine (K0.out w0 hB).mono ?_; clear K0; rintro e w1 ⟨rfl, hb⟩; have hS := hS.up hb; have hN := hN.up hb; have hB := Below.then hB hb; clear hb; have c32 : w1.cell? ⟨w.heap.size, 32, none⟩ = some (.slice s.purses.A s.purses.l.length s.purses.c) := hS.cell 32)
    | (go_at_call 19; refine (K1.out w1 hB).mono ?_; clear K1; rintro e w2 ⟨rfl, rfl⟩; have c36 : w1.cell? ⟨w.heap.size, 36, none⟩ = some (.slice s.pool.A s.pool.l.length s.pool.c) := hS.cell 36)
    | (refine build_rec 41 #[] rfl rfl (Rec.vals Sht.zero) ?_ ?_; · kernel_rfl)
    | (refine store_rec 41 _ _ rfl rfl _ (Rec.vals (Sht.zero : Sht)) (Rec.vals Sht.zero) 41 rfl rfl hN size_sht rfl (Rec.one (Sht.zero : Sht)) ?_; intro w5 hR hb5 hz5 hk5; have hB := hB.trans (hb5.mono (Nat.le_succ _)); clear hz5 hk5 hb5))
  refine bodyPost_ret (res_rec2 _ Try.results8 rfl hR Try.underlying41 size_sht) rfl ⟨by first | rfl | simp, hB⟩

set_option maxRecDepth 100000 in
set_option maxHeartbeats 1000000 in
theorem parts_2 (s : Sta) (w : World) (hs : StaAt w s) (a b c d : Nat) (ha : tot (bals s.mems.l) = a) (hb : tot s.purses.l = b) (hc : totDep s.pool.l = c) (hd : totDue s.dues.l = d) (h1 : s.mems.l.length ≤ 1000000) (h2 : s.pool.l.length ≤ 1000000) (h3 : s.dues.l.length ≤ 1000000)
    (g0 : a ≤ 18446744073709551615) (g1 : b ≤ 18446744073709551615) (g2 : 18446744073709551615 < c) :
    Calls Try.prog 8 #[.agg (Rec.vals s)] w fun e w' => e = .returned (.tuple #[.agg (Rec.vals (Sht.zero : Sht)), .int .i64 10]) ∧ Below w.heap.size w w' := by
  have k0 := fun (W : World) (hB : Below w.heap.size w W) => staked_told s.mems.l s.mems.A s.mems.c W (row_kept hs.mems.row hB) h1 hs.mem
  rw [ha, tx_in (by omega), te_in (by omega)] at k0
  have k1 := fun (W : World) (hB : Below w.heap.size w W) => purse_all_told s.purses.l s.purses.A s.purses.c _ W (row_kept hs.purses.row hB) (Nat.le_trans hs.purses.le hs.purses.most) hs.purse
  rw [hb, tx_in (by omega), te_in (by omega)] at k1
  have k2 := fun (W : World) (hB : Below w.heap.size w W) => psum_is s.pool.l [] s.pool.A none s.pool.c 0 W (row_kept hs.pool.row hB) (Row.nil _ _ _) h2 (by simp) hs.dep (by simp)
  rw [show totDue [] = 0 from rfl, Nat.add_zero, hc, tx_out (by omega), te_out (by omega)] at k2
  rw [show ((0 : Nat) : Int) = 0 from rfl] at k0
  rw [show ((0 : Nat) : Int) = 0 from rfl] at k1
  rw [show ((0 : Nat) : Int) = 0 from rfl, show ((10 : Nat) : Int) = 10 from rfl] at k2
  have K0 := Lib.hid k0
  have K1 := Lib.hid k1
  have K2 := Lib.hid k2
  clear k0 k1 k2 hs ha hb hc hd h1 h2 h3
  go_enter Try.func8, Try.ntmps8
  go_upto_region 1 with fail
  generalize hw0 : World.alloc (World.alloc _ _) _ = w0
  have hS : RecAt w0 w.heap.size (Rec.vals s) 34 := by rw [← hw0]; exact (RecAt.new w (Rec.vals s) 34).up ((Below.refl _ _).alloc (Nat.le_refl _) _)
  have hN : RecAt w0 (w.heap.size + 1) (Rec.vals Sht.zero) 41 := by
    rw [← hw0]
    have := RecAt.new (w.alloc (.cells (Rec.vals s) 34)) (Rec.vals Sht.zero) 41
    rw [World.size_alloc] at this
    exact this
  have hB : Below w.heap.size w w0 := by rw [← hw0]; exact ((Below.refl _ _).alloc (Nat.le_refl _) _).alloc (by simp) _
  clear hw0
  have c33 : w0.cell? ⟨w.heap.size, 33, none⟩ = some (.slice s.mems.A s.mems.l.length s.mems.c) := hS.cell 33
  go_wp2_with (first
    | (go_at_call 18; refine (K0.out w0 hB).mono ?_; clear K0; rintro e w1 ⟨rfl, hb⟩; have hS := hS.up hb; have hN := hN.up hb; have hB := Below.then hB hb; clear hb; have c32 : w1.cell? ⟨w.heap.size, 32, none⟩ = some (.slice s.purses.A s.purses.l.length s.purses.c) := hS.cell 32)
    | (go_at_call 19; refine (K1.out w1 hB).mono ?_; clear K1; rintro e w2 ⟨rfl, rfl⟩; have c36 : w1.cell? ⟨w.heap.size, 36, none⟩ = some (.slice s.pool.A s.pool.l.length s.pool.c) := hS.cell 36)
    | (go_at_call 20; refine (K2.out w1 hB).mono ?_; clear K2; rintro e w3 ⟨rfl, hb⟩; have hS := hS.up hb; have hN := hN.up hb; have hB := Below.then hB hb; clear hb; have c37 : w3.cell? ⟨w.heap.size, 37, none⟩ = some (.slice s.dues.A s.dues.l.length s.dues.c) := hS.cell 37)
    | (refine build_rec 41 #[] rfl rfl (Rec.vals Sht.zero) ?_ ?_; · kernel_rfl)
    | (refine store_rec 41 _ _ rfl rfl _ (Rec.vals (Sht.zero : Sht)) (Rec.vals Sht.zero) 41 rfl rfl hN size_sht rfl (Rec.one (Sht.zero : Sht)) ?_; intro w5 hR hb5 hz5 hk5; have hB := hB.trans (hb5.mono (Nat.le_succ _)); clear hz5 hk5 hb5))
  refine bodyPost_ret (res_rec2 _ Try.results8 rfl hR Try.underlying41 size_sht) rfl ⟨by first | rfl | simp, hB⟩

set_option maxRecDepth 100000 in
set_option maxHeartbeats 1000000 in
theorem parts_3 (s : Sta) (w : World) (hs : StaAt w s) (a b c d : Nat) (ha : tot (bals s.mems.l) = a) (hb : tot s.purses.l = b) (hc : totDep s.pool.l = c) (hd : totDue s.dues.l = d) (h1 : s.mems.l.length ≤ 1000000) (h2 : s.pool.l.length ≤ 1000000) (h3 : s.dues.l.length ≤ 1000000)
    (g0 : a ≤ 18446744073709551615) (g1 : b ≤ 18446744073709551615) (g2 : c ≤ 18446744073709551615) (g3 : 18446744073709551615 < d) :
    Calls Try.prog 8 #[.agg (Rec.vals s)] w fun e w' => e = .returned (.tuple #[.agg (Rec.vals (Sht.zero : Sht)), .int .i64 10]) ∧ Below w.heap.size w w' := by
  have k0 := fun (W : World) (hB : Below w.heap.size w W) => staked_told s.mems.l s.mems.A s.mems.c W (row_kept hs.mems.row hB) h1 hs.mem
  rw [ha, tx_in (by omega), te_in (by omega)] at k0
  have k1 := fun (W : World) (hB : Below w.heap.size w W) => purse_all_told s.purses.l s.purses.A s.purses.c _ W (row_kept hs.purses.row hB) (Nat.le_trans hs.purses.le hs.purses.most) hs.purse
  rw [hb, tx_in (by omega), te_in (by omega)] at k1
  have k2 := fun (W : World) (hB : Below w.heap.size w W) => psum_is s.pool.l [] s.pool.A none s.pool.c 0 W (row_kept hs.pool.row hB) (Row.nil _ _ _) h2 (by simp) hs.dep (by simp)
  rw [show totDue [] = 0 from rfl, Nat.add_zero, hc, tx_in (by omega), te_in (by omega)] at k2
  have k3 := fun (W : World) (hB : Below w.heap.size w W) => psum_is [] s.dues.l none s.dues.A 0 s.dues.c W (Row.nil _ _ _) (row_kept hs.dues.row hB) (by simp) h3 (by simp) hs.due
  rw [show totDep [] = 0 from rfl, Nat.zero_add, hd, tx_out (by omega), te_out (by omega)] at k3
  rw [show ((0 : Nat) : Int) = 0 from rfl] at k0
  rw [show ((0 : Nat) : Int) = 0 from rfl] at k1
  rw [show ((0 : Nat) : Int) = 0 from rfl] at k2
  rw [show ((0 : Nat) : Int) = 0 from rfl, show ((10 : Nat) : Int) = 10 from rfl] at k3
  have K0 := Lib.hid k0
  have K1 := Lib.hid k1
  have K2 := Lib.hid k2
  have K3 := Lib.hid k3
  clear k0 k1 k2 k3 hs ha hb hc hd h1 h2 h3
  go_enter Try.func8, Try.ntmps8
  go_upto_region 1 with fail
  generalize hw0 : World.alloc (World.alloc _ _) _ = w0
  have hS : RecAt w0 w.heap.size (Rec.vals s) 34 := by rw [← hw0]; exact (RecAt.new w (Rec.vals s) 34).up ((Below.refl _ _).alloc (Nat.le_refl _) _)
  have hN : RecAt w0 (w.heap.size + 1) (Rec.vals Sht.zero) 41 := by
    rw [← hw0]
    have := RecAt.new (w.alloc (.cells (Rec.vals s) 34)) (Rec.vals Sht.zero) 41
    rw [World.size_alloc] at this
    exact this
  have hB : Below w.heap.size w w0 := by rw [← hw0]; exact ((Below.refl _ _).alloc (Nat.le_refl _) _).alloc (by simp) _
  clear hw0
  have c33 : w0.cell? ⟨w.heap.size, 33, none⟩ = some (.slice s.mems.A s.mems.l.length s.mems.c) := hS.cell 33
  go_wp2_with (first
    | (go_at_call 18; refine (K0.out w0 hB).mono ?_; clear K0; rintro e w1 ⟨rfl, hb⟩; have hS := hS.up hb; have hN := hN.up hb; have hB := Below.then hB hb; clear hb; have c32 : w1.cell? ⟨w.heap.size, 32, none⟩ = some (.slice s.purses.A s.purses.l.length s.purses.c) := hS.cell 32)
    | (go_at_call 19; refine (K1.out w1 hB).mono ?_; clear K1; rintro e w2 ⟨rfl, rfl⟩; have c36 : w1.cell? ⟨w.heap.size, 36, none⟩ = some (.slice s.pool.A s.pool.l.length s.pool.c) := hS.cell 36)
    | (go_at_call 20; refine (K2.out w1 hB).mono ?_; clear K2; rintro e w3 ⟨rfl, hb⟩; have hS := hS.up hb; have hN := hN.up hb; have hB := Below.then hB hb; clear hb; have c37 : w3.cell? ⟨w.heap.size, 37, none⟩ = some (.slice s.dues.A s.dues.l.length s.dues.c) := hS.cell 37)
    | (go_at_call 20; refine (K3.out w3 hB).mono ?_; clear K3; rintro e w4 ⟨rfl, hb⟩; have hS := hS.up hb; have hN := hN.up hb; have hB := Below.then hB hb; clear hb; have c28 : w4.cell? ⟨w.heap.size, 28, none⟩ = some (.int .u64 (s.treas : Int)) := hS.cell 28)
    | (refine build_rec 41 #[] rfl rfl (Rec.vals Sht.zero) ?_ ?_; · kernel_rfl)
    | (refine store_rec 41 _ _ rfl rfl _ (Rec.vals (Sht.zero : Sht)) (Rec.vals Sht.zero) 41 rfl rfl hN size_sht rfl (Rec.one (Sht.zero : Sht)) ?_; intro w5 hR hb5 hz5 hk5; have hB := hB.trans (hb5.mono (Nat.le_succ _)); clear hz5 hk5 hb5))
  refine bodyPost_ret (res_rec2 _ Try.results8 rfl hR Try.underlying41 size_sht) rfl ⟨by first | rfl | simp, hB⟩

set_option maxRecDepth 100000 in
set_option maxHeartbeats 1000000 in
theorem parts_4 (s : Sta) (w : World) (hs : StaAt w s) (a b c d : Nat) (ha : tot (bals s.mems.l) = a) (hb : tot s.purses.l = b) (hc : totDep s.pool.l = c) (hd : totDue s.dues.l = d) (h1 : s.mems.l.length ≤ 1000000) (h2 : s.pool.l.length ≤ 1000000) (h3 : s.dues.l.length ≤ 1000000)
    (g0 : a ≤ 18446744073709551615) (g1 : b ≤ 18446744073709551615) (g2 : c ≤ 18446744073709551615) (g3 : d ≤ 18446744073709551615) :
    Calls Try.prog 8 #[.agg (Rec.vals s)] w fun e w' => e = .returned (.tuple #[.agg (Rec.vals (⟨a, b, c, d, s.treas⟩ : Sht)), .int .i64 0]) ∧ Below w.heap.size w w' := by
  have k0 := fun (W : World) (hB : Below w.heap.size w W) => staked_told s.mems.l s.mems.A s.mems.c W (row_kept hs.mems.row hB) h1 hs.mem
  rw [ha, tx_in (by omega), te_in (by omega)] at k0
  have k1 := fun (W : World) (hB : Below w.heap.size w W) => purse_all_told s.purses.l s.purses.A s.purses.c _ W (row_kept hs.purses.row hB) (Nat.le_trans hs.purses.le hs.purses.most) hs.purse
  rw [hb, tx_in (by omega), te_in (by omega)] at k1
  have k2 := fun (W : World) (hB : Below w.heap.size w W) => psum_is s.pool.l [] s.pool.A none s.pool.c 0 W (row_kept hs.pool.row hB) (Row.nil _ _ _) h2 (by simp) hs.dep (by simp)
  rw [show totDue [] = 0 from rfl, Nat.add_zero, hc, tx_in (by omega), te_in (by omega)] at k2
  have k3 := fun (W : World) (hB : Below w.heap.size w W) => psum_is [] s.dues.l none s.dues.A 0 s.dues.c W (Row.nil _ _ _) (row_kept hs.dues.row hB) (by simp) h3 (by simp) hs.due
  rw [show totDep [] = 0 from rfl, Nat.zero_add, hd, tx_in (by omega), te_in (by omega)] at k3
  rw [show ((0 : Nat) : Int) = 0 from rfl] at k0
  rw [show ((0 : Nat) : Int) = 0 from rfl] at k1
  rw [show ((0 : Nat) : Int) = 0 from rfl] at k2
  rw [show ((0 : Nat) : Int) = 0 from rfl] at k3
  have K0 := Lib.hid k0
  have K1 := Lib.hid k1
  have K2 := Lib.hid k2
  have K3 := Lib.hid k3
  clear k0 k1 k2 k3 hs ha hb hc hd h1 h2 h3
  go_enter Try.func8, Try.ntmps8
  go_upto_region 1 with fail
  generalize hw0 : World.alloc (World.alloc _ _) _ = w0
  have hS : RecAt w0 w.heap.size (Rec.vals s) 34 := by rw [← hw0]; exact (RecAt.new w (Rec.vals s) 34).up ((Below.refl _ _).alloc (Nat.le_refl _) _)
  have hN : RecAt w0 (w.heap.size + 1) (Rec.vals Sht.zero) 41 := by
    rw [← hw0]
    have := RecAt.new (w.alloc (.cells (Rec.vals s) 34)) (Rec.vals Sht.zero) 41
    rw [World.size_alloc] at this
    exact this
  have hB : Below w.heap.size w w0 := by rw [← hw0]; exact ((Below.refl _ _).alloc (Nat.le_refl _) _).alloc (by simp) _
  clear hw0
  have c33 : w0.cell? ⟨w.heap.size, 33, none⟩ = some (.slice s.mems.A s.mems.l.length s.mems.c) := hS.cell 33
  go_wp2_with (first
    | (go_at_call 18; refine (K0.out w0 hB).mono ?_; clear K0; rintro e w1 ⟨rfl, hb⟩; have hS := hS.up hb; have hN := hN.up hb; have hB := Below.then hB hb; clear hb; have c32 : w1.cell? ⟨w.heap.size, 32, none⟩ = some (.slice s.purses.A s.purses.l.length s.purses.c) := hS.cell 32)
    | (go_at_call 19; refine (K1.out w1 hB).mono ?_; clear K1; rintro e w2 ⟨rfl, rfl⟩; have c36 : w1.cell? ⟨w.heap.size, 36, none⟩ = some (.slice s.pool.A s.pool.l.length s.pool.c) := hS.cell 36)
    | (go_at_call 20; refine (K2.out w1 hB).mono ?_; clear K2; rintro e w3 ⟨rfl, hb⟩; have hS := hS.up hb; have hN := hN.up hb; have hB := Below.then hB hb; clear hb; have c37 : w3.cell? ⟨w.heap.size, 37, none⟩ = some (.slice s.dues.A s.dues.l.length s.dues.c) := hS.cell 37)
    | (go_at_call 20; refine (K3.out w3 hB).mono ?_; clear K3; rintro e w4 ⟨rfl, hb⟩; have hS := hS.up hb; have hN := hN.up hb; have hB := Below.then hB hb; clear hb; have c28 : w4.cell? ⟨w.heap.size, 28, none⟩ = some (.int .u64 (s.treas : Int)) := hS.cell 28)
    | (refine store_rec 41 _ _ rfl rfl _ (Rec.vals (⟨a, b, c, d, s.treas⟩ : Sht)) (Rec.vals Sht.zero) 41 rfl rfl hN size_sht rfl (Rec.one (⟨a, b, c, d, s.treas⟩ : Sht)) ?_; intro w5 hR hb5 hz5 hk5; have hB := hB.trans (hb5.mono (Nat.le_succ _)); clear hz5 hk5 hb5))
  refine bodyPost_ret (res_rec2 _ Try.results8 rfl hR Try.underlying41 size_sht) rfl ⟨by first | rfl | simp, hB⟩

theorem parts_is (s : Sta) (w : World) (hs : StaAt w s) (h1 : s.mems.l.length ≤ 1000000) (h2 : s.pool.l.length ≤ 1000000) (h3 : s.dues.l.length ≤ 1000000) :
    Calls Try.prog 8 #[.agg (Rec.vals s)] w fun e w' => e = .returned (.tuple #[.agg (Rec.vals s.parts.1), .int .i64 (s.parts.2 : Int)]) ∧ Below w.heap.size w w' := by
  unfold Sta.parts
  by_cases g0 : 18446744073709551615 < tot (bals s.mems.l)
  · rw [parted_no (.inl g0)]; exact parts_0 s w hs _ _ _ _ rfl rfl rfl rfl h1 h2 h3 g0
  by_cases g1 : 18446744073709551615 < tot s.purses.l
  · rw [parted_no (.inr (.inl g1))]; exact parts_1 s w hs _ _ _ _ rfl rfl rfl rfl h1 h2 h3 (by omega) g1
  by_cases g2 : 18446744073709551615 < totDep s.pool.l
  · rw [parted_no (.inr (.inr (.inl g2)))]; exact parts_2 s w hs _ _ _ _ rfl rfl rfl rfl h1 h2 h3 (by omega) (by omega) g2
  by_cases g3 : 18446744073709551615 < totDue s.dues.l
  · rw [parted_no (.inr (.inr (.inr g3)))]; exact parts_3 s w hs _ _ _ _ rfl rfl rfl rfl h1 h2 h3 (by omega) (by omega) (by omega) g3
  · rw [parted_ok (by omega) (by omega) (by omega) (by omega)]; exact parts_4 s w hs _ _ _ _ rfl rfl rfl rfl h1 h2 h3 (by omega) (by omega) (by omega) (by omega)
end Go.Proofs.Ytoaeckfppoaljaa
namespace Go.Proofs.Ytoaeckfppoaljaa
open Go.RowKit Go.Shelf
set_option linter.unusedVariables false
set_option linter.unusedSimpArgs false

/-- All that there is of money. -/
def Sta.whole (s : Sta) : Nat := tot (bals s.mems.l) + (tot s.purses.l + (totDep s.pool.l + (totDue s.dues.l + (s.treas + 0))))
/-- All money is accounted for. -/
def Sta.Holds (s : Sta) : Prop := s.gen + s.mint ≤ s.most ∧ s.most ≤ 4611686018427387904 ∧ s.whole + s.burn = s.gen + s.mint
instance (s : Sta) : Decidable s.Holds := by unfold Sta.Holds; infer_instance
theorem parts_ok {s : Sta} (h : s.parts.2 = 0) : s.parts.1.all = s.whole := by
  unfold Sta.parts parted at *
  split
  · rfl
  · rename_i h2
    rw [if_neg h2] at h
    cases h
theorem parts_err (s : Sta) : s.parts.2 = 0 ∨ s.parts.2 = 10 := by
  unfold Sta.parts parted
  split
  · exact .inl rfl
  · exact .inr rfl
theorem parts_big {s : Sta} (h : s.parts.2 = 10) : 18446744073709551615 < s.whole := by
  unfold Sta.parts parted at h
  unfold Sta.whole
  split at h
  · cases h
  · omega

set_option maxRecDepth 100000 in
set_option maxHeartbeats 1000000 in
theorem holds_0 (s : Sta) (w : World) (hs : StaAt w s) (h1 : s.mems.l.length ≤ 1000000) (h2 : s.pool.l.length ≤ 1000000) (h3 : s.dues.l.length ≤ 1000000) (c : Nat) (hc : s.gen + (s.mint + 0) = c)
    (g0 : 18446744073709551615 < c) :
    Calls Try.prog 9 #[.agg (Rec.vals s)] w fun e w' => e = .returned (.bool (false)) ∧ Below w.heap.size w w' := by
  have ks : ∀ W : World, Calls Try.prog 21 #[.slice (some ⟨W.heap.size, 0, none⟩) 2 2] (W.alloc (.cells #[.int .u64 (s.gen : Int), .int .u64 (s.mint : Int)] 22)) fun e w' => e = .returned (.tuple #[.int .u64 (tx c : Nat), .int .i64 (te c : Nat)]) ∧ W.alloc (.cells #[.int .u64 (s.gen : Int), .int .u64 (s.mint : Int)] 22) = w' := fun W => by
    have h := sum_told [s.gen, s.mint] _ 2 _ _ (row_new W [s.gen, s.mint] 22) (by show 2 ≤ maxLen; decide) (by
      intro n hn
      simp only [List.mem_cons, List.not_mem_nil, or_false] at hn
      have := hs.gen
      have := hs.mint
      rcases hn with rfl | rfl <;> omega)
    rw [show tot [s.gen, s.mint] = c from hc] at h
    exact h
  rw [tx_out g0, te_out g0, show ((0 : Nat) : Int) = 0 from rfl, show ((10 : Nat) : Int) = 10 from rfl] at ks
  have KS := Lib.hid ks
  clear ks hs h1 h2 h3 hc g0
  go_enter Try.func9, Try.ntmps9
  go_upto_region 1 with fail
  generalize hw0 : World.alloc _ _ = w0
  have hS : RecAt w0 w.heap.size (Rec.vals s) 34 := by rw [← hw0]; exact RecAt.new w (Rec.vals s) 34
  have hB : Below w.heap.size w w0 := by rw [← hw0]; exact (Below.refl _ _).alloc (Nat.le_refl _) _
  clear hw0
  have c25 : w0.cell? ⟨w.heap.size, 25, none⟩ = some (.int .u64 (s.gen : Int)) := hS.cell 25
  have c26 : w0.cell? ⟨w.heap.size, 26, none⟩ = some (.int .u64 (s.mint : Int)) := hS.cell 26
  go_wp2_with (first
    | (go_at_call 21; refine (KS.out _).mono ?_; clear KS; rintro e w1 ⟨rfl, rfl⟩; have hb := (Below.refl w0.heap.size w0).alloc (Nat.le_refl _) (.cells #[.int .u64 (s.gen : Int), .int .u64 (s.mint : Int)] 22); have hS := hS.up hb; have hB := Below.then hB hb; clear hb; generalize (w0.alloc (.cells #[.int .u64 (s.gen : Int), .int .u64 (s.mint : Int)] 22)) = w1 at hS hB ⊢; have c24 : w1.cell? ⟨w.heap.size, 24, none⟩ = some (.int .u64 (s.most : Int)) := hS.cell 24; have c27 : w1.cell? ⟨w.heap.size, 27, none⟩ = some (.int .u64 (s.burn : Int)) := hS.cell 27))
  go_ret
  exact ⟨by first | rfl | simp, hB⟩

set_option maxRecDepth 100000 in
set_option maxHeartbeats 1000000 in
theorem holds_1 (s : Sta) (w : World) (hs : StaAt w s) (h1 : s.mems.l.length ≤ 1000000) (h2 : s.pool.l.length ≤ 1000000) (h3 : s.dues.l.length ≤ 1000000) (c : Nat) (hc : s.gen + (s.mint + 0) = c)
    (g0 : c ≤ 18446744073709551615) (g1 : s.most < c) :
    Calls Try.prog 9 #[.agg (Rec.vals s)] w fun e w' => e = .returned (.bool (false)) ∧ Below w.heap.size w w' := by
  have ks : ∀ W : World, Calls Try.prog 21 #[.slice (some ⟨W.heap.size, 0, none⟩) 2 2] (W.alloc (.cells #[.int .u64 (s.gen : Int), .int .u64 (s.mint : Int)] 22)) fun e w' => e = .returned (.tuple #[.int .u64 (tx c : Nat), .int .i64 (te c : Nat)]) ∧ W.alloc (.cells #[.int .u64 (s.gen : Int), .int .u64 (s.mint : Int)] 22) = w' := fun W => by
    have h := sum_told [s.gen, s.mint] _ 2 _ _ (row_new W [s.gen, s.mint] 22) (by show 2 ≤ maxLen; decide) (by
      intro n hn
      simp only [List.mem_cons, List.not_mem_nil, or_false] at hn
      have := hs.gen
      have := hs.mint
      rcases hn with rfl | rfl <;> omega)
    rw [show tot [s.gen, s.mint] = c from hc] at h
    exact h
  rw [tx_in g0, te_in g0, show ((0 : Nat) : Int) = 0 from rfl] at ks
  have i1 : (s.most : Int) < (c : Int) := by omega
  have d1 : decide ((s.most : Int) < (c : Int)) = true := decide_eq_true i1
  have KS := Lib.hid ks
  clear ks hs h1 h2 h3 hc g0 g1
  go_enter Try.func9, Try.ntmps9
  go_upto_region 1 with fail
  generalize hw0 : World.alloc _ _ = w0
  have hS : RecAt w0 w.heap.size (Rec.vals s) 34 := by rw [← hw0]; exact RecAt.new w (Rec.vals s) 34
  have hB : Below w.heap.size w w0 := by rw [← hw0]; exact (Below.refl _ _).alloc (Nat.le_refl _) _
  clear hw0
  have c25 : w0.cell? ⟨w.heap.size, 25, none⟩ = some (.int .u64 (s.gen : Int)) := hS.cell 25
  have c26 : w0.cell? ⟨w.heap.size, 26, none⟩ = some (.int .u64 (s.mint : Int)) := hS.cell 26
  go_wp2_with (first
    | (go_at_call 21; refine (KS.out _).mono ?_; clear KS; rintro e w1 ⟨rfl, rfl⟩; have hb := (Below.refl w0.heap.size w0).alloc (Nat.le_refl _) (.cells #[.int .u64 (s.gen : Int), .int .u64 (s.mint : Int)] 22); have hS := hS.up hb; have hB := Below.then hB hb; clear hb; generalize (w0.alloc (.cells #[.int .u64 (s.gen : Int), .int .u64 (s.mint : Int)] 22)) = w1 at hS hB ⊢; have c24 : w1.cell? ⟨w.heap.size, 24, none⟩ = some (.int .u64 (s.most : Int)) := hS.cell 24; have c27 : w1.cell? ⟨w.heap.size, 27, none⟩ = some (.int .u64 (s.burn : Int)) := hS.cell 27))
  go_ret
  exact ⟨by first | rfl | simp, hB⟩

set_option maxRecDepth 100000 in
set_option maxHeartbeats 1000000 in
theorem holds_2 (s : Sta) (w : World) (hs : StaAt w s) (h1 : s.mems.l.length ≤ 1000000) (h2 : s.pool.l.length ≤ 1000000) (h3 : s.dues.l.length ≤ 1000000) (c : Nat) (hc : s.gen + (s.mint + 0) = c)
    (g0 : c ≤ 18446744073709551615) (g1 : c ≤ s.most) (g2 : 4611686018427387904 < s.most) :
    Calls Try.prog 9 #[.agg (Rec.vals s)] w fun e w' => e = .returned (.bool (false)) ∧ Below w.heap.size w w' := by
  have ks : ∀ W : World, Calls Try.prog 21 #[.slice (some ⟨W.heap.size, 0, none⟩) 2 2] (W.alloc (.cells #[.int .u64 (s.gen : Int), .int .u64 (s.mint : Int)] 22)) fun e w' => e = .returned (.tuple #[.int .u64 (tx c : Nat), .int .i64 (te c : Nat)]) ∧ W.alloc (.cells #[.int .u64 (s.gen : Int), .int .u64 (s.mint : Int)] 22) = w' := fun W => by
    have h := sum_told [s.gen, s.mint] _ 2 _ _ (row_new W [s.gen, s.mint] 22) (by show 2 ≤ maxLen; decide) (by
      intro n hn
      simp only [List.mem_cons, List.not_mem_nil, or_false] at hn
      have := hs.gen
      have := hs.mint
      rcases hn with rfl | rfl <;> omega)
    rw [show tot [s.gen, s.mint] = c from hc] at h
    exact h
  rw [tx_in g0, te_in g0, show ((0 : Nat) : Int) = 0 from rfl] at ks
  have i1 : ¬ (s.most : Int) < (c : Int) := by omega
  have d1 : decide ((s.most : Int) < (c : Int)) = false := decide_eq_false i1
  have i2 : (4611686018427387904 : Int) < (s.most : Int) := by omega
  have d2 : decide ((4611686018427387904 : Int) < (s.most : Int)) = true := decide_eq_true i2
  have KS := Lib.hid ks
  clear ks hs h1 h2 h3 hc g0 g1 g2
  go_enter Try.func9, Try.ntmps9
  go_upto_region 1 with fail
  generalize hw0 : World.alloc _ _ = w0
  have hS : RecAt w0 w.heap.size (Rec.vals s) 34 := by rw [← hw0]; exact RecAt.new w (Rec.vals s) 34
  have hB : Below w.heap.size w w0 := by rw [← hw0]; exact (Below.refl _ _).alloc (Nat.le_refl _) _
  clear hw0
  have c25 : w0.cell? ⟨w.heap.size, 25, none⟩ = some (.int .u64 (s.gen : Int)) := hS.cell 25
  have c26 : w0.cell? ⟨w.heap.size, 26, none⟩ = some (.int .u64 (s.mint : Int)) := hS.cell 26
  go_wp2_with (first
    | (go_at_call 21; refine (KS.out _).mono ?_; clear KS; rintro e w1 ⟨rfl, rfl⟩; have hb := (Below.refl w0.heap.size w0).alloc (Nat.le_refl _) (.cells #[.int .u64 (s.gen : Int), .int .u64 (s.mint : Int)] 22); have hS := hS.up hb; have hB := Below.then hB hb; clear hb; generalize (w0.alloc (.cells #[.int .u64 (s.gen : Int), .int .u64 (s.mint : Int)] 22)) = w1 at hS hB ⊢; have c24 : w1.cell? ⟨w.heap.size, 24, none⟩ = some (.int .u64 (s.most : Int)) := hS.cell 24; have c27 : w1.cell? ⟨w.heap.size, 27, none⟩ = some (.int .u64 (s.burn : Int)) := hS.cell 27))
  go_ret
  exact ⟨by first | rfl | simp, hB⟩

set_option maxRecDepth 100000 in
set_option maxHeartbeats 1000000 in
theorem holds_3 (s : Sta) (w : World) (hs : StaAt w s) (h1 : s.mems.l.length ≤ 1000000) (h2 : s.pool.l.length ≤ 1000000) (h3 : s.dues.l.length ≤ 1000000) (c : Nat) (hc : s.gen + (s.mint + 0) = c)
    (g0 : c ≤ 18446744073709551615) (g1 : c ≤ s.most) (g2 : s.most ≤ 4611686018427387904) (g3 : c < s.burn) :
    Calls Try.prog 9 #[.agg (Rec.vals s)] w fun e w' => e = .returned (.bool (false)) ∧ Below w.heap.size w w' := by
  have ks : ∀ W : World, Calls Try.prog 21 #[.slice (some ⟨W.heap.size, 0, none⟩) 2 2] (W.alloc (.cells #[.int .u64 (s.gen : Int), .int .u64 (s.mint : Int)] 22)) fun e w' => e = .returned (.tuple #[.int .u64 (tx c : Nat), .int .i64 (te c : Nat)]) ∧ W.alloc (.cells #[.int .u64 (s.gen : Int), .int .u64 (s.mint : Int)] 22) = w' := fun W => by
    have h := sum_told [s.gen, s.mint] _ 2 _ _ (row_new W [s.gen, s.mint] 22) (by show 2 ≤ maxLen; decide) (by
      intro n hn
      simp only [List.mem_cons, List.not_mem_nil, or_false] at hn
      have := hs.gen
      have := hs.mint
      rcases hn with rfl | rfl <;> omega)
    rw [show tot [s.gen, s.mint] = c from hc] at h
    exact h
  rw [tx_in g0, te_in g0, show ((0 : Nat) : Int) = 0 from rfl] at ks
  have i1 : ¬ (s.most : Int) < (c : Int) := by omega
  have d1 : decide ((s.most : Int) < (c : Int)) = false := decide_eq_false i1
  have i2 : ¬ (4611686018427387904 : Int) < (s.most : Int) := by omega
  have d2 : decide ((4611686018427387904 : Int) < (s.most : Int)) = false := decide_eq_false i2
  have kb := fun W => money_sub_under (c : Int) (s.burn : Int) W (by omega)
  have KB := Lib.hid kb
  clear kb
  have KS := Lib.hid ks
  clear ks hs h1 h2 h3 hc g0 g1 g2 g3
  go_enter Try.func9, Try.ntmps9
  go_upto_region 1 with fail
  generalize hw0 : World.alloc _ _ = w0
  have hS : RecAt w0 w.heap.size (Rec.vals s) 34 := by rw [← hw0]; exact RecAt.new w (Rec.vals s) 34
  have hB : Below w.heap.size w w0 := by rw [← hw0]; exact (Below.refl _ _).alloc (Nat.le_refl _) _
  clear hw0
  have c25 : w0.cell? ⟨w.heap.size, 25, none⟩ = some (.int .u64 (s.gen : Int)) := hS.cell 25
  have c26 : w0.cell? ⟨w.heap.size, 26, none⟩ = some (.int .u64 (s.mint : Int)) := hS.cell 26
  go_wp2_with (first
    | (go_at_call 21; refine (KS.out _).mono ?_; clear KS; rintro e w1 ⟨rfl, rfl⟩; have hb := (Below.refl w0.heap.size w0).alloc (Nat.le_refl _) (.cells #[.int .u64 (s.gen : Int), .int .u64 (s.mint : Int)] 22); have hS := hS.up hb; have hB := Below.then hB hb; clear hb; generalize (w0.alloc (.cells #[.int .u64 (s.gen : Int), .int .u64 (s.mint : Int)] 22)) = w1 at hS hB ⊢; have c24 : w1.cell? ⟨w.heap.size, 24, none⟩ = some (.int .u64 (s.most : Int)) := hS.cell 24; have c27 : w1.cell? ⟨w.heap.size, 27, none⟩ = some (.int .u64 (s.burn : Int)) := hS.cell 27)
    | (go_at_call 22; refine (KB.out _).mono ?_; clear KB; rintro e w2 ⟨rfl, rfl⟩))
  go_ret
  exact ⟨by first | rfl | simp, hB⟩

set_option maxRecDepth 100000 in
set_option maxHeartbeats 1000000 in
theorem holds_4 (s : Sta) (w : World) (hs : StaAt w s) (h1 : s.mems.l.length ≤ 1000000) (h2 : s.pool.l.length ≤ 1000000) (h3 : s.dues.l.length ≤ 1000000) (c : Nat) (hc : s.gen + (s.mint + 0) = c)
    (g0 : c ≤ 18446744073709551615) (g1 : c ≤ s.most) (g2 : s.most ≤ 4611686018427387904) (g3 : s.burn ≤ c) (x : Sht) (hp : s.parts = (x, 10)) :
    Calls Try.prog 9 #[.agg (Rec.vals s)] w fun e w' => e = .returned (.bool (false)) ∧ Below w.heap.size w w' := by
  have ks : ∀ W : World, Calls Try.prog 21 #[.slice (some ⟨W.heap.size, 0, none⟩) 2 2] (W.alloc (.cells #[.int .u64 (s.gen : Int), .int .u64 (s.mint : Int)] 22)) fun e w' => e = .returned (.tuple #[.int .u64 (tx c : Nat), .int .i64 (te c : Nat)]) ∧ W.alloc (.cells #[.int .u64 (s.gen : Int), .int .u64 (s.mint : Int)] 22) = w' := fun W => by
    have h := sum_told [s.gen, s.mint] _ 2 _ _ (row_new W [s.gen, s.mint] 22) (by show 2 ≤ maxLen; decide) (by
      intro n hn
      simp only [List.mem_cons, List.not_mem_nil, or_false] at hn
      have := hs.gen
      have := hs.mint
      rcases hn with rfl | rfl <;> omega)
    rw [show tot [s.gen, s.mint] = c from hc] at h
    exact h
  rw [tx_in g0, te_in g0, show ((0 : Nat) : Int) = 0 from rfl] at ks
  have i1 : ¬ (s.most : Int) < (c : Int) := by omega
  have d1 : decide ((s.most : Int) < (c : Int)) = false := decide_eq_false i1
  have i2 : ¬ (4611686018427387904 : Int) < (s.most : Int) := by omega
  have d2 : decide ((4611686018427387904 : Int) < (s.most : Int)) = false := decide_eq_false i2
  obtain ⟨q, hq⟩ : ∃ q : Nat, c - s.burn = q := ⟨_, rfl⟩
  have hqI : (c : Int) - (s.burn : Int) = (q : Int) := by omega
  have kb := fun W => money_sub_ok (c : Int) (s.burn : Int) W (by omega) (by omega) (by omega)
  rw [hqI] at kb
  have KB := Lib.hid kb
  clear kb hqI
  have kp := fun (W : World) (hB : Below w.heap.size w W) => parts_is s W (hs.up hB) h1 h2 h3
  rw [hp] at kp
  simp only [show ((10 : Nat) : Int) = 10 from rfl] at kp
  have KP := Lib.hid kp
  clear kp
  have KS := Lib.hid ks
  clear ks hs h1 h2 h3 hc g0 g1 g2 g3 hp hq
  go_enter Try.func9, Try.ntmps9
  go_upto_region 1 with fail
  generalize hw0 : World.alloc _ _ = w0
  have hS : RecAt w0 w.heap.size (Rec.vals s) 34 := by rw [← hw0]; exact RecAt.new w (Rec.vals s) 34
  have hB : Below w.heap.size w w0 := by rw [← hw0]; exact (Below.refl _ _).alloc (Nat.le_refl _) _
  clear hw0
  have c25 : w0.cell? ⟨w.heap.size, 25, none⟩ = some (.int .u64 (s.gen : Int)) := hS.cell 25
  have c26 : w0.cell? ⟨w.heap.size, 26, none⟩ = some (.int .u64 (s.mint : Int)) := hS.cell 26
  go_wp2_with (first
    | (go_at_call 21; refine (KS.out _).mono ?_; clear KS; rintro e w1 ⟨rfl, rfl⟩; have hb := (Below.refl w0.heap.size w0).alloc (Nat.le_refl _) (.cells #[.int .u64 (s.gen : Int), .int .u64 (s.mint : Int)] 22); have hS := hS.up hb; have hB := Below.then hB hb; clear hb; generalize (w0.alloc (.cells #[.int .u64 (s.gen : Int), .int .u64 (s.mint : Int)] 22)) = w1 at hS hB ⊢; have c24 : w1.cell? ⟨w.heap.size, 24, none⟩ = some (.int .u64 (s.most : Int)) := hS.cell 24; have c27 : w1.cell? ⟨w.heap.size, 27, none⟩ = some (.int .u64 (s.burn : Int)) := hS.cell 27)
    | (go_at_call 22; refine (KB.out _).mono ?_; clear KB; rintro e w2 ⟨rfl, rfl⟩)
    | ((with_reducible refine slot_is 40 rfl ?_); refine load_rec 34 _ rfl rfl _ (Rec.vals s) rfl hS.lies Try.underlying34 size_sta ?_)
    | (go_at_call 8; refine (KP.out w1 hB).mono ?_; clear KP; rintro e w3 ⟨rfl, hb⟩; have hB := Below.then hB hb; clear hb)
    | (refine store_rec 41 _ _ rfl rfl _ (Rec.vals x) (Rec.vals Sht.zero) 41 rfl rfl (RecAt.new _ _ _) size_sht rfl (Rec.one x) ?_; intro w4 hX hb4 _ _; have hb4 := rec_made (Below.refl _ _) hb4; have hB := Below.then hB hb4; clear hb4))
  go_ret
  exact ⟨by first | rfl | simp, hB⟩

set_option maxRecDepth 100000 in
set_option maxHeartbeats 1000000 in
theorem holds_5 (s : Sta) (w : World) (hs : StaAt w s) (h1 : s.mems.l.length ≤ 1000000) (h2 : s.pool.l.length ≤ 1000000) (h3 : s.dues.l.length ≤ 1000000) (c : Nat) (hc : s.gen + (s.mint + 0) = c)
    (g0 : c ≤ 18446744073709551615) (g1 : c ≤ s.most) (g2 : s.most ≤ 4611686018427387904) (g3 : s.burn ≤ c) (x : Sht) (hp : s.parts = (x, 0)) (t : Nat) (ht : x.all = t) (g4 : 18446744073709551615 < t) :
    Calls Try.prog 9 #[.agg (Rec.vals s)] w fun e w' => e = .returned (.bool (false)) ∧ Below w.heap.size w w' := by
  have ks : ∀ W : World, Calls Try.prog 21 #[.slice (some ⟨W.heap.size, 0, none⟩) 2 2] (W.alloc (.cells #[.int .u64 (s.gen : Int), .int .u64 (s.mint : Int)] 22)) fun e w' => e = .returned (.tuple #[.int .u64 (tx c : Nat), .int .i64 (te c : Nat)]) ∧ W.alloc (.cells #[.int .u64 (s.gen : Int), .int .u64 (s.mint : Int)] 22) = w' := fun W => by
    have h := sum_told [s.gen, s.mint] _ 2 _ _ (row_new W [s.gen, s.mint] 22) (by show 2 ≤ maxLen; decide) (by
      intro n hn
      simp only [List.mem_cons, List.not_mem_nil, or_false] at hn
      have := hs.gen
      have := hs.mint
      rcases hn with rfl | rfl <;> omega)
    rw [show tot [s.gen, s.mint] = c from hc] at h
    exact h
  rw [tx_in g0, te_in g0, show ((0 : Nat) : Int) = 0 from rfl] at ks
  have i1 : ¬ (s.most : Int) < (c : Int) := by omega
  have d1 : decide ((s.most : Int) < (c : Int)) = false := decide_eq_false i1
  have i2 : ¬ (4611686018427387904 : Int) < (s.most : Int) := by omega
  have d2 : decide ((4611686018427387904 : Int) < (s.most : Int)) = false := decide_eq_false i2
  obtain ⟨q, hq⟩ : ∃ q : Nat, c - s.burn = q := ⟨_, rfl⟩
  have hqI : (c : Int) - (s.burn : Int) = (q : Int) := by omega
  have kb := fun W => money_sub_ok (c : Int) (s.burn : Int) W (by omega) (by omega) (by omega)
  rw [hqI] at kb
  have KB := Lib.hid kb
  clear kb hqI
  have kp := fun (W : World) (hB : Below w.heap.size w W) => parts_is s W (hs.up hB) h1 h2 h3
  rw [hp] at kp
  simp only [show ((0 : Nat) : Int) = 0 from rfl] at kp
  have hxf : x.Fits := by have h := parted_fits (a := tot (bals s.mems.l)) (b := tot s.purses.l) (c := totDep s.pool.l) (d := totDue s.dues.l) hs.treas; rw [show parted (tot (bals s.mems.l)) (tot s.purses.l) (totDep s.pool.l) (totDue s.dues.l) s.treas = (x, 0) from hp] at h; exact h
  have KP := Lib.hid kp
  clear kp
  have kt := fun W => total_is x W hxf
  rw [ht] at kt
  rw [tx_out g4, te_out g4, show ((0 : Nat) : Int) = 0 from rfl, show ((10 : Nat) : Int) = 10 from rfl] at kt
  have KT := Lib.hid kt
  clear kt hxf
  have KS := Lib.hid ks
  clear ks hs h1 h2 h3 hc g0 g1 g2 g3 g4 hp ht hq
  go_enter Try.func9, Try.ntmps9
  go_upto_region 1 with fail
  generalize hw0 : World.alloc _ _ = w0
  have hS : RecAt w0 w.heap.size (Rec.vals s) 34 := by rw [← hw0]; exact RecAt.new w (Rec.vals s) 34
  have hB : Below w.heap.size w w0 := by rw [← hw0]; exact (Below.refl _ _).alloc (Nat.le_refl _) _
  clear hw0
  have c25 : w0.cell? ⟨w.heap.size, 25, none⟩ = some (.int .u64 (s.gen : Int)) := hS.cell 25
  have c26 : w0.cell? ⟨w.heap.size, 26, none⟩ = some (.int .u64 (s.mint : Int)) := hS.cell 26
  go_wp2_with (first
    | (go_at_call 21; refine (KS.out _).mono ?_; clear KS; rintro e w1 ⟨rfl, rfl⟩; have hb := (Below.refl w0.heap.size w0).alloc (Nat.le_refl _) (.cells #[.int .u64 (s.gen : Int), .int .u64 (s.mint : Int)] 22); have hS := hS.up hb; have hB := Below.then hB hb; clear hb; generalize (w0.alloc (.cells #[.int .u64 (s.gen : Int), .int .u64 (s.mint : Int)] 22)) = w1 at hS hB ⊢; have c24 : w1.cell? ⟨w.heap.size, 24, none⟩ = some (.int .u64 (s.most : Int)) := hS.cell 24; have c27 : w1.cell? ⟨w.heap.size, 27, none⟩ = some (.int .u64 (s.burn : Int)) := hS.cell 27)
    | (go_at_call 22; refine (KB.out _).mono ?_; clear KB; rintro e w2 ⟨rfl, rfl⟩)
    | ((with_reducible refine slot_is 40 rfl ?_); refine load_rec 34 _ rfl rfl _ (Rec.vals s) rfl hS.lies Try.underlying34 size_sta ?_)
    | (go_at_call 8; refine (KP.out w1 hB).mono ?_; clear KP; rintro e w3 ⟨rfl, hb⟩; have hB := Below.then hB hb; clear hb)
    | (refine store_rec 41 _ _ rfl rfl _ (Rec.vals x) (Rec.vals Sht.zero) 41 rfl rfl (RecAt.new _ _ _) size_sht rfl (Rec.one x) ?_; intro w4 hX hb4 _ _; have hb4 := rec_made (Below.refl _ _) hb4; have hB := Below.then hB hb4; clear hb4)
    | ((with_reducible refine slot_is 47 rfl ?_); refine load_rec 41 _ rfl rfl _ (Rec.vals x) rfl hX.lies Try.underlying41 size_sht ?_)
    | (go_at_call 13; refine (KT.out w4).mono ?_; clear KT; rintro e w5 ⟨rfl, hb⟩; have hB := Below.then hB hb; clear hb))
  go_ret
  exact ⟨by first | rfl | simp, hB⟩

set_option maxRecDepth 100000 in
set_option maxHeartbeats 1000000 in
theorem holds_6 (s : Sta) (w : World) (hs : StaAt w s) (h1 : s.mems.l.length ≤ 1000000) (h2 : s.pool.l.length ≤ 1000000) (h3 : s.dues.l.length ≤ 1000000) (c : Nat) (hc : s.gen + (s.mint + 0) = c)
    (g0 : c ≤ 18446744073709551615) (g1 : c ≤ s.most) (g2 : s.most ≤ 4611686018427387904) (g3 : s.burn ≤ c) (x : Sht) (hp : s.parts = (x, 0)) (t : Nat) (ht : x.all = t) (g4 : t ≤ 18446744073709551615) :
    Calls Try.prog 9 #[.agg (Rec.vals s)] w fun e w' => e = .returned (.bool (decide (t = c - s.burn))) ∧ Below w.heap.size w w' := by
  have ks : ∀ W : World, Calls Try.prog 21 #[.slice (some ⟨W.heap.size, 0, none⟩) 2 2] (W.alloc (.cells #[.int .u64 (s.gen : Int), .int .u64 (s.mint : Int)] 22)) fun e w' => e = .returned (.tuple #[.int .u64 (tx c : Nat), .int .i64 (te c : Nat)]) ∧ W.alloc (.cells #[.int .u64 (s.gen : Int), .int .u64 (s.mint : Int)] 22) = w' := fun W => by
    have h := sum_told [s.gen, s.mint] _ 2 _ _ (row_new W [s.gen, s.mint] 22) (by show 2 ≤ maxLen; decide) (by
      intro n hn
      simp only [List.mem_cons, List.not_mem_nil, or_false] at hn
      have := hs.gen
      have := hs.mint
      rcases hn with rfl | rfl <;> omega)
    rw [show tot [s.gen, s.mint] = c from hc] at h
    exact h
  rw [tx_in g0, te_in g0, show ((0 : Nat) : Int) = 0 from rfl] at ks
  have i1 : ¬ (s.most : Int) < (c : Int) := by omega
  have d1 : decide ((s.most : Int) < (c : Int)) = false := decide_eq_false i1
  have i2 : ¬ (4611686018427387904 : Int) < (s.most : Int) := by omega
  have d2 : decide ((4611686018427387904 : Int) < (s.most : Int)) = false := decide_eq_false i2
  obtain ⟨q, hq⟩ : ∃ q : Nat, c - s.burn = q := ⟨_, rfl⟩
  have hqI : (c : Int) - (s.burn : Int) = (q : Int) := by omega
  have kb := fun W => money_sub_ok (c : Int) (s.burn : Int) W (by omega) (by omega) (by omega)
  rw [hqI] at kb
  have KB := Lib.hid kb
  clear kb hqI
  have kp := fun (W : World) (hB : Below w.heap.size w W) => parts_is s W (hs.up hB) h1 h2 h3
  rw [hp] at kp
  simp only [show ((0 : Nat) : Int) = 0 from rfl] at kp
  have hxf : x.Fits := by have h := parted_fits (a := tot (bals s.mems.l)) (b := tot s.purses.l) (c := totDep s.pool.l) (d := totDue s.dues.l) hs.treas; rw [show parted (tot (bals s.mems.l)) (tot s.purses.l) (totDep s.pool.l) (totDue s.dues.l) s.treas = (x, 0) from hp] at h; exact h
  have KP := Lib.hid kp
  clear kp
  have kt := fun W => total_is x W hxf
  rw [ht] at kt
  rw [tx_in g4, te_in g4, show ((0 : Nat) : Int) = 0 from rfl] at kt
  have KT := Lib.hid kt
  clear kt hxf
  have hqt : decide (t = q) = decide ((t : Int) = (q : Int)) := by rw [Bool.eq_iff_iff, decide_eq_true_iff, decide_eq_true_iff]; omega
  rw [hq, hqt]
  have KS := Lib.hid ks
  clear ks hs h1 h2 h3 hc g0 g1 g2 g3 g4 hp ht hq hqt
  go_enter Try.func9, Try.ntmps9
  go_upto_region 1 with fail
  generalize hw0 : World.alloc _ _ = w0
  have hS : RecAt w0 w.heap.size (Rec.vals s) 34 := by rw [← hw0]; exact RecAt.new w (Rec.vals s) 34
  have hB : Below w.heap.size w w0 := by rw [← hw0]; exact (Below.refl _ _).alloc (Nat.le_refl _) _
  clear hw0
  have c25 : w0.cell? ⟨w.heap.size, 25, none⟩ = some (.int .u64 (s.gen : Int)) := hS.cell 25
  have c26 : w0.cell? ⟨w.heap.size, 26, none⟩ = some (.int .u64 (s.mint : Int)) := hS.cell 26
  go_wp2_with (first
    | (go_at_call 21; refine (KS.out _).mono ?_; clear KS; rintro e w1 ⟨rfl, rfl⟩; have hb := (Below.refl w0.heap.size w0).alloc (Nat.le_refl _) (.cells #[.int .u64 (s.gen : Int), .int .u64 (s.mint : Int)] 22); have hS := hS.up hb; have hB := Below.then hB hb; clear hb; generalize (w0.alloc (.cells #[.int .u64 (s.gen : Int), .int .u64 (s.mint : Int)] 22)) = w1 at hS hB ⊢; have c24 : w1.cell? ⟨w.heap.size, 24, none⟩ = some (.int .u64 (s.most : Int)) := hS.cell 24; have c27 : w1.cell? ⟨w.heap.size, 27, none⟩ = some (.int .u64 (s.burn : Int)) := hS.cell 27)
    | (go_at_call 22; refine (KB.out _).mono ?_; clear KB; rintro e w2 ⟨rfl, rfl⟩)
    | ((with_reducible refine slot_is 40 rfl ?_); refine load_rec 34 _ rfl rfl _ (Rec.vals s) rfl hS.lies Try.underlying34 size_sta ?_)
    | (go_at_call 8; refine (KP.out w1 hB).mono ?_; clear KP; rintro e w3 ⟨rfl, hb⟩; have hB := Below.then hB hb; clear hb)
    | (refine store_rec 41 _ _ rfl rfl _ (Rec.vals x) (Rec.vals Sht.zero) 41 rfl rfl (RecAt.new _ _ _) size_sht rfl (Rec.one x) ?_; intro w4 hX hb4 _ _; have hb4 := rec_made (Below.refl _ _) hb4; have hB := Below.then hB hb4; clear hb4)
    | ((with_reducible refine slot_is 47 rfl ?_); refine load_rec 41 _ rfl rfl _ (Rec.vals x) rfl hX.lies Try.underlying41 size_sht ?_)
    | (go_at_call 13; refine (KT.out w4).mono ?_; clear KT; rintro e w5 ⟨rfl, hb⟩; have hB := Below.then hB hb; clear hb))
  go_ret
  exact ⟨by first | rfl | simp, hB⟩

theorem holds_is (s : Sta) (w : World) (hs : StaAt w s) (h1 : s.mems.l.length ≤ 1000000) (h2 : s.pool.l.length ≤ 1000000) (h3 : s.dues.l.length ≤ 1000000) :
    Calls Try.prog 9 #[.agg (Rec.vals s)] w fun e w' => e = .returned (.bool (decide s.Holds)) ∧ Below w.heap.size w w' := by
  have hm := hs.most
  by_cases g0 : 18446744073709551615 < s.gen + (s.mint + 0)
  · rw [decide_eq_false (show ¬ s.Holds from fun h => by have := h.1; omega)]; exact holds_0 s w hs h1 h2 h3 _ rfl g0
  by_cases g1 : s.most < s.gen + (s.mint + 0)
  · rw [decide_eq_false (show ¬ s.Holds from fun h => by have := h.1; omega)]; exact holds_1 s w hs h1 h2 h3 _ rfl (by omega) g1
  by_cases g2 : 4611686018427387904 < s.most
  · rw [decide_eq_false (show ¬ s.Holds from fun h => by have := h.2.1; omega)]; exact holds_2 s w hs h1 h2 h3 _ rfl (by omega) (by omega) g2
  by_cases g3 : s.gen + (s.mint + 0) < s.burn
  · rw [decide_eq_false (show ¬ s.Holds from fun h => by have := h.2.2; omega)]; exact holds_3 s w hs h1 h2 h3 _ rfl (by omega) (by omega) (by omega) g3
  obtain ⟨⟨x, y⟩, hxy⟩ : ∃ r, s.parts = r := ⟨_, rfl⟩
  rcases parts_err s with h | h
  · have ha := parts_ok h
    rw [hxy] at h ha
    simp only at h ha
    subst h
    by_cases g4 : 18446744073709551615 < x.all
    · rw [decide_eq_false (show ¬ s.Holds from fun h => by have := h.1; have := h.2.1; have := h.2.2; omega)]; exact holds_5 s w hs h1 h2 h3 _ rfl (by omega) (by omega) (by omega) (by omega) x hxy _ rfl g4
    · have k := holds_6 s w hs h1 h2 h3 _ rfl (by omega) (by omega) (by omega) (by omega) x hxy _ rfl (by omega)
      rw [show decide s.Holds = decide (x.all = s.gen + (s.mint + 0) - s.burn) by
        rw [Bool.eq_iff_iff, decide_eq_true_iff, decide_eq_true_iff, ha]
        unfold Sta.Holds
        omega]
      exact k
  · have hb := parts_big h
    rw [hxy] at h
    simp only at h
    subst h
    rw [decide_eq_false (show ¬ s.Holds from fun h => by have := h.1; have := h.2.1; have := h.2.2; omega)]; exact holds_4 s w hs h1 h2 h3 _ rfl (by omega) (by omega) (by omega) (by omega) x hxy
end Go.Proofs.Ytoaeckfppoaljaa
