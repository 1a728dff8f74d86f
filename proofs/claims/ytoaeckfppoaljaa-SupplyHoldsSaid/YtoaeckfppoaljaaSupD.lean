/- Layer 21 (supply), the document's: whole numbers over lists; what all parts are; whether they hold. By contracts. · Layer 21 (supply): what the law makes of a state: whether there is little in it, its parts as lists. By contracts. -/
import Derived.Test.YtoaeckfppoaljaaSupC
import Derived.Test.YtoaeckfppoaljaaSeqV
import Derived.Test.YtoaeckfppoaljaaNatG
namespace Go.Proofs.Ytoaeckfppoaljaa
open Go.RowKit Go.Shelf
set_option linter.unusedVariables false
set_option linter.unusedSimpArgs false

/-- A state as the document has it. -/
structure Mny where
  most : Nat
  gen : Nat
  mint : Nat
  burn : Nat
  treas : Nat
  sk : SlR Nat
  pu : SlR Nat
  po : SlR Nat
  du : SlR Nat
def Mny.vals (m : Mny) : Array Value := #[.int .u64 (m.most : Int), .int .u64 (m.gen : Int), .int .u64 (m.mint : Int), .int .u64 (m.burn : Int), .int .u64 (m.treas : Int), .slice m.sk.A m.sk.l.length m.sk.c, .slice m.pu.A m.pu.l.length m.pu.c, .slice m.po.A m.po.l.length m.po.c, .slice m.du.A m.du.l.length m.du.c]
instance : Rec Mny := ⟨Mny.vals, 9, fun _ => rfl, by decide, fun d => by simp [Mny.vals, Value.oneCell']⟩
def Mny.zero : Mny := ⟨0, 0, 0, 0, 0, ⟨[], none, 0⟩, ⟨[], none, 0⟩, ⟨[], none, 0⟩, ⟨[], none, 0⟩⟩
def Mny.whole (m : Mny) : Nat := tot m.sk.l + tot m.pu.l + (tot m.po.l + tot m.du.l) + m.treas
theorem size_mny : (Try.prog.info? 38).map (·.size) = some (Rec.z Mny) := by kernel_rfl
theorem size_nat21 : (Try.prog.info? 52).map (·.size) = some 1 := by kernel_rfl
/-- A list of words in memory that is there, not too many. -/
structure WordsAt (w : World) (s : SlR Nat) : Prop where
  row : Row w w.heap.size s.A (u64s s.l)
  few : s.l.length ≤ 100000
  all : ∀ x ∈ s.l, x ≤ 18446744073709551615
theorem WordsAt.up {w w' : World} {s : SlR Nat} (h : WordsAt w s) (hb : Below w.heap.size w w') : WordsAt w' s := ⟨row_kept h.row hb, h.few, h.all⟩
theorem WordsAt.tot {w : World} {s : SlR Nat} (h : WordsAt w s) : tot s.l ≤ 10000000000000000000000000 := by
  have h1 := tot_le s.l _ h.all
  have h2 := Nat.mul_le_mul_right 18446744073709551615 h.few
  omega
structure MnyAt (w : World) (m : Mny) : Prop where
  most : m.most ≤ 18446744073709551615
  gen : m.gen ≤ 18446744073709551615
  mint : m.mint ≤ 18446744073709551615
  burn : m.burn ≤ 18446744073709551615
  treas : m.treas ≤ 18446744073709551615
  sk : WordsAt w m.sk
  pu : WordsAt w m.pu
  po : WordsAt w m.po
  du : WordsAt w m.du
theorem MnyAt.up {w w' : World} {m : Mny} (h : MnyAt w m) (hb : Below w.heap.size w w') : MnyAt w' m := ⟨h.most, h.gen, h.mint, h.burn, h.treas, h.sk.up hb, h.pu.up hb, h.po.up hb, h.du.up hb⟩

theorem one_slice (A : Option Addr) (n c : Nat) : (#[Value.slice A n c]).all (·.oneCell') = true := by simp [Value.oneCell']
/-- A number, whole, in memory that is there. -/
def Num (N : Nat) (v : Value) (w : World) : Prop := NatV w w.heap.size v N
theorem Num.up {N : Nat} {v : Value} {w w' : World} (h : Num N v w) (hb : Below w.heap.size w w') : Num N v w' := NatV.up (NatV.below h hb) hb.size
/-- A row of whole numbers doesn't lie in a block that holds a slice. -/
theorem row_off {w w' : World} {B g : Nat} {A : Option Addr} {ds : List Nat} {A0 : Option Addr} {n0 c0 : Nat} {T : TypeId} (h : Row w B A (ints ds)) (hS : RecAt w g #[.slice A0 n0 c0] T) (hk : ∀ k, k ≠ g → w'.heap[k]? = w.heap[k]?) : Row w' B A (ints ds) := fun k v hv => by
  obtain ⟨a, hA, hb, hc⟩ := h k v hv
  refine ⟨a, hA, hb, ?_⟩
  have hne : (a.add k).block ≠ g := fun e => by
    unfold World.cell? at hc
    rw [e, show w.heap[g]? = some (.cells #[.slice A0 n0 c0] T (0, 0)) from hS] at hc
    simp only at hc
    split at hc
    · cases hc
    · unfold ints at hv
      rw [List.getElem?_map] at hv
      obtain ⟨d, _, rfl⟩ := Option.map_eq_some_iff.1 hv
      have := Array.mem_of_getElem? hc
      simp at this
  rw [← hc]
  unfold World.cell?
  rw [hk _ hne]
theorem Num.off {N g : Nat} {v : Value} {w w' : World} {A0 : Option Addr} {n0 c0 : Nat} {T : TypeId} (h : Num N v w) (hS : RecAt w g #[.slice A0 n0 c0] T) (hk : ∀ k, k ≠ g → w'.heap[k]? = w.heap[k]?) (hz : w'.heap.size = w.heap.size) : Num N v w' := by
  obtain ⟨A, c, hv, hl, hm, hr⟩ := h
  exact ⟨A, c, hv, hl, hm, by rw [hz]; exact row_off hr hS hk⟩
theorem num_of {w0 w1 : World} {P : Program} (hS : Below w0.heap.size w0 w1) {f : FuncId} {args : Array Value} {N : Nat} (k : Calls P f args w1 fun e w' => ∃ v, e = .returned v ∧ Num N v w' ∧ Below w1.heap.size w1 w') :
    Calls P f args w1 fun e w' => ∃ v, e = .returned v ∧ Num N v w' ∧ Below w0.heap.size w0 w' ∧ Below w1.heap.size w1 w' :=
  k.mono (by rintro e w' ⟨v, h1, h2, h3⟩; exact ⟨v, h1, h2, Below.then hS h3, h3⟩)
theorem val_of {w0 w1 : World} {P : Program} (hS : Below w0.heap.size w0 w1) {f : FuncId} {args : Array Value} {v : Value} (k : Calls P f args w1 fun e w' => e = .returned v ∧ Below w1.heap.size w1 w') :
    Calls P f args w1 fun e w' => e = .returned v ∧ Below w0.heap.size w0 w' ∧ Below w1.heap.size w1 w' :=
  k.mono (by rintro e w' ⟨h1, h3⟩; exact ⟨h1, Below.then hS h3, h3⟩)
theorem num_word (N : Nat) (w : World) (hN : N ≤ 18446744073709551615) : Calls Try.prog 25 #[.int .u64 (N : Int)] w fun e w' => ∃ v, e = .returned v ∧ Num N v w' ∧ Below w.heap.size w w' :=
  (of_any N w hN).mono (by rintro e w' ⟨v, h1, h2, _, h3⟩; exact ⟨v, h1, h2, h3⟩)
theorem num_sum (s : SlR Nat) (w : World) (hs : WordsAt w s) : Calls Try.prog 28 #[.slice s.A s.l.length s.c] w fun e w' => ∃ v, e = .returned v ∧ Num (tot s.l) v w' ∧ Below w.heap.size w w' :=
  (sum_nat s.l s.A s.c _ w hs.row (Nat.le_refl _) hs.few hs.all).mono (by rintro e w' ⟨v, h1, h2, _, h3⟩; exact ⟨v, h1, h2, h3⟩)
theorem digs_small {n : Nat} (h : n ≤ 1000000000000000000000000000) : (digs n).length ≤ 1000000 := Nat.le_trans (digs_len (k := 28) (by omega)) (by decide)

set_option maxRecDepth 100000 in
theorem num_add (a b : Nat) (va vb : Value) (w : World) (ha : Num a va w) (hb : Num b vb w) (hla : a ≤ 1000000000000000000000000000) (hlb : b ≤ 1000000000000000000000000000) :
    Calls Try.prog 26 #[va, vb] w fun e w' => ∃ v, e = .returned v ∧ Num (a + b) v w' ∧ Below w.heap.size w w' := by
  have da := digs_small hla
  have db := digs_small hlb
  obtain ⟨A1, c1, rfl, h1⟩ := id ha
  obtain ⟨A2, c2, rfl, h2⟩ := id hb
  obtain ⟨n1, hn1⟩ : ∃ n, (digs a).length = n := ⟨_, rfl⟩
  obtain ⟨n2, hn2⟩ : ∃ n, (digs b).length = n := ⟨_, rfl⟩
  rw [hn1] at ha ⊢
  rw [hn2] at hb ⊢
  have ka := fun (W : World) (hB : Below w.heap.size w W) => add_nat a b (.agg #[.slice A1 n1 c1]) (.agg #[.slice A2 n2 c2]) _ W (Num.up ha hB) (Num.up hb hB) (Nat.le_refl _) da db
  have KA := Lib.hid ka
  clear ka ha hb h1 h2 hla hlb da db hn1 hn2
  go_enter Try.func26, Try.ntmps26
  go_upto_region 1 with fail
  generalize hw0 : World.alloc (World.alloc (World.alloc _ _) _) _ = w0
  have hS1 : RecAt w0 w.heap.size #[.slice A1 n1 c1] 52 := by rw [← hw0]; exact ((RecAt.new w _ 52).up ((Below.refl _ _).alloc (Nat.le_refl _) _)).up ((Below.refl _ _).alloc (Nat.le_refl _) _)
  have hS2 : RecAt w0 (w.heap.size + 1) #[.slice A2 n2 c2] 52 := by
    rw [← hw0]
    have := (RecAt.new (w.alloc (.cells #[.slice A1 n1 c1] 52)) #[.slice A2 n2 c2] 52).up ((Below.refl _ _).alloc (Nat.le_refl _) (.cells #[.slice none 0 0] 52))
    rw [World.size_alloc] at this
    exact this
  have hN : RecAt w0 (w.heap.size + 1 + 1) #[.slice none 0 0] 52 := by
    rw [← hw0]
    have := RecAt.new ((w.alloc (.cells #[.slice A1 n1 c1] 52)).alloc (.cells #[.slice A2 n2 c2] 52)) #[.slice none 0 0] 52
    rw [World.size_alloc, World.size_alloc] at this
    exact this
  have hB : Below w.heap.size w w0 := by rw [← hw0]; exact (((Below.refl _ _).alloc (Nat.le_refl _) _).alloc (by simp) _).alloc (by simp; omega) _
  clear hw0
  go_wp2_with (first
    | ((with_reducible refine slot_is 5 rfl ?_); refine load_rec 52 _ rfl rfl _ #[.slice A1 n1 c1] rfl hS1.lies Try.underlying52 size_nat21 ?_)
    | ((with_reducible refine slot_is 6 rfl ?_); refine load_rec 52 _ rfl rfl _ #[.slice A2 n2 c2] rfl hS2.lies Try.underlying52 size_nat21 ?_)
    | (go_at_call 36; refine (KA.out w0 hB).mono ?_; clear KA; rintro e w1 ⟨v, rfl, hv, -, hb⟩; have hN := hN.up hb; have hB := Below.then hB hb; clear hb hS1 hS2; obtain ⟨A3, c3, rfl, h3⟩ := id hv; obtain ⟨n3, hn3⟩ : ∃ n, (digs (a + b)).length = n := ⟨_, rfl⟩; rw [hn3] at hv ⊢; clear h3 hn3)
    | (refine store_rec 52 _ _ rfl rfl _ #[.slice A3 n3 c3] #[.slice none 0 0] 52 rfl rfl hN size_nat21 rfl (one_slice _ _ _) ?_; intro w5 hR hb5 hz5 hk5; have hB := hB.trans (hb5.mono (Nat.le_trans (Nat.le_succ _) (Nat.le_succ _))); have hv := Num.off hv hN hk5 hz5; clear hz5 hk5 hb5))
  refine bodyPost_ret (res_rec1 _ Try.results26 rfl hR Try.underlying52 size_nat21) rfl ⟨_, rfl, hv, hB⟩

set_option maxRecDepth 100000 in
set_option maxHeartbeats 1000000 in
theorem num_issued (m : Mny) (w : World) (hM : MnyAt w m) : Calls Try.prog 24 #[.agg (Rec.vals m)] w fun e w' => ∃ v, e = .returned v ∧ Num (m.gen + m.mint) v w' ∧ Below w.heap.size w w' := by
  go_enter Try.func24, Try.ntmps24
  go_upto_region 0 with fail
  go_wp2
  generalize hw0 : World.alloc (World.alloc _ _) _ = w0
  have hS0 : RecAt w0 w.heap.size (Rec.vals m) 38 := by rw [← hw0]; exact (RecAt.new w (Rec.vals m) 38).up ((Below.refl _ _).alloc (Nat.le_refl _) _)
  have hN : RecAt w0 (w.heap.size + 1) #[.slice none 0 0] 52 := by
    rw [← hw0]
    have := RecAt.new (w.alloc (.cells (Rec.vals m) 38)) #[.slice none 0 0] 52
    rw [World.size_alloc] at this
    exact this
  have hB : Below w.heap.size w w0 := by rw [← hw0]; exact ((Below.refl _ _).alloc (Nat.le_refl _) _).alloc (by simp) _
  clear hw0
  have C1 : ∀ w1, Below w0.heap.size w0 w1 → w1.cell? ⟨w.heap.size, 1, none⟩ = some (.int .u64 (m.gen : Int)) := fun w1 hb => (hS0.up hb).cell 1
  have C2 : ∀ w1, Below w0.heap.size w0 w1 → w1.cell? ⟨w.heap.size, 2, none⟩ = some (.int .u64 (m.mint : Int)) := fun w1 hb => (hS0.up hb).cell 2
  refine region_vary [] 7 (fun w' => Below w0.heap.size w0 w') (by kernel_rfl) (by kernel_rfl) (Below.refl _ _).drew ?_
  simp only [List.take_succ_cons, List.take_zero, List.drop_succ_cons, List.drop_zero]
  refine SeqV.take (fun _ => .pointer (some ⟨w.heap.size, 1, none⟩)) (fun _ => by rfl) (by rfl) (fun _ _ _ => rfl) (fun val w1 hS hR => ?_) ?_; · (go_simp <;> with_reducible rfl)
  simp only [Act.put, List.setIfInBounds_toArray, List.set_cons_zero, List.set_cons_succ]
  refine SeqV.take (fun _ => .int .u64 (m.gen : Int)) (fun _ => by rfl) (by rfl) (fun _ _ _ => rfl) (fun val w1 hS hR => ?_) ?_; · (have x := C1 w1 hS; go_simp <;> with_reducible rfl)
  simp only [Act.put, List.setIfInBounds_toArray, List.set_cons_zero, List.set_cons_succ]
  refine SeqV.make (f := 25) (args := fun val => #[.int .u64 (m.gen : Int)]) (fun _ v w1 => Num (m.gen) v w1) (fun val w1 hS hR => ?_) (fun _ => by rfl) (by rfl) (fun _ _ _ v w1 h => h) (fun _ v w1 w2 h hb => h.up hb) (fun val w1 => ?_) ?_
  · exact num_of hS (num_word m.gen w1 hM.gen)
  · go_simp
  simp only [Act.put, List.setIfInBounds_toArray, List.set_cons_zero, List.set_cons_succ]
  refine SeqV.take (fun _ => .pointer (some ⟨w.heap.size, 2, none⟩)) (fun _ => by rfl) (by rfl) (fun _ _ _ => rfl) (fun val w1 hS hR => ?_) ?_; · (go_simp <;> with_reducible rfl)
  simp only [Act.put, List.setIfInBounds_toArray, List.set_cons_zero, List.set_cons_succ]
  refine SeqV.take (fun _ => .int .u64 (m.mint : Int)) (fun _ => by rfl) (by rfl) (fun _ _ _ => rfl) (fun val w1 hS hR => ?_) ?_; · (have x := C2 w1 hS; go_simp <;> with_reducible rfl)
  simp only [Act.put, List.setIfInBounds_toArray, List.set_cons_zero, List.set_cons_succ]
  refine SeqV.make (f := 25) (args := fun val => #[.int .u64 (m.mint : Int)]) (fun _ v w1 => Num (m.mint) v w1) (fun val w1 hS hR => ?_) (fun _ => by rfl) (by rfl) (fun _ _ _ v w1 h => h) (fun _ v w1 w2 h hb => h.up hb) (fun val w1 => ?_) ?_
  · exact num_of hS (num_word m.mint w1 hM.mint)
  · go_simp
  simp only [Act.put, List.setIfInBounds_toArray, List.set_cons_zero, List.set_cons_succ]
  refine SeqV.make (f := 26) (args := fun val => #[val 2, val 5]) (fun _ v w1 => Num (m.gen + m.mint) v w1) (fun val w1 hS hR => ?_) (fun _ => by rfl) (by rfl) (fun _ _ _ v w1 h => h) (fun _ v w1 w2 h hb => h.up hb) (fun val w1 => ?_) ?_
  · have n2 : Num (m.gen) (val 2) w1 := hR 2 (by kernel_rfl)
    have n5 : Num (m.mint) (val 5) w1 := hR 5 (by kernel_rfl)
    have g1 := hM.gen
    have g2 := hM.mint
    exact num_of hS (num_add m.gen m.mint _ _ w1 n2 n5 (by omega) (by omega))
  · go_simp
  simp only [Act.put, List.setIfInBounds_toArray, List.set_cons_zero, List.set_cons_succ]
  clear C1 C2
  intro val w1 hS1 hR1 hD1
  have hv : Num (m.gen + m.mint) (val 6) w1 := hR1 6 (by decide)
  obtain ⟨A3, c3, e3, h3⟩ := id hv
  obtain ⟨n3, hn3⟩ : ∃ n, (digs (m.gen + m.mint)).length = n := ⟨_, rfl⟩
  rw [hn3] at e3
  simp only [e3]
  rw [e3] at hv
  have hN1 := hN.up hS1
  have hB1 := Below.then hB hS1
  clear hR1 hD1 h3 hn3 hN hB hS0 hM
  go_wp2_with (refine store_rec 52 _ _ rfl rfl _ #[.slice A3 n3 c3] #[.slice none 0 0] 52 rfl rfl hN1 size_nat21 rfl (one_slice _ _ _) ?_; intro w5 hR hb5 hz5 hk5; have hB5 := hB1.trans (hb5.mono (Nat.le_succ _)); have hv := Num.off hv hN1 hk5 hz5; clear hz5 hk5 hb5)
  refine bodyPost_ret (res_rec1 _ Try.results24 rfl hR Try.underlying52 size_nat21) rfl ⟨_, rfl, hv, hB5⟩

set_option maxRecDepth 100000 in
set_option maxHeartbeats 2000000 in
theorem num_total (m : Mny) (w : World) (hM : MnyAt w m) : Calls Try.prog 15 #[.agg (Rec.vals m)] w fun e w' => ∃ v, e = .returned v ∧ Num m.whole v w' ∧ Below w.heap.size w w' := by
  unfold Mny.whole
  go_enter Try.func15, Try.ntmps15
  go_upto_region 0 with fail
  go_wp2
  generalize hw0 : World.alloc (World.alloc _ _) _ = w0
  have hS0 : RecAt w0 w.heap.size (Rec.vals m) 38 := by rw [← hw0]; exact (RecAt.new w (Rec.vals m) 38).up ((Below.refl _ _).alloc (Nat.le_refl _) _)
  have hN : RecAt w0 (w.heap.size + 1) #[.slice none 0 0] 52 := by
    rw [← hw0]
    have := RecAt.new (w.alloc (.cells (Rec.vals m) 38)) #[.slice none 0 0] 52
    rw [World.size_alloc] at this
    exact this
  have hB : Below w.heap.size w w0 := by rw [← hw0]; exact ((Below.refl _ _).alloc (Nat.le_refl _) _).alloc (by simp) _
  clear hw0
  have C5 : ∀ w1, Below w0.heap.size w0 w1 → w1.cell? ⟨w.heap.size, 5, none⟩ = some (.slice m.sk.A m.sk.l.length m.sk.c) := fun w1 hb => (hS0.up hb).cell 5
  have C6 : ∀ w1, Below w0.heap.size w0 w1 → w1.cell? ⟨w.heap.size, 6, none⟩ = some (.slice m.pu.A m.pu.l.length m.pu.c) := fun w1 hb => (hS0.up hb).cell 6
  refine region_vary [7] 8 (fun w' => Below w0.heap.size w0 w') (by kernel_rfl) (by kernel_rfl) (Below.refl _ _).drew ?_
  simp only [List.take_succ_cons, List.take_zero, List.drop_succ_cons, List.drop_zero]
  refine SeqV.take (fun _ => .pointer (some ⟨w.heap.size, 5, none⟩)) (fun _ => by rfl) (by rfl) (fun _ _ _ => rfl) (fun val w1 hS hR => ?_) ?_; · (go_simp <;> with_reducible rfl)
  simp only [Act.put, List.setIfInBounds_toArray, List.set_cons_zero, List.set_cons_succ]
  refine SeqV.take (fun _ => .slice m.sk.A m.sk.l.length m.sk.c) (fun _ => by rfl) (by rfl) (fun _ _ _ => rfl) (fun val w1 hS hR => ?_) ?_; · (have x := C5 w1 hS; go_simp <;> with_reducible rfl)
  simp only [Act.put, List.setIfInBounds_toArray, List.set_cons_zero, List.set_cons_succ]
  refine SeqV.make (f := 28) (args := fun val => #[.slice m.sk.A m.sk.l.length m.sk.c]) (fun _ v w1 => Num (tot m.sk.l) v w1) (fun val w1 hS hR => ?_) (fun _ => by rfl) (by rfl) (fun _ _ _ v w1 h => h) (fun _ v w1 w2 h hb => h.up hb) (fun val w1 => ?_) ?_
  · exact num_of hS (num_sum m.sk w1 (hM.sk.up (Below.then hB hS)))
  · go_simp
  simp only [Act.put, List.setIfInBounds_toArray, List.set_cons_zero, List.set_cons_succ]
  refine SeqV.take (fun _ => .pointer (some ⟨w.heap.size, 6, none⟩)) (fun _ => by rfl) (by rfl) (fun _ _ _ => rfl) (fun val w1 hS hR => ?_) ?_; · (go_simp <;> with_reducible rfl)
  simp only [Act.put, List.setIfInBounds_toArray, List.set_cons_zero, List.set_cons_succ]
  refine SeqV.take (fun _ => .slice m.pu.A m.pu.l.length m.pu.c) (fun _ => by rfl) (by rfl) (fun _ _ _ => rfl) (fun val w1 hS hR => ?_) ?_; · (have x := C6 w1 hS; go_simp <;> with_reducible rfl)
  simp only [Act.put, List.setIfInBounds_toArray, List.set_cons_zero, List.set_cons_succ]
  refine SeqV.make (f := 28) (args := fun val => #[.slice m.pu.A m.pu.l.length m.pu.c]) (fun _ v w1 => Num (tot m.pu.l) v w1) (fun val w1 hS hR => ?_) (fun _ => by rfl) (by rfl) (fun _ _ _ v w1 h => h) (fun _ v w1 w2 h hb => h.up hb) (fun val w1 => ?_) ?_
  · exact num_of hS (num_sum m.pu w1 (hM.pu.up (Below.then hB hS)))
  · go_simp
  simp only [Act.put, List.setIfInBounds_toArray, List.set_cons_zero, List.set_cons_succ]
  refine SeqV.make (f := 26) (args := fun val => #[val 2, val 5]) (fun _ v w1 => Num (tot m.sk.l + tot m.pu.l) v w1) (fun val w1 hS hR => ?_) (fun _ => by rfl) (by rfl) (fun _ _ _ v w1 h => h) (fun _ v w1 w2 h hb => h.up hb) (fun val w1 => ?_) ?_
  · have n2 : Num (tot m.sk.l) (val 2) w1 := hR 2 (by kernel_rfl)
    have n5 : Num (tot m.pu.l) (val 5) w1 := hR 5 (by kernel_rfl)
    have g1 := hM.sk.tot
    have g2 := hM.pu.tot
    exact num_of hS (num_add _ _ _ _ w1 n2 n5 (by omega) (by omega))
  · go_simp
  simp only [Act.put, List.setIfInBounds_toArray, List.set_cons_zero, List.set_cons_succ]
  refine SeqV.new (w0.heap.size) (.cells #[.slice none 0 0] 52) (fun _ => by rfl) (fun w1 hS => hS.size) (fun w1 hS => hS.alloc hS.size _) (fun val w1 => ?_) ?_; · go_simp
  simp only [Act.put, List.setIfInBounds_toArray, List.set_cons_zero, List.set_cons_succ]
  intro val w1 hS1 hR1 hD1
  have hv : Num (tot m.sk.l + tot m.pu.l) (val 6) w1 := hR1 6 (by decide)
  obtain ⟨g, eg, hg0, hg⟩ : ∃ g, val 7 = .pointer (some ⟨g, 0, none⟩) ∧ w0.heap.size ≤ g ∧ RecAt w1 g #[.slice none 0 0] 52 := hR1 7 (by decide)
  obtain ⟨A3, c3, e3, h3⟩ := id hv
  obtain ⟨n3, hn3⟩ : ∃ n, (digs (tot m.sk.l + tot m.pu.l)).length = n := ⟨_, rfl⟩
  rw [hn3] at e3
  simp only [e3, eg]
  rw [e3] at hv
  have hgl : w.heap.size + 1 < g := Nat.lt_of_lt_of_le hN.lt hg0
  have hN1 := hN.up hS1
  have hS0 := hS0.up hS1
  have hB1 := Below.then hB hS1
  clear hR1 hD1 h3 hn3 hN hB C5 C6 eg hS1
  go_wp2_with (refine store_rec 52 _ _ rfl rfl _ #[.slice A3 n3 c3] #[.slice none 0 0] 52 rfl rfl hg size_nat21 rfl (one_slice _ _ _) ?_; intro w2 hg2 hb2 hz2 hk2; have hB := hB1.trans (hb2.mono (by omega)); have hv2 := Num.off hv hg hk2 hz2; have hN : RecAt w2 _ _ _ := (hk2 _ (by omega)).trans hN1; have hS0 : RecAt w2 _ _ _ := (hk2 _ (by omega)).trans hS0; clear hk2 hz2 hb2 hB1 hN1 hg hv)
  have CG : ∀ w1, Below w2.heap.size w2 w1 → LiesAt w1 ⟨g, 0, none⟩ #[.slice A3 n3 c3] := fun w1 hb => (hg2.up hb).lies
  have C7 : ∀ w1, Below w2.heap.size w2 w1 → w1.cell? ⟨w.heap.size, 7, none⟩ = some (.slice m.po.A m.po.l.length m.po.c) := fun w1 hb => (hS0.up hb).cell 7
  have C8 : ∀ w1, Below w2.heap.size w2 w1 → w1.cell? ⟨w.heap.size, 8, none⟩ = some (.slice m.du.A m.du.l.length m.du.c) := fun w1 hb => (hS0.up hb).cell 8
  refine region_vary [] 9 (fun w' => Below w2.heap.size w2 w') (by kernel_rfl) (by kernel_rfl) (Below.refl _ _).drew ?_
  simp only [List.take_succ_cons, List.take_zero, List.drop_succ_cons, List.drop_zero]
  refine SeqV.take (fun _ => .agg #[.slice A3 n3 c3]) (fun _ => by rfl) (by rfl) (fun _ _ _ => rfl) (fun val w1 hS hR => exec_load_rec 52 _ rfl _ #[.slice A3 n3 c3] rfl (CG w1 hS) Try.underlying52 size_nat21) ?_
  simp only [Act.put, List.setIfInBounds_toArray, List.set_cons_zero, List.set_cons_succ]
  refine SeqV.take (fun _ => .pointer (some ⟨w.heap.size, 7, none⟩)) (fun _ => by rfl) (by rfl) (fun _ _ _ => rfl) (fun val w1 hS hR => ?_) ?_; · (go_simp <;> with_reducible rfl)
  simp only [Act.put, List.setIfInBounds_toArray, List.set_cons_zero, List.set_cons_succ]
  refine SeqV.take (fun _ => .slice m.po.A m.po.l.length m.po.c) (fun _ => by rfl) (by rfl) (fun _ _ _ => rfl) (fun val w1 hS hR => ?_) ?_; · (have x := C7 w1 hS; go_simp <;> with_reducible rfl)
  simp only [Act.put, List.setIfInBounds_toArray, List.set_cons_zero, List.set_cons_succ]
  refine SeqV.make (f := 28) (args := fun val => #[.slice m.po.A m.po.l.length m.po.c]) (fun _ v w1 => Num (tot m.po.l) v w1) (fun val w1 hS hR => ?_) (fun _ => by rfl) (by rfl) (fun _ _ _ v w1 h => h) (fun _ v w1 w2 h hb => h.up hb) (fun val w1 => ?_) ?_
  · exact num_of hS (num_sum m.po w1 (hM.po.up (Below.then hB hS)))
  · go_simp
  simp only [Act.put, List.setIfInBounds_toArray, List.set_cons_zero, List.set_cons_succ]
  refine SeqV.take (fun _ => .pointer (some ⟨w.heap.size, 8, none⟩)) (fun _ => by rfl) (by rfl) (fun _ _ _ => rfl) (fun val w1 hS hR => ?_) ?_; · (go_simp <;> with_reducible rfl)
  simp only [Act.put, List.setIfInBounds_toArray, List.set_cons_zero, List.set_cons_succ]
  refine SeqV.take (fun _ => .slice m.du.A m.du.l.length m.du.c) (fun _ => by rfl) (by rfl) (fun _ _ _ => rfl) (fun val w1 hS hR => ?_) ?_; · (have x := C8 w1 hS; go_simp <;> with_reducible rfl)
  simp only [Act.put, List.setIfInBounds_toArray, List.set_cons_zero, List.set_cons_succ]
  refine SeqV.make (f := 28) (args := fun val => #[.slice m.du.A m.du.l.length m.du.c]) (fun _ v w1 => Num (tot m.du.l) v w1) (fun val w1 hS hR => ?_) (fun _ => by rfl) (by rfl) (fun _ _ _ v w1 h => h) (fun _ v w1 w2 h hb => h.up hb) (fun val w1 => ?_) ?_
  · exact num_of hS (num_sum m.du w1 (hM.du.up (Below.then hB hS)))
  · go_simp
  simp only [Act.put, List.setIfInBounds_toArray, List.set_cons_zero, List.set_cons_succ]
  refine SeqV.make (f := 26) (args := fun val => #[val 3, val 6]) (fun _ v w1 => Num (tot m.po.l + tot m.du.l) v w1) (fun val w1 hS hR => ?_) (fun _ => by rfl) (by rfl) (fun _ _ _ v w1 h => h) (fun _ v w1 w2 h hb => h.up hb) (fun val w1 => ?_) ?_
  · have n3 : Num (tot m.po.l) (val 3) w1 := hR 3 (by kernel_rfl)
    have n6 : Num (tot m.du.l) (val 6) w1 := hR 6 (by kernel_rfl)
    have g1 := hM.po.tot
    have g2 := hM.du.tot
    exact num_of hS (num_add _ _ _ _ w1 n3 n6 (by omega) (by omega))
  · go_simp
  simp only [Act.put, List.setIfInBounds_toArray, List.set_cons_zero, List.set_cons_succ]
  refine SeqV.make (f := 26) (args := fun val => #[.agg #[.slice A3 n3 c3], val 7]) (fun _ v w1 => Num (tot m.sk.l + tot m.pu.l + (tot m.po.l + tot m.du.l)) v w1) (fun val w1 hS hR => ?_) (fun _ => by rfl) (by rfl) (fun _ _ _ v w1 h => h) (fun _ v w1 w2 h hb => h.up hb) (fun val w1 => ?_) ?_
  · have n7 : Num (tot m.po.l + tot m.du.l) (val 7) w1 := hR 7 (by kernel_rfl)
    have g1 := hM.po.tot
    have g2 := hM.du.tot
    have g3 := hM.sk.tot
    have g4 := hM.pu.tot
    exact num_of hS (num_add _ _ _ _ w1 (hv2.up hS) n7 (by omega) (by omega))
  · go_simp
  simp only [Act.put, List.setIfInBounds_toArray, List.set_cons_zero, List.set_cons_succ]
  intro val w3 hS3 hR3 hD3
  have hv : Num (tot m.sk.l + tot m.pu.l + (tot m.po.l + tot m.du.l)) (val 8) w3 := hR3 8 (by decide)
  obtain ⟨A4, c4, e4, h4⟩ := id hv
  obtain ⟨n4, hn4⟩ : ∃ n, (digs (tot m.sk.l + tot m.pu.l + (tot m.po.l + tot m.du.l))).length = n := ⟨_, rfl⟩
  rw [hn4] at e4
  simp only [e4]
  rw [e4] at hv
  have hN1 := hN.up hS3
  have hg3 := hg2.up hS3
  have hS0 := hS0.up hS3
  have hB1 := Below.then hB hS3
  clear hR3 hD3 h4 hn4 hN hB C7 C8 CG hS3 hv2 hg2
  go_wp2_with (refine store_rec 52 _ _ rfl rfl _ #[.slice A4 n4 c4] #[.slice A3 n3 c3] 52 rfl rfl hg3 size_nat21 rfl (one_slice _ _ _) ?_; intro w4 hg4 hb4 hz4 hk4; have hB := hB1.trans (hb4.mono (by omega)); have hv4 := Num.off hv hg3 hk4 hz4; have hN : RecAt w4 _ _ _ := (hk4 _ (by omega)).trans hN1; have hS0 : RecAt w4 _ _ _ := (hk4 _ (by omega)).trans hS0; clear hk4 hz4 hb4 hB1 hN1 hg3 hv)
  have CG : ∀ w1, Below w4.heap.size w4 w1 → LiesAt w1 ⟨g, 0, none⟩ #[.slice A4 n4 c4] := fun w1 hb => (hg4.up hb).lies
  have C4 : ∀ w1, Below w4.heap.size w4 w1 → w1.cell? ⟨w.heap.size, 4, none⟩ = some (.int .u64 (m.treas : Int)) := fun w1 hb => (hS0.up hb).cell 4
  refine region_vary [] 5 (fun w' => Below w4.heap.size w4 w') (by kernel_rfl) (by kernel_rfl) (Below.refl _ _).drew ?_
  simp only [List.take_succ_cons, List.take_zero, List.drop_succ_cons, List.drop_zero]
  refine SeqV.take (fun _ => .agg #[.slice A4 n4 c4]) (fun _ => by rfl) (by rfl) (fun _ _ _ => rfl) (fun val w1 hS hR => exec_load_rec 52 _ rfl _ #[.slice A4 n4 c4] rfl (CG w1 hS) Try.underlying52 size_nat21) ?_
  simp only [Act.put, List.setIfInBounds_toArray, List.set_cons_zero, List.set_cons_succ]
  refine SeqV.take (fun _ => .pointer (some ⟨w.heap.size, 4, none⟩)) (fun _ => by rfl) (by rfl) (fun _ _ _ => rfl) (fun val w1 hS hR => ?_) ?_; · (go_simp <;> with_reducible rfl)
  simp only [Act.put, List.setIfInBounds_toArray, List.set_cons_zero, List.set_cons_succ]
  refine SeqV.take (fun _ => .int .u64 (m.treas : Int)) (fun _ => by rfl) (by rfl) (fun _ _ _ => rfl) (fun val w1 hS hR => ?_) ?_; · (have x := C4 w1 hS; go_simp <;> with_reducible rfl)
  simp only [Act.put, List.setIfInBounds_toArray, List.set_cons_zero, List.set_cons_succ]
  refine SeqV.make (f := 25) (args := fun val => #[.int .u64 (m.treas : Int)]) (fun _ v w1 => Num (m.treas) v w1) (fun val w1 hS hR => ?_) (fun _ => by rfl) (by rfl) (fun _ _ _ v w1 h => h) (fun _ v w1 w2 h hb => h.up hb) (fun val w1 => ?_) ?_
  · exact num_of hS (num_word m.treas w1 hM.treas)
  · go_simp
  simp only [Act.put, List.setIfInBounds_toArray, List.set_cons_zero, List.set_cons_succ]
  refine SeqV.make (f := 26) (args := fun val => #[.agg #[.slice A4 n4 c4], val 3]) (fun _ v w1 => Num (tot m.sk.l + tot m.pu.l + (tot m.po.l + tot m.du.l) + m.treas) v w1) (fun val w1 hS hR => ?_) (fun _ => by rfl) (by rfl) (fun _ _ _ v w1 h => h) (fun _ v w1 w2 h hb => h.up hb) (fun val w1 => ?_) ?_
  · have n3 : Num (m.treas) (val 3) w1 := hR 3 (by kernel_rfl)
    have g1 := hM.po.tot
    have g2 := hM.du.tot
    have g3 := hM.sk.tot
    have g4 := hM.pu.tot
    have g5 := hM.treas
    exact num_of hS (num_add _ _ _ _ w1 (hv4.up hS) n3 (by omega) (by omega))
  · go_simp
  simp only [Act.put, List.setIfInBounds_toArray, List.set_cons_zero, List.set_cons_succ]
  clear C4 CG hv4 hg4
  intro val w1 hS1 hR1 hD1
  have hv : Num (tot m.sk.l + tot m.pu.l + (tot m.po.l + tot m.du.l) + m.treas) (val 4) w1 := hR1 4 (by decide)
  obtain ⟨A5, c5, e5, h5⟩ := id hv
  obtain ⟨n5, hn5⟩ : ∃ n, (digs (tot m.sk.l + tot m.pu.l + (tot m.po.l + tot m.du.l) + m.treas)).length = n := ⟨_, rfl⟩
  rw [hn5] at e5
  simp only [e5]
  rw [e5] at hv
  have hN1 := hN.up hS1
  have hB1 := Below.then hB hS1
  clear hR1 hD1 h5 hn5 hN hB hS0 hM
  go_wp2_with (refine store_rec 52 _ _ rfl rfl _ #[.slice A5 n5 c5] #[.slice none 0 0] 52 rfl rfl hN1 size_nat21 rfl (one_slice _ _ _) ?_; intro w5 hR hb5 hz5 hk5; have hB5 := hB1.trans (hb5.mono (Nat.le_succ _)); have hv := Num.off hv hN1 hk5 hz5; clear hz5 hk5 hb5)
  refine bodyPost_ret (res_rec1 _ Try.results15 rfl hR Try.underlying52 size_nat21) rfl ⟨_, rfl, hv, hB5⟩

theorem num_uint (a : Nat) (v : Value) (w : World) (h : Num a v w) : Calls Try.prog 27 #[v] w fun e w' => e = .returned (.tuple #[.int .u64 (tx a : Nat), .bool (decide (a ≤ 18446744073709551615))]) ∧ Below w.heap.size w w' := by
  by_cases g : a ≤ 18446744073709551615
  · rw [tx_in g, decide_eq_true g]; exact uint_fits a v _ w h (Nat.le_refl _) g
  · rw [tx_out (by omega), decide_eq_false g]; exact uint_big a v _ w h (Nat.le_refl _) (by omega)

set_option maxRecDepth 100000 in
theorem part_yes (s : SlR Nat) (n : Nat) (w : World) (hs : WordsAt w s) (h1 : tot s.l ≤ 18446744073709551615) (hn : n = tot s.l) : Calls Try.prog 12 #[.int .u64 (n : Int), .slice s.A s.l.length s.c] w fun e w' => e = .returned (.bool true) ∧ Below w.heap.size w w' := by
  have k1 := num_sum s w hs
  rw [← hn] at k1
  have k2 := fun v W h => num_uint n v W h
  rw [hn, tx_in h1, decide_eq_true h1, ← hn] at k2
  clear hs h1 hn
  go_enter Try.func12, Try.ntmps12
  go_wp2_with (first
    | (go_at_call 28; refine k1.mono ?_; clear k1; rintro e w1 ⟨v, rfl, hv, hb⟩)
    | (go_at_call 27; refine (k2 _ _ hv).mono ?_; clear k2; rintro e w2 ⟨rfl, hb2⟩))
  go_ret
  exact ⟨by first | rfl | simp, Below.then hb hb2⟩

set_option maxRecDepth 100000 in
set_option maxHeartbeats 2000000 in
theorem rfits_all (m : Mny) (w : World) (hM : MnyAt w m) (b0 b1 b2 b3 : Bool) (h0 : decide (tot m.sk.l ≤ 18446744073709551615) = b0) (h1 : decide (tot m.pu.l ≤ 18446744073709551615) = b1) (h2 : decide (tot m.po.l ≤ 18446744073709551615) = b2) (h3 : decide (tot m.du.l ≤ 18446744073709551615) = b3) :
    Calls Try.prog 11 #[.agg (Rec.vals m)] w fun e w' => e = .returned (.bool (b0 && (b1 && (b2 && b3)))) ∧ Below w.heap.size w w' := by
  have hS : RecAt (w.alloc (.cells (Rec.vals m) 38)) w.heap.size (Rec.vals m) 38 := RecAt.new _ _ _
  have hB : Below w.heap.size w (w.alloc (.cells (Rec.vals m) 38)) := (Below.refl _ _).alloc (Nat.le_refl _) _
  have k0 := fun (W : World) (h : Below w.heap.size w W) => num_sum m.sk W (hM.sk.up h)
  have k1 := fun (W : World) (h : Below w.heap.size w W) => num_sum m.pu W (hM.pu.up h)
  have k2 := fun (W : World) (h : Below w.heap.size w W) => num_sum m.po W (hM.po.up h)
  have k3 := fun (W : World) (h : Below w.heap.size w W) => num_sum m.du W (hM.du.up h)
  have u0 := fun v W h => num_uint (tot m.sk.l) v W h
  have u1 := fun v W h => num_uint (tot m.pu.l) v W h
  have u2 := fun v W h => num_uint (tot m.po.l) v W h
  have u3 := fun v W h => num_uint (tot m.du.l) v W h
  rw [h0] at u0
  rw [h1] at u1
  rw [h2] at u2
  rw [h3] at u3
  have K0 := Lib.hid k0
  have K1 := Lib.hid k1
  have K2 := Lib.hid k2
  have K3 := Lib.hid k3
  have U0 := Lib.hid u0
  have U1 := Lib.hid u1
  have U2 := Lib.hid u2
  have U3 := Lib.hid u3
  clear k0 k1 k2 k3 u0 u1 u2 u3 h0 h1 h2 h3 hM
  cases b0 <;> cases b1 <;> cases b2 <;> cases b3
  all_goals
    go_enter Try.func11, Try.ntmps11
    go_upto_region 1 with fail
    generalize hw0 : World.alloc _ _ = w0 at hS hB ⊢
    have c5 : w0.cell? ⟨w.heap.size, 5, none⟩ = some (.slice m.sk.A m.sk.l.length m.sk.c) := hS.cell 5
    clear hw0
    go_wp2_with (first
      | (go_at_call 28; refine (K0.out w0 hB).mono ?_; clear K0; rintro e w1 ⟨v, rfl, hv, hb⟩; have hS := hS.up hb; have hB := Below.then hB hb; clear hb)
      | (go_at_call 27; refine (U0.out _ _ hv).mono ?_; clear U0 hv; rintro e w2 ⟨rfl, hb⟩; have hS := hS.up hb; have hB := Below.then hB hb; clear hb; have c6 : w2.cell? ⟨w.heap.size, 6, none⟩ = some (.slice m.pu.A m.pu.l.length m.pu.c) := hS.cell 6)
      | (go_at_call 28; refine (K1.out w2 hB).mono ?_; clear K1; rintro e w3 ⟨v2, rfl, hv2, hb⟩; have hS := hS.up hb; have hB := Below.then hB hb; clear hb)
      | (go_at_call 27; refine (U1.out _ _ hv2).mono ?_; clear U1 hv2; rintro e w4 ⟨rfl, hb⟩; have hS := hS.up hb; have hB := Below.then hB hb; clear hb; have c7 : w4.cell? ⟨w.heap.size, 7, none⟩ = some (.slice m.po.A m.po.l.length m.po.c) := hS.cell 7)
      | (go_at_call 28; refine (K2.out w4 hB).mono ?_; clear K2; rintro e w5 ⟨v3, rfl, hv3, hb⟩; have hS := hS.up hb; have hB := Below.then hB hb; clear hb)
      | (go_at_call 27; refine (U2.out _ _ hv3).mono ?_; clear U2 hv3; rintro e w6 ⟨rfl, hb⟩; have hS := hS.up hb; have hB := Below.then hB hb; clear hb; have c8 : w6.cell? ⟨w.heap.size, 8, none⟩ = some (.slice m.du.A m.du.l.length m.du.c) := hS.cell 8)
      | (go_at_call 28; refine (K3.out w6 hB).mono ?_; clear K3; rintro e w7 ⟨v4, rfl, hv4, hb⟩; have hB := Below.then hB hb; clear hb hS)
      | (go_at_call 27; refine (U3.out _ _ hv4).mono ?_; clear U3 hv4; rintro e w8 ⟨rfl, hb⟩; have hB := Below.then hB hb; clear hb))
    go_ret
    exact ⟨by first | rfl | simp, hB⟩
/-- Whether each part is one of 64 bits. -/
theorem rfits_is (m : Mny) (w : World) (hM : MnyAt w m) : Calls Try.prog 11 #[.agg (Rec.vals m)] w fun e w' => e = .returned (.bool (decide (tot m.sk.l ≤ 18446744073709551615 ∧ tot m.pu.l ≤ 18446744073709551615 ∧ tot m.po.l ≤ 18446744073709551615 ∧ tot m.du.l ≤ 18446744073709551615))) ∧ Below w.heap.size w w' := by
  have k := rfits_all m w hM _ _ _ _ rfl rfl rfl rfl
  rw [← Bool.decide_and, ← Bool.decide_and, ← Bool.decide_and] at k
  exact k

theorem MnyAt.whole {w : World} {m : Mny} (h : MnyAt w m) : m.whole ≤ 100000000000000000000000000 := by
  have g1 := h.sk.tot
  have g2 := h.pu.tot
  have g3 := h.po.tot
  have g4 := h.du.tot
  have g5 := h.treas
  unfold Mny.whole
  omega
set_option maxRecDepth 100000 in
set_option maxHeartbeats 2000000 in
theorem rholds_1 (m : Mny) (w : World) (hM : MnyAt w m) (z : Int) (hz : cmpZ (m.gen + m.mint) m.most = z) (dz : decide (z ≤ 0) = false) :
    Calls Try.prog 10 #[.agg (Rec.vals m)] w fun e w' => e = .returned (.bool false) ∧ Below w.heap.size w w' := by
  have hS0 : RecAt (w.alloc (.cells (Rec.vals m) 38)) w.heap.size (Rec.vals m) 38 := RecAt.new _ _ _
  have hB : Below w.heap.size w (w.alloc (.cells (Rec.vals m) 38)) := (Below.refl _ _).alloc (Nat.le_refl _) _
  go_enter Try.func10, Try.ntmps10
  go_upto_region 0 with fail
  go_wp2
  generalize hw0 : World.alloc _ _ = w0 at hS0 hB ⊢
  clear hw0
  have CL : ∀ w1, Below w0.heap.size w0 w1 → LiesAt w1 ⟨w.heap.size, 0, none⟩ (Rec.vals m) := fun w1 hb => (hS0.up hb).lies
  have C0 : ∀ w1, Below w0.heap.size w0 w1 → w1.cell? ⟨w.heap.size, 0, none⟩ = some (.int .u64 (m.most : Int)) := fun w1 hb => (hS0.up hb).cell 0
  have C3 : ∀ w1, Below w0.heap.size w0 w1 → w1.cell? ⟨w.heap.size, 3, none⟩ = some (.int .u64 (m.burn : Int)) := fun w1 hb => (hS0.up hb).cell 3
  refine region_vary [] 24 (fun w' => Below w0.heap.size w0 w') (by kernel_rfl) (by kernel_rfl) (Below.refl _ _).drew ?_
  simp only [List.take_succ_cons, List.take_zero, List.drop_succ_cons, List.drop_zero]
  refine SeqV.take (fun _ => .agg (Rec.vals m)) (fun _ => by rfl) (by rfl) (fun _ _ _ => rfl) (fun val w1 hS hR => exec_load_rec 38 _ rfl _ (Rec.vals m) rfl (CL w1 hS) Try.underlying38 size_mny) ?_
  simp only [Act.put, List.setIfInBounds_toArray, List.set_cons_zero, List.set_cons_succ]
  refine SeqV.make (f := 24) (args := fun val => #[.agg (Rec.vals m)]) (fun _ v w1 => Num (m.gen + m.mint) v w1) (fun val w1 hS hR => ?_) (fun _ => by rfl) (by rfl) (fun _ _ _ v w1 h => h) (fun _ v w1 w2 h hb => h.up hb) (fun val w1 => ?_) ?_
  · exact num_of hS (num_issued m w1 (hM.up (Below.then hB hS)))
  · go_simp
  simp only [Act.put, List.setIfInBounds_toArray, List.set_cons_zero, List.set_cons_succ]
  refine SeqV.take (fun _ => .pointer (some ⟨w.heap.size, 0, none⟩)) (fun _ => by rfl) (by rfl) (fun _ _ _ => rfl) (fun val w1 hS hR => ?_) ?_; · (go_simp <;> with_reducible rfl)
  simp only [Act.put, List.setIfInBounds_toArray, List.set_cons_zero, List.set_cons_succ]
  refine SeqV.take (fun _ => .int .u64 (m.most : Int)) (fun _ => by rfl) (by rfl) (fun _ _ _ => rfl) (fun val w1 hS hR => ?_) ?_; · (have x := C0 w1 hS; go_simp <;> with_reducible rfl)
  simp only [Act.put, List.setIfInBounds_toArray, List.set_cons_zero, List.set_cons_succ]
  refine SeqV.make (f := 25) (args := fun val => #[.int .u64 (m.most : Int)]) (fun _ v w1 => Num (m.most) v w1) (fun val w1 hS hR => ?_) (fun _ => by rfl) (by rfl) (fun _ _ _ v w1 h => h) (fun _ v w1 w2 h hb => h.up hb) (fun val w1 => ?_) ?_
  · exact num_of hS (num_word m.most w1 hM.most)
  · go_simp
  simp only [Act.put, List.setIfInBounds_toArray, List.set_cons_zero, List.set_cons_succ]
  refine SeqV.call (f := 23) (args := fun val => #[val 1, val 4]) (fun _ => .int .i64 z) (fun val w1 hS hR => ?_) (fun _ => by rfl) (by rfl) (fun _ _ _ => rfl) (fun val w1 => ?_) ?_
  · have n1 : Num (m.gen + m.mint) (val 1) w1 := hR 1 (by kernel_rfl)
    have n4 : Num (m.most) (val 4) w1 := hR 4 (by kernel_rfl)
    have k := cmp_any (m.gen + m.mint) m.most _ _ _ w1 n1 n4 (Nat.le_refl _)
    rw [hz] at k
    exact val_of hS k
  · go_simp
  simp only [Act.put, List.setIfInBounds_toArray, List.set_cons_zero, List.set_cons_succ]
  refine SeqV.take (fun _ => .bool false) (fun _ => by rfl) (by rfl) (fun _ _ _ => rfl) (fun val w1 hS hR => ?_) ?_; · (go_simp <;> with_reducible rfl)
  simp only [Act.put, List.setIfInBounds_toArray, List.set_cons_zero, List.set_cons_succ]
  refine SeqV.take (fun _ => .bool false) (fun _ => by rfl) (by rfl) (fun _ _ _ => rfl) (fun val w1 hS hR => ?_) ?_; · (go_simp <;> with_reducible rfl)
  simp only [Act.put, List.setIfInBounds_toArray, List.set_cons_zero, List.set_cons_succ]
  refine SeqV.skip (fun _ => by rfl) (by rfl) ?_
  simp only [Act.put, List.setIfInBounds_toArray, List.set_cons_zero, List.set_cons_succ]
  refine SeqV.skip (fun _ => by rfl) (by rfl) ?_
  simp only [Act.put, List.setIfInBounds_toArray, List.set_cons_zero, List.set_cons_succ]
  refine SeqV.skip (fun _ => by rfl) (by rfl) ?_
  simp only [Act.put, List.setIfInBounds_toArray, List.set_cons_zero, List.set_cons_succ]
  refine SeqV.take (fun _ => .bool false) (fun _ => by rfl) (by rfl) (fun _ _ _ => rfl) (fun val w1 hS hR => ?_) ?_; · (go_simp <;> with_reducible rfl)
  simp only [Act.put, List.setIfInBounds_toArray, List.set_cons_zero, List.set_cons_succ]
  refine SeqV.take (fun _ => .bool false) (fun _ => by rfl) (by rfl) (fun _ _ _ => rfl) (fun val w1 hS hR => ?_) ?_; · (go_simp <;> with_reducible rfl)
  simp only [Act.put, List.setIfInBounds_toArray, List.set_cons_zero, List.set_cons_succ]
  refine SeqV.skip (fun _ => by rfl) (by rfl) ?_
  simp only [Act.put, List.setIfInBounds_toArray, List.set_cons_zero, List.set_cons_succ]
  refine SeqV.skip (fun _ => by rfl) (by rfl) ?_
  simp only [Act.put, List.setIfInBounds_toArray, List.set_cons_zero, List.set_cons_succ]
  refine SeqV.skip (fun _ => by rfl) (by rfl) ?_
  simp only [Act.put, List.setIfInBounds_toArray, List.set_cons_zero, List.set_cons_succ]
  refine SeqV.skip (fun _ => by rfl) (by rfl) ?_
  simp only [Act.put, List.setIfInBounds_toArray, List.set_cons_zero, List.set_cons_succ]
  refine SeqV.skip (fun _ => by rfl) (by rfl) ?_
  simp only [Act.put, List.setIfInBounds_toArray, List.set_cons_zero, List.set_cons_succ]
  refine SeqV.skip (fun _ => by rfl) (by rfl) ?_
  simp only [Act.put, List.setIfInBounds_toArray, List.set_cons_zero, List.set_cons_succ]
  refine SeqV.skip (fun _ => by rfl) (by rfl) ?_
  simp only [Act.put, List.setIfInBounds_toArray, List.set_cons_zero, List.set_cons_succ]
  refine SeqV.skip (fun _ => by rfl) (by rfl) ?_
  simp only [Act.put, List.setIfInBounds_toArray, List.set_cons_zero, List.set_cons_succ]
  refine SeqV.skip (fun _ => by rfl) (by rfl) ?_
  simp only [Act.put, List.setIfInBounds_toArray, List.set_cons_zero, List.set_cons_succ]
  refine SeqV.skip (fun _ => by rfl) (by rfl) ?_
  simp only [Act.put, List.setIfInBounds_toArray, List.set_cons_zero, List.set_cons_succ]
  refine SeqV.take (fun _ => .bool false) (fun _ => by rfl) (by rfl) (fun _ _ _ => rfl) (fun val w1 hS hR => ?_) ?_; · (go_simp <;> with_reducible rfl)
  simp only [Act.put, List.setIfInBounds_toArray, List.set_cons_zero, List.set_cons_succ]
  intro val w1 hS1 hR1 hD1
  have hB1 := Below.then hB hS1
  clear hR1 hD1
  go_wp2
  go_ret
  exact ⟨by first | rfl | simp, hB1⟩

set_option maxRecDepth 100000 in
set_option maxHeartbeats 2000000 in
theorem rholds_2 (m : Mny) (w : World) (hM : MnyAt w m) (z : Int) (hz : cmpZ (m.gen + m.mint) m.most = z) (dz : decide (z ≤ 0) = true) (dm : decide ((m.most : Int) ≤ 4611686018427387904) = false) :
    Calls Try.prog 10 #[.agg (Rec.vals m)] w fun e w' => e = .returned (.bool false) ∧ Below w.heap.size w w' := by
  have hS0 : RecAt (w.alloc (.cells (Rec.vals m) 38)) w.heap.size (Rec.vals m) 38 := RecAt.new _ _ _
  have hB : Below w.heap.size w (w.alloc (.cells (Rec.vals m) 38)) := (Below.refl _ _).alloc (Nat.le_refl _) _
  go_enter Try.func10, Try.ntmps10
  go_upto_region 0 with fail
  go_wp2
  generalize hw0 : World.alloc _ _ = w0 at hS0 hB ⊢
  clear hw0
  have CL : ∀ w1, Below w0.heap.size w0 w1 → LiesAt w1 ⟨w.heap.size, 0, none⟩ (Rec.vals m) := fun w1 hb => (hS0.up hb).lies
  have C0 : ∀ w1, Below w0.heap.size w0 w1 → w1.cell? ⟨w.heap.size, 0, none⟩ = some (.int .u64 (m.most : Int)) := fun w1 hb => (hS0.up hb).cell 0
  have C3 : ∀ w1, Below w0.heap.size w0 w1 → w1.cell? ⟨w.heap.size, 3, none⟩ = some (.int .u64 (m.burn : Int)) := fun w1 hb => (hS0.up hb).cell 3
  refine region_vary [] 24 (fun w' => Below w0.heap.size w0 w') (by kernel_rfl) (by kernel_rfl) (Below.refl _ _).drew ?_
  simp only [List.take_succ_cons, List.take_zero, List.drop_succ_cons, List.drop_zero]
  refine SeqV.take (fun _ => .agg (Rec.vals m)) (fun _ => by rfl) (by rfl) (fun _ _ _ => rfl) (fun val w1 hS hR => exec_load_rec 38 _ rfl _ (Rec.vals m) rfl (CL w1 hS) Try.underlying38 size_mny) ?_
  simp only [Act.put, List.setIfInBounds_toArray, List.set_cons_zero, List.set_cons_succ]
  refine SeqV.make (f := 24) (args := fun val => #[.agg (Rec.vals m)]) (fun _ v w1 => Num (m.gen + m.mint) v w1) (fun val w1 hS hR => ?_) (fun _ => by rfl) (by rfl) (fun _ _ _ v w1 h => h) (fun _ v w1 w2 h hb => h.up hb) (fun val w1 => ?_) ?_
  · exact num_of hS (num_issued m w1 (hM.up (Below.then hB hS)))
  · go_simp
  simp only [Act.put, List.setIfInBounds_toArray, List.set_cons_zero, List.set_cons_succ]
  refine SeqV.take (fun _ => .pointer (some ⟨w.heap.size, 0, none⟩)) (fun _ => by rfl) (by rfl) (fun _ _ _ => rfl) (fun val w1 hS hR => ?_) ?_; · (go_simp <;> with_reducible rfl)
  simp only [Act.put, List.setIfInBounds_toArray, List.set_cons_zero, List.set_cons_succ]
  refine SeqV.take (fun _ => .int .u64 (m.most : Int)) (fun _ => by rfl) (by rfl) (fun _ _ _ => rfl) (fun val w1 hS hR => ?_) ?_; · (have x := C0 w1 hS; go_simp <;> with_reducible rfl)
  simp only [Act.put, List.setIfInBounds_toArray, List.set_cons_zero, List.set_cons_succ]
  refine SeqV.make (f := 25) (args := fun val => #[.int .u64 (m.most : Int)]) (fun _ v w1 => Num (m.most) v w1) (fun val w1 hS hR => ?_) (fun _ => by rfl) (by rfl) (fun _ _ _ v w1 h => h) (fun _ v w1 w2 h hb => h.up hb) (fun val w1 => ?_) ?_
  · exact num_of hS (num_word m.most w1 hM.most)
  · go_simp
  simp only [Act.put, List.setIfInBounds_toArray, List.set_cons_zero, List.set_cons_succ]
  refine SeqV.call (f := 23) (args := fun val => #[val 1, val 4]) (fun _ => .int .i64 z) (fun val w1 hS hR => ?_) (fun _ => by rfl) (by rfl) (fun _ _ _ => rfl) (fun val w1 => ?_) ?_
  · have n1 : Num (m.gen + m.mint) (val 1) w1 := hR 1 (by kernel_rfl)
    have n4 : Num (m.most) (val 4) w1 := hR 4 (by kernel_rfl)
    have k := cmp_any (m.gen + m.mint) m.most _ _ _ w1 n1 n4 (Nat.le_refl _)
    rw [hz] at k
    exact val_of hS k
  · go_simp
  simp only [Act.put, List.setIfInBounds_toArray, List.set_cons_zero, List.set_cons_succ]
  refine SeqV.take (fun _ => .bool true) (fun _ => by rfl) (by rfl) (fun _ _ _ => rfl) (fun val w1 hS hR => ?_) ?_; · (go_simp <;> with_reducible rfl)
  simp only [Act.put, List.setIfInBounds_toArray, List.set_cons_zero, List.set_cons_succ]
  refine SeqV.take (fun _ => .bool true) (fun _ => by rfl) (by rfl) (fun _ _ _ => rfl) (fun val w1 hS hR => ?_) ?_; · (go_simp <;> with_reducible rfl)
  simp only [Act.put, List.setIfInBounds_toArray, List.set_cons_zero, List.set_cons_succ]
  refine SeqV.take (fun _ => .pointer (some ⟨w.heap.size, 0, none⟩)) (fun _ => by rfl) (by rfl) (fun _ _ _ => rfl) (fun val w1 hS hR => ?_) ?_; · (go_simp <;> with_reducible rfl)
  simp only [Act.put, List.setIfInBounds_toArray, List.set_cons_zero, List.set_cons_succ]
  refine SeqV.take (fun _ => .int .u64 (m.most : Int)) (fun _ => by rfl) (by rfl) (fun _ _ _ => rfl) (fun val w1 hS hR => ?_) ?_; · (have x := C0 w1 hS; go_simp <;> with_reducible rfl)
  simp only [Act.put, List.setIfInBounds_toArray, List.set_cons_zero, List.set_cons_succ]
  refine SeqV.take (fun _ => .bool false) (fun _ => by rfl) (by rfl) (fun _ _ _ => rfl) (fun val w1 hS hR => ?_) ?_; · (go_simp <;> with_reducible rfl)
  simp only [Act.put, List.setIfInBounds_toArray, List.set_cons_zero, List.set_cons_succ]
  refine SeqV.take (fun _ => .bool false) (fun _ => by rfl) (by rfl) (fun _ _ _ => rfl) (fun val w1 hS hR => ?_) ?_; · (go_simp <;> with_reducible rfl)
  simp only [Act.put, List.setIfInBounds_toArray, List.set_cons_zero, List.set_cons_succ]
  refine SeqV.take (fun _ => .bool false) (fun _ => by rfl) (by rfl) (fun _ _ _ => rfl) (fun val w1 hS hR => ?_) ?_; · (go_simp <;> with_reducible rfl)
  simp only [Act.put, List.setIfInBounds_toArray, List.set_cons_zero, List.set_cons_succ]
  refine SeqV.skip (fun _ => by rfl) (by rfl) ?_
  simp only [Act.put, List.setIfInBounds_toArray, List.set_cons_zero, List.set_cons_succ]
  refine SeqV.skip (fun _ => by rfl) (by rfl) ?_
  simp only [Act.put, List.setIfInBounds_toArray, List.set_cons_zero, List.set_cons_succ]
  refine SeqV.skip (fun _ => by rfl) (by rfl) ?_
  simp only [Act.put, List.setIfInBounds_toArray, List.set_cons_zero, List.set_cons_succ]
  refine SeqV.skip (fun _ => by rfl) (by rfl) ?_
  simp only [Act.put, List.setIfInBounds_toArray, List.set_cons_zero, List.set_cons_succ]
  refine SeqV.skip (fun _ => by rfl) (by rfl) ?_
  simp only [Act.put, List.setIfInBounds_toArray, List.set_cons_zero, List.set_cons_succ]
  refine SeqV.skip (fun _ => by rfl) (by rfl) ?_
  simp only [Act.put, List.setIfInBounds_toArray, List.set_cons_zero, List.set_cons_succ]
  refine SeqV.skip (fun _ => by rfl) (by rfl) ?_
  simp only [Act.put, List.setIfInBounds_toArray, List.set_cons_zero, List.set_cons_succ]
  refine SeqV.skip (fun _ => by rfl) (by rfl) ?_
  simp only [Act.put, List.setIfInBounds_toArray, List.set_cons_zero, List.set_cons_succ]
  refine SeqV.skip (fun _ => by rfl) (by rfl) ?_
  simp only [Act.put, List.setIfInBounds_toArray, List.set_cons_zero, List.set_cons_succ]
  refine SeqV.skip (fun _ => by rfl) (by rfl) ?_
  simp only [Act.put, List.setIfInBounds_toArray, List.set_cons_zero, List.set_cons_succ]
  refine SeqV.take (fun _ => .bool false) (fun _ => by rfl) (by rfl) (fun _ _ _ => rfl) (fun val w1 hS hR => ?_) ?_; · (go_simp <;> with_reducible rfl)
  simp only [Act.put, List.setIfInBounds_toArray, List.set_cons_zero, List.set_cons_succ]
  intro val w1 hS1 hR1 hD1
  have hB1 := Below.then hB hS1
  clear hR1 hD1
  go_wp2
  go_ret
  exact ⟨by first | rfl | simp, hB1⟩

set_option maxRecDepth 100000 in
set_option maxHeartbeats 2000000 in
theorem rholds_3 (m : Mny) (w : World) (hM : MnyAt w m) (z : Int) (hz : cmpZ (m.gen + m.mint) m.most = z) (dz : decide (z ≤ 0) = true) (dm : decide ((m.most : Int) ≤ 4611686018427387904) = true) (y : Int) (hy : cmpZ (m.whole + m.burn) (m.gen + m.mint) = y) (b : Bool) (dy : (y == 0) = b) (dy2 : decide (y = 0) = b) :
    Calls Try.prog 10 #[.agg (Rec.vals m)] w fun e w' => e = .returned (.bool b) ∧ Below w.heap.size w w' := by
  have hS0 : RecAt (w.alloc (.cells (Rec.vals m) 38)) w.heap.size (Rec.vals m) 38 := RecAt.new _ _ _
  have hB : Below w.heap.size w (w.alloc (.cells (Rec.vals m) 38)) := (Below.refl _ _).alloc (Nat.le_refl _) _
  go_enter Try.func10, Try.ntmps10
  go_upto_region 0 with fail
  go_wp2
  generalize hw0 : World.alloc _ _ = w0 at hS0 hB ⊢
  clear hw0
  have CL : ∀ w1, Below w0.heap.size w0 w1 → LiesAt w1 ⟨w.heap.size, 0, none⟩ (Rec.vals m) := fun w1 hb => (hS0.up hb).lies
  have C0 : ∀ w1, Below w0.heap.size w0 w1 → w1.cell? ⟨w.heap.size, 0, none⟩ = some (.int .u64 (m.most : Int)) := fun w1 hb => (hS0.up hb).cell 0
  have C3 : ∀ w1, Below w0.heap.size w0 w1 → w1.cell? ⟨w.heap.size, 3, none⟩ = some (.int .u64 (m.burn : Int)) := fun w1 hb => (hS0.up hb).cell 3
  refine region_vary [] 24 (fun w' => Below w0.heap.size w0 w') (by kernel_rfl) (by kernel_rfl) (Below.refl _ _).drew ?_
  simp only [List.take_succ_cons, List.take_zero, List.drop_succ_cons, List.drop_zero]
  refine SeqV.take (fun _ => .agg (Rec.vals m)) (fun _ => by rfl) (by rfl) (fun _ _ _ => rfl) (fun val w1 hS hR => exec_load_rec 38 _ rfl _ (Rec.vals m) rfl (CL w1 hS) Try.underlying38 size_mny) ?_
  simp only [Act.put, List.setIfInBounds_toArray, List.set_cons_zero, List.set_cons_succ]
  refine SeqV.make (f := 24) (args := fun val => #[.agg (Rec.vals m)]) (fun _ v w1 => Num (m.gen + m.mint) v w1) (fun val w1 hS hR => ?_) (fun _ => by rfl) (by rfl) (fun _ _ _ v w1 h => h) (fun _ v w1 w2 h hb => h.up hb) (fun val w1 => ?_) ?_
  · exact num_of hS (num_issued m w1 (hM.up (Below.then hB hS)))
  · go_simp
  simp only [Act.put, List.setIfInBounds_toArray, List.set_cons_zero, List.set_cons_succ]
  refine SeqV.take (fun _ => .pointer (some ⟨w.heap.size, 0, none⟩)) (fun _ => by rfl) (by rfl) (fun _ _ _ => rfl) (fun val w1 hS hR => ?_) ?_; · (go_simp <;> with_reducible rfl)
  simp only [Act.put, List.setIfInBounds_toArray, List.set_cons_zero, List.set_cons_succ]
  refine SeqV.take (fun _ => .int .u64 (m.most : Int)) (fun _ => by rfl) (by rfl) (fun _ _ _ => rfl) (fun val w1 hS hR => ?_) ?_; · (have x := C0 w1 hS; go_simp <;> with_reducible rfl)
  simp only [Act.put, List.setIfInBounds_toArray, List.set_cons_zero, List.set_cons_succ]
  refine SeqV.make (f := 25) (args := fun val => #[.int .u64 (m.most : Int)]) (fun _ v w1 => Num (m.most) v w1) (fun val w1 hS hR => ?_) (fun _ => by rfl) (by rfl) (fun _ _ _ v w1 h => h) (fun _ v w1 w2 h hb => h.up hb) (fun val w1 => ?_) ?_
  · exact num_of hS (num_word m.most w1 hM.most)
  · go_simp
  simp only [Act.put, List.setIfInBounds_toArray, List.set_cons_zero, List.set_cons_succ]
  refine SeqV.call (f := 23) (args := fun val => #[val 1, val 4]) (fun _ => .int .i64 z) (fun val w1 hS hR => ?_) (fun _ => by rfl) (by rfl) (fun _ _ _ => rfl) (fun val w1 => ?_) ?_
  · have n1 : Num (m.gen + m.mint) (val 1) w1 := hR 1 (by kernel_rfl)
    have n4 : Num (m.most) (val 4) w1 := hR 4 (by kernel_rfl)
    have k := cmp_any (m.gen + m.mint) m.most _ _ _ w1 n1 n4 (Nat.le_refl _)
    rw [hz] at k
    exact val_of hS k
  · go_simp
  simp only [Act.put, List.setIfInBounds_toArray, List.set_cons_zero, List.set_cons_succ]
  refine SeqV.take (fun _ => .bool true) (fun _ => by rfl) (by rfl) (fun _ _ _ => rfl) (fun val w1 hS hR => ?_) ?_; · (go_simp <;> with_reducible rfl)
  simp only [Act.put, List.setIfInBounds_toArray, List.set_cons_zero, List.set_cons_succ]
  refine SeqV.take (fun _ => .bool true) (fun _ => by rfl) (by rfl) (fun _ _ _ => rfl) (fun val w1 hS hR => ?_) ?_; · (go_simp <;> with_reducible rfl)
  simp only [Act.put, List.setIfInBounds_toArray, List.set_cons_zero, List.set_cons_succ]
  refine SeqV.take (fun _ => .pointer (some ⟨w.heap.size, 0, none⟩)) (fun _ => by rfl) (by rfl) (fun _ _ _ => rfl) (fun val w1 hS hR => ?_) ?_; · (go_simp <;> with_reducible rfl)
  simp only [Act.put, List.setIfInBounds_toArray, List.set_cons_zero, List.set_cons_succ]
  refine SeqV.take (fun _ => .int .u64 (m.most : Int)) (fun _ => by rfl) (by rfl) (fun _ _ _ => rfl) (fun val w1 hS hR => ?_) ?_; · (have x := C0 w1 hS; go_simp <;> with_reducible rfl)
  simp only [Act.put, List.setIfInBounds_toArray, List.set_cons_zero, List.set_cons_succ]
  refine SeqV.take (fun _ => .bool true) (fun _ => by rfl) (by rfl) (fun _ _ _ => rfl) (fun val w1 hS hR => ?_) ?_; · (go_simp <;> with_reducible rfl)
  simp only [Act.put, List.setIfInBounds_toArray, List.set_cons_zero, List.set_cons_succ]
  refine SeqV.take (fun _ => .bool true) (fun _ => by rfl) (by rfl) (fun _ _ _ => rfl) (fun val w1 hS hR => ?_) ?_; · (go_simp <;> with_reducible rfl)
  simp only [Act.put, List.setIfInBounds_toArray, List.set_cons_zero, List.set_cons_succ]
  refine SeqV.take (fun _ => .bool true) (fun _ => by rfl) (by rfl) (fun _ _ _ => rfl) (fun val w1 hS hR => ?_) ?_; · (go_simp <;> with_reducible rfl)
  simp only [Act.put, List.setIfInBounds_toArray, List.set_cons_zero, List.set_cons_succ]
  refine SeqV.take (fun _ => .agg (Rec.vals m)) (fun _ => by rfl) (by rfl) (fun _ _ _ => rfl) (fun val w1 hS hR => exec_load_rec 38 _ rfl _ (Rec.vals m) rfl (CL w1 hS) Try.underlying38 size_mny) ?_
  simp only [Act.put, List.setIfInBounds_toArray, List.set_cons_zero, List.set_cons_succ]
  refine SeqV.make (f := 15) (args := fun val => #[.agg (Rec.vals m)]) (fun _ v w1 => Num (m.whole) v w1) (fun val w1 hS hR => ?_) (fun _ => by rfl) (by rfl) (fun _ _ _ v w1 h => h) (fun _ v w1 w2 h hb => h.up hb) (fun val w1 => ?_) ?_
  · exact num_of hS (num_total m w1 (hM.up (Below.then hB hS)))
  · go_simp
  simp only [Act.put, List.setIfInBounds_toArray, List.set_cons_zero, List.set_cons_succ]
  refine SeqV.take (fun _ => .pointer (some ⟨w.heap.size, 3, none⟩)) (fun _ => by rfl) (by rfl) (fun _ _ _ => rfl) (fun val w1 hS hR => ?_) ?_; · (go_simp <;> with_reducible rfl)
  simp only [Act.put, List.setIfInBounds_toArray, List.set_cons_zero, List.set_cons_succ]
  refine SeqV.take (fun _ => .int .u64 (m.burn : Int)) (fun _ => by rfl) (by rfl) (fun _ _ _ => rfl) (fun val w1 hS hR => ?_) ?_; · (have x := C3 w1 hS; go_simp <;> with_reducible rfl)
  simp only [Act.put, List.setIfInBounds_toArray, List.set_cons_zero, List.set_cons_succ]
  refine SeqV.make (f := 25) (args := fun val => #[.int .u64 (m.burn : Int)]) (fun _ v w1 => Num (m.burn) v w1) (fun val w1 hS hR => ?_) (fun _ => by rfl) (by rfl) (fun _ _ _ v w1 h => h) (fun _ v w1 w2 h hb => h.up hb) (fun val w1 => ?_) ?_
  · exact num_of hS (num_word m.burn w1 hM.burn)
  · go_simp
  simp only [Act.put, List.setIfInBounds_toArray, List.set_cons_zero, List.set_cons_succ]
  refine SeqV.make (f := 26) (args := fun val => #[val 14, val 17]) (fun _ v w1 => Num (m.whole + m.burn) v w1) (fun val w1 hS hR => ?_) (fun _ => by rfl) (by rfl) (fun _ _ _ v w1 h => h) (fun _ v w1 w2 h hb => h.up hb) (fun val w1 => ?_) ?_
  · have n14 : Num (m.whole) (val 14) w1 := hR 14 (by kernel_rfl)
    have n17 : Num (m.burn) (val 17) w1 := hR 17 (by kernel_rfl)
    have g1 := hM.whole
    have g2 := hM.burn
    exact num_of hS (num_add _ _ _ _ w1 n14 n17 (by omega) (by omega))
  · go_simp
  simp only [Act.put, List.setIfInBounds_toArray, List.set_cons_zero, List.set_cons_succ]
  refine SeqV.take (fun _ => .agg (Rec.vals m)) (fun _ => by rfl) (by rfl) (fun _ _ _ => rfl) (fun val w1 hS hR => exec_load_rec 38 _ rfl _ (Rec.vals m) rfl (CL w1 hS) Try.underlying38 size_mny) ?_
  simp only [Act.put, List.setIfInBounds_toArray, List.set_cons_zero, List.set_cons_succ]
  refine SeqV.make (f := 24) (args := fun val => #[.agg (Rec.vals m)]) (fun _ v w1 => Num (m.gen + m.mint) v w1) (fun val w1 hS hR => ?_) (fun _ => by rfl) (by rfl) (fun _ _ _ v w1 h => h) (fun _ v w1 w2 h hb => h.up hb) (fun val w1 => ?_) ?_
  · exact num_of hS (num_issued m w1 (hM.up (Below.then hB hS)))
  · go_simp
  simp only [Act.put, List.setIfInBounds_toArray, List.set_cons_zero, List.set_cons_succ]
  refine SeqV.call (f := 23) (args := fun val => #[val 18, val 20]) (fun _ => .int .i64 y) (fun val w1 hS hR => ?_) (fun _ => by rfl) (by rfl) (fun _ _ _ => rfl) (fun val w1 => ?_) ?_
  · have n18 : Num (m.whole + m.burn) (val 18) w1 := hR 18 (by kernel_rfl)
    have n20 : Num (m.gen + m.mint) (val 20) w1 := hR 20 (by kernel_rfl)
    have k := cmp_any (m.whole + m.burn) (m.gen + m.mint) _ _ _ w1 n18 n20 (Nat.le_refl _)
    rw [hy] at k
    exact val_of hS k
  · go_simp
  simp only [Act.put, List.setIfInBounds_toArray, List.set_cons_zero, List.set_cons_succ]
  refine SeqV.take (fun _ => .bool b) (fun _ => by rfl) (by rfl) (fun _ _ _ => rfl) (fun val w1 hS hR => ?_) ?_; · (go_simp <;> with_reducible rfl)
  simp only [Act.put, List.setIfInBounds_toArray, List.set_cons_zero, List.set_cons_succ]
  refine SeqV.take (fun _ => .bool b) (fun _ => by rfl) (by rfl) (fun _ _ _ => rfl) (fun val w1 hS hR => ?_) ?_; · (go_simp <;> with_reducible rfl)
  simp only [Act.put, List.setIfInBounds_toArray, List.set_cons_zero, List.set_cons_succ]
  intro val w1 hS1 hR1 hD1
  have hB1 := Below.then hB hS1
  clear hR1 hD1
  go_wp2
  go_ret
  exact ⟨by first | rfl | simp, hB1⟩

theorem cmpZ_le {a b : Nat} : cmpZ a b ≤ 0 ↔ a ≤ b := by
  unfold cmpZ
  split
  · omega
  · split <;> omega
theorem cmpZ_eq {a b : Nat} : cmpZ a b = 0 ↔ a = b := by
  unfold cmpZ
  split
  · omega
  · split <;> omega
/-- Whether the document has it that all money is accounted for. -/
theorem rholds_is (m : Mny) (w : World) (hM : MnyAt w m) : Calls Try.prog 10 #[.agg (Rec.vals m)] w fun e w' => e = .returned (.bool (decide (m.gen + m.mint ≤ m.most ∧ m.most ≤ 4611686018427387904 ∧ m.whole + m.burn = m.gen + m.mint))) ∧ Below w.heap.size w w' := by
  by_cases g1 : m.gen + m.mint ≤ m.most
  · by_cases g2 : m.most ≤ 4611686018427387904
    · rw [show decide (m.gen + m.mint ≤ m.most ∧ m.most ≤ 4611686018427387904 ∧ m.whole + m.burn = m.gen + m.mint) = decide (cmpZ (m.whole + m.burn) (m.gen + m.mint) = 0) by
        rw [Bool.eq_iff_iff, decide_eq_true_iff, decide_eq_true_iff, cmpZ_eq]; exact ⟨fun h => h.2.2, fun h => ⟨g1, g2, h⟩⟩]
      exact rholds_3 m w hM _ rfl (decide_eq_true (cmpZ_le.2 g1)) (decide_eq_true (by omega)) _ rfl _ (by rw [Bool.eq_iff_iff]; simp) rfl
    · rw [decide_eq_false (fun h => g2 h.2.1)]
      exact rholds_2 m w hM _ rfl (decide_eq_true (cmpZ_le.2 g1)) (decide_eq_false (by omega))
  · rw [decide_eq_false (fun h => g1 h.1)]
    exact rholds_1 m w hM _ rfl (decide_eq_false (fun h => g1 (cmpZ_le.1 h)))
end Go.Proofs.Ytoaeckfppoaljaa
namespace Go.Proofs.Ytoaeckfppoaljaa
open Go.RowKit Go.Shelf
set_option linter.unusedVariables false
set_option linter.unusedSimpArgs false

theorem size_words : (Try.prog.info? 25).map (·.size) = some 1 := by kernel_rfl
theorem grown_any {w w' : World} (h : Below w.heap.size w w') (row : Option Nat) : w.grownBy w' row := ⟨h.os, h.tape, h.output, h.size, fun k hk _ => h.block k hk⟩
theorem grown_but {w w' : World} {g : Nat} (h : Below g w w') (hk : ∀ k, k ≠ g → w'.heap[k]? = w.heap[k]?) : w.grownBy w' (some g) := ⟨h.os, h.tape, h.output, h.size, fun k _ hne => hk k (fun e => hne (by rw [e]))⟩
theorem grown_then {a b c : World} {row row' : Option Nat} (h : a.grownBy b row) (k : b.grownBy c row') (hr : ∀ j, row' = some j → a.heap.size ≤ j) : a.grownBy c row :=
  ⟨k.os.trans h.os, k.tape.trans h.tape, k.output.trans h.output, Nat.le_trans h.size k.size, fun i hi hne => (k.block i (Nat.lt_of_lt_of_le hi h.size) (fun e => by have := hr i e.symm; omega)).trans (h.block i hi hne)⟩
theorem grown_to {w w' : World} {B g : Nat} (h : w.grownBy w' (some g)) (hB : B ≤ g) (hz : B ≤ w.heap.size) : Below B w w' := ⟨h.os, h.tape, h.output, h.size, fun k hk => h.block k (by omega) (by simp; omega)⟩

set_option maxRecDepth 100000 in
theorem few_all (s : Sta) (w : World) (b0 b1 b2 b3 : Bool) (h0 : decide ((s.purses.l.length : Int) ≤ 100) = b0) (h1 : decide ((s.mems.l.length : Int) ≤ 200) = b1) (h2 : decide ((s.pool.l.length : Int) ≤ 300) = b2) (h3 : decide ((s.dues.l.length : Int) ≤ 300) = b3) :
    Calls Try.prog 6 #[.agg (Rec.vals s)] w fun e w' => e = .returned (.bool (b0 && (b1 && (b2 && b3)))) ∧ Below w.heap.size w w' := by
  have hS : RecAt (w.alloc (.cells (Rec.vals s) 34)) w.heap.size (Rec.vals s) 34 := RecAt.new _ _ _
  have hB : Below w.heap.size w (w.alloc (.cells (Rec.vals s) 34)) := (Below.refl _ _).alloc (Nat.le_refl _) _
  cases b0 <;> cases b1 <;> cases b2 <;> cases b3
  all_goals
    go_enter Try.func6, Try.ntmps6
    go_upto_region 1 with fail
    generalize hw0 : World.alloc _ _ = w0 at hS hB ⊢
    have c32 : w0.cell? ⟨w.heap.size, 32, none⟩ = some (.slice s.purses.A s.purses.l.length s.purses.c) := hS.cell 32
    have c33 : w0.cell? ⟨w.heap.size, 33, none⟩ = some (.slice s.mems.A s.mems.l.length s.mems.c) := hS.cell 33
    have c36 : w0.cell? ⟨w.heap.size, 36, none⟩ = some (.slice s.pool.A s.pool.l.length s.pool.c) := hS.cell 36
    have c37 : w0.cell? ⟨w.heap.size, 37, none⟩ = some (.slice s.dues.A s.dues.l.length s.dues.c) := hS.cell 37
    clear hw0 hS
    go_wp2
    go_ret
    exact ⟨by first | rfl | simp, hB⟩
/-- There is little in it. -/
def Sta.Few (s : Sta) : Prop := s.purses.l.length ≤ 100 ∧ s.mems.l.length ≤ 200 ∧ s.pool.l.length ≤ 300 ∧ s.dues.l.length ≤ 300
instance (s : Sta) : Decidable s.Few := by unfold Sta.Few; infer_instance
theorem few21_is (s : Sta) (w : World) : Calls Try.prog 6 #[.agg (Rec.vals s)] w fun e w' => e = .returned (.bool (decide s.Few)) ∧ Below w.heap.size w w' := by
  have k := few_all s w _ _ _ _ rfl rfl rfl rfl
  rw [show decide s.Few = (decide ((s.purses.l.length : Int) ≤ 100) && (decide ((s.mems.l.length : Int) ≤ 200) && (decide ((s.pool.l.length : Int) ≤ 300) && decide ((s.dues.l.length : Int) ≤ 300)))) by
    rw [Bool.eq_iff_iff, decide_eq_true_iff]
    simp only [Bool.and_eq_true, decide_eq_true_iff]
    unfold Sta.Few
    omega]
  exact k

/-- The cells of a state's lists, some of them still growing. -/
def mv (s : Sta) (v5 v6 v7 v8 : Value) : Array Value := #[.int .u64 (s.most : Int), .int .u64 (s.gen : Int), .int .u64 (s.mint : Int), .int .u64 (s.burn : Int), .int .u64 (s.treas : Int), v5, v6, v7, v8]
/-- Words that are there, none of them in the three blocks from W0 on. -/
structure WordsOff (W0 : Nat) (w : World) (s : SlR Nat) : Prop where
  row : Lie w (fun b => b < w.heap.size ∧ (b < W0 ∨ W0 + 3 ≤ b)) s.A (u64s s.l)
  few : s.l.length ≤ 100000
  all : ∀ x ∈ s.l, x ≤ 18446744073709551615
theorem WordsOff.words {W0 : Nat} {w : World} {s : SlR Nat} (h : WordsOff W0 w s) : WordsAt w s := ⟨fun k v hv => by
  obtain ⟨a, hA, hb, hc⟩ := h.row k v hv
  exact ⟨a, hA, hb.1, hc⟩, h.few, h.all⟩
theorem WordsOff.but {W0 g : Nat} {w w' : World} {s : SlR Nat} (h : WordsOff W0 w s) (hk : w.grownBy w' (some g)) (h1 : W0 ≤ g) (h2 : g < W0 + 3) : WordsOff W0 w' s := ⟨fun k v hv => by
  obtain ⟨a, hA, hb, hc⟩ := h.row k v hv
  refine ⟨a, hA, ⟨Nat.lt_of_lt_of_le hb.1 hk.size, hb.2⟩, ?_⟩
  rw [World.cell?_of_block (hk.block _ (by rw [addr_block]; exact hb.1) (by rw [addr_block]; simp; omega))]
  exact hc, h.few, h.all⟩
theorem WordsOff.of {w : World} {s : SlR Nat} (hr : Row w w.heap.size s.A (u64s s.l)) (hf : s.l.length ≤ 100000) (hx : ∀ x ∈ s.l, x ≤ 18446744073709551615) : WordsOff w.heap.size w s := ⟨fun k v hv => by
  obtain ⟨a, hA, hb, hc⟩ := hr k v hv
  exact ⟨a, hA, ⟨hb, .inl hb⟩, hc⟩, hf, hx⟩
theorem WordsOff.up {W0 : Nat} {w w' : World} {s : SlR Nat} (h : WordsOff W0 w s) (hk : Below w.heap.size w w') : WordsOff W0 w' s := ⟨fun k v hv => by
  obtain ⟨a, hA, hb, hc⟩ := h.row k v hv
  exact ⟨a, hA, ⟨Nat.lt_of_lt_of_le hb.1 hk.size, hb.2⟩, (hk.cell (by rw [addr_block]; exact hb.1)).trans hc⟩, h.few, h.all⟩
theorem words_new {W0 B k c : Nat} {w : World} {A : Option Addr} {l : List Nat} (h : w.ownsRow B 22 1 (.slice A k c) k (u64s l)) (hB : W0 + 3 ≤ B) (hf : l.length ≤ 100000) (hx : ∀ x ∈ l, x ≤ 18446744073709551615) : WordsOff W0 w ⟨l, A, c⟩ := by
  obtain ⟨A', c', e, _, _, hr⟩ := Row.of_own h
  cases e
  refine ⟨fun k v hv => ?_, hf, hx⟩
  obtain ⟨a, hA, hb, hc⟩ := hr k v hv
  subst hA
  have := (h.lt a.block rfl).1
  exact ⟨a, rfl, ⟨hb, .inr (by omega)⟩, hc⟩

/-- What the law makes of a state. -/
structure MnyOf (s : Sta) (m : Mny) : Prop where
  most : m.most = s.most
  gen : m.gen = s.gen
  mint : m.mint = s.mint
  burn : m.burn = s.burn
  treas : m.treas = s.treas
  sk : m.sk.l = bals s.mems.l
  pu : m.pu.l = s.purses.l
  po : m.po.l = s.pool.l.map Dep.amt
  du : m.du.l = s.dues.l.map Due.amt
theorem bals_take {l : List Mem} {k : Nat} {m : Mem} (h : l[k]? = some m) : bals (l.take (k + 1)) = bals (l.take k) ++ [m.s.bal] := by
  unfold bals
  rw [List.take_add_one, h, List.map_append]
  rfl
theorem deps_take {l : List Dep} {k : Nat} {m : Dep} (h : l[k]? = some m) : (l.take (k + 1)).map Dep.amt = (l.take k).map Dep.amt ++ [m.amt] := by
  rw [List.take_add_one, h, List.map_append]
  rfl
theorem dues_take {l : List Due} {k : Nat} {m : Due} (h : l[k]? = some m) : (l.take (k + 1)).map Due.amt = (l.take k).map Due.amt ++ [m.amt] := by
  rw [List.take_add_one, h, List.map_append]
  rfl
theorem u64s_more (l : List Nat) (x : Nat) : u64s (l ++ [x]) = u64s l ++ [.int .u64 (x : Int)] := by simp [u64s]

set_option maxRecDepth 100000 in
set_option maxHeartbeats 4000000 in
theorem money_of (s : Sta) (w : World) (hs : StaAt w s) (hf : s.Few) :
    Calls Try.prog 7 #[.agg (Rec.vals s)] w fun e w' => ∃ m : Mny, e = .returned (.agg (Rec.vals m)) ∧ MnyOf s m ∧ MnyAt w' m ∧ Below w.heap.size w w' := by
  obtain ⟨i0, hi0, hz0, hz1, hz2⟩ := info_parts word_info
  obtain ⟨f0, f1, f2, f3⟩ := hf
  have HS := Lib.hid hs
  have hpu : WordsOff w.heap.size w s.purses := WordsOff.of hs.purses.row (by omega) hs.purse
  have HPU := Lib.hid hpu
  clear hs hpu
  go_enter Try.func7, Try.ntmps7
  go_upto_region 1 with fail
  generalize hw0 : World.alloc (World.alloc _ _) _ = w0
  have hS : RecAt w0 w.heap.size (Rec.vals s) 34 := by rw [← hw0]; exact (RecAt.new w (Rec.vals s) 34).up ((Below.refl _ _).alloc (Nat.le_refl _) _)
  have hR : RecAt w0 (w.heap.size + 1) (Rec.vals Mny.zero) 38 := by
    rw [← hw0]
    have := RecAt.new (w.alloc (.cells (Rec.vals s) 34)) (Rec.vals Mny.zero) 38
    rw [World.size_alloc] at this
    exact this
  have hz : w0.heap.size = w.heap.size + 2 := by rw [← hw0]; simp
  have hB : Below w.heap.size w w0 := by rw [← hw0]; exact ((Below.refl _ _).alloc (Nat.le_refl _) _).alloc (by simp) _
  clear hw0
  have c24 : w0.cell? ⟨w.heap.size, 24, none⟩ = some (.int .u64 (s.most : Int)) := hS.cell 24
  have c25 : w0.cell? ⟨w.heap.size, 25, none⟩ = some (.int .u64 (s.gen : Int)) := hS.cell 25
  have c26 : w0.cell? ⟨w.heap.size, 26, none⟩ = some (.int .u64 (s.mint : Int)) := hS.cell 26
  have c27 : w0.cell? ⟨w.heap.size, 27, none⟩ = some (.int .u64 (s.burn : Int)) := hS.cell 27
  have c28 : w0.cell? ⟨w.heap.size, 28, none⟩ = some (.int .u64 (s.treas : Int)) := hS.cell 28
  have c32 : w0.cell? ⟨w.heap.size, 32, none⟩ = some (.slice s.purses.A s.purses.l.length s.purses.c) := hS.cell 32
  go_upto_region 2 with fail
  generalize hw1 : World.alloc _ _ = w1
  have hb01 : Below w0.heap.size w0 w1 := by rw [← hw1]; exact (Below.refl _ _).alloc (Nat.le_refl _) _
  have hS1 := hS.up hb01
  have hR1 := hR.up hb01
  have hM1 : RecAt w1 (w.heap.size + 2) (mv s (.slice none 0 0) (.slice s.purses.A s.purses.l.length s.purses.c) (.slice none 0 0) (.slice none 0 0)) 38 := by
    have h := RecAt.new w0 (mv s (.slice none 0 0) (.slice s.purses.A s.purses.l.length s.purses.c) (.slice none 0 0) (.slice none 0 0)) 38
    rw [hz] at h
    rw [← hw1]
    exact h
  have hz1' : w1.heap.size = w.heap.size + 3 := by rw [← hw1, World.size_alloc, hz]
  have hB1 := Below.then hB hb01
  have HS1 := Lib.hid hS1
  have HR1 := Lib.hid hR1
  have HM1 := Lib.hid hM1
  have HPU1 := Lib.hid (HPU.out.up hB1)
  have c33 : w1.cell? ⟨w.heap.size, 33, none⟩ = some (.slice s.mems.A s.mems.l.length s.mems.c) := hS1.cell 33
  have hB3 : w.heap.size + 3 ≤ w1.heap.size := by omega
  clear hw1 hb01 hS hR hS1 hR1 hM1 hz hB c24 c25 c26 c27 c28 c32 HPU hz1'

  obtain ⟨P0, hP0⟩ : ∃ P, Hid (bals s.mems.l = P) := ⟨_, rfl⟩
  have hPn0 : P0.length = s.mems.l.length := by rw [← hP0.out]; simp [bals]
  have hPx0 : ∀ x ∈ P0, x ≤ 18446744073709551615 := by
    rw [← hP0.out]
    intro y hy
    obtain ⟨x, hx, rfl⟩ := List.mem_map.1 hy
    have := (HS.out.mem x hx).bal; omega
  have HPN0 := Lib.hid hPn0
  have HPX0 := Lib.hid hPx0
  clear hPn0 hPx0
  go_wp2
  go_loopw [26] (fun iv wr => ∃ (k : Nat) (A : Option Addr) (c : Nat), k ≤ s.mems.l.length ∧ iv = .int .i64 (k : Int) ∧ Hid (RecAt wr (w.heap.size + 2) (mv s (.slice A k c) (.slice s.purses.A s.purses.l.length s.purses.c) (.slice none 0 0) (.slice none 0 0)) 38) ∧ Hid (wr.ownsRow w1.heap.size 22 1 (.slice A k c) k (u64s (P0.take k))) ∧ Hid (w1.grownBy wr (some (w.heap.size + 2)))) (fun iv _ => s.mems.l.length - (intOf iv).toNat)
  case atStart => exact ⟨0, none, 0, Nat.zero_le _, rfl, HM1, Lib.hid (World.ownsRow_nil _ _ _ _), Lib.hid (World.grownBy.refl _ _)⟩
  case round =>
    obtain ⟨k, A, c, hk, rfl, HM, HO, HG⟩ := hrel
    by_cases hlt : k < s.mems.l.length
    · obtain ⟨x, hx⟩ : ∃ x, s.mems.l[k]? = some x := ⟨_, List.getElem?_eq_getElem hlt⟩
      have hBw : Below w.heap.size w wr := hB1.trans (grown_to HG.out (Nat.le_add_right _ 2) (by omega))
      obtain ⟨a, ha, hab, hat0⟩ := rows_row (HS.out.mems.row.below hBw) hx
      rw [ha]
      have hat : LiesAt wr (a.add (k * 6)) (Rec.vals x) := hat0
      have htk : P0.take (k + 1) = P0.take k ++ [x.s.bal] := by
        rw [← hP0.out]
        have h := bals_take hx
        unfold bals at *
        rw [← List.map_take, ← List.map_take]
        exact h
      have HTK := Lib.hid htk
      have hki : (k : Int) < (s.mems.l.length : Int) := by omega
      have hk0 : (0 : Int) ≤ (k : Int) := by omega
      have hGl : (w.heap.size + 2) < wr.heap.size := HM.out.lt
      clear htk hat0 hx hBw ha
      go_wp2_with (first
        | (refine load_rec 60 _ rfl rfl _ (Rec.vals x) rfl hat Try.underlying60 size_mem21 ?_)
        | (refine store_rec 60 _ _ rfl rfl _ (Rec.vals x) (Rec.vals Mem.zero) 60 rfl rfl (RecAt.new _ _ _) size_mem21 rfl (Rec.one x) ?_; intro w7 hS7 hb7 hz7 hk7; clear hz7 hk7; have hb7 := rec_made (Below.refl _ _) hb7; have HM7 := Lib.hid (HM.out.up hb7); have HO7 := Lib.hid (own_kept HO.out hb7); have HG7 := Lib.hid (grown_trans HG.out (grown_any hb7 _)); have cG : w7.cell? ⟨(w.heap.size + 2), 5, none⟩ = some (.slice A k c) := HM7.out.cell 5; have cb : w7.cell? ⟨wr.heap.size, 0, none⟩ = some (.int .u64 (x.s.bal : Int)) := hS7.cell 0; clear hb7 hat hS7 HM HO HG)
        | (at_builtin; refine wpList_append_own _ rfl _ _ 25 rfl w1.heap.size 22 i0 (.int .u64 0) 1 8 Try.underlying25 hi0 hz0 hz1 hz2 rfl (by decide) _ _ _ rfl (HO7.out.alloc _) ⟨w7.heap.size, 0, none⟩ 1 1 [.int .u64 (x.s.bal : Int)] rfl rfl ?c1 ?c2 ?c3 ?c4 ?c5 ?_))
      case c1 => exact new_one _ _ _
      case c2 => intro u hu; simp at hu; subst hu; rfl
      case c3 => simp only [maxLen]; omega
      case c4 => omega
      case c5 => have := HG7.out.size; simp; omega
      intro v' w8 hown8 hgrow _
      have hM8 := ((HM7.out.up ((Below.refl _ _).alloc (Nat.le_refl _) (.cells #[.int .u64 (x.s.bal : Int)] 22))).grown hgrow (fun e => by have := (HO7.out.lt _ e.symm).1; omega))
      have hG8 := grown_then (grown_trans HG7.out (World.grownBy_alloc w7 (.cells #[.int .u64 (x.s.bal : Int)] 22) (some (w.heap.size + 2)))) hgrow (fun q e => (HO7.out.lt q e).1)
      obtain ⟨A', c', rfl, -, -, -⟩ := Row.of_own hown8
      have HM8 := Lib.hid hM8
      have HG8 := Lib.hid hG8
      have HO8 := Lib.hid hown8
      clear hgrow hown8 hM8 hG8 HO7 HG7 HM7 cG cb
      go_wp2_with (refine store_slot 25 _ _ rfl rfl _ 5 (mv s (.slice A k c) (.slice s.purses.A s.purses.l.length s.purses.c) (.slice none 0 0) (.slice none 0 0)) (mv s (.slice A' (k + 1) c') (.slice s.purses.A s.purses.l.length s.purses.c) (.slice none 0 0) (.slice none 0 0)) 38 (.slice A' (k + 1) c') rfl rfl HM8.out (by show 5 < 9; decide) rfl rfl size_words rfl ?_; intro w9 hM9 hb9 hz9 hk9; have hO9 := own_apart HO8.out (grown_but hb9 hk9) (fun q e => by have := (HO8.out.lt q e).1; simp; omega); have hG9 := grown_trans HG8.out (grown_but hb9 hk9); have HM9 := Lib.hid hM9; have HO9 := Lib.hid hO9; have HG9 := Lib.hid hG9; clear hM9 hO9 hG9 hb9 hz9 hk9 HM8 HO8 HG8)
      go_roundw
      case rel =>
        refine ⟨k + 1, A', c', by omega, by go_num, HM9, Lib.hid ?_, HG9⟩
        rw [HTK.out, u64s_more]
        exact HO9.out
      case measure => simp [intOf]; omega
    · obtain rfl : k = s.mems.l.length := by omega
      have hO := HO.out
      rw [show P0.take s.mems.l.length = P0 by rw [← HPN0.out, List.take_length]] at hO
      have HW0 := Lib.hid (words_new (W0 := w.heap.size) hO hB3 (by rw [HPN0.out]; omega) HPX0.out)
      have HS2 : Hid (RecAt wr w.heap.size (Rec.vals s) 34) := Lib.hid ((HG.out.block _ HS1.out.lt (by simp)).trans HS1.out)
      have HR2 : Hid (RecAt wr (w.heap.size + 1) (Rec.vals Mny.zero) 38) := Lib.hid ((HG.out.block _ HR1.out.lt (by simp)).trans HR1.out)
      have HPU2 := Lib.hid (HPU1.out.but HG.out (by omega) (by omega))
      have hB2 : Below w.heap.size w wr := hB1.trans (grown_to HG.out (Nat.le_add_right _ 2) (by omega))
      have hB3_1 : w.heap.size + 3 ≤ wr.heap.size := Nat.le_trans hB3 HG.out.size
      have HM2 := HM
      clear HM HO HG hO HS1 HR1 HPU1 HM1 hlt hk
      have c36 : wr.cell? ⟨w.heap.size, 36, none⟩ = some (.slice s.pool.A s.pool.l.length s.pool.c) := HS2.out.cell 36
      obtain ⟨w2, rfl⟩ : ∃ x : World, x = wr := ⟨_, rfl⟩
      obtain ⟨A5, c5, hAC⟩ : ∃ x y, x = A ∧ y = c := ⟨_, _, rfl, rfl⟩
      obtain ⟨rfl, rfl⟩ := hAC
      obtain ⟨P1, hP1⟩ : ∃ P, Hid (s.pool.l.map Dep.amt = P) := ⟨_, rfl⟩
      have hPn1 : P1.length = s.pool.l.length := by rw [← hP1.out]; simp [bals]
      have hPx1 : ∀ x ∈ P1, x ≤ 18446744073709551615 := by
        rw [← hP1.out]
        intro y hy
        obtain ⟨x, hx, rfl⟩ := List.mem_map.1 hy
        exact HS.out.dep x hx
      have HPN1 := Lib.hid hPn1
      have HPX1 := Lib.hid hPx1
      clear hPn1 hPx1
      go_wp2
      go_loopw [42] (fun iv wr => ∃ (k : Nat) (A : Option Addr) (c : Nat), k ≤ s.pool.l.length ∧ iv = .int .i64 (k : Int) ∧ Hid (RecAt wr (w.heap.size + 2) (mv s (.slice A5 s.mems.l.length c5) (.slice s.purses.A s.purses.l.length s.purses.c) (.slice A k c) (.slice none 0 0)) 38) ∧ Hid (wr.ownsRow w2.heap.size 22 1 (.slice A k c) k (u64s (P1.take k))) ∧ Hid (w2.grownBy wr (some (w.heap.size + 2)))) (fun iv _ => s.pool.l.length - (intOf iv).toNat)
      case atStart => exact ⟨0, none, 0, Nat.zero_le _, rfl, HM2, Lib.hid (World.ownsRow_nil _ _ _ _), Lib.hid (World.grownBy.refl _ _)⟩
      case round =>
        obtain ⟨k, A, c, hk, rfl, HM, HO, HG⟩ := hrel
        by_cases hlt : k < s.pool.l.length
        · obtain ⟨x, hx⟩ : ∃ x, s.pool.l[k]? = some x := ⟨_, List.getElem?_eq_getElem hlt⟩
          have hBw : Below w.heap.size w wr := hB2.trans (grown_to HG.out (Nat.le_add_right _ 2) (by omega))
          obtain ⟨a, ha, hab, hat0⟩ := rows_row (HS.out.pool.row.below hBw) hx
          rw [ha]
          have hat : LiesAt wr (a.add (k * 4)) (Rec.vals x) := hat0
          have htk : P1.take (k + 1) = P1.take k ++ [x.amt] := by
            rw [← hP1.out]
            have h := deps_take hx
            skip
            rw [← List.map_take, ← List.map_take]
            exact h
          have HTK := Lib.hid htk
          have hki : (k : Int) < (s.pool.l.length : Int) := by omega
          have hk0 : (0 : Int) ≤ (k : Int) := by omega
          have hGl : (w.heap.size + 2) < wr.heap.size := HM.out.lt
          clear htk hat0 hx hBw ha
          go_wp2_with (first
            | (refine load_rec 62 _ rfl rfl _ (Rec.vals x) rfl hat Try.underlying62 size_dep ?_)
            | (refine store_rec 62 _ _ rfl rfl _ (Rec.vals x) (Rec.vals Dep.zero) 62 rfl rfl (RecAt.new _ _ _) size_dep rfl (Rec.one x) ?_; intro w7 hS7 hb7 hz7 hk7; clear hz7 hk7; have hb7 := rec_made (Below.refl _ _) hb7; have HM7 := Lib.hid (HM.out.up hb7); have HO7 := Lib.hid (own_kept HO.out hb7); have HG7 := Lib.hid (grown_trans HG.out (grown_any hb7 _)); have cG : w7.cell? ⟨(w.heap.size + 2), 7, none⟩ = some (.slice A k c) := HM7.out.cell 7; have cb : w7.cell? ⟨wr.heap.size, 2, none⟩ = some (.int .u64 (x.amt : Int)) := hS7.cell 2; clear hb7 hat hS7 HM HO HG)
            | (at_builtin; refine wpList_append_own _ rfl _ _ 25 rfl w2.heap.size 22 i0 (.int .u64 0) 1 8 Try.underlying25 hi0 hz0 hz1 hz2 rfl (by decide) _ _ _ rfl (HO7.out.alloc _) ⟨w7.heap.size, 0, none⟩ 1 1 [.int .u64 (x.amt : Int)] rfl rfl ?c1 ?c2 ?c3 ?c4 ?c5 ?_))
          case c1 => exact new_one _ _ _
          case c2 => intro u hu; simp at hu; subst hu; rfl
          case c3 => simp only [maxLen]; omega
          case c4 => omega
          case c5 => have := HG7.out.size; simp; omega
          intro v' w8 hown8 hgrow _
          have hM8 := ((HM7.out.up ((Below.refl _ _).alloc (Nat.le_refl _) (.cells #[.int .u64 (x.amt : Int)] 22))).grown hgrow (fun e => by have := (HO7.out.lt _ e.symm).1; omega))
          have hG8 := grown_then (grown_trans HG7.out (World.grownBy_alloc w7 (.cells #[.int .u64 (x.amt : Int)] 22) (some (w.heap.size + 2)))) hgrow (fun q e => (HO7.out.lt q e).1)
          obtain ⟨A', c', rfl, -, -, -⟩ := Row.of_own hown8
          have HM8 := Lib.hid hM8
          have HG8 := Lib.hid hG8
          have HO8 := Lib.hid hown8
          clear hgrow hown8 hM8 hG8 HO7 HG7 HM7 cG cb
          go_wp2_with (refine store_slot 25 _ _ rfl rfl _ 7 (mv s (.slice A5 s.mems.l.length c5) (.slice s.purses.A s.purses.l.length s.purses.c) (.slice A k c) (.slice none 0 0)) (mv s (.slice A5 s.mems.l.length c5) (.slice s.purses.A s.purses.l.length s.purses.c) (.slice A' (k + 1) c') (.slice none 0 0)) 38 (.slice A' (k + 1) c') rfl rfl HM8.out (by show 7 < 9; decide) rfl rfl size_words rfl ?_; intro w9 hM9 hb9 hz9 hk9; have hO9 := own_apart HO8.out (grown_but hb9 hk9) (fun q e => by have := (HO8.out.lt q e).1; simp; omega); have hG9 := grown_trans HG8.out (grown_but hb9 hk9); have HM9 := Lib.hid hM9; have HO9 := Lib.hid hO9; have HG9 := Lib.hid hG9; clear hM9 hO9 hG9 hb9 hz9 hk9 HM8 HO8 HG8)
          go_roundw
          case rel =>
            refine ⟨k + 1, A', c', by omega, by go_num, HM9, Lib.hid ?_, HG9⟩
            rw [HTK.out, u64s_more]
            exact HO9.out
          case measure => simp [intOf]; omega
        · obtain rfl : k = s.pool.l.length := by omega
          have hO := HO.out
          rw [show P1.take s.pool.l.length = P1 by rw [← HPN1.out, List.take_length]] at hO
          have HW1 := Lib.hid (words_new (W0 := w.heap.size) hO hB3_1 (by rw [HPN1.out]; omega) HPX1.out)
          have HS3 : Hid (RecAt wr w.heap.size (Rec.vals s) 34) := Lib.hid ((HG.out.block _ HS2.out.lt (by simp)).trans HS2.out)
          have HR3 : Hid (RecAt wr (w.heap.size + 1) (Rec.vals Mny.zero) 38) := Lib.hid ((HG.out.block _ HR2.out.lt (by simp)).trans HR2.out)
          have HPU3 := Lib.hid (HPU2.out.but HG.out (by omega) (by omega))
          have HW0 := Lib.hid (HW0.out.but HG.out (by omega) (by omega))
          have hB3 : Below w.heap.size w wr := hB2.trans (grown_to HG.out (Nat.le_add_right _ 2) (by omega))
          have hB3_2 : w.heap.size + 3 ≤ wr.heap.size := Nat.le_trans hB3_1 HG.out.size
          have HM3 := HM
          clear HM HO HG hO HS2 HR2 HPU2 HM2 hlt hk
          have c37 : wr.cell? ⟨w.heap.size, 37, none⟩ = some (.slice s.dues.A s.dues.l.length s.dues.c) := HS3.out.cell 37
          obtain ⟨w3, rfl⟩ : ∃ x : World, x = wr := ⟨_, rfl⟩
          obtain ⟨A7, c7, hAC⟩ : ∃ x y, x = A ∧ y = c := ⟨_, _, rfl, rfl⟩
          obtain ⟨rfl, rfl⟩ := hAC
          obtain ⟨P2, hP2⟩ : ∃ P, Hid (s.dues.l.map Due.amt = P) := ⟨_, rfl⟩
          have hPn2 : P2.length = s.dues.l.length := by rw [← hP2.out]; simp [bals]
          have hPx2 : ∀ x ∈ P2, x ≤ 18446744073709551615 := by
            rw [← hP2.out]
            intro y hy
            obtain ⟨x, hx, rfl⟩ := List.mem_map.1 hy
            exact HS.out.due x hx
          have HPN2 := Lib.hid hPn2
          have HPX2 := Lib.hid hPx2
          clear hPn2 hPx2
          go_wp2
          go_loopw [57] (fun iv wr => ∃ (k : Nat) (A : Option Addr) (c : Nat), k ≤ s.dues.l.length ∧ iv = .int .i64 (k : Int) ∧ Hid (RecAt wr (w.heap.size + 2) (mv s (.slice A5 s.mems.l.length c5) (.slice s.purses.A s.purses.l.length s.purses.c) (.slice A7 s.pool.l.length c7) (.slice A k c)) 38) ∧ Hid (wr.ownsRow w3.heap.size 22 1 (.slice A k c) k (u64s (P2.take k))) ∧ Hid (w3.grownBy wr (some (w.heap.size + 2)))) (fun iv _ => s.dues.l.length - (intOf iv).toNat)
          case atStart => exact ⟨0, none, 0, Nat.zero_le _, rfl, HM3, Lib.hid (World.ownsRow_nil _ _ _ _), Lib.hid (World.grownBy.refl _ _)⟩
          case round =>
            obtain ⟨k, A, c, hk, rfl, HM, HO, HG⟩ := hrel
            by_cases hlt : k < s.dues.l.length
            · obtain ⟨x, hx⟩ : ∃ x, s.dues.l[k]? = some x := ⟨_, List.getElem?_eq_getElem hlt⟩
              have hBw : Below w.heap.size w wr := hB3.trans (grown_to HG.out (Nat.le_add_right _ 2) (by omega))
              obtain ⟨a, ha, hab, hat0⟩ := rows_row (HS.out.dues.row.below hBw) hx
              rw [ha]
              have hat : LiesAt wr (a.add (k * 3)) (Rec.vals x) := hat0
              have htk : P2.take (k + 1) = P2.take k ++ [x.amt] := by
                rw [← hP2.out]
                have h := dues_take hx
                skip
                rw [← List.map_take, ← List.map_take]
                exact h
              have HTK := Lib.hid htk
              have hki : (k : Int) < (s.dues.l.length : Int) := by omega
              have hk0 : (0 : Int) ≤ (k : Int) := by omega
              have hGl : (w.heap.size + 2) < wr.heap.size := HM.out.lt
              clear htk hat0 hx hBw ha
              go_wp2_with (first
                | (refine load_rec 64 _ rfl rfl _ (Rec.vals x) rfl hat Try.underlying64 size_due ?_)
                | (refine store_rec 64 _ _ rfl rfl _ (Rec.vals x) (Rec.vals Due.zero) 64 rfl rfl (RecAt.new _ _ _) size_due rfl (Rec.one x) ?_; intro w7 hS7 hb7 hz7 hk7; clear hz7 hk7; have hb7 := rec_made (Below.refl _ _) hb7; have HM7 := Lib.hid (HM.out.up hb7); have HO7 := Lib.hid (own_kept HO.out hb7); have HG7 := Lib.hid (grown_trans HG.out (grown_any hb7 _)); have cG : w7.cell? ⟨(w.heap.size + 2), 8, none⟩ = some (.slice A k c) := HM7.out.cell 8; have cb : w7.cell? ⟨wr.heap.size, 2, none⟩ = some (.int .u64 (x.amt : Int)) := hS7.cell 2; clear hb7 hat hS7 HM HO HG)
                | (at_builtin; refine wpList_append_own _ rfl _ _ 25 rfl w3.heap.size 22 i0 (.int .u64 0) 1 8 Try.underlying25 hi0 hz0 hz1 hz2 rfl (by decide) _ _ _ rfl (HO7.out.alloc _) ⟨w7.heap.size, 0, none⟩ 1 1 [.int .u64 (x.amt : Int)] rfl rfl ?c1 ?c2 ?c3 ?c4 ?c5 ?_))
              case c1 => exact new_one _ _ _
              case c2 => intro u hu; simp at hu; subst hu; rfl
              case c3 => simp only [maxLen]; omega
              case c4 => omega
              case c5 => have := HG7.out.size; simp; omega
              intro v' w8 hown8 hgrow _
              have hM8 := ((HM7.out.up ((Below.refl _ _).alloc (Nat.le_refl _) (.cells #[.int .u64 (x.amt : Int)] 22))).grown hgrow (fun e => by have := (HO7.out.lt _ e.symm).1; omega))
              have hG8 := grown_then (grown_trans HG7.out (World.grownBy_alloc w7 (.cells #[.int .u64 (x.amt : Int)] 22) (some (w.heap.size + 2)))) hgrow (fun q e => (HO7.out.lt q e).1)
              obtain ⟨A', c', rfl, -, -, -⟩ := Row.of_own hown8
              have HM8 := Lib.hid hM8
              have HG8 := Lib.hid hG8
              have HO8 := Lib.hid hown8
              clear hgrow hown8 hM8 hG8 HO7 HG7 HM7 cG cb
              go_wp2_with (refine store_slot 25 _ _ rfl rfl _ 8 (mv s (.slice A5 s.mems.l.length c5) (.slice s.purses.A s.purses.l.length s.purses.c) (.slice A7 s.pool.l.length c7) (.slice A k c)) (mv s (.slice A5 s.mems.l.length c5) (.slice s.purses.A s.purses.l.length s.purses.c) (.slice A7 s.pool.l.length c7) (.slice A' (k + 1) c')) 38 (.slice A' (k + 1) c') rfl rfl HM8.out (by show 8 < 9; decide) rfl rfl size_words rfl ?_; intro w9 hM9 hb9 hz9 hk9; have hO9 := own_apart HO8.out (grown_but hb9 hk9) (fun q e => by have := (HO8.out.lt q e).1; simp; omega); have hG9 := grown_trans HG8.out (grown_but hb9 hk9); have HM9 := Lib.hid hM9; have HO9 := Lib.hid hO9; have HG9 := Lib.hid hG9; clear hM9 hO9 hG9 hb9 hz9 hk9 HM8 HO8 HG8)
              go_roundw
              case rel =>
                refine ⟨k + 1, A', c', by omega, by go_num, HM9, Lib.hid ?_, HG9⟩
                rw [HTK.out, u64s_more]
                exact HO9.out
              case measure => simp [intOf]; omega
            · obtain rfl : k = s.dues.l.length := by omega
              have hO := HO.out
              rw [show P2.take s.dues.l.length = P2 by rw [← HPN2.out, List.take_length]] at hO
              have HW2 := Lib.hid (words_new (W0 := w.heap.size) hO hB3_2 (by rw [HPN2.out]; omega) HPX2.out)
              have HS4 : Hid (RecAt wr w.heap.size (Rec.vals s) 34) := Lib.hid ((HG.out.block _ HS3.out.lt (by simp)).trans HS3.out)
              have HR4 : Hid (RecAt wr (w.heap.size + 1) (Rec.vals Mny.zero) 38) := Lib.hid ((HG.out.block _ HR3.out.lt (by simp)).trans HR3.out)
              have HPU4 := Lib.hid (HPU3.out.but HG.out (by omega) (by omega))
              have HW0 := Lib.hid (HW0.out.but HG.out (by omega) (by omega))
              have HW1 := Lib.hid (HW1.out.but HG.out (by omega) (by omega))
              have hB4 : Below w.heap.size w wr := hB3.trans (grown_to HG.out (Nat.le_add_right _ 2) (by omega))
              have hB3_3 : w.heap.size + 3 ≤ wr.heap.size := Nat.le_trans hB3_2 HG.out.size
              have HM4 := HM
              clear HM HO HG hO HS3 HR3 HPU3 HM3 hlt hk
              obtain ⟨w4, rfl⟩ : ∃ x : World, x = wr := ⟨_, rfl⟩
              obtain ⟨A8, c8, hAC⟩ : ∃ x y, x = A ∧ y = c := ⟨_, _, rfl, rfl⟩
              obtain ⟨rfl, rfl⟩ := hAC
              obtain ⟨m, hm⟩ : ∃ m : Mny, m = ⟨s.most, s.gen, s.mint, s.burn, s.treas, ⟨P0, A5, c5⟩, s.purses, ⟨P1, A7, c7⟩, ⟨P2, A8, c8⟩⟩ := ⟨_, rfl⟩
              have hmv : Hid (mv s (.slice A5 s.mems.l.length c5) (.slice s.purses.A s.purses.l.length s.purses.c) (.slice A7 s.pool.l.length c7) (.slice A8 s.dues.l.length c8) = Rec.vals m) := Lib.hid (by rw [hm, ← HPN0.out, ← HPN1.out, ← HPN2.out]; rfl)
              have hMm : RecAt w4 (w.heap.size + 2) (Rec.vals m) 38 := by rw [← hmv.out]; exact HM4.out
              have hOf : Hid (MnyOf s m) := Lib.hid (by
                rw [hm]
                exact ⟨rfl, rfl, rfl, rfl, rfl, hP0.out.symm, rfl, hP1.out.symm, hP2.out.symm⟩)
              have hAt : Hid (∀ W, w4.grownBy W (some (w.heap.size + 1)) → MnyAt W m) := Lib.hid (fun W hW => by
                have h1 := (HPU4.out.but hW (by omega) (by omega)).words
                have h2 := (HW0.out.but hW (by omega) (by omega)).words
                have h3 := (HW1.out.but hW (by omega) (by omega)).words
                have h4 := (HW2.out.but hW (by omega) (by omega)).words
                have g1 := HS.out.most
                have g2 := HS.out.gen
                have g3 := HS.out.mint
                have g4 := HS.out.burn
                have g5 := HS.out.treas
                rw [hm]
                exact ⟨by show s.most ≤ _; omega, by show s.gen ≤ _; omega, by show s.mint ≤ _; omega, by show s.burn ≤ _; omega, by show s.treas ≤ _; omega, h2, h1, h3, h4⟩)
              clear hm hmv HM4 HPU4 HW0 HW1 HW2 HS hP0 hP1 hP2
              go_wp2_with (first
                | (refine load_rec 38 _ rfl rfl _ (Rec.vals m) rfl hMm.lies Try.underlying38 size_mny ?_)
                | (refine store_rec 38 _ _ rfl rfl _ (Rec.vals m) (Rec.vals Mny.zero) 38 rfl rfl HR4.out size_mny rfl (Rec.one m) ?_; intro w9 hR9 hb9 hz9 hk9; have hG9 := grown_but hb9 hk9; have hB9 := hB4.trans (hb9.mono (by omega)); clear hb9 hz9 hk9))
              refine bodyPost_ret (res_rec1 _ Try.results7 rfl hR9 Try.underlying38 size_mny) rfl ⟨m, rfl, hOf.out, hAt.out _ hG9, hB9⟩
end Go.Proofs.Ytoaeckfppoaljaa
