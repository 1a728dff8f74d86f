/- Layer 8 (deed): a right deed is put behind what was written. By contracts. -/
import Derived.Test.YtokaclacejhppaaDeedE
import Derived.Test.YtokaclacejhppaaParG
namespace Go.Proofs.Ytokaclacejhppaa
open Go.RowKit
set_option linter.unusedVariables false
set_option linter.unusedSimpArgs false

/-- A deed in block g, beside a writer in block b that has written so since w0. -/
structure PutAt (w0 : World) (b : Nat) (F0 : Nat → Prop) (g : Nat) (d : Dd) (A : Option Addr) (c : Nat) (s : List Nat × Nat) (w : World) : Prop where
  deed : DeedAt w g d A c 39
  left : Left w0 b F0 s w
  gb : g ≠ b
  lies : Lies w (· ≠ b) A d.bits
  room : d.bits.length ≤ c
  most : c ≤ maxLen

theorem PutAt.step {w0 w w' : World} {b g c : Nat} {F0 F : Nat → Prop} {d : Dd} {A : Option Addr} {s s' : List Nat × Nat} (h : PutAt w0 b F0 g d A c s w) (hF : ∀ k, F k → F0 k ∨ w0.heap.size ≤ k) (hL : Left w b F s' w') : PutAt w0 b F0 g d A c s' w' :=
  ⟨h.deed.grown hL.2 (fun e => by injection e with e; exact h.gb e), Left.from h.left.2 hF hL, h.gb, h.lies.grown hL.2 (fun k hk e => by injection e with e; exact hk e), h.room, h.most⟩
theorem PutAt.next {w0 w w' : World} {b g c : Nat} {F0 : Nat → Prop} {d : Dd} {A : Option Addr} {s : List Nat × Nat} (h : PutAt w0 b F0 g d A c s w) (hb : Below w.heap.size w w') : PutAt w0 b F0 g d A c s w' := by
  obtain ⟨F, hW, hF⟩ := h.left.1
  exact h.step hF ⟨⟨F, hW.below hb, fun k hk => .inl hk⟩, grown_below hb _⟩

theorem PutAt.num {w0 w : World} {b g c : Nat} {F0 : Nat → Prop} {d : Dd} {A : Option Addr} {s : List Nat × Nat} (h : PutAt w0 b F0 g d A c s w) (n : Nat) (hn : n < 18446744073709551616) :
    Calls Try.prog 52 #[.pointer (some ⟨b, 0, none⟩), .int .u64 (n : Int)] w fun e w' => e = .returned (.tuple #[]) ∧ PutAt w0 b F0 g d A c (wput s (form n)) w' := by
  obtain ⟨F, hW, hF⟩ := h.left.1
  exact (num_is b F s n w hW hn).mono (by rintro e w' ⟨rfl, hL⟩; exact ⟨rfl, h.step hF hL⟩)
theorem PutAt.int {w0 w : World} {b g c : Nat} {F0 : Nat → Prop} {d : Dd} {A : Option Addr} {s : List Nat × Nat} (h : PutAt w0 b F0 g d A c s w) (i : Int) (h0 : 0 ≤ i) (h1 : i ≤ 9223372036854775807) :
    Calls Try.prog 14 #[.pointer (some ⟨b, 0, none⟩), .int .i64 i] w fun e w' => e = .returned (.tuple #[]) ∧ PutAt w0 b F0 g d A c (wput s (form i.toNat)) w' := by
  obtain ⟨F, hW, hF⟩ := h.left.1
  have k := int_is b F s i w hW (by omega) h1
  have e : wint s i = wput s (form i.toNat) := by unfold wint; rw [if_neg (by omega)]
  rw [e] at k
  exact k.mono (by rintro e w' ⟨rfl, hL⟩; exact ⟨rfl, h.step hF hL⟩)
theorem PutAt.flag {w0 w : World} {b g c : Nat} {F0 : Nat → Prop} {d : Dd} {A : Option Addr} {s : List Nat × Nat} (h : PutAt w0 b F0 g d A c s w) (y : Bool) :
    Calls Try.prog 53 #[.pointer (some ⟨b, 0, none⟩), .bool y] w fun e w' => e = .returned (.tuple #[]) ∧ PutAt w0 b F0 g d A c (wput s (form (if y then 1 else 0))) w' := by
  obtain ⟨F, hW, hF⟩ := h.left.1
  exact (flag_is b F s y w hW).mono (by rintro e w' ⟨rfl, hL⟩; exact ⟨rfl, h.step hF hL⟩)
theorem PutAt.raw {w0 w : World} {b g c : Nat} {F0 : Nat → Prop} {d : Dd} {A : Option Addr} {s : List Nat × Nat} (h : PutAt w0 b F0 g d A c s w) :
    Calls Try.prog 50 #[.pointer (some ⟨b, 0, none⟩), .slice A d.bits.length c] w fun e w' => e = .returned (.tuple #[]) ∧ PutAt w0 b F0 g d A c (wput s (form d.bits.length ++ d.bits)) w' := by
  obtain ⟨F, hW, hF⟩ := h.left.1
  exact (raw_is b F s d.bits A c w hW h.lies h.room h.most).mono (by rintro e w' ⟨rfl, hL⟩; exact ⟨rfl, h.step hF hL⟩)
theorem PutAt.par {w0 w : World} {b g c : Nat} {F0 : Nat → Prop} {d : Dd} {A : Option Addr} {s : List Nat × Nat} (h : PutAt w0 b F0 g d A c s w) (N : Nat) (hp : Par.Right d.par N) (hf : d.par.Fits) :
    Calls Try.prog 51 #[.pointer (some ⟨b, 0, none⟩), .agg d.par.vals] w fun e w' => e = .returned (.int .i64 0) ∧ PutAt w0 b F0 g d A c (wall s d.par.nums) w' := by
  obtain ⟨F, hW, hF⟩ := h.left.1
  exact (pwrite_is b F s d.par N w hp hf hW).mono (by rintro e w' ⟨rfl, hL⟩; exact ⟨rfl, h.step hF hL⟩)
theorem wall_wputs (s : List Nat × Nat) (l : List Nat) : wall s l = wputs s (l.map form) := by
  unfold wall wputs
  rw [List.foldl_map]
theorem wputs_append (s : List Nat × Nat) (l r : List (List Nat)) : wputs s (l ++ r) = wputs (wputs s l) r := by unfold wputs; rw [List.foldl_append]

set_option maxRecDepth 100000 in
set_option maxHeartbeats 2000000 in
theorem put_send (b : Nat) (F : Nat → Prop) (s : List Nat × Nat) (a t m : Nat) (A : Option Addr) (c : Nat) (w : World) (hW : Writes w b F s) (hx : Lies w (· ≠ b) A (Dd.bits ⟨1, a, 0, t, m, 0, [], 0, Par.none, 0, false⟩)) (hr : (Dd.bits ⟨1, a, 0, t, m, 0, [], 0, Par.none, 0, false⟩).length ≤ c) (hm : c ≤ maxLen) (h0 : a ≤ 63) (h1 : t ≤ 63) (h3 : m ≤ 4611686018427387904) :
    Calls Try.prog 31 #[.pointer (some ⟨b, 0, none⟩), .agg (Dd.vals ⟨1, a, 0, t, m, 0, [], 0, Par.none, 0, false⟩ A c)] w fun e w' => e = .returned (.tuple #[]) ∧ Left w b F (wputs s (Dd.parts ⟨1, a, 0, t, m, 0, [], 0, Par.none, 0, false⟩)) w' := by
  have hbl := hW.lt
  have hB : Below w.heap.size w (w.alloc (.cells (Dd.vals ⟨1, a, 0, t, m, 0, [], 0, Par.none, 0, false⟩ A c) 39)) := (Below.refl _ _).alloc (Nat.le_refl _) _
  have hp : PutAt w b F w.heap.size ⟨1, a, 0, t, m, 0, [], 0, Par.none, 0, false⟩ A c s (w.alloc (.cells (Dd.vals ⟨1, a, 0, t, m, 0, [], 0, Par.none, 0, false⟩ A c) 39)) := ⟨DeedAt.new w _ A c _, ⟨⟨F, hW.below hB, fun k hk => .inl hk⟩, grown_below hB _⟩, by omega, hx.grown (grown_below hB none) (by simp), hr, hm⟩
  have ku := fun w => (used1 ⟨1, a, 0, t, m, 0, [], 0, Par.none, 0, false⟩ A c w rfl)
  have kh1 : ∀ w, Calls Try.prog 47 #[.int .i64 97, .int .i64 1] w fun e w' => e = .returned (.bool true) ∧ w = w' := fun w => by have := has_is 97 1 w; rwa [hb97_1] at this
  have kh2 : ∀ w, Calls Try.prog 47 #[.int .i64 97, .int .i64 2] w fun e w' => e = .returned (.bool false) ∧ w = w' := fun w => by have := has_is 97 2 w; rwa [hb97_2] at this
  have kh4 : ∀ w, Calls Try.prog 47 #[.int .i64 97, .int .i64 4] w fun e w' => e = .returned (.bool false) ∧ w = w' := fun w => by have := has_is 97 4 w; rwa [hb97_4] at this
  have kh8 : ∀ w, Calls Try.prog 47 #[.int .i64 97, .int .i64 8] w fun e w' => e = .returned (.bool false) ∧ w = w' := fun w => by have := has_is 97 8 w; rwa [hb97_8] at this
  have kh16 : ∀ w, Calls Try.prog 47 #[.int .i64 97, .int .i64 16] w fun e w' => e = .returned (.bool false) ∧ w = w' := fun w => by have := has_is 97 16 w; rwa [hb97_16] at this
  have kh32 : ∀ w, Calls Try.prog 47 #[.int .i64 97, .int .i64 32] w fun e w' => e = .returned (.bool true) ∧ w = w' := fun w => by have := has_is 97 32 w; rwa [hb97_32] at this
  have kh64 : ∀ w, Calls Try.prog 47 #[.int .i64 97, .int .i64 64] w fun e w' => e = .returned (.bool true) ∧ w = w' := fun w => by have := has_is 97 64 w; rwa [hb97_64] at this
  have kh128 : ∀ w, Calls Try.prog 47 #[.int .i64 97, .int .i64 128] w fun e w' => e = .returned (.bool false) ∧ w = w' := fun w => by have := has_is 97 128 w; rwa [hb97_128] at this
  clear hW hx hr hm hB
  have cs := hp.deed.cells
  dsimp only at cs
  obtain ⟨c0, c1, c2, c3, c4, c5, c6, c7, c32, c33⟩ := cs
  go_enter Try.func31, Try.ntmps31
  go_wp2_with (first
    | (refine load_deed _ rfl rfl _ _ A c _ rfl hp.deed ?_)
    | (refine load_pars _ rfl rfl _ _ A c _ rfl hp.deed ?_)
    | (go_at_call 45; refine (ku _).mono ?_; clear ku; rintro e w' ⟨rfl, hb'⟩; replace hp := hp.next hb'; clear hb'; have cs := hp.deed.cells; dsimp only at cs; clear c0 c1 c2 c3 c4 c5 c6 c7 c32 c33; obtain ⟨c0, c1, c2, c3, c4, c5, c6, c7, c32, c33⟩ := cs)
    | (go_at_call 47; refine (kh1 _).mono ?_; clear kh1; rintro e w' ⟨rfl, rfl⟩)
    | (go_at_call 47; refine (kh2 _).mono ?_; clear kh2; rintro e w' ⟨rfl, rfl⟩)
    | (go_at_call 47; refine (kh4 _).mono ?_; clear kh4; rintro e w' ⟨rfl, rfl⟩)
    | (go_at_call 47; refine (kh8 _).mono ?_; clear kh8; rintro e w' ⟨rfl, rfl⟩)
    | (go_at_call 47; refine (kh16 _).mono ?_; clear kh16; rintro e w' ⟨rfl, rfl⟩)
    | (go_at_call 47; refine (kh32 _).mono ?_; clear kh32; rintro e w' ⟨rfl, rfl⟩)
    | (go_at_call 47; refine (kh64 _).mono ?_; clear kh64; rintro e w' ⟨rfl, rfl⟩)
    | (go_at_call 47; refine (kh128 _).mono ?_; clear kh128; rintro e w' ⟨rfl, rfl⟩)
    | (go_at_call 14; refine (hp.int _ (by omega) (by omega)).mono ?_; clear hp; rintro e w' ⟨rfl, hp⟩; have cs := hp.deed.cells; dsimp only at cs; clear c0 c1 c2 c3 c4 c5 c6 c7 c32 c33; obtain ⟨c0, c1, c2, c3, c4, c5, c6, c7, c32, c33⟩ := cs)
    | (go_at_call 52; refine (hp.num _ (by omega)).mono ?_; clear hp; rintro e w' ⟨rfl, hp⟩; have cs := hp.deed.cells; dsimp only at cs; clear c0 c1 c2 c3 c4 c5 c6 c7 c32 c33; obtain ⟨c0, c1, c2, c3, c4, c5, c6, c7, c32, c33⟩ := cs)
    | (go_at_call 53; refine (hp.flag _).mono ?_; clear hp; rintro e w' ⟨rfl, hp⟩; have cs := hp.deed.cells; dsimp only at cs; clear c0 c1 c2 c3 c4 c5 c6 c7 c32 c33; obtain ⟨c0, c1, c2, c3, c4, c5, c6, c7, c32, c33⟩ := cs)
    | (go_at_call 50; refine hp.raw.mono ?_; clear hp; rintro e w' ⟨rfl, hp⟩; have cs := hp.deed.cells; dsimp only at cs; clear c0 c1 c2 c3 c4 c5 c6 c7 c32 c33; obtain ⟨c0, c1, c2, c3, c4, c5, c6, c7, c32, c33⟩ := cs))
  go_end0
  rw [parts_send]
  exact ⟨rfl, hp.left⟩
set_option maxRecDepth 100000 in
set_option maxHeartbeats 2000000 in
theorem put_stake (b : Nat) (F : Nat → Prop) (s : List Nat × Nat) (a m : Nat) (A : Option Addr) (c : Nat) (w : World) (hW : Writes w b F s) (hx : Lies w (· ≠ b) A (Dd.bits ⟨2, a, 0, 0, m, 0, [], 0, Par.none, 0, false⟩)) (hr : (Dd.bits ⟨2, a, 0, 0, m, 0, [], 0, Par.none, 0, false⟩).length ≤ c) (hm : c ≤ maxLen) (h0 : a ≤ 63) (h3 : m ≤ 4611686018427387904) :
    Calls Try.prog 31 #[.pointer (some ⟨b, 0, none⟩), .agg (Dd.vals ⟨2, a, 0, 0, m, 0, [], 0, Par.none, 0, false⟩ A c)] w fun e w' => e = .returned (.tuple #[]) ∧ Left w b F (wputs s (Dd.parts ⟨2, a, 0, 0, m, 0, [], 0, Par.none, 0, false⟩)) w' := by
  have hbl := hW.lt
  have hB : Below w.heap.size w (w.alloc (.cells (Dd.vals ⟨2, a, 0, 0, m, 0, [], 0, Par.none, 0, false⟩ A c) 39)) := (Below.refl _ _).alloc (Nat.le_refl _) _
  have hp : PutAt w b F w.heap.size ⟨2, a, 0, 0, m, 0, [], 0, Par.none, 0, false⟩ A c s (w.alloc (.cells (Dd.vals ⟨2, a, 0, 0, m, 0, [], 0, Par.none, 0, false⟩ A c) 39)) := ⟨DeedAt.new w _ A c _, ⟨⟨F, hW.below hB, fun k hk => .inl hk⟩, grown_below hB _⟩, by omega, hx.grown (grown_below hB none) (by simp), hr, hm⟩
  have ku := fun w => (used2 ⟨2, a, 0, 0, m, 0, [], 0, Par.none, 0, false⟩ A c w rfl)
  have kh1 : ∀ w, Calls Try.prog 47 #[.int .i64 65, .int .i64 1] w fun e w' => e = .returned (.bool true) ∧ w = w' := fun w => by have := has_is 65 1 w; rwa [hb65_1] at this
  have kh2 : ∀ w, Calls Try.prog 47 #[.int .i64 65, .int .i64 2] w fun e w' => e = .returned (.bool false) ∧ w = w' := fun w => by have := has_is 65 2 w; rwa [hb65_2] at this
  have kh4 : ∀ w, Calls Try.prog 47 #[.int .i64 65, .int .i64 4] w fun e w' => e = .returned (.bool false) ∧ w = w' := fun w => by have := has_is 65 4 w; rwa [hb65_4] at this
  have kh8 : ∀ w, Calls Try.prog 47 #[.int .i64 65, .int .i64 8] w fun e w' => e = .returned (.bool false) ∧ w = w' := fun w => by have := has_is 65 8 w; rwa [hb65_8] at this
  have kh16 : ∀ w, Calls Try.prog 47 #[.int .i64 65, .int .i64 16] w fun e w' => e = .returned (.bool false) ∧ w = w' := fun w => by have := has_is 65 16 w; rwa [hb65_16] at this
  have kh32 : ∀ w, Calls Try.prog 47 #[.int .i64 65, .int .i64 32] w fun e w' => e = .returned (.bool false) ∧ w = w' := fun w => by have := has_is 65 32 w; rwa [hb65_32] at this
  have kh64 : ∀ w, Calls Try.prog 47 #[.int .i64 65, .int .i64 64] w fun e w' => e = .returned (.bool true) ∧ w = w' := fun w => by have := has_is 65 64 w; rwa [hb65_64] at this
  have kh128 : ∀ w, Calls Try.prog 47 #[.int .i64 65, .int .i64 128] w fun e w' => e = .returned (.bool false) ∧ w = w' := fun w => by have := has_is 65 128 w; rwa [hb65_128] at this
  clear hW hx hr hm hB
  have cs := hp.deed.cells
  dsimp only at cs
  obtain ⟨c0, c1, c2, c3, c4, c5, c6, c7, c32, c33⟩ := cs
  go_enter Try.func31, Try.ntmps31
  go_wp2_with (first
    | (refine load_deed _ rfl rfl _ _ A c _ rfl hp.deed ?_)
    | (refine load_pars _ rfl rfl _ _ A c _ rfl hp.deed ?_)
    | (go_at_call 45; refine (ku _).mono ?_; clear ku; rintro e w' ⟨rfl, hb'⟩; replace hp := hp.next hb'; clear hb'; have cs := hp.deed.cells; dsimp only at cs; clear c0 c1 c2 c3 c4 c5 c6 c7 c32 c33; obtain ⟨c0, c1, c2, c3, c4, c5, c6, c7, c32, c33⟩ := cs)
    | (go_at_call 47; refine (kh1 _).mono ?_; clear kh1; rintro e w' ⟨rfl, rfl⟩)
    | (go_at_call 47; refine (kh2 _).mono ?_; clear kh2; rintro e w' ⟨rfl, rfl⟩)
    | (go_at_call 47; refine (kh4 _).mono ?_; clear kh4; rintro e w' ⟨rfl, rfl⟩)
    | (go_at_call 47; refine (kh8 _).mono ?_; clear kh8; rintro e w' ⟨rfl, rfl⟩)
    | (go_at_call 47; refine (kh16 _).mono ?_; clear kh16; rintro e w' ⟨rfl, rfl⟩)
    | (go_at_call 47; refine (kh32 _).mono ?_; clear kh32; rintro e w' ⟨rfl, rfl⟩)
    | (go_at_call 47; refine (kh64 _).mono ?_; clear kh64; rintro e w' ⟨rfl, rfl⟩)
    | (go_at_call 47; refine (kh128 _).mono ?_; clear kh128; rintro e w' ⟨rfl, rfl⟩)
    | (go_at_call 14; refine (hp.int _ (by omega) (by omega)).mono ?_; clear hp; rintro e w' ⟨rfl, hp⟩; have cs := hp.deed.cells; dsimp only at cs; clear c0 c1 c2 c3 c4 c5 c6 c7 c32 c33; obtain ⟨c0, c1, c2, c3, c4, c5, c6, c7, c32, c33⟩ := cs)
    | (go_at_call 52; refine (hp.num _ (by omega)).mono ?_; clear hp; rintro e w' ⟨rfl, hp⟩; have cs := hp.deed.cells; dsimp only at cs; clear c0 c1 c2 c3 c4 c5 c6 c7 c32 c33; obtain ⟨c0, c1, c2, c3, c4, c5, c6, c7, c32, c33⟩ := cs)
    | (go_at_call 53; refine (hp.flag _).mono ?_; clear hp; rintro e w' ⟨rfl, hp⟩; have cs := hp.deed.cells; dsimp only at cs; clear c0 c1 c2 c3 c4 c5 c6 c7 c32 c33; obtain ⟨c0, c1, c2, c3, c4, c5, c6, c7, c32, c33⟩ := cs)
    | (go_at_call 50; refine hp.raw.mono ?_; clear hp; rintro e w' ⟨rfl, hp⟩; have cs := hp.deed.cells; dsimp only at cs; clear c0 c1 c2 c3 c4 c5 c6 c7 c32 c33; obtain ⟨c0, c1, c2, c3, c4, c5, c6, c7, c32, c33⟩ := cs))
  go_end0
  rw [parts_stake]
  exact ⟨rfl, hp.left⟩
set_option maxRecDepth 100000 in
set_option maxHeartbeats 2000000 in
theorem put_top (b : Nat) (F : Nat → Prop) (s : List Nat × Nat) (a b' m : Nat) (A : Option Addr) (c : Nat) (w : World) (hW : Writes w b F s) (hx : Lies w (· ≠ b) A (Dd.bits ⟨3, a, b', 0, m, 0, [], 0, Par.none, 0, false⟩)) (hr : (Dd.bits ⟨3, a, b', 0, m, 0, [], 0, Par.none, 0, false⟩).length ≤ c) (hm : c ≤ maxLen) (h0 : a ≤ 63) (h1 : b' ≤ 127) (h3 : m ≤ 4611686018427387904) :
    Calls Try.prog 31 #[.pointer (some ⟨b, 0, none⟩), .agg (Dd.vals ⟨3, a, b', 0, m, 0, [], 0, Par.none, 0, false⟩ A c)] w fun e w' => e = .returned (.tuple #[]) ∧ Left w b F (wputs s (Dd.parts ⟨3, a, b', 0, m, 0, [], 0, Par.none, 0, false⟩)) w' := by
  have hbl := hW.lt
  have hB : Below w.heap.size w (w.alloc (.cells (Dd.vals ⟨3, a, b', 0, m, 0, [], 0, Par.none, 0, false⟩ A c) 39)) := (Below.refl _ _).alloc (Nat.le_refl _) _
  have hp : PutAt w b F w.heap.size ⟨3, a, b', 0, m, 0, [], 0, Par.none, 0, false⟩ A c s (w.alloc (.cells (Dd.vals ⟨3, a, b', 0, m, 0, [], 0, Par.none, 0, false⟩ A c) 39)) := ⟨DeedAt.new w _ A c _, ⟨⟨F, hW.below hB, fun k hk => .inl hk⟩, grown_below hB _⟩, by omega, hx.grown (grown_below hB none) (by simp), hr, hm⟩
  have ku := fun w => (used3 ⟨3, a, b', 0, m, 0, [], 0, Par.none, 0, false⟩ A c w rfl)
  have kh1 : ∀ w, Calls Try.prog 47 #[.int .i64 67, .int .i64 1] w fun e w' => e = .returned (.bool true) ∧ w = w' := fun w => by have := has_is 67 1 w; rwa [hb67_1] at this
  have kh2 : ∀ w, Calls Try.prog 47 #[.int .i64 67, .int .i64 2] w fun e w' => e = .returned (.bool true) ∧ w = w' := fun w => by have := has_is 67 2 w; rwa [hb67_2] at this
  have kh4 : ∀ w, Calls Try.prog 47 #[.int .i64 67, .int .i64 4] w fun e w' => e = .returned (.bool false) ∧ w = w' := fun w => by have := has_is 67 4 w; rwa [hb67_4] at this
  have kh8 : ∀ w, Calls Try.prog 47 #[.int .i64 67, .int .i64 8] w fun e w' => e = .returned (.bool false) ∧ w = w' := fun w => by have := has_is 67 8 w; rwa [hb67_8] at this
  have kh16 : ∀ w, Calls Try.prog 47 #[.int .i64 67, .int .i64 16] w fun e w' => e = .returned (.bool false) ∧ w = w' := fun w => by have := has_is 67 16 w; rwa [hb67_16] at this
  have kh32 : ∀ w, Calls Try.prog 47 #[.int .i64 67, .int .i64 32] w fun e w' => e = .returned (.bool false) ∧ w = w' := fun w => by have := has_is 67 32 w; rwa [hb67_32] at this
  have kh64 : ∀ w, Calls Try.prog 47 #[.int .i64 67, .int .i64 64] w fun e w' => e = .returned (.bool true) ∧ w = w' := fun w => by have := has_is 67 64 w; rwa [hb67_64] at this
  have kh128 : ∀ w, Calls Try.prog 47 #[.int .i64 67, .int .i64 128] w fun e w' => e = .returned (.bool false) ∧ w = w' := fun w => by have := has_is 67 128 w; rwa [hb67_128] at this
  clear hW hx hr hm hB
  have cs := hp.deed.cells
  dsimp only at cs
  obtain ⟨c0, c1, c2, c3, c4, c5, c6, c7, c32, c33⟩ := cs
  go_enter Try.func31, Try.ntmps31
  go_wp2_with (first
    | (refine load_deed _ rfl rfl _ _ A c _ rfl hp.deed ?_)
    | (refine load_pars _ rfl rfl _ _ A c _ rfl hp.deed ?_)
    | (go_at_call 45; refine (ku _).mono ?_; clear ku; rintro e w' ⟨rfl, hb'⟩; replace hp := hp.next hb'; clear hb'; have cs := hp.deed.cells; dsimp only at cs; clear c0 c1 c2 c3 c4 c5 c6 c7 c32 c33; obtain ⟨c0, c1, c2, c3, c4, c5, c6, c7, c32, c33⟩ := cs)
    | (go_at_call 47; refine (kh1 _).mono ?_; clear kh1; rintro e w' ⟨rfl, rfl⟩)
    | (go_at_call 47; refine (kh2 _).mono ?_; clear kh2; rintro e w' ⟨rfl, rfl⟩)
    | (go_at_call 47; refine (kh4 _).mono ?_; clear kh4; rintro e w' ⟨rfl, rfl⟩)
    | (go_at_call 47; refine (kh8 _).mono ?_; clear kh8; rintro e w' ⟨rfl, rfl⟩)
    | (go_at_call 47; refine (kh16 _).mono ?_; clear kh16; rintro e w' ⟨rfl, rfl⟩)
    | (go_at_call 47; refine (kh32 _).mono ?_; clear kh32; rintro e w' ⟨rfl, rfl⟩)
    | (go_at_call 47; refine (kh64 _).mono ?_; clear kh64; rintro e w' ⟨rfl, rfl⟩)
    | (go_at_call 47; refine (kh128 _).mono ?_; clear kh128; rintro e w' ⟨rfl, rfl⟩)
    | (go_at_call 14; refine (hp.int _ (by omega) (by omega)).mono ?_; clear hp; rintro e w' ⟨rfl, hp⟩; have cs := hp.deed.cells; dsimp only at cs; clear c0 c1 c2 c3 c4 c5 c6 c7 c32 c33; obtain ⟨c0, c1, c2, c3, c4, c5, c6, c7, c32, c33⟩ := cs)
    | (go_at_call 52; refine (hp.num _ (by omega)).mono ?_; clear hp; rintro e w' ⟨rfl, hp⟩; have cs := hp.deed.cells; dsimp only at cs; clear c0 c1 c2 c3 c4 c5 c6 c7 c32 c33; obtain ⟨c0, c1, c2, c3, c4, c5, c6, c7, c32, c33⟩ := cs)
    | (go_at_call 53; refine (hp.flag _).mono ?_; clear hp; rintro e w' ⟨rfl, hp⟩; have cs := hp.deed.cells; dsimp only at cs; clear c0 c1 c2 c3 c4 c5 c6 c7 c32 c33; obtain ⟨c0, c1, c2, c3, c4, c5, c6, c7, c32, c33⟩ := cs)
    | (go_at_call 50; refine hp.raw.mono ?_; clear hp; rintro e w' ⟨rfl, hp⟩; have cs := hp.deed.cells; dsimp only at cs; clear c0 c1 c2 c3 c4 c5 c6 c7 c32 c33; obtain ⟨c0, c1, c2, c3, c4, c5, c6, c7, c32, c33⟩ := cs))
  go_end0
  rw [parts_top]
  exact ⟨rfl, hp.left⟩
set_option maxRecDepth 100000 in
set_option maxHeartbeats 2000000 in
theorem put_leave (b : Nat) (F : Nat → Prop) (s : List Nat × Nat) (a b' : Nat) (A : Option Addr) (c : Nat) (w : World) (hW : Writes w b F s) (hx : Lies w (· ≠ b) A (Dd.bits ⟨4, a, b', 0, 0, 0, [], 0, Par.none, 0, false⟩)) (hr : (Dd.bits ⟨4, a, b', 0, 0, 0, [], 0, Par.none, 0, false⟩).length ≤ c) (hm : c ≤ maxLen) (h0 : a ≤ 63) (h1 : b' ≤ 127) :
    Calls Try.prog 31 #[.pointer (some ⟨b, 0, none⟩), .agg (Dd.vals ⟨4, a, b', 0, 0, 0, [], 0, Par.none, 0, false⟩ A c)] w fun e w' => e = .returned (.tuple #[]) ∧ Left w b F (wputs s (Dd.parts ⟨4, a, b', 0, 0, 0, [], 0, Par.none, 0, false⟩)) w' := by
  have hbl := hW.lt
  have hB : Below w.heap.size w (w.alloc (.cells (Dd.vals ⟨4, a, b', 0, 0, 0, [], 0, Par.none, 0, false⟩ A c) 39)) := (Below.refl _ _).alloc (Nat.le_refl _) _
  have hp : PutAt w b F w.heap.size ⟨4, a, b', 0, 0, 0, [], 0, Par.none, 0, false⟩ A c s (w.alloc (.cells (Dd.vals ⟨4, a, b', 0, 0, 0, [], 0, Par.none, 0, false⟩ A c) 39)) := ⟨DeedAt.new w _ A c _, ⟨⟨F, hW.below hB, fun k hk => .inl hk⟩, grown_below hB _⟩, by omega, hx.grown (grown_below hB none) (by simp), hr, hm⟩
  have ku := fun w => (used4 ⟨4, a, b', 0, 0, 0, [], 0, Par.none, 0, false⟩ A c w rfl)
  have kh1 : ∀ w, Calls Try.prog 47 #[.int .i64 3, .int .i64 1] w fun e w' => e = .returned (.bool true) ∧ w = w' := fun w => by have := has_is 3 1 w; rwa [hb3_1] at this
  have kh2 : ∀ w, Calls Try.prog 47 #[.int .i64 3, .int .i64 2] w fun e w' => e = .returned (.bool true) ∧ w = w' := fun w => by have := has_is 3 2 w; rwa [hb3_2] at this
  have kh4 : ∀ w, Calls Try.prog 47 #[.int .i64 3, .int .i64 4] w fun e w' => e = .returned (.bool false) ∧ w = w' := fun w => by have := has_is 3 4 w; rwa [hb3_4] at this
  have kh8 : ∀ w, Calls Try.prog 47 #[.int .i64 3, .int .i64 8] w fun e w' => e = .returned (.bool false) ∧ w = w' := fun w => by have := has_is 3 8 w; rwa [hb3_8] at this
  have kh16 : ∀ w, Calls Try.prog 47 #[.int .i64 3, .int .i64 16] w fun e w' => e = .returned (.bool false) ∧ w = w' := fun w => by have := has_is 3 16 w; rwa [hb3_16] at this
  have kh32 : ∀ w, Calls Try.prog 47 #[.int .i64 3, .int .i64 32] w fun e w' => e = .returned (.bool false) ∧ w = w' := fun w => by have := has_is 3 32 w; rwa [hb3_32] at this
  have kh64 : ∀ w, Calls Try.prog 47 #[.int .i64 3, .int .i64 64] w fun e w' => e = .returned (.bool false) ∧ w = w' := fun w => by have := has_is 3 64 w; rwa [hb3_64] at this
  have kh128 : ∀ w, Calls Try.prog 47 #[.int .i64 3, .int .i64 128] w fun e w' => e = .returned (.bool false) ∧ w = w' := fun w => by have := has_is 3 128 w; rwa [hb3_128] at this
  clear hW hx hr hm hB
  have cs := hp.deed.cells
  dsimp only at cs
  obtain ⟨c0, c1, c2, c3, c4, c5, c6, c7, c32, c33⟩ := cs
  go_enter Try.func31, Try.ntmps31
  go_wp2_with (first
    | (refine load_deed _ rfl rfl _ _ A c _ rfl hp.deed ?_)
    | (refine load_pars _ rfl rfl _ _ A c _ rfl hp.deed ?_)
    | (go_at_call 45; refine (ku _).mono ?_; clear ku; rintro e w' ⟨rfl, hb'⟩; replace hp := hp.next hb'; clear hb'; have cs := hp.deed.cells; dsimp only at cs; clear c0 c1 c2 c3 c4 c5 c6 c7 c32 c33; obtain ⟨c0, c1, c2, c3, c4, c5, c6, c7, c32, c33⟩ := cs)
    | (go_at_call 47; refine (kh1 _).mono ?_; clear kh1; rintro e w' ⟨rfl, rfl⟩)
    | (go_at_call 47; refine (kh2 _).mono ?_; clear kh2; rintro e w' ⟨rfl, rfl⟩)
    | (go_at_call 47; refine (kh4 _).mono ?_; clear kh4; rintro e w' ⟨rfl, rfl⟩)
    | (go_at_call 47; refine (kh8 _).mono ?_; clear kh8; rintro e w' ⟨rfl, rfl⟩)
    | (go_at_call 47; refine (kh16 _).mono ?_; clear kh16; rintro e w' ⟨rfl, rfl⟩)
    | (go_at_call 47; refine (kh32 _).mono ?_; clear kh32; rintro e w' ⟨rfl, rfl⟩)
    | (go_at_call 47; refine (kh64 _).mono ?_; clear kh64; rintro e w' ⟨rfl, rfl⟩)
    | (go_at_call 47; refine (kh128 _).mono ?_; clear kh128; rintro e w' ⟨rfl, rfl⟩)
    | (go_at_call 14; refine (hp.int _ (by omega) (by omega)).mono ?_; clear hp; rintro e w' ⟨rfl, hp⟩; have cs := hp.deed.cells; dsimp only at cs; clear c0 c1 c2 c3 c4 c5 c6 c7 c32 c33; obtain ⟨c0, c1, c2, c3, c4, c5, c6, c7, c32, c33⟩ := cs)
    | (go_at_call 52; refine (hp.num _ (by omega)).mono ?_; clear hp; rintro e w' ⟨rfl, hp⟩; have cs := hp.deed.cells; dsimp only at cs; clear c0 c1 c2 c3 c4 c5 c6 c7 c32 c33; obtain ⟨c0, c1, c2, c3, c4, c5, c6, c7, c32, c33⟩ := cs)
    | (go_at_call 53; refine (hp.flag _).mono ?_; clear hp; rintro e w' ⟨rfl, hp⟩; have cs := hp.deed.cells; dsimp only at cs; clear c0 c1 c2 c3 c4 c5 c6 c7 c32 c33; obtain ⟨c0, c1, c2, c3, c4, c5, c6, c7, c32, c33⟩ := cs)
    | (go_at_call 50; refine hp.raw.mono ?_; clear hp; rintro e w' ⟨rfl, hp⟩; have cs := hp.deed.cells; dsimp only at cs; clear c0 c1 c2 c3 c4 c5 c6 c7 c32 c33; obtain ⟨c0, c1, c2, c3, c4, c5, c6, c7, c32, c33⟩ := cs))
  go_end0
  rw [parts_leave]
  exact ⟨rfl, hp.left⟩
set_option maxRecDepth 100000 in
set_option maxHeartbeats 2000000 in
theorem put_mark (b : Nat) (F : Nat → Prop) (s : List Nat × Nat) (ep : Nat) (xs : List Nat) (A : Option Addr) (c : Nat) (w : World) (hW : Writes w b F s) (hx : Lies w (· ≠ b) A (Dd.bits ⟨5, 0, 0, 0, 0, ep, xs, 0, Par.none, 0, false⟩)) (hr : (Dd.bits ⟨5, 0, 0, 0, 0, ep, xs, 0, Par.none, 0, false⟩).length ≤ c) (hm : c ≤ maxLen) (h0 : ep ≤ 1073741824) :
    Calls Try.prog 31 #[.pointer (some ⟨b, 0, none⟩), .agg (Dd.vals ⟨5, 0, 0, 0, 0, ep, xs, 0, Par.none, 0, false⟩ A c)] w fun e w' => e = .returned (.tuple #[]) ∧ Left w b F (wputs s (Dd.parts ⟨5, 0, 0, 0, 0, ep, xs, 0, Par.none, 0, false⟩)) w' := by
  have hbl := hW.lt
  have hB : Below w.heap.size w (w.alloc (.cells (Dd.vals ⟨5, 0, 0, 0, 0, ep, xs, 0, Par.none, 0, false⟩ A c) 39)) := (Below.refl _ _).alloc (Nat.le_refl _) _
  have hp : PutAt w b F w.heap.size ⟨5, 0, 0, 0, 0, ep, xs, 0, Par.none, 0, false⟩ A c s (w.alloc (.cells (Dd.vals ⟨5, 0, 0, 0, 0, ep, xs, 0, Par.none, 0, false⟩ A c) 39)) := ⟨DeedAt.new w _ A c _, ⟨⟨F, hW.below hB, fun k hk => .inl hk⟩, grown_below hB _⟩, by omega, hx.grown (grown_below hB none) (by simp), hr, hm⟩
  have ku := fun w => (used5 ⟨5, 0, 0, 0, 0, ep, xs, 0, Par.none, 0, false⟩ A c w rfl)
  have kh1 : ∀ w, Calls Try.prog 47 #[.int .i64 4, .int .i64 1] w fun e w' => e = .returned (.bool false) ∧ w = w' := fun w => by have := has_is 4 1 w; rwa [hb4_1] at this
  have kh2 : ∀ w, Calls Try.prog 47 #[.int .i64 4, .int .i64 2] w fun e w' => e = .returned (.bool false) ∧ w = w' := fun w => by have := has_is 4 2 w; rwa [hb4_2] at this
  have kh4 : ∀ w, Calls Try.prog 47 #[.int .i64 4, .int .i64 4] w fun e w' => e = .returned (.bool true) ∧ w = w' := fun w => by have := has_is 4 4 w; rwa [hb4_4] at this
  have kh8 : ∀ w, Calls Try.prog 47 #[.int .i64 4, .int .i64 8] w fun e w' => e = .returned (.bool false) ∧ w = w' := fun w => by have := has_is 4 8 w; rwa [hb4_8] at this
  have kh16 : ∀ w, Calls Try.prog 47 #[.int .i64 4, .int .i64 16] w fun e w' => e = .returned (.bool false) ∧ w = w' := fun w => by have := has_is 4 16 w; rwa [hb4_16] at this
  have kh32 : ∀ w, Calls Try.prog 47 #[.int .i64 4, .int .i64 32] w fun e w' => e = .returned (.bool false) ∧ w = w' := fun w => by have := has_is 4 32 w; rwa [hb4_32] at this
  have kh64 : ∀ w, Calls Try.prog 47 #[.int .i64 4, .int .i64 64] w fun e w' => e = .returned (.bool false) ∧ w = w' := fun w => by have := has_is 4 64 w; rwa [hb4_64] at this
  have kh128 : ∀ w, Calls Try.prog 47 #[.int .i64 4, .int .i64 128] w fun e w' => e = .returned (.bool false) ∧ w = w' := fun w => by have := has_is 4 128 w; rwa [hb4_128] at this
  clear hW hx hr hm hB
  have cs := hp.deed.cells
  dsimp only at cs
  obtain ⟨c0, c1, c2, c3, c4, c5, c6, c7, c32, c33⟩ := cs
  go_enter Try.func31, Try.ntmps31
  go_wp2_with (first
    | (refine load_deed _ rfl rfl _ _ A c _ rfl hp.deed ?_)
    | (refine load_pars _ rfl rfl _ _ A c _ rfl hp.deed ?_)
    | (go_at_call 45; refine (ku _).mono ?_; clear ku; rintro e w' ⟨rfl, hb'⟩; replace hp := hp.next hb'; clear hb'; have cs := hp.deed.cells; dsimp only at cs; clear c0 c1 c2 c3 c4 c5 c6 c7 c32 c33; obtain ⟨c0, c1, c2, c3, c4, c5, c6, c7, c32, c33⟩ := cs)
    | (go_at_call 47; refine (kh1 _).mono ?_; clear kh1; rintro e w' ⟨rfl, rfl⟩)
    | (go_at_call 47; refine (kh2 _).mono ?_; clear kh2; rintro e w' ⟨rfl, rfl⟩)
    | (go_at_call 47; refine (kh4 _).mono ?_; clear kh4; rintro e w' ⟨rfl, rfl⟩)
    | (go_at_call 47; refine (kh8 _).mono ?_; clear kh8; rintro e w' ⟨rfl, rfl⟩)
    | (go_at_call 47; refine (kh16 _).mono ?_; clear kh16; rintro e w' ⟨rfl, rfl⟩)
    | (go_at_call 47; refine (kh32 _).mono ?_; clear kh32; rintro e w' ⟨rfl, rfl⟩)
    | (go_at_call 47; refine (kh64 _).mono ?_; clear kh64; rintro e w' ⟨rfl, rfl⟩)
    | (go_at_call 47; refine (kh128 _).mono ?_; clear kh128; rintro e w' ⟨rfl, rfl⟩)
    | (go_at_call 14; refine (hp.int _ (by omega) (by omega)).mono ?_; clear hp; rintro e w' ⟨rfl, hp⟩; have cs := hp.deed.cells; dsimp only at cs; clear c0 c1 c2 c3 c4 c5 c6 c7 c32 c33; obtain ⟨c0, c1, c2, c3, c4, c5, c6, c7, c32, c33⟩ := cs)
    | (go_at_call 52; refine (hp.num _ (by omega)).mono ?_; clear hp; rintro e w' ⟨rfl, hp⟩; have cs := hp.deed.cells; dsimp only at cs; clear c0 c1 c2 c3 c4 c5 c6 c7 c32 c33; obtain ⟨c0, c1, c2, c3, c4, c5, c6, c7, c32, c33⟩ := cs)
    | (go_at_call 53; refine (hp.flag _).mono ?_; clear hp; rintro e w' ⟨rfl, hp⟩; have cs := hp.deed.cells; dsimp only at cs; clear c0 c1 c2 c3 c4 c5 c6 c7 c32 c33; obtain ⟨c0, c1, c2, c3, c4, c5, c6, c7, c32, c33⟩ := cs)
    | (go_at_call 50; refine hp.raw.mono ?_; clear hp; rintro e w' ⟨rfl, hp⟩; have cs := hp.deed.cells; dsimp only at cs; clear c0 c1 c2 c3 c4 c5 c6 c7 c32 c33; obtain ⟨c0, c1, c2, c3, c4, c5, c6, c7, c32, c33⟩ := cs))
  go_end0
  rw [parts_mark]
  exact ⟨rfl, hp.left⟩
set_option maxRecDepth 100000 in
set_option maxHeartbeats 2000000 in
theorem put_params (b : Nat) (F : Nat → Prop) (s : List Nat × Nat) (a : Nat) (p : Par) (T : Nat) (A : Option Addr) (c : Nat) (w : World) (hW : Writes w b F s) (hx : Lies w (· ≠ b) A (Dd.bits ⟨6, a, 0, 0, 0, 0, [], 1, p, 0, false⟩)) (hr : (Dd.bits ⟨6, a, 0, 0, 0, 0, [], 1, p, 0, false⟩).length ≤ c) (hm : c ≤ maxLen) (h0 : a ≤ 63) (h1 : Par.Right p T) (h2 : p.Fits) :
    Calls Try.prog 31 #[.pointer (some ⟨b, 0, none⟩), .agg (Dd.vals ⟨6, a, 0, 0, 0, 0, [], 1, p, 0, false⟩ A c)] w fun e w' => e = .returned (.tuple #[]) ∧ Left w b F (wputs s (Dd.parts ⟨6, a, 0, 0, 0, 0, [], 1, p, 0, false⟩)) w' := by
  have hbl := hW.lt
  have hB : Below w.heap.size w (w.alloc (.cells (Dd.vals ⟨6, a, 0, 0, 0, 0, [], 1, p, 0, false⟩ A c) 39)) := (Below.refl _ _).alloc (Nat.le_refl _) _
  have hp : PutAt w b F w.heap.size ⟨6, a, 0, 0, 0, 0, [], 1, p, 0, false⟩ A c s (w.alloc (.cells (Dd.vals ⟨6, a, 0, 0, 0, 0, [], 1, p, 0, false⟩ A c) 39)) := ⟨DeedAt.new w _ A c _, ⟨⟨F, hW.below hB, fun k hk => .inl hk⟩, grown_below hB _⟩, by omega, hx.grown (grown_below hB none) (by simp), hr, hm⟩
  have ku := fun w => (used6p ⟨6, a, 0, 0, 0, 0, [], 1, p, 0, false⟩ A c w rfl rfl)
  have kh1 : ∀ w, Calls Try.prog 47 #[.int .i64 25, .int .i64 1] w fun e w' => e = .returned (.bool true) ∧ w = w' := fun w => by have := has_is 25 1 w; rwa [hb25_1] at this
  have kh2 : ∀ w, Calls Try.prog 47 #[.int .i64 25, .int .i64 2] w fun e w' => e = .returned (.bool false) ∧ w = w' := fun w => by have := has_is 25 2 w; rwa [hb25_2] at this
  have kh4 : ∀ w, Calls Try.prog 47 #[.int .i64 25, .int .i64 4] w fun e w' => e = .returned (.bool false) ∧ w = w' := fun w => by have := has_is 25 4 w; rwa [hb25_4] at this
  have kh8 : ∀ w, Calls Try.prog 47 #[.int .i64 25, .int .i64 8] w fun e w' => e = .returned (.bool true) ∧ w = w' := fun w => by have := has_is 25 8 w; rwa [hb25_8] at this
  have kh16 : ∀ w, Calls Try.prog 47 #[.int .i64 25, .int .i64 16] w fun e w' => e = .returned (.bool true) ∧ w = w' := fun w => by have := has_is 25 16 w; rwa [hb25_16] at this
  have kh32 : ∀ w, Calls Try.prog 47 #[.int .i64 25, .int .i64 32] w fun e w' => e = .returned (.bool false) ∧ w = w' := fun w => by have := has_is 25 32 w; rwa [hb25_32] at this
  have kh64 : ∀ w, Calls Try.prog 47 #[.int .i64 25, .int .i64 64] w fun e w' => e = .returned (.bool false) ∧ w = w' := fun w => by have := has_is 25 64 w; rwa [hb25_64] at this
  have kh128 : ∀ w, Calls Try.prog 47 #[.int .i64 25, .int .i64 128] w fun e w' => e = .returned (.bool false) ∧ w = w' := fun w => by have := has_is 25 128 w; rwa [hb25_128] at this
  clear hW hx hr hm hB
  have cs := hp.deed.cells
  dsimp only at cs
  obtain ⟨c0, c1, c2, c3, c4, c5, c6, c7, c32, c33⟩ := cs
  go_enter Try.func31, Try.ntmps31
  go_wp2_with (first
    | (refine load_deed _ rfl rfl _ _ A c _ rfl hp.deed ?_)
    | (refine load_pars _ rfl rfl _ _ A c _ rfl hp.deed ?_)
    | (go_at_call 45; refine (ku _).mono ?_; clear ku; rintro e w' ⟨rfl, hb'⟩; replace hp := hp.next hb'; clear hb'; have cs := hp.deed.cells; dsimp only at cs; clear c0 c1 c2 c3 c4 c5 c6 c7 c32 c33; obtain ⟨c0, c1, c2, c3, c4, c5, c6, c7, c32, c33⟩ := cs)
    | (go_at_call 47; refine (kh1 _).mono ?_; clear kh1; rintro e w' ⟨rfl, rfl⟩)
    | (go_at_call 47; refine (kh2 _).mono ?_; clear kh2; rintro e w' ⟨rfl, rfl⟩)
    | (go_at_call 47; refine (kh4 _).mono ?_; clear kh4; rintro e w' ⟨rfl, rfl⟩)
    | (go_at_call 47; refine (kh8 _).mono ?_; clear kh8; rintro e w' ⟨rfl, rfl⟩)
    | (go_at_call 47; refine (kh16 _).mono ?_; clear kh16; rintro e w' ⟨rfl, rfl⟩)
    | (go_at_call 47; refine (kh32 _).mono ?_; clear kh32; rintro e w' ⟨rfl, rfl⟩)
    | (go_at_call 47; refine (kh64 _).mono ?_; clear kh64; rintro e w' ⟨rfl, rfl⟩)
    | (go_at_call 47; refine (kh128 _).mono ?_; clear kh128; rintro e w' ⟨rfl, rfl⟩)
    | (go_at_call 14; refine (hp.int _ (by omega) (by omega)).mono ?_; clear hp; rintro e w' ⟨rfl, hp⟩; have cs := hp.deed.cells; dsimp only at cs; clear c0 c1 c2 c3 c4 c5 c6 c7 c32 c33; obtain ⟨c0, c1, c2, c3, c4, c5, c6, c7, c32, c33⟩ := cs)
    | (go_at_call 52; refine (hp.num _ (by omega)).mono ?_; clear hp; rintro e w' ⟨rfl, hp⟩; have cs := hp.deed.cells; dsimp only at cs; clear c0 c1 c2 c3 c4 c5 c6 c7 c32 c33; obtain ⟨c0, c1, c2, c3, c4, c5, c6, c7, c32, c33⟩ := cs)
    | (go_at_call 53; refine (hp.flag _).mono ?_; clear hp; rintro e w' ⟨rfl, hp⟩; have cs := hp.deed.cells; dsimp only at cs; clear c0 c1 c2 c3 c4 c5 c6 c7 c32 c33; obtain ⟨c0, c1, c2, c3, c4, c5, c6, c7, c32, c33⟩ := cs)
    | (go_at_call 50; refine hp.raw.mono ?_; clear hp; rintro e w' ⟨rfl, hp⟩; have cs := hp.deed.cells; dsimp only at cs; clear c0 c1 c2 c3 c4 c5 c6 c7 c32 c33; obtain ⟨c0, c1, c2, c3, c4, c5, c6, c7, c32, c33⟩ := cs)
    | (go_at_call 51; refine (hp.par T h1 h2).mono ?_; clear hp; rintro e w' ⟨rfl, hp⟩; have cs := hp.deed.cells; dsimp only at cs; clear c0 c1 c2 c3 c4 c5 c6 c7 c32 c33; obtain ⟨c0, c1, c2, c3, c4, c5, c6, c7, c32, c33⟩ := cs))
  go_end0
  rw [parts_params]
  have := hp.left
  rw [wall_wputs] at this
  rw [wputs_append]
  exact ⟨rfl, this⟩
set_option maxRecDepth 100000 in
set_option maxHeartbeats 2000000 in
theorem put_spend (b : Nat) (F : Nat → Prop) (s : List Nat × Nat) (a t m : Nat) (A : Option Addr) (c : Nat) (w : World) (hW : Writes w b F s) (hx : Lies w (· ≠ b) A (Dd.bits ⟨6, a, 0, t, m, 0, [], 2, Par.none, 0, false⟩)) (hr : (Dd.bits ⟨6, a, 0, t, m, 0, [], 2, Par.none, 0, false⟩).length ≤ c) (hm : c ≤ maxLen) (h0 : a ≤ 63) (h1 : t ≤ 63) (h3 : m ≤ 4611686018427387904) :
    Calls Try.prog 31 #[.pointer (some ⟨b, 0, none⟩), .agg (Dd.vals ⟨6, a, 0, t, m, 0, [], 2, Par.none, 0, false⟩ A c)] w fun e w' => e = .returned (.tuple #[]) ∧ Left w b F (wputs s (Dd.parts ⟨6, a, 0, t, m, 0, [], 2, Par.none, 0, false⟩)) w' := by
  have hbl := hW.lt
  have hB : Below w.heap.size w (w.alloc (.cells (Dd.vals ⟨6, a, 0, t, m, 0, [], 2, Par.none, 0, false⟩ A c) 39)) := (Below.refl _ _).alloc (Nat.le_refl _) _
  have hp : PutAt w b F w.heap.size ⟨6, a, 0, t, m, 0, [], 2, Par.none, 0, false⟩ A c s (w.alloc (.cells (Dd.vals ⟨6, a, 0, t, m, 0, [], 2, Par.none, 0, false⟩ A c) 39)) := ⟨DeedAt.new w _ A c _, ⟨⟨F, hW.below hB, fun k hk => .inl hk⟩, grown_below hB _⟩, by omega, hx.grown (grown_below hB none) (by simp), hr, hm⟩
  have ku := fun w => (used6s ⟨6, a, 0, t, m, 0, [], 2, Par.none, 0, false⟩ A c w rfl rfl)
  have kh1 : ∀ w, Calls Try.prog 47 #[.int .i64 105, .int .i64 1] w fun e w' => e = .returned (.bool true) ∧ w = w' := fun w => by have := has_is 105 1 w; rwa [hb105_1] at this
  have kh2 : ∀ w, Calls Try.prog 47 #[.int .i64 105, .int .i64 2] w fun e w' => e = .returned (.bool false) ∧ w = w' := fun w => by have := has_is 105 2 w; rwa [hb105_2] at this
  have kh4 : ∀ w, Calls Try.prog 47 #[.int .i64 105, .int .i64 4] w fun e w' => e = .returned (.bool false) ∧ w = w' := fun w => by have := has_is 105 4 w; rwa [hb105_4] at this
  have kh8 : ∀ w, Calls Try.prog 47 #[.int .i64 105, .int .i64 8] w fun e w' => e = .returned (.bool true) ∧ w = w' := fun w => by have := has_is 105 8 w; rwa [hb105_8] at this
  have kh16 : ∀ w, Calls Try.prog 47 #[.int .i64 105, .int .i64 16] w fun e w' => e = .returned (.bool false) ∧ w = w' := fun w => by have := has_is 105 16 w; rwa [hb105_16] at this
  have kh32 : ∀ w, Calls Try.prog 47 #[.int .i64 105, .int .i64 32] w fun e w' => e = .returned (.bool true) ∧ w = w' := fun w => by have := has_is 105 32 w; rwa [hb105_32] at this
  have kh64 : ∀ w, Calls Try.prog 47 #[.int .i64 105, .int .i64 64] w fun e w' => e = .returned (.bool true) ∧ w = w' := fun w => by have := has_is 105 64 w; rwa [hb105_64] at this
  have kh128 : ∀ w, Calls Try.prog 47 #[.int .i64 105, .int .i64 128] w fun e w' => e = .returned (.bool false) ∧ w = w' := fun w => by have := has_is 105 128 w; rwa [hb105_128] at this
  clear hW hx hr hm hB
  have cs := hp.deed.cells
  dsimp only at cs
  obtain ⟨c0, c1, c2, c3, c4, c5, c6, c7, c32, c33⟩ := cs
  go_enter Try.func31, Try.ntmps31
  go_wp2_with (first
    | (refine load_deed _ rfl rfl _ _ A c _ rfl hp.deed ?_)
    | (refine load_pars _ rfl rfl _ _ A c _ rfl hp.deed ?_)
    | (go_at_call 45; refine (ku _).mono ?_; clear ku; rintro e w' ⟨rfl, hb'⟩; replace hp := hp.next hb'; clear hb'; have cs := hp.deed.cells; dsimp only at cs; clear c0 c1 c2 c3 c4 c5 c6 c7 c32 c33; obtain ⟨c0, c1, c2, c3, c4, c5, c6, c7, c32, c33⟩ := cs)
    | (go_at_call 47; refine (kh1 _).mono ?_; clear kh1; rintro e w' ⟨rfl, rfl⟩)
    | (go_at_call 47; refine (kh2 _).mono ?_; clear kh2; rintro e w' ⟨rfl, rfl⟩)
    | (go_at_call 47; refine (kh4 _).mono ?_; clear kh4; rintro e w' ⟨rfl, rfl⟩)
    | (go_at_call 47; refine (kh8 _).mono ?_; clear kh8; rintro e w' ⟨rfl, rfl⟩)
    | (go_at_call 47; refine (kh16 _).mono ?_; clear kh16; rintro e w' ⟨rfl, rfl⟩)
    | (go_at_call 47; refine (kh32 _).mono ?_; clear kh32; rintro e w' ⟨rfl, rfl⟩)
    | (go_at_call 47; refine (kh64 _).mono ?_; clear kh64; rintro e w' ⟨rfl, rfl⟩)
    | (go_at_call 47; refine (kh128 _).mono ?_; clear kh128; rintro e w' ⟨rfl, rfl⟩)
    | (go_at_call 14; refine (hp.int _ (by omega) (by omega)).mono ?_; clear hp; rintro e w' ⟨rfl, hp⟩; have cs := hp.deed.cells; dsimp only at cs; clear c0 c1 c2 c3 c4 c5 c6 c7 c32 c33; obtain ⟨c0, c1, c2, c3, c4, c5, c6, c7, c32, c33⟩ := cs)
    | (go_at_call 52; refine (hp.num _ (by omega)).mono ?_; clear hp; rintro e w' ⟨rfl, hp⟩; have cs := hp.deed.cells; dsimp only at cs; clear c0 c1 c2 c3 c4 c5 c6 c7 c32 c33; obtain ⟨c0, c1, c2, c3, c4, c5, c6, c7, c32, c33⟩ := cs)
    | (go_at_call 53; refine (hp.flag _).mono ?_; clear hp; rintro e w' ⟨rfl, hp⟩; have cs := hp.deed.cells; dsimp only at cs; clear c0 c1 c2 c3 c4 c5 c6 c7 c32 c33; obtain ⟨c0, c1, c2, c3, c4, c5, c6, c7, c32, c33⟩ := cs)
    | (go_at_call 50; refine hp.raw.mono ?_; clear hp; rintro e w' ⟨rfl, hp⟩; have cs := hp.deed.cells; dsimp only at cs; clear c0 c1 c2 c3 c4 c5 c6 c7 c32 c33; obtain ⟨c0, c1, c2, c3, c4, c5, c6, c7, c32, c33⟩ := cs))
  go_end0
  rw [parts_spend]
  exact ⟨rfl, hp.left⟩
set_option maxRecDepth 100000 in
set_option maxHeartbeats 2000000 in
theorem put_other_ (b : Nat) (F : Nat → Prop) (s : List Nat × Nat) (a k : Nat) (A : Option Addr) (c : Nat) (w : World) (hW : Writes w b F s) (hx : Lies w (· ≠ b) A (Dd.bits ⟨6, a, 0, 0, 0, 0, [], k, Par.none, 0, false⟩)) (hr : (Dd.bits ⟨6, a, 0, 0, 0, 0, [], k, Par.none, 0, false⟩).length ≤ c) (hm : c ≤ maxLen) (h0 : a ≤ 63) (h1 : 3 ≤ k) (h2 : k ≤ 4) :
    Calls Try.prog 31 #[.pointer (some ⟨b, 0, none⟩), .agg (Dd.vals ⟨6, a, 0, 0, 0, 0, [], k, Par.none, 0, false⟩ A c)] w fun e w' => e = .returned (.tuple #[]) ∧ Left w b F (wputs s (Dd.parts ⟨6, a, 0, 0, 0, 0, [], k, Par.none, 0, false⟩)) w' := by
  have hbl := hW.lt
  have hB : Below w.heap.size w (w.alloc (.cells (Dd.vals ⟨6, a, 0, 0, 0, 0, [], k, Par.none, 0, false⟩ A c) 39)) := (Below.refl _ _).alloc (Nat.le_refl _) _
  have hp : PutAt w b F w.heap.size ⟨6, a, 0, 0, 0, 0, [], k, Par.none, 0, false⟩ A c s (w.alloc (.cells (Dd.vals ⟨6, a, 0, 0, 0, 0, [], k, Par.none, 0, false⟩ A c) 39)) := ⟨DeedAt.new w _ A c _, ⟨⟨F, hW.below hB, fun k hk => .inl hk⟩, grown_below hB _⟩, by omega, hx.grown (grown_below hB none) (by simp), hr, hm⟩
  have ku := fun w => (used6o ⟨6, a, 0, 0, 0, 0, [], k, Par.none, 0, false⟩ A c w rfl (by show (k : Int) ≠ 1; omega) (by show (k : Int) ≠ 2; omega))
  have kh1 : ∀ w, Calls Try.prog 47 #[.int .i64 9, .int .i64 1] w fun e w' => e = .returned (.bool true) ∧ w = w' := fun w => by have := has_is 9 1 w; rwa [hb9_1] at this
  have kh2 : ∀ w, Calls Try.prog 47 #[.int .i64 9, .int .i64 2] w fun e w' => e = .returned (.bool false) ∧ w = w' := fun w => by have := has_is 9 2 w; rwa [hb9_2] at this
  have kh4 : ∀ w, Calls Try.prog 47 #[.int .i64 9, .int .i64 4] w fun e w' => e = .returned (.bool false) ∧ w = w' := fun w => by have := has_is 9 4 w; rwa [hb9_4] at this
  have kh8 : ∀ w, Calls Try.prog 47 #[.int .i64 9, .int .i64 8] w fun e w' => e = .returned (.bool true) ∧ w = w' := fun w => by have := has_is 9 8 w; rwa [hb9_8] at this
  have kh16 : ∀ w, Calls Try.prog 47 #[.int .i64 9, .int .i64 16] w fun e w' => e = .returned (.bool false) ∧ w = w' := fun w => by have := has_is 9 16 w; rwa [hb9_16] at this
  have kh32 : ∀ w, Calls Try.prog 47 #[.int .i64 9, .int .i64 32] w fun e w' => e = .returned (.bool false) ∧ w = w' := fun w => by have := has_is 9 32 w; rwa [hb9_32] at this
  have kh64 : ∀ w, Calls Try.prog 47 #[.int .i64 9, .int .i64 64] w fun e w' => e = .returned (.bool false) ∧ w = w' := fun w => by have := has_is 9 64 w; rwa [hb9_64] at this
  have kh128 : ∀ w, Calls Try.prog 47 #[.int .i64 9, .int .i64 128] w fun e w' => e = .returned (.bool false) ∧ w = w' := fun w => by have := has_is 9 128 w; rwa [hb9_128] at this
  clear hW hx hr hm hB
  have cs := hp.deed.cells
  dsimp only at cs
  obtain ⟨c0, c1, c2, c3, c4, c5, c6, c7, c32, c33⟩ := cs
  go_enter Try.func31, Try.ntmps31
  go_wp2_with (first
    | (refine load_deed _ rfl rfl _ _ A c _ rfl hp.deed ?_)
    | (refine load_pars _ rfl rfl _ _ A c _ rfl hp.deed ?_)
    | (go_at_call 45; refine (ku _).mono ?_; clear ku; rintro e w' ⟨rfl, hb'⟩; replace hp := hp.next hb'; clear hb'; have cs := hp.deed.cells; dsimp only at cs; clear c0 c1 c2 c3 c4 c5 c6 c7 c32 c33; obtain ⟨c0, c1, c2, c3, c4, c5, c6, c7, c32, c33⟩ := cs)
    | (go_at_call 47; refine (kh1 _).mono ?_; clear kh1; rintro e w' ⟨rfl, rfl⟩)
    | (go_at_call 47; refine (kh2 _).mono ?_; clear kh2; rintro e w' ⟨rfl, rfl⟩)
    | (go_at_call 47; refine (kh4 _).mono ?_; clear kh4; rintro e w' ⟨rfl, rfl⟩)
    | (go_at_call 47; refine (kh8 _).mono ?_; clear kh8; rintro e w' ⟨rfl, rfl⟩)
    | (go_at_call 47; refine (kh16 _).mono ?_; clear kh16; rintro e w' ⟨rfl, rfl⟩)
    | (go_at_call 47; refine (kh32 _).mono ?_; clear kh32; rintro e w' ⟨rfl, rfl⟩)
    | (go_at_call 47; refine (kh64 _).mono ?_; clear kh64; rintro e w' ⟨rfl, rfl⟩)
    | (go_at_call 47; refine (kh128 _).mono ?_; clear kh128; rintro e w' ⟨rfl, rfl⟩)
    | (go_at_call 14; refine (hp.int _ (by omega) (by omega)).mono ?_; clear hp; rintro e w' ⟨rfl, hp⟩; have cs := hp.deed.cells; dsimp only at cs; clear c0 c1 c2 c3 c4 c5 c6 c7 c32 c33; obtain ⟨c0, c1, c2, c3, c4, c5, c6, c7, c32, c33⟩ := cs)
    | (go_at_call 52; refine (hp.num _ (by omega)).mono ?_; clear hp; rintro e w' ⟨rfl, hp⟩; have cs := hp.deed.cells; dsimp only at cs; clear c0 c1 c2 c3 c4 c5 c6 c7 c32 c33; obtain ⟨c0, c1, c2, c3, c4, c5, c6, c7, c32, c33⟩ := cs)
    | (go_at_call 53; refine (hp.flag _).mono ?_; clear hp; rintro e w' ⟨rfl, hp⟩; have cs := hp.deed.cells; dsimp only at cs; clear c0 c1 c2 c3 c4 c5 c6 c7 c32 c33; obtain ⟨c0, c1, c2, c3, c4, c5, c6, c7, c32, c33⟩ := cs)
    | (go_at_call 50; refine hp.raw.mono ?_; clear hp; rintro e w' ⟨rfl, hp⟩; have cs := hp.deed.cells; dsimp only at cs; clear c0 c1 c2 c3 c4 c5 c6 c7 c32 c33; obtain ⟨c0, c1, c2, c3, c4, c5, c6, c7, c32, c33⟩ := cs))
  go_end0
  rw [parts_other a k (by omega) (by omega)]
  exact ⟨rfl, hp.left⟩
set_option maxRecDepth 100000 in
set_option maxHeartbeats 2000000 in
theorem put_vote (b : Nat) (F : Nat → Prop) (s : List Nat × Nat) (a b' n : Nat) (y : Bool) (A : Option Addr) (c : Nat) (w : World) (hW : Writes w b F s) (hx : Lies w (· ≠ b) A (Dd.bits ⟨7, a, b', 0, 0, 0, [], 0, Par.none, n, y⟩)) (hr : (Dd.bits ⟨7, a, b', 0, 0, 0, [], 0, Par.none, n, y⟩).length ≤ c) (hm : c ≤ maxLen) (h0 : a ≤ 63) (h1 : b' ≤ 127) (h3 : n ≤ 31) :
    Calls Try.prog 31 #[.pointer (some ⟨b, 0, none⟩), .agg (Dd.vals ⟨7, a, b', 0, 0, 0, [], 0, Par.none, n, y⟩ A c)] w fun e w' => e = .returned (.tuple #[]) ∧ Left w b F (wputs s (Dd.parts ⟨7, a, b', 0, 0, 0, [], 0, Par.none, n, y⟩)) w' := by
  have hbl := hW.lt
  have hB : Below w.heap.size w (w.alloc (.cells (Dd.vals ⟨7, a, b', 0, 0, 0, [], 0, Par.none, n, y⟩ A c) 39)) := (Below.refl _ _).alloc (Nat.le_refl _) _
  have hp : PutAt w b F w.heap.size ⟨7, a, b', 0, 0, 0, [], 0, Par.none, n, y⟩ A c s (w.alloc (.cells (Dd.vals ⟨7, a, b', 0, 0, 0, [], 0, Par.none, n, y⟩ A c) 39)) := ⟨DeedAt.new w _ A c _, ⟨⟨F, hW.below hB, fun k hk => .inl hk⟩, grown_below hB _⟩, by omega, hx.grown (grown_below hB none) (by simp), hr, hm⟩
  have ku := fun w => (used7 ⟨7, a, b', 0, 0, 0, [], 0, Par.none, n, y⟩ A c w rfl)
  have kh1 : ∀ w, Calls Try.prog 47 #[.int .i64 131, .int .i64 1] w fun e w' => e = .returned (.bool true) ∧ w = w' := fun w => by have := has_is 131 1 w; rwa [hb131_1] at this
  have kh2 : ∀ w, Calls Try.prog 47 #[.int .i64 131, .int .i64 2] w fun e w' => e = .returned (.bool true) ∧ w = w' := fun w => by have := has_is 131 2 w; rwa [hb131_2] at this
  have kh4 : ∀ w, Calls Try.prog 47 #[.int .i64 131, .int .i64 4] w fun e w' => e = .returned (.bool false) ∧ w = w' := fun w => by have := has_is 131 4 w; rwa [hb131_4] at this
  have kh8 : ∀ w, Calls Try.prog 47 #[.int .i64 131, .int .i64 8] w fun e w' => e = .returned (.bool false) ∧ w = w' := fun w => by have := has_is 131 8 w; rwa [hb131_8] at this
  have kh16 : ∀ w, Calls Try.prog 47 #[.int .i64 131, .int .i64 16] w fun e w' => e = .returned (.bool false) ∧ w = w' := fun w => by have := has_is 131 16 w; rwa [hb131_16] at this
  have kh32 : ∀ w, Calls Try.prog 47 #[.int .i64 131, .int .i64 32] w fun e w' => e = .returned (.bool false) ∧ w = w' := fun w => by have := has_is 131 32 w; rwa [hb131_32] at this
  have kh64 : ∀ w, Calls Try.prog 47 #[.int .i64 131, .int .i64 64] w fun e w' => e = .returned (.bool false) ∧ w = w' := fun w => by have := has_is 131 64 w; rwa [hb131_64] at this
  have kh128 : ∀ w, Calls Try.prog 47 #[.int .i64 131, .int .i64 128] w fun e w' => e = .returned (.bool true) ∧ w = w' := fun w => by have := has_is 131 128 w; rwa [hb131_128] at this
  clear hW hx hr hm hB
  have cs := hp.deed.cells
  dsimp only at cs
  obtain ⟨c0, c1, c2, c3, c4, c5, c6, c7, c32, c33⟩ := cs
  go_enter Try.func31, Try.ntmps31
  go_wp2_with (first
    | (refine load_deed _ rfl rfl _ _ A c _ rfl hp.deed ?_)
    | (refine load_pars _ rfl rfl _ _ A c _ rfl hp.deed ?_)
    | (go_at_call 45; refine (ku _).mono ?_; clear ku; rintro e w' ⟨rfl, hb'⟩; replace hp := hp.next hb'; clear hb'; have cs := hp.deed.cells; dsimp only at cs; clear c0 c1 c2 c3 c4 c5 c6 c7 c32 c33; obtain ⟨c0, c1, c2, c3, c4, c5, c6, c7, c32, c33⟩ := cs)
    | (go_at_call 47; refine (kh1 _).mono ?_; clear kh1; rintro e w' ⟨rfl, rfl⟩)
    | (go_at_call 47; refine (kh2 _).mono ?_; clear kh2; rintro e w' ⟨rfl, rfl⟩)
    | (go_at_call 47; refine (kh4 _).mono ?_; clear kh4; rintro e w' ⟨rfl, rfl⟩)
    | (go_at_call 47; refine (kh8 _).mono ?_; clear kh8; rintro e w' ⟨rfl, rfl⟩)
    | (go_at_call 47; refine (kh16 _).mono ?_; clear kh16; rintro e w' ⟨rfl, rfl⟩)
    | (go_at_call 47; refine (kh32 _).mono ?_; clear kh32; rintro e w' ⟨rfl, rfl⟩)
    | (go_at_call 47; refine (kh64 _).mono ?_; clear kh64; rintro e w' ⟨rfl, rfl⟩)
    | (go_at_call 47; refine (kh128 _).mono ?_; clear kh128; rintro e w' ⟨rfl, rfl⟩)
    | (go_at_call 14; refine (hp.int _ (by omega) (by omega)).mono ?_; clear hp; rintro e w' ⟨rfl, hp⟩; have cs := hp.deed.cells; dsimp only at cs; clear c0 c1 c2 c3 c4 c5 c6 c7 c32 c33; obtain ⟨c0, c1, c2, c3, c4, c5, c6, c7, c32, c33⟩ := cs)
    | (go_at_call 52; refine (hp.num _ (by omega)).mono ?_; clear hp; rintro e w' ⟨rfl, hp⟩; have cs := hp.deed.cells; dsimp only at cs; clear c0 c1 c2 c3 c4 c5 c6 c7 c32 c33; obtain ⟨c0, c1, c2, c3, c4, c5, c6, c7, c32, c33⟩ := cs)
    | (go_at_call 53; refine (hp.flag _).mono ?_; clear hp; rintro e w' ⟨rfl, hp⟩; have cs := hp.deed.cells; dsimp only at cs; clear c0 c1 c2 c3 c4 c5 c6 c7 c32 c33; obtain ⟨c0, c1, c2, c3, c4, c5, c6, c7, c32, c33⟩ := cs)
    | (go_at_call 50; refine hp.raw.mono ?_; clear hp; rintro e w' ⟨rfl, hp⟩; have cs := hp.deed.cells; dsimp only at cs; clear c0 c1 c2 c3 c4 c5 c6 c7 c32 c33; obtain ⟨c0, c1, c2, c3, c4, c5, c6, c7, c32, c33⟩ := cs))
  go_end0
  rw [parts_vote]
  exact ⟨rfl, hp.left⟩

theorem put_is (b : Nat) (F : Nat → Prop) (s : List Nat × Nat) (d : Dd) (A : Option Addr) (c : Nat) (w : World) (h : d.Right) (hW : Writes w b F s) (hx : Lies w (· ≠ b) A d.bits) (hr : d.bits.length ≤ c) (hm : c ≤ maxLen) :
    Calls Try.prog 31 #[.pointer (some ⟨b, 0, none⟩), .agg (d.vals A c)] w fun e w' => e = .returned (.tuple #[]) ∧ Left w b F (wputs s d.parts) w' := by
  cases h with
  | send a t m h1 h2 h3 h4 => exact put_send b F s a t m A c w hW hx hr hm h1 h2 h4
  | stake a m h1 h2 h3 => exact put_stake b F s a m A c w hW hx hr hm h1 h3
  | top a b' m h1 h2 h3 h4 => exact put_top b F s a b' m A c w hW hx hr hm h1 h2 h4
  | leave a b' h1 h2 => exact put_leave b F s a b' A c w hW hx hr hm h1 h2
  | mark ep xs h1 h2 h3 => exact put_mark b F s ep xs A c w hW hx hr hm h1
  | params a p T h1 h2 h3 => exact put_params b F s a p T A c w hW hx hr hm h1 h2 h3
  | spend a t m h1 h2 h3 h4 => exact put_spend b F s a t m A c w hW hx hr hm h1 h2 h4
  | other a k h1 h2 h3 => exact put_other_ b F s a k A c w hW hx hr hm h1 h2 h3
  | vote a b' n y h1 h2 h3 => exact put_vote b F s a b' n y A c w hW hx hr hm h1 h2 h3
end Go.Proofs.Ytokaclacejhppaa
