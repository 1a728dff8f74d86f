/- Layer 8 (deed): a deed is read, kind by kind. By contracts. -/
import Derived.Test.YtagibkaonmpihaaDeedH
import Derived.Deep.RegionHeld3
namespace Go.Proofs.Ytagibkaonmpihaa
open Go.RowKit
set_option linter.unusedVariables false
set_option linter.unusedSimpArgs false

set_option maxRecDepth 100000 in
set_option maxHeartbeats 4000000 in
theorem get_send (rb : Nat) (FB : Nat → Prop) (bs : List Nat) (A : Option Addr) (cp g : Nat) (s : Nat × Nat) (a t m : Nat) (s1 : Nat × Nat) (s2 : Nat × Nat) (s3 : Nat × Nat) (s4 : Nat × Nat) (w : World) (hR : ReaderAt w rb FB bs s A cp) (hg : w.heap[g]? = some (.cells #[.pointer (some ⟨rb, 0, none⟩), .int .i64 ((0 : Nat) : Int)] 73 (0, 0))) (hn : rb ≠ g) (hF : ∀ k, FB k → k < w.heap.size ∧ k ≠ g) (hbl : bs.length ≤ 140737488355328) (K1 : rdNum bs s 255 = (1, s1)) (K2 : rdNum bs s1 63 = (a, s2)) (K3 : rdNum bs s2 63 = (t, s3)) (K4 : rdNum bs s3 4611686018427387904 = (m, s4)) (hm : m ≠ 0) :
    Calls Try.prog 33 #[.pointer (some ⟨g, 0, none⟩)] w fun e w' => ∃ B c, e = .returned (.agg (Dd.vals ⟨1, a, 0, t, m, 0, [], 0, Par.none, 0, false⟩ B c)) ∧ GetAt w rb FB bs A cp g w.heap.size s4 0 ⟨1, a, 0, t, m, 0, [], 0, Par.none, 0, false⟩ B c w' := by
  have hz := zero_deed
  have h0 : GetAt w rb FB bs A cp g w.heap.size s 0 ⟨0, 0, 0, 0, 0, 0, [], 0, Par.none, 0, false⟩ none 0 (w.alloc (.cells (Dd.none.vals none 0) 27)) := GetAt.start w hR hg hn hF
  have z := h0.thaw
  have p := h0.ptr
  have dd := h0.deed
  have cs := h0.deed.cells
  dsimp only at cs
  obtain ⟨c0, c1, c2, c3, c4, c5, c6, c7, c32, c33⟩ := cs
  clear hR hg hn hF
  have hd1 : decide (0 < m) = true := by simp; omega
  clear hm
  have kh1 : ∀ w, Calls Try.prog 26 #[.int .i64 97, .int .i64 1] w fun e w' => e = .returned (.bool true) ∧ w = w' := fun w => by have := has_is 97 1 w; rwa [hb97_1] at this
  have kh2 : ∀ w, Calls Try.prog 26 #[.int .i64 97, .int .i64 2] w fun e w' => e = .returned (.bool false) ∧ w = w' := fun w => by have := has_is 97 2 w; rwa [hb97_2] at this
  have kh4 : ∀ w, Calls Try.prog 26 #[.int .i64 97, .int .i64 4] w fun e w' => e = .returned (.bool false) ∧ w = w' := fun w => by have := has_is 97 4 w; rwa [hb97_4] at this
  have kh8 : ∀ w, Calls Try.prog 26 #[.int .i64 97, .int .i64 8] w fun e w' => e = .returned (.bool false) ∧ w = w' := fun w => by have := has_is 97 8 w; rwa [hb97_8] at this
  have kh16 : ∀ w, Calls Try.prog 26 #[.int .i64 97, .int .i64 16] w fun e w' => e = .returned (.bool false) ∧ w = w' := fun w => by have := has_is 97 16 w; rwa [hb97_16] at this
  have kh32 : ∀ w, Calls Try.prog 26 #[.int .i64 97, .int .i64 32] w fun e w' => e = .returned (.bool true) ∧ w = w' := fun w => by have := has_is 97 32 w; rwa [hb97_32] at this
  have kh64 : ∀ w, Calls Try.prog 26 #[.int .i64 97, .int .i64 64] w fun e w' => e = .returned (.bool true) ∧ w = w' := fun w => by have := has_is 97 64 w; rwa [hb97_64] at this
  have kh128 : ∀ w, Calls Try.prog 26 #[.int .i64 97, .int .i64 128] w fun e w' => e = .returned (.bool false) ∧ w = w' := fun w => by have := has_is 97 128 w; rwa [hb97_128] at this
  go_enter Try.func33, Try.ntmps33
  go_wp2_with (first
    | (refine load_deed _ rfl rfl _ _ _ _ _ rfl (by assumption) ?_)
    | (refine store_deed _ _ rfl rfl _ _ _ _ _ _ _ _ rfl rfl (by assumption) ?_)
    | (go_at_call 47; refine (h0.int 255 1 255 1 rfl rfl (by omega) K1).mono ?_; clear K1; rintro e w1 ⟨rfl, q1⟩; clear z p dd h0; have z := q1.thaw; have cs := q1.deed.cells; dsimp only at cs; clear c0 c1 c2 c3 c4 c5 c6 c7 c32 c33; obtain ⟨c0, c1, c2, c3, c4, c5, c6, c7, c32, c33⟩ := cs; have h1 := q1.set 0 (.int .i64 1) (d' := ⟨1, 0, 0, 0, 0, 0, [], 0, Par.none, 0, false⟩) (B' := none) (c' := 0) rfl (Lies.nil _ _ _) (Nat.le_refl _) (Nat.zero_le _); have p := h1.ptr; have dd := h1.deed; clear q1)
    | (go_at_call 24; refine (h1.used 97 rfl).mono ?_; rintro e w2 ⟨rfl, h2⟩; clear z p dd h1; have z := h2.thaw; have p := h2.ptr; have dd := h2.deed; have cs := h2.deed.cells; dsimp only at cs; clear c0 c1 c2 c3 c4 c5 c6 c7 c32 c33; obtain ⟨c0, c1, c2, c3, c4, c5, c6, c7, c32, c33⟩ := cs)
    | (go_at_call 48; refine h2.askYes.mono ?_; rintro e w3 ⟨rfl, h3⟩; clear z p dd h2; have z := h3.thaw; have p := h3.ptr; have dd := h3.deed; have cs := h3.deed.cells; dsimp only at cs; clear c0 c1 c2 c3 c4 c5 c6 c7 c32 c33; obtain ⟨c0, c1, c2, c3, c4, c5, c6, c7, c32, c33⟩ := cs)
    | (go_at_call 47; refine (h3.int 63 a 63 (a : Int) rfl rfl (by omega) K2).mono ?_; clear K2; rintro e w4 ⟨rfl, q4⟩; clear z p dd h3; have z := q4.thaw; have cs := q4.deed.cells; dsimp only at cs; clear c0 c1 c2 c3 c4 c5 c6 c7 c32 c33; obtain ⟨c0, c1, c2, c3, c4, c5, c6, c7, c32, c33⟩ := cs; have h4 := q4.set 1 (.int .i64 (a : Int)) (d' := ⟨1, a, 0, 0, 0, 0, [], 0, Par.none, 0, false⟩) (B' := none) (c' := 0) rfl (Lies.nil _ _ _) (Nat.le_refl _) (Nat.zero_le _); have p := h4.ptr; have dd := h4.deed; clear q4)
    | (go_at_call 47; refine (h4.int 63 t 63 (t : Int) rfl rfl (by omega) K3).mono ?_; clear K3; rintro e w5 ⟨rfl, q5⟩; clear z p dd h4; have z := q5.thaw; have cs := q5.deed.cells; dsimp only at cs; clear c0 c1 c2 c3 c4 c5 c6 c7 c32 c33; obtain ⟨c0, c1, c2, c3, c4, c5, c6, c7, c32, c33⟩ := cs; have h5 := q5.set 3 (.int .i64 (t : Int)) (d' := ⟨1, a, 0, t, 0, 0, [], 0, Par.none, 0, false⟩) (B' := none) (c' := 0) rfl (Lies.nil _ _ _) (Nat.le_refl _) (Nat.zero_le _); have p := h5.ptr; have dd := h5.deed; clear q5)
    | (go_at_call 51; refine (h5.num 4611686018427387904 m 4611686018427387904 rfl (by omega) K4).mono ?_; clear K4; rintro e w6 ⟨rfl, q6⟩; clear z p dd h5; have z := q6.thaw; have cs := q6.deed.cells; dsimp only at cs; clear c0 c1 c2 c3 c4 c5 c6 c7 c32 c33; obtain ⟨c0, c1, c2, c3, c4, c5, c6, c7, c32, c33⟩ := cs; have h6 := q6.set 4 (.int .u64 (m : Int)) (d' := ⟨1, a, 0, t, m, 0, [], 0, Par.none, 0, false⟩) (B' := none) (c' := 0) rfl (Lies.nil _ _ _) (Nat.le_refl _) (Nat.zero_le _); have p := h6.ptr; have dd := h6.deed; clear q6)
    | (go_at_call 48; refine h6.askYes.mono ?_; rintro e w7 ⟨rfl, h7⟩; clear z p dd h6; have z := h7.thaw; have p := h7.ptr; have dd := h7.deed; have cs := h7.deed.cells; dsimp only at cs; clear c0 c1 c2 c3 c4 c5 c6 c7 c32 c33; obtain ⟨c0, c1, c2, c3, c4, c5, c6, c7, c32, c33⟩ := cs)
    | (go_at_call 26; refine (kh1 _).mono ?_; clear kh1; rintro e w' ⟨rfl, rfl⟩)
    | (go_at_call 26; refine (kh2 _).mono ?_; clear kh2; rintro e w' ⟨rfl, rfl⟩)
    | (go_at_call 26; refine (kh4 _).mono ?_; clear kh4; rintro e w' ⟨rfl, rfl⟩)
    | (go_at_call 26; refine (kh8 _).mono ?_; clear kh8; rintro e w' ⟨rfl, rfl⟩)
    | (go_at_call 26; refine (kh16 _).mono ?_; clear kh16; rintro e w' ⟨rfl, rfl⟩)
    | (go_at_call 26; refine (kh32 _).mono ?_; clear kh32; rintro e w' ⟨rfl, rfl⟩)
    | (go_at_call 26; refine (kh64 _).mono ?_; clear kh64; rintro e w' ⟨rfl, rfl⟩)
    | (go_at_call 26; refine (kh128 _).mono ?_; clear kh128; rintro e w' ⟨rfl, rfl⟩))
  have hfin := h7.again
  refine bodyPost_ret (res_deed1 Try.results33 rfl hfin.deed) rfl ⟨none, 0, rfl, hfin⟩
set_option maxRecDepth 100000 in
set_option maxHeartbeats 4000000 in
theorem get_send0 (rb : Nat) (FB : Nat → Prop) (bs : List Nat) (A : Option Addr) (cp g : Nat) (s : Nat × Nat) (a t : Nat) (s1 : Nat × Nat) (s2 : Nat × Nat) (s3 : Nat × Nat) (s4 : Nat × Nat) (w : World) (hR : ReaderAt w rb FB bs s A cp) (hg : w.heap[g]? = some (.cells #[.pointer (some ⟨rb, 0, none⟩), .int .i64 ((0 : Nat) : Int)] 73 (0, 0))) (hn : rb ≠ g) (hF : ∀ k, FB k → k < w.heap.size ∧ k ≠ g) (hbl : bs.length ≤ 140737488355328) (K1 : rdNum bs s 255 = (1, s1)) (K2 : rdNum bs s1 63 = (a, s2)) (K3 : rdNum bs s2 63 = (t, s3)) (K4 : rdNum bs s3 4611686018427387904 = (0, s4)) :
    Calls Try.prog 33 #[.pointer (some ⟨g, 0, none⟩)] w fun e w' => ∃ B c, e = .returned (.agg (Dd.vals ⟨1, a, 0, t, 0, 0, [], 0, Par.none, 0, false⟩ B c)) ∧ GetAt w rb FB bs A cp g w.heap.size s4 80 ⟨1, a, 0, t, 0, 0, [], 0, Par.none, 0, false⟩ B c w' := by
  have hz := zero_deed
  have h0 : GetAt w rb FB bs A cp g w.heap.size s 0 ⟨0, 0, 0, 0, 0, 0, [], 0, Par.none, 0, false⟩ none 0 (w.alloc (.cells (Dd.none.vals none 0) 27)) := GetAt.start w hR hg hn hF
  have z := h0.thaw
  have p := h0.ptr
  have dd := h0.deed
  have cs := h0.deed.cells
  dsimp only at cs
  obtain ⟨c0, c1, c2, c3, c4, c5, c6, c7, c32, c33⟩ := cs
  clear hR hg hn hF
  have kh1 : ∀ w, Calls Try.prog 26 #[.int .i64 97, .int .i64 1] w fun e w' => e = .returned (.bool true) ∧ w = w' := fun w => by have := has_is 97 1 w; rwa [hb97_1] at this
  have kh2 : ∀ w, Calls Try.prog 26 #[.int .i64 97, .int .i64 2] w fun e w' => e = .returned (.bool false) ∧ w = w' := fun w => by have := has_is 97 2 w; rwa [hb97_2] at this
  have kh4 : ∀ w, Calls Try.prog 26 #[.int .i64 97, .int .i64 4] w fun e w' => e = .returned (.bool false) ∧ w = w' := fun w => by have := has_is 97 4 w; rwa [hb97_4] at this
  have kh8 : ∀ w, Calls Try.prog 26 #[.int .i64 97, .int .i64 8] w fun e w' => e = .returned (.bool false) ∧ w = w' := fun w => by have := has_is 97 8 w; rwa [hb97_8] at this
  have kh16 : ∀ w, Calls Try.prog 26 #[.int .i64 97, .int .i64 16] w fun e w' => e = .returned (.bool false) ∧ w = w' := fun w => by have := has_is 97 16 w; rwa [hb97_16] at this
  have kh32 : ∀ w, Calls Try.prog 26 #[.int .i64 97, .int .i64 32] w fun e w' => e = .returned (.bool true) ∧ w = w' := fun w => by have := has_is 97 32 w; rwa [hb97_32] at this
  have kh64 : ∀ w, Calls Try.prog 26 #[.int .i64 97, .int .i64 64] w fun e w' => e = .returned (.bool true) ∧ w = w' := fun w => by have := has_is 97 64 w; rwa [hb97_64] at this
  have kh128 : ∀ w, Calls Try.prog 26 #[.int .i64 97, .int .i64 128] w fun e w' => e = .returned (.bool false) ∧ w = w' := fun w => by have := has_is 97 128 w; rwa [hb97_128] at this
  go_enter Try.func33, Try.ntmps33
  go_wp2_with (first
    | (refine load_deed _ rfl rfl _ _ _ _ _ rfl (by assumption) ?_)
    | (refine store_deed _ _ rfl rfl _ _ _ _ _ _ _ _ rfl rfl (by assumption) ?_)
    | (go_at_call 47; refine (h0.int 255 1 255 1 rfl rfl (by omega) K1).mono ?_; clear K1; rintro e w1 ⟨rfl, q1⟩; clear z p dd h0; have z := q1.thaw; have cs := q1.deed.cells; dsimp only at cs; clear c0 c1 c2 c3 c4 c5 c6 c7 c32 c33; obtain ⟨c0, c1, c2, c3, c4, c5, c6, c7, c32, c33⟩ := cs; have h1 := q1.set 0 (.int .i64 1) (d' := ⟨1, 0, 0, 0, 0, 0, [], 0, Par.none, 0, false⟩) (B' := none) (c' := 0) rfl (Lies.nil _ _ _) (Nat.le_refl _) (Nat.zero_le _); have p := h1.ptr; have dd := h1.deed; clear q1)
    | (go_at_call 24; refine (h1.used 97 rfl).mono ?_; rintro e w2 ⟨rfl, h2⟩; clear z p dd h1; have z := h2.thaw; have p := h2.ptr; have dd := h2.deed; have cs := h2.deed.cells; dsimp only at cs; clear c0 c1 c2 c3 c4 c5 c6 c7 c32 c33; obtain ⟨c0, c1, c2, c3, c4, c5, c6, c7, c32, c33⟩ := cs)
    | (go_at_call 48; refine h2.askYes.mono ?_; rintro e w3 ⟨rfl, h3⟩; clear z p dd h2; have z := h3.thaw; have p := h3.ptr; have dd := h3.deed; have cs := h3.deed.cells; dsimp only at cs; clear c0 c1 c2 c3 c4 c5 c6 c7 c32 c33; obtain ⟨c0, c1, c2, c3, c4, c5, c6, c7, c32, c33⟩ := cs)
    | (go_at_call 47; refine (h3.int 63 a 63 (a : Int) rfl rfl (by omega) K2).mono ?_; clear K2; rintro e w4 ⟨rfl, q4⟩; clear z p dd h3; have z := q4.thaw; have cs := q4.deed.cells; dsimp only at cs; clear c0 c1 c2 c3 c4 c5 c6 c7 c32 c33; obtain ⟨c0, c1, c2, c3, c4, c5, c6, c7, c32, c33⟩ := cs; have h4 := q4.set 1 (.int .i64 (a : Int)) (d' := ⟨1, a, 0, 0, 0, 0, [], 0, Par.none, 0, false⟩) (B' := none) (c' := 0) rfl (Lies.nil _ _ _) (Nat.le_refl _) (Nat.zero_le _); have p := h4.ptr; have dd := h4.deed; clear q4)
    | (go_at_call 47; refine (h4.int 63 t 63 (t : Int) rfl rfl (by omega) K3).mono ?_; clear K3; rintro e w5 ⟨rfl, q5⟩; clear z p dd h4; have z := q5.thaw; have cs := q5.deed.cells; dsimp only at cs; clear c0 c1 c2 c3 c4 c5 c6 c7 c32 c33; obtain ⟨c0, c1, c2, c3, c4, c5, c6, c7, c32, c33⟩ := cs; have h5 := q5.set 3 (.int .i64 (t : Int)) (d' := ⟨1, a, 0, t, 0, 0, [], 0, Par.none, 0, false⟩) (B' := none) (c' := 0) rfl (Lies.nil _ _ _) (Nat.le_refl _) (Nat.zero_le _); have p := h5.ptr; have dd := h5.deed; clear q5)
    | (go_at_call 51; refine (h5.num 4611686018427387904 0 4611686018427387904 rfl (by omega) K4).mono ?_; clear K4; rintro e w6 ⟨rfl, q6⟩; clear z p dd h5; have z := q6.thaw; have cs := q6.deed.cells; dsimp only at cs; clear c0 c1 c2 c3 c4 c5 c6 c7 c32 c33; obtain ⟨c0, c1, c2, c3, c4, c5, c6, c7, c32, c33⟩ := cs; have h6 := q6.set 4 (.int .u64 0) (d' := ⟨1, a, 0, t, 0, 0, [], 0, Par.none, 0, false⟩) (B' := none) (c' := 0) rfl (Lies.nil _ _ _) (Nat.le_refl _) (Nat.zero_le _); have p := h6.ptr; have dd := h6.deed; clear q6)
    | (go_at_call 48; refine h6.askNo.mono ?_; rintro e w7 ⟨rfl, h7⟩; clear z p dd h6; have z := h7.thaw; have p := h7.ptr; have dd := h7.deed; have cs := h7.deed.cells; dsimp only at cs; clear c0 c1 c2 c3 c4 c5 c6 c7 c32 c33; obtain ⟨c0, c1, c2, c3, c4, c5, c6, c7, c32, c33⟩ := cs)
    | (go_at_call 26; refine (kh1 _).mono ?_; clear kh1; rintro e w' ⟨rfl, rfl⟩)
    | (go_at_call 26; refine (kh2 _).mono ?_; clear kh2; rintro e w' ⟨rfl, rfl⟩)
    | (go_at_call 26; refine (kh4 _).mono ?_; clear kh4; rintro e w' ⟨rfl, rfl⟩)
    | (go_at_call 26; refine (kh8 _).mono ?_; clear kh8; rintro e w' ⟨rfl, rfl⟩)
    | (go_at_call 26; refine (kh16 _).mono ?_; clear kh16; rintro e w' ⟨rfl, rfl⟩)
    | (go_at_call 26; refine (kh32 _).mono ?_; clear kh32; rintro e w' ⟨rfl, rfl⟩)
    | (go_at_call 26; refine (kh64 _).mono ?_; clear kh64; rintro e w' ⟨rfl, rfl⟩)
    | (go_at_call 26; refine (kh128 _).mono ?_; clear kh128; rintro e w' ⟨rfl, rfl⟩))
  have hfin := h7.again
  refine bodyPost_ret (res_deed1 Try.results33 rfl hfin.deed) rfl ⟨none, 0, rfl, hfin⟩
set_option maxRecDepth 100000 in
set_option maxHeartbeats 4000000 in
theorem get_stake (rb : Nat) (FB : Nat → Prop) (bs : List Nat) (A : Option Addr) (cp g : Nat) (s : Nat × Nat) (a m : Nat) (s1 : Nat × Nat) (s2 : Nat × Nat) (s3 : Nat × Nat) (w : World) (hR : ReaderAt w rb FB bs s A cp) (hg : w.heap[g]? = some (.cells #[.pointer (some ⟨rb, 0, none⟩), .int .i64 ((0 : Nat) : Int)] 73 (0, 0))) (hn : rb ≠ g) (hF : ∀ k, FB k → k < w.heap.size ∧ k ≠ g) (hbl : bs.length ≤ 140737488355328) (K1 : rdNum bs s 255 = (2, s1)) (K2 : rdNum bs s1 63 = (a, s2)) (K3 : rdNum bs s2 4611686018427387904 = (m, s3)) (hm : m ≠ 0) :
    Calls Try.prog 33 #[.pointer (some ⟨g, 0, none⟩)] w fun e w' => ∃ B c, e = .returned (.agg (Dd.vals ⟨2, a, 0, 0, m, 0, [], 0, Par.none, 0, false⟩ B c)) ∧ GetAt w rb FB bs A cp g w.heap.size s3 0 ⟨2, a, 0, 0, m, 0, [], 0, Par.none, 0, false⟩ B c w' := by
  have hz := zero_deed
  have h0 : GetAt w rb FB bs A cp g w.heap.size s 0 ⟨0, 0, 0, 0, 0, 0, [], 0, Par.none, 0, false⟩ none 0 (w.alloc (.cells (Dd.none.vals none 0) 27)) := GetAt.start w hR hg hn hF
  have z := h0.thaw
  have p := h0.ptr
  have dd := h0.deed
  have cs := h0.deed.cells
  dsimp only at cs
  obtain ⟨c0, c1, c2, c3, c4, c5, c6, c7, c32, c33⟩ := cs
  clear hR hg hn hF
  have hd1 : decide (0 < m) = true := by simp; omega
  clear hm
  have kh1 : ∀ w, Calls Try.prog 26 #[.int .i64 65, .int .i64 1] w fun e w' => e = .returned (.bool true) ∧ w = w' := fun w => by have := has_is 65 1 w; rwa [hb65_1] at this
  have kh2 : ∀ w, Calls Try.prog 26 #[.int .i64 65, .int .i64 2] w fun e w' => e = .returned (.bool false) ∧ w = w' := fun w => by have := has_is 65 2 w; rwa [hb65_2] at this
  have kh4 : ∀ w, Calls Try.prog 26 #[.int .i64 65, .int .i64 4] w fun e w' => e = .returned (.bool false) ∧ w = w' := fun w => by have := has_is 65 4 w; rwa [hb65_4] at this
  have kh8 : ∀ w, Calls Try.prog 26 #[.int .i64 65, .int .i64 8] w fun e w' => e = .returned (.bool false) ∧ w = w' := fun w => by have := has_is 65 8 w; rwa [hb65_8] at this
  have kh16 : ∀ w, Calls Try.prog 26 #[.int .i64 65, .int .i64 16] w fun e w' => e = .returned (.bool false) ∧ w = w' := fun w => by have := has_is 65 16 w; rwa [hb65_16] at this
  have kh32 : ∀ w, Calls Try.prog 26 #[.int .i64 65, .int .i64 32] w fun e w' => e = .returned (.bool false) ∧ w = w' := fun w => by have := has_is 65 32 w; rwa [hb65_32] at this
  have kh64 : ∀ w, Calls Try.prog 26 #[.int .i64 65, .int .i64 64] w fun e w' => e = .returned (.bool true) ∧ w = w' := fun w => by have := has_is 65 64 w; rwa [hb65_64] at this
  have kh128 : ∀ w, Calls Try.prog 26 #[.int .i64 65, .int .i64 128] w fun e w' => e = .returned (.bool false) ∧ w = w' := fun w => by have := has_is 65 128 w; rwa [hb65_128] at this
  go_enter Try.func33, Try.ntmps33
  go_wp2_with (first
    | (refine load_deed _ rfl rfl _ _ _ _ _ rfl (by assumption) ?_)
    | (refine store_deed _ _ rfl rfl _ _ _ _ _ _ _ _ rfl rfl (by assumption) ?_)
    | (go_at_call 47; refine (h0.int 255 2 255 2 rfl rfl (by omega) K1).mono ?_; clear K1; rintro e w1 ⟨rfl, q1⟩; clear z p dd h0; have z := q1.thaw; have cs := q1.deed.cells; dsimp only at cs; clear c0 c1 c2 c3 c4 c5 c6 c7 c32 c33; obtain ⟨c0, c1, c2, c3, c4, c5, c6, c7, c32, c33⟩ := cs; have h1 := q1.set 0 (.int .i64 2) (d' := ⟨2, 0, 0, 0, 0, 0, [], 0, Par.none, 0, false⟩) (B' := none) (c' := 0) rfl (Lies.nil _ _ _) (Nat.le_refl _) (Nat.zero_le _); have p := h1.ptr; have dd := h1.deed; clear q1)
    | (go_at_call 24; refine (h1.used 65 rfl).mono ?_; rintro e w2 ⟨rfl, h2⟩; clear z p dd h1; have z := h2.thaw; have p := h2.ptr; have dd := h2.deed; have cs := h2.deed.cells; dsimp only at cs; clear c0 c1 c2 c3 c4 c5 c6 c7 c32 c33; obtain ⟨c0, c1, c2, c3, c4, c5, c6, c7, c32, c33⟩ := cs)
    | (go_at_call 48; refine h2.askYes.mono ?_; rintro e w3 ⟨rfl, h3⟩; clear z p dd h2; have z := h3.thaw; have p := h3.ptr; have dd := h3.deed; have cs := h3.deed.cells; dsimp only at cs; clear c0 c1 c2 c3 c4 c5 c6 c7 c32 c33; obtain ⟨c0, c1, c2, c3, c4, c5, c6, c7, c32, c33⟩ := cs)
    | (go_at_call 47; refine (h3.int 63 a 63 (a : Int) rfl rfl (by omega) K2).mono ?_; clear K2; rintro e w4 ⟨rfl, q4⟩; clear z p dd h3; have z := q4.thaw; have cs := q4.deed.cells; dsimp only at cs; clear c0 c1 c2 c3 c4 c5 c6 c7 c32 c33; obtain ⟨c0, c1, c2, c3, c4, c5, c6, c7, c32, c33⟩ := cs; have h4 := q4.set 1 (.int .i64 (a : Int)) (d' := ⟨2, a, 0, 0, 0, 0, [], 0, Par.none, 0, false⟩) (B' := none) (c' := 0) rfl (Lies.nil _ _ _) (Nat.le_refl _) (Nat.zero_le _); have p := h4.ptr; have dd := h4.deed; clear q4)
    | (go_at_call 51; refine (h4.num 4611686018427387904 m 4611686018427387904 rfl (by omega) K3).mono ?_; clear K3; rintro e w5 ⟨rfl, q5⟩; clear z p dd h4; have z := q5.thaw; have cs := q5.deed.cells; dsimp only at cs; clear c0 c1 c2 c3 c4 c5 c6 c7 c32 c33; obtain ⟨c0, c1, c2, c3, c4, c5, c6, c7, c32, c33⟩ := cs; have h5 := q5.set 4 (.int .u64 (m : Int)) (d' := ⟨2, a, 0, 0, m, 0, [], 0, Par.none, 0, false⟩) (B' := none) (c' := 0) rfl (Lies.nil _ _ _) (Nat.le_refl _) (Nat.zero_le _); have p := h5.ptr; have dd := h5.deed; clear q5)
    | (go_at_call 48; refine h5.askYes.mono ?_; rintro e w6 ⟨rfl, h6⟩; clear z p dd h5; have z := h6.thaw; have p := h6.ptr; have dd := h6.deed; have cs := h6.deed.cells; dsimp only at cs; clear c0 c1 c2 c3 c4 c5 c6 c7 c32 c33; obtain ⟨c0, c1, c2, c3, c4, c5, c6, c7, c32, c33⟩ := cs)
    | (go_at_call 26; refine (kh1 _).mono ?_; clear kh1; rintro e w' ⟨rfl, rfl⟩)
    | (go_at_call 26; refine (kh2 _).mono ?_; clear kh2; rintro e w' ⟨rfl, rfl⟩)
    | (go_at_call 26; refine (kh4 _).mono ?_; clear kh4; rintro e w' ⟨rfl, rfl⟩)
    | (go_at_call 26; refine (kh8 _).mono ?_; clear kh8; rintro e w' ⟨rfl, rfl⟩)
    | (go_at_call 26; refine (kh16 _).mono ?_; clear kh16; rintro e w' ⟨rfl, rfl⟩)
    | (go_at_call 26; refine (kh32 _).mono ?_; clear kh32; rintro e w' ⟨rfl, rfl⟩)
    | (go_at_call 26; refine (kh64 _).mono ?_; clear kh64; rintro e w' ⟨rfl, rfl⟩)
    | (go_at_call 26; refine (kh128 _).mono ?_; clear kh128; rintro e w' ⟨rfl, rfl⟩))
  have hfin := h6.again
  refine bodyPost_ret (res_deed1 Try.results33 rfl hfin.deed) rfl ⟨none, 0, rfl, hfin⟩
set_option maxRecDepth 100000 in
set_option maxHeartbeats 4000000 in
theorem get_stake0 (rb : Nat) (FB : Nat → Prop) (bs : List Nat) (A : Option Addr) (cp g : Nat) (s : Nat × Nat) (a : Nat) (s1 : Nat × Nat) (s2 : Nat × Nat) (s3 : Nat × Nat) (w : World) (hR : ReaderAt w rb FB bs s A cp) (hg : w.heap[g]? = some (.cells #[.pointer (some ⟨rb, 0, none⟩), .int .i64 ((0 : Nat) : Int)] 73 (0, 0))) (hn : rb ≠ g) (hF : ∀ k, FB k → k < w.heap.size ∧ k ≠ g) (hbl : bs.length ≤ 140737488355328) (K1 : rdNum bs s 255 = (2, s1)) (K2 : rdNum bs s1 63 = (a, s2)) (K3 : rdNum bs s2 4611686018427387904 = (0, s3)) :
    Calls Try.prog 33 #[.pointer (some ⟨g, 0, none⟩)] w fun e w' => ∃ B c, e = .returned (.agg (Dd.vals ⟨2, a, 0, 0, 0, 0, [], 0, Par.none, 0, false⟩ B c)) ∧ GetAt w rb FB bs A cp g w.heap.size s3 80 ⟨2, a, 0, 0, 0, 0, [], 0, Par.none, 0, false⟩ B c w' := by
  have hz := zero_deed
  have h0 : GetAt w rb FB bs A cp g w.heap.size s 0 ⟨0, 0, 0, 0, 0, 0, [], 0, Par.none, 0, false⟩ none 0 (w.alloc (.cells (Dd.none.vals none 0) 27)) := GetAt.start w hR hg hn hF
  have z := h0.thaw
  have p := h0.ptr
  have dd := h0.deed
  have cs := h0.deed.cells
  dsimp only at cs
  obtain ⟨c0, c1, c2, c3, c4, c5, c6, c7, c32, c33⟩ := cs
  clear hR hg hn hF
  have kh1 : ∀ w, Calls Try.prog 26 #[.int .i64 65, .int .i64 1] w fun e w' => e = .returned (.bool true) ∧ w = w' := fun w => by have := has_is 65 1 w; rwa [hb65_1] at this
  have kh2 : ∀ w, Calls Try.prog 26 #[.int .i64 65, .int .i64 2] w fun e w' => e = .returned (.bool false) ∧ w = w' := fun w => by have := has_is 65 2 w; rwa [hb65_2] at this
  have kh4 : ∀ w, Calls Try.prog 26 #[.int .i64 65, .int .i64 4] w fun e w' => e = .returned (.bool false) ∧ w = w' := fun w => by have := has_is 65 4 w; rwa [hb65_4] at this
  have kh8 : ∀ w, Calls Try.prog 26 #[.int .i64 65, .int .i64 8] w fun e w' => e = .returned (.bool false) ∧ w = w' := fun w => by have := has_is 65 8 w; rwa [hb65_8] at this
  have kh16 : ∀ w, Calls Try.prog 26 #[.int .i64 65, .int .i64 16] w fun e w' => e = .returned (.bool false) ∧ w = w' := fun w => by have := has_is 65 16 w; rwa [hb65_16] at this
  have kh32 : ∀ w, Calls Try.prog 26 #[.int .i64 65, .int .i64 32] w fun e w' => e = .returned (.bool false) ∧ w = w' := fun w => by have := has_is 65 32 w; rwa [hb65_32] at this
  have kh64 : ∀ w, Calls Try.prog 26 #[.int .i64 65, .int .i64 64] w fun e w' => e = .returned (.bool true) ∧ w = w' := fun w => by have := has_is 65 64 w; rwa [hb65_64] at this
  have kh128 : ∀ w, Calls Try.prog 26 #[.int .i64 65, .int .i64 128] w fun e w' => e = .returned (.bool false) ∧ w = w' := fun w => by have := has_is 65 128 w; rwa [hb65_128] at this
  go_enter Try.func33, Try.ntmps33
  go_wp2_with (first
    | (refine load_deed _ rfl rfl _ _ _ _ _ rfl (by assumption) ?_)
    | (refine store_deed _ _ rfl rfl _ _ _ _ _ _ _ _ rfl rfl (by assumption) ?_)
    | (go_at_call 47; refine (h0.int 255 2 255 2 rfl rfl (by omega) K1).mono ?_; clear K1; rintro e w1 ⟨rfl, q1⟩; clear z p dd h0; have z := q1.thaw; have cs := q1.deed.cells; dsimp only at cs; clear c0 c1 c2 c3 c4 c5 c6 c7 c32 c33; obtain ⟨c0, c1, c2, c3, c4, c5, c6, c7, c32, c33⟩ := cs; have h1 := q1.set 0 (.int .i64 2) (d' := ⟨2, 0, 0, 0, 0, 0, [], 0, Par.none, 0, false⟩) (B' := none) (c' := 0) rfl (Lies.nil _ _ _) (Nat.le_refl _) (Nat.zero_le _); have p := h1.ptr; have dd := h1.deed; clear q1)
    | (go_at_call 24; refine (h1.used 65 rfl).mono ?_; rintro e w2 ⟨rfl, h2⟩; clear z p dd h1; have z := h2.thaw; have p := h2.ptr; have dd := h2.deed; have cs := h2.deed.cells; dsimp only at cs; clear c0 c1 c2 c3 c4 c5 c6 c7 c32 c33; obtain ⟨c0, c1, c2, c3, c4, c5, c6, c7, c32, c33⟩ := cs)
    | (go_at_call 48; refine h2.askYes.mono ?_; rintro e w3 ⟨rfl, h3⟩; clear z p dd h2; have z := h3.thaw; have p := h3.ptr; have dd := h3.deed; have cs := h3.deed.cells; dsimp only at cs; clear c0 c1 c2 c3 c4 c5 c6 c7 c32 c33; obtain ⟨c0, c1, c2, c3, c4, c5, c6, c7, c32, c33⟩ := cs)
    | (go_at_call 47; refine (h3.int 63 a 63 (a : Int) rfl rfl (by omega) K2).mono ?_; clear K2; rintro e w4 ⟨rfl, q4⟩; clear z p dd h3; have z := q4.thaw; have cs := q4.deed.cells; dsimp only at cs; clear c0 c1 c2 c3 c4 c5 c6 c7 c32 c33; obtain ⟨c0, c1, c2, c3, c4, c5, c6, c7, c32, c33⟩ := cs; have h4 := q4.set 1 (.int .i64 (a : Int)) (d' := ⟨2, a, 0, 0, 0, 0, [], 0, Par.none, 0, false⟩) (B' := none) (c' := 0) rfl (Lies.nil _ _ _) (Nat.le_refl _) (Nat.zero_le _); have p := h4.ptr; have dd := h4.deed; clear q4)
    | (go_at_call 51; refine (h4.num 4611686018427387904 0 4611686018427387904 rfl (by omega) K3).mono ?_; clear K3; rintro e w5 ⟨rfl, q5⟩; clear z p dd h4; have z := q5.thaw; have cs := q5.deed.cells; dsimp only at cs; clear c0 c1 c2 c3 c4 c5 c6 c7 c32 c33; obtain ⟨c0, c1, c2, c3, c4, c5, c6, c7, c32, c33⟩ := cs; have h5 := q5.set 4 (.int .u64 0) (d' := ⟨2, a, 0, 0, 0, 0, [], 0, Par.none, 0, false⟩) (B' := none) (c' := 0) rfl (Lies.nil _ _ _) (Nat.le_refl _) (Nat.zero_le _); have p := h5.ptr; have dd := h5.deed; clear q5)
    | (go_at_call 48; refine h5.askNo.mono ?_; rintro e w6 ⟨rfl, h6⟩; clear z p dd h5; have z := h6.thaw; have p := h6.ptr; have dd := h6.deed; have cs := h6.deed.cells; dsimp only at cs; clear c0 c1 c2 c3 c4 c5 c6 c7 c32 c33; obtain ⟨c0, c1, c2, c3, c4, c5, c6, c7, c32, c33⟩ := cs)
    | (go_at_call 26; refine (kh1 _).mono ?_; clear kh1; rintro e w' ⟨rfl, rfl⟩)
    | (go_at_call 26; refine (kh2 _).mono ?_; clear kh2; rintro e w' ⟨rfl, rfl⟩)
    | (go_at_call 26; refine (kh4 _).mono ?_; clear kh4; rintro e w' ⟨rfl, rfl⟩)
    | (go_at_call 26; refine (kh8 _).mono ?_; clear kh8; rintro e w' ⟨rfl, rfl⟩)
    | (go_at_call 26; refine (kh16 _).mono ?_; clear kh16; rintro e w' ⟨rfl, rfl⟩)
    | (go_at_call 26; refine (kh32 _).mono ?_; clear kh32; rintro e w' ⟨rfl, rfl⟩)
    | (go_at_call 26; refine (kh64 _).mono ?_; clear kh64; rintro e w' ⟨rfl, rfl⟩)
    | (go_at_call 26; refine (kh128 _).mono ?_; clear kh128; rintro e w' ⟨rfl, rfl⟩))
  have hfin := h6.again
  refine bodyPost_ret (res_deed1 Try.results33 rfl hfin.deed) rfl ⟨none, 0, rfl, hfin⟩
set_option maxRecDepth 100000 in
set_option maxHeartbeats 4000000 in
theorem get_top (rb : Nat) (FB : Nat → Prop) (bs : List Nat) (A : Option Addr) (cp g : Nat) (s : Nat × Nat) (a b m : Nat) (s1 : Nat × Nat) (s2 : Nat × Nat) (s3 : Nat × Nat) (s4 : Nat × Nat) (w : World) (hR : ReaderAt w rb FB bs s A cp) (hg : w.heap[g]? = some (.cells #[.pointer (some ⟨rb, 0, none⟩), .int .i64 ((0 : Nat) : Int)] 73 (0, 0))) (hn : rb ≠ g) (hF : ∀ k, FB k → k < w.heap.size ∧ k ≠ g) (hbl : bs.length ≤ 140737488355328) (K1 : rdNum bs s 255 = (3, s1)) (K2 : rdNum bs s1 63 = (a, s2)) (K3 : rdNum bs s2 127 = (b, s3)) (K4 : rdNum bs s3 4611686018427387904 = (m, s4)) (hm : m ≠ 0) :
    Calls Try.prog 33 #[.pointer (some ⟨g, 0, none⟩)] w fun e w' => ∃ B c, e = .returned (.agg (Dd.vals ⟨3, a, b, 0, m, 0, [], 0, Par.none, 0, false⟩ B c)) ∧ GetAt w rb FB bs A cp g w.heap.size s4 0 ⟨3, a, b, 0, m, 0, [], 0, Par.none, 0, false⟩ B c w' := by
  have hz := zero_deed
  have h0 : GetAt w rb FB bs A cp g w.heap.size s 0 ⟨0, 0, 0, 0, 0, 0, [], 0, Par.none, 0, false⟩ none 0 (w.alloc (.cells (Dd.none.vals none 0) 27)) := GetAt.start w hR hg hn hF
  have z := h0.thaw
  have p := h0.ptr
  have dd := h0.deed
  have cs := h0.deed.cells
  dsimp only at cs
  obtain ⟨c0, c1, c2, c3, c4, c5, c6, c7, c32, c33⟩ := cs
  clear hR hg hn hF
  have hd1 : decide (0 < m) = true := by simp; omega
  clear hm
  have kh1 : ∀ w, Calls Try.prog 26 #[.int .i64 67, .int .i64 1] w fun e w' => e = .returned (.bool true) ∧ w = w' := fun w => by have := has_is 67 1 w; rwa [hb67_1] at this
  have kh2 : ∀ w, Calls Try.prog 26 #[.int .i64 67, .int .i64 2] w fun e w' => e = .returned (.bool true) ∧ w = w' := fun w => by have := has_is 67 2 w; rwa [hb67_2] at this
  have kh4 : ∀ w, Calls Try.prog 26 #[.int .i64 67, .int .i64 4] w fun e w' => e = .returned (.bool false) ∧ w = w' := fun w => by have := has_is 67 4 w; rwa [hb67_4] at this
  have kh8 : ∀ w, Calls Try.prog 26 #[.int .i64 67, .int .i64 8] w fun e w' => e = .returned (.bool false) ∧ w = w' := fun w => by have := has_is 67 8 w; rwa [hb67_8] at this
  have kh16 : ∀ w, Calls Try.prog 26 #[.int .i64 67, .int .i64 16] w fun e w' => e = .returned (.bool false) ∧ w = w' := fun w => by have := has_is 67 16 w; rwa [hb67_16] at this
  have kh32 : ∀ w, Calls Try.prog 26 #[.int .i64 67, .int .i64 32] w fun e w' => e = .returned (.bool false) ∧ w = w' := fun w => by have := has_is 67 32 w; rwa [hb67_32] at this
  have kh64 : ∀ w, Calls Try.prog 26 #[.int .i64 67, .int .i64 64] w fun e w' => e = .returned (.bool true) ∧ w = w' := fun w => by have := has_is 67 64 w; rwa [hb67_64] at this
  have kh128 : ∀ w, Calls Try.prog 26 #[.int .i64 67, .int .i64 128] w fun e w' => e = .returned (.bool false) ∧ w = w' := fun w => by have := has_is 67 128 w; rwa [hb67_128] at this
  go_enter Try.func33, Try.ntmps33
  go_wp2_with (first
    | (refine load_deed _ rfl rfl _ _ _ _ _ rfl (by assumption) ?_)
    | (refine store_deed _ _ rfl rfl _ _ _ _ _ _ _ _ rfl rfl (by assumption) ?_)
    | (go_at_call 47; refine (h0.int 255 3 255 3 rfl rfl (by omega) K1).mono ?_; clear K1; rintro e w1 ⟨rfl, q1⟩; clear z p dd h0; have z := q1.thaw; have cs := q1.deed.cells; dsimp only at cs; clear c0 c1 c2 c3 c4 c5 c6 c7 c32 c33; obtain ⟨c0, c1, c2, c3, c4, c5, c6, c7, c32, c33⟩ := cs; have h1 := q1.set 0 (.int .i64 3) (d' := ⟨3, 0, 0, 0, 0, 0, [], 0, Par.none, 0, false⟩) (B' := none) (c' := 0) rfl (Lies.nil _ _ _) (Nat.le_refl _) (Nat.zero_le _); have p := h1.ptr; have dd := h1.deed; clear q1)
    | (go_at_call 24; refine (h1.used 67 rfl).mono ?_; rintro e w2 ⟨rfl, h2⟩; clear z p dd h1; have z := h2.thaw; have p := h2.ptr; have dd := h2.deed; have cs := h2.deed.cells; dsimp only at cs; clear c0 c1 c2 c3 c4 c5 c6 c7 c32 c33; obtain ⟨c0, c1, c2, c3, c4, c5, c6, c7, c32, c33⟩ := cs)
    | (go_at_call 48; refine h2.askYes.mono ?_; rintro e w3 ⟨rfl, h3⟩; clear z p dd h2; have z := h3.thaw; have p := h3.ptr; have dd := h3.deed; have cs := h3.deed.cells; dsimp only at cs; clear c0 c1 c2 c3 c4 c5 c6 c7 c32 c33; obtain ⟨c0, c1, c2, c3, c4, c5, c6, c7, c32, c33⟩ := cs)
    | (go_at_call 47; refine (h3.int 63 a 63 (a : Int) rfl rfl (by omega) K2).mono ?_; clear K2; rintro e w4 ⟨rfl, q4⟩; clear z p dd h3; have z := q4.thaw; have cs := q4.deed.cells; dsimp only at cs; clear c0 c1 c2 c3 c4 c5 c6 c7 c32 c33; obtain ⟨c0, c1, c2, c3, c4, c5, c6, c7, c32, c33⟩ := cs; have h4 := q4.set 1 (.int .i64 (a : Int)) (d' := ⟨3, a, 0, 0, 0, 0, [], 0, Par.none, 0, false⟩) (B' := none) (c' := 0) rfl (Lies.nil _ _ _) (Nat.le_refl _) (Nat.zero_le _); have p := h4.ptr; have dd := h4.deed; clear q4)
    | (go_at_call 47; refine (h4.int 127 b 127 (b : Int) rfl rfl (by omega) K3).mono ?_; clear K3; rintro e w5 ⟨rfl, q5⟩; clear z p dd h4; have z := q5.thaw; have cs := q5.deed.cells; dsimp only at cs; clear c0 c1 c2 c3 c4 c5 c6 c7 c32 c33; obtain ⟨c0, c1, c2, c3, c4, c5, c6, c7, c32, c33⟩ := cs; have h5 := q5.set 2 (.int .i64 (b : Int)) (d' := ⟨3, a, b, 0, 0, 0, [], 0, Par.none, 0, false⟩) (B' := none) (c' := 0) rfl (Lies.nil _ _ _) (Nat.le_refl _) (Nat.zero_le _); have p := h5.ptr; have dd := h5.deed; clear q5)
    | (go_at_call 51; refine (h5.num 4611686018427387904 m 4611686018427387904 rfl (by omega) K4).mono ?_; clear K4; rintro e w6 ⟨rfl, q6⟩; clear z p dd h5; have z := q6.thaw; have cs := q6.deed.cells; dsimp only at cs; clear c0 c1 c2 c3 c4 c5 c6 c7 c32 c33; obtain ⟨c0, c1, c2, c3, c4, c5, c6, c7, c32, c33⟩ := cs; have h6 := q6.set 4 (.int .u64 (m : Int)) (d' := ⟨3, a, b, 0, m, 0, [], 0, Par.none, 0, false⟩) (B' := none) (c' := 0) rfl (Lies.nil _ _ _) (Nat.le_refl _) (Nat.zero_le _); have p := h6.ptr; have dd := h6.deed; clear q6)
    | (go_at_call 48; refine h6.askYes.mono ?_; rintro e w7 ⟨rfl, h7⟩; clear z p dd h6; have z := h7.thaw; have p := h7.ptr; have dd := h7.deed; have cs := h7.deed.cells; dsimp only at cs; clear c0 c1 c2 c3 c4 c5 c6 c7 c32 c33; obtain ⟨c0, c1, c2, c3, c4, c5, c6, c7, c32, c33⟩ := cs)
    | (go_at_call 26; refine (kh1 _).mono ?_; clear kh1; rintro e w' ⟨rfl, rfl⟩)
    | (go_at_call 26; refine (kh2 _).mono ?_; clear kh2; rintro e w' ⟨rfl, rfl⟩)
    | (go_at_call 26; refine (kh4 _).mono ?_; clear kh4; rintro e w' ⟨rfl, rfl⟩)
    | (go_at_call 26; refine (kh8 _).mono ?_; clear kh8; rintro e w' ⟨rfl, rfl⟩)
    | (go_at_call 26; refine (kh16 _).mono ?_; clear kh16; rintro e w' ⟨rfl, rfl⟩)
    | (go_at_call 26; refine (kh32 _).mono ?_; clear kh32; rintro e w' ⟨rfl, rfl⟩)
    | (go_at_call 26; refine (kh64 _).mono ?_; clear kh64; rintro e w' ⟨rfl, rfl⟩)
    | (go_at_call 26; refine (kh128 _).mono ?_; clear kh128; rintro e w' ⟨rfl, rfl⟩))
  have hfin := h7.again
  refine bodyPost_ret (res_deed1 Try.results33 rfl hfin.deed) rfl ⟨none, 0, rfl, hfin⟩
set_option maxRecDepth 100000 in
set_option maxHeartbeats 4000000 in
theorem get_top0 (rb : Nat) (FB : Nat → Prop) (bs : List Nat) (A : Option Addr) (cp g : Nat) (s : Nat × Nat) (a b : Nat) (s1 : Nat × Nat) (s2 : Nat × Nat) (s3 : Nat × Nat) (s4 : Nat × Nat) (w : World) (hR : ReaderAt w rb FB bs s A cp) (hg : w.heap[g]? = some (.cells #[.pointer (some ⟨rb, 0, none⟩), .int .i64 ((0 : Nat) : Int)] 73 (0, 0))) (hn : rb ≠ g) (hF : ∀ k, FB k → k < w.heap.size ∧ k ≠ g) (hbl : bs.length ≤ 140737488355328) (K1 : rdNum bs s 255 = (3, s1)) (K2 : rdNum bs s1 63 = (a, s2)) (K3 : rdNum bs s2 127 = (b, s3)) (K4 : rdNum bs s3 4611686018427387904 = (0, s4)) :
    Calls Try.prog 33 #[.pointer (some ⟨g, 0, none⟩)] w fun e w' => ∃ B c, e = .returned (.agg (Dd.vals ⟨3, a, b, 0, 0, 0, [], 0, Par.none, 0, false⟩ B c)) ∧ GetAt w rb FB bs A cp g w.heap.size s4 80 ⟨3, a, b, 0, 0, 0, [], 0, Par.none, 0, false⟩ B c w' := by
  have hz := zero_deed
  have h0 : GetAt w rb FB bs A cp g w.heap.size s 0 ⟨0, 0, 0, 0, 0, 0, [], 0, Par.none, 0, false⟩ none 0 (w.alloc (.cells (Dd.none.vals none 0) 27)) := GetAt.start w hR hg hn hF
  have z := h0.thaw
  have p := h0.ptr
  have dd := h0.deed
  have cs := h0.deed.cells
  dsimp only at cs
  obtain ⟨c0, c1, c2, c3, c4, c5, c6, c7, c32, c33⟩ := cs
  clear hR hg hn hF
  have kh1 : ∀ w, Calls Try.prog 26 #[.int .i64 67, .int .i64 1] w fun e w' => e = .returned (.bool true) ∧ w = w' := fun w => by have := has_is 67 1 w; rwa [hb67_1] at this
  have kh2 : ∀ w, Calls Try.prog 26 #[.int .i64 67, .int .i64 2] w fun e w' => e = .returned (.bool true) ∧ w = w' := fun w => by have := has_is 67 2 w; rwa [hb67_2] at this
  have kh4 : ∀ w, Calls Try.prog 26 #[.int .i64 67, .int .i64 4] w fun e w' => e = .returned (.bool false) ∧ w = w' := fun w => by have := has_is 67 4 w; rwa [hb67_4] at this
  have kh8 : ∀ w, Calls Try.prog 26 #[.int .i64 67, .int .i64 8] w fun e w' => e = .returned (.bool false) ∧ w = w' := fun w => by have := has_is 67 8 w; rwa [hb67_8] at this
  have kh16 : ∀ w, Calls Try.prog 26 #[.int .i64 67, .int .i64 16] w fun e w' => e = .returned (.bool false) ∧ w = w' := fun w => by have := has_is 67 16 w; rwa [hb67_16] at this
  have kh32 : ∀ w, Calls Try.prog 26 #[.int .i64 67, .int .i64 32] w fun e w' => e = .returned (.bool false) ∧ w = w' := fun w => by have := has_is 67 32 w; rwa [hb67_32] at this
  have kh64 : ∀ w, Calls Try.prog 26 #[.int .i64 67, .int .i64 64] w fun e w' => e = .returned (.bool true) ∧ w = w' := fun w => by have := has_is 67 64 w; rwa [hb67_64] at this
  have kh128 : ∀ w, Calls Try.prog 26 #[.int .i64 67, .int .i64 128] w fun e w' => e = .returned (.bool false) ∧ w = w' := fun w => by have := has_is 67 128 w; rwa [hb67_128] at this
  go_enter Try.func33, Try.ntmps33
  go_wp2_with (first
    | (refine load_deed _ rfl rfl _ _ _ _ _ rfl (by assumption) ?_)
    | (refine store_deed _ _ rfl rfl _ _ _ _ _ _ _ _ rfl rfl (by assumption) ?_)
    | (go_at_call 47; refine (h0.int 255 3 255 3 rfl rfl (by omega) K1).mono ?_; clear K1; rintro e w1 ⟨rfl, q1⟩; clear z p dd h0; have z := q1.thaw; have cs := q1.deed.cells; dsimp only at cs; clear c0 c1 c2 c3 c4 c5 c6 c7 c32 c33; obtain ⟨c0, c1, c2, c3, c4, c5, c6, c7, c32, c33⟩ := cs; have h1 := q1.set 0 (.int .i64 3) (d' := ⟨3, 0, 0, 0, 0, 0, [], 0, Par.none, 0, false⟩) (B' := none) (c' := 0) rfl (Lies.nil _ _ _) (Nat.le_refl _) (Nat.zero_le _); have p := h1.ptr; have dd := h1.deed; clear q1)
    | (go_at_call 24; refine (h1.used 67 rfl).mono ?_; rintro e w2 ⟨rfl, h2⟩; clear z p dd h1; have z := h2.thaw; have p := h2.ptr; have dd := h2.deed; have cs := h2.deed.cells; dsimp only at cs; clear c0 c1 c2 c3 c4 c5 c6 c7 c32 c33; obtain ⟨c0, c1, c2, c3, c4, c5, c6, c7, c32, c33⟩ := cs)
    | (go_at_call 48; refine h2.askYes.mono ?_; rintro e w3 ⟨rfl, h3⟩; clear z p dd h2; have z := h3.thaw; have p := h3.ptr; have dd := h3.deed; have cs := h3.deed.cells; dsimp only at cs; clear c0 c1 c2 c3 c4 c5 c6 c7 c32 c33; obtain ⟨c0, c1, c2, c3, c4, c5, c6, c7, c32, c33⟩ := cs)
    | (go_at_call 47; refine (h3.int 63 a 63 (a : Int) rfl rfl (by omega) K2).mono ?_; clear K2; rintro e w4 ⟨rfl, q4⟩; clear z p dd h3; have z := q4.thaw; have cs := q4.deed.cells; dsimp only at cs; clear c0 c1 c2 c3 c4 c5 c6 c7 c32 c33; obtain ⟨c0, c1, c2, c3, c4, c5, c6, c7, c32, c33⟩ := cs; have h4 := q4.set 1 (.int .i64 (a : Int)) (d' := ⟨3, a, 0, 0, 0, 0, [], 0, Par.none, 0, false⟩) (B' := none) (c' := 0) rfl (Lies.nil _ _ _) (Nat.le_refl _) (Nat.zero_le _); have p := h4.ptr; have dd := h4.deed; clear q4)
    | (go_at_call 47; refine (h4.int 127 b 127 (b : Int) rfl rfl (by omega) K3).mono ?_; clear K3; rintro e w5 ⟨rfl, q5⟩; clear z p dd h4; have z := q5.thaw; have cs := q5.deed.cells; dsimp only at cs; clear c0 c1 c2 c3 c4 c5 c6 c7 c32 c33; obtain ⟨c0, c1, c2, c3, c4, c5, c6, c7, c32, c33⟩ := cs; have h5 := q5.set 2 (.int .i64 (b : Int)) (d' := ⟨3, a, b, 0, 0, 0, [], 0, Par.none, 0, false⟩) (B' := none) (c' := 0) rfl (Lies.nil _ _ _) (Nat.le_refl _) (Nat.zero_le _); have p := h5.ptr; have dd := h5.deed; clear q5)
    | (go_at_call 51; refine (h5.num 4611686018427387904 0 4611686018427387904 rfl (by omega) K4).mono ?_; clear K4; rintro e w6 ⟨rfl, q6⟩; clear z p dd h5; have z := q6.thaw; have cs := q6.deed.cells; dsimp only at cs; clear c0 c1 c2 c3 c4 c5 c6 c7 c32 c33; obtain ⟨c0, c1, c2, c3, c4, c5, c6, c7, c32, c33⟩ := cs; have h6 := q6.set 4 (.int .u64 0) (d' := ⟨3, a, b, 0, 0, 0, [], 0, Par.none, 0, false⟩) (B' := none) (c' := 0) rfl (Lies.nil _ _ _) (Nat.le_refl _) (Nat.zero_le _); have p := h6.ptr; have dd := h6.deed; clear q6)
    | (go_at_call 48; refine h6.askNo.mono ?_; rintro e w7 ⟨rfl, h7⟩; clear z p dd h6; have z := h7.thaw; have p := h7.ptr; have dd := h7.deed; have cs := h7.deed.cells; dsimp only at cs; clear c0 c1 c2 c3 c4 c5 c6 c7 c32 c33; obtain ⟨c0, c1, c2, c3, c4, c5, c6, c7, c32, c33⟩ := cs)
    | (go_at_call 26; refine (kh1 _).mono ?_; clear kh1; rintro e w' ⟨rfl, rfl⟩)
    | (go_at_call 26; refine (kh2 _).mono ?_; clear kh2; rintro e w' ⟨rfl, rfl⟩)
    | (go_at_call 26; refine (kh4 _).mono ?_; clear kh4; rintro e w' ⟨rfl, rfl⟩)
    | (go_at_call 26; refine (kh8 _).mono ?_; clear kh8; rintro e w' ⟨rfl, rfl⟩)
    | (go_at_call 26; refine (kh16 _).mono ?_; clear kh16; rintro e w' ⟨rfl, rfl⟩)
    | (go_at_call 26; refine (kh32 _).mono ?_; clear kh32; rintro e w' ⟨rfl, rfl⟩)
    | (go_at_call 26; refine (kh64 _).mono ?_; clear kh64; rintro e w' ⟨rfl, rfl⟩)
    | (go_at_call 26; refine (kh128 _).mono ?_; clear kh128; rintro e w' ⟨rfl, rfl⟩))
  have hfin := h7.again
  refine bodyPost_ret (res_deed1 Try.results33 rfl hfin.deed) rfl ⟨none, 0, rfl, hfin⟩
end Go.Proofs.Ytagibkaonmpihaa
