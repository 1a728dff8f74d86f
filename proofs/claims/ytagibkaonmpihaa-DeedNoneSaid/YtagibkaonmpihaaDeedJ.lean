/- Layer 8 (deed): a deed is read, kind by kind. By contracts. -/
import Derived.Test.YtagibkaonmpihaaDeedH
import Derived.Deep.RegionHeld3
namespace Go.Proofs.Ytagibkaonmpihaa
open Go.RowKit
set_option linter.unusedVariables false
set_option linter.unusedSimpArgs false

theorem mask_bad (k : Nat) (hk : k = 0 ∨ 7 < k) : Dd.mask ⟨k, 0, 0, 0, 0, 0, [], 0, Par.none, 0, false⟩ = 0 := by
  unfold Dd.mask
  simp only
  rw [if_neg (by omega), if_neg (by omega), if_neg (by omega), if_neg (by omega), if_neg (by omega), if_neg (by omega), if_neg (by omega)]
set_option maxRecDepth 100000 in
set_option maxHeartbeats 4000000 in
theorem get_leave (rb : Nat) (FB : Nat → Prop) (bs : List Nat) (A : Option Addr) (cp g : Nat) (s : Nat × Nat) (a b : Nat) (s1 : Nat × Nat) (s2 : Nat × Nat) (s3 : Nat × Nat) (w : World) (hR : ReaderAt w rb FB bs s A cp) (hg : w.heap[g]? = some (.cells #[.pointer (some ⟨rb, 0, none⟩), .int .i64 ((0 : Nat) : Int)] 73 (0, 0))) (hn : rb ≠ g) (hF : ∀ k, FB k → k < w.heap.size ∧ k ≠ g) (hbl : bs.length ≤ 140737488355328) (K1 : rdNum bs s 255 = (4, s1)) (K2 : rdNum bs s1 63 = (a, s2)) (K3 : rdNum bs s2 127 = (b, s3)) :
    Calls Try.prog 33 #[.pointer (some ⟨g, 0, none⟩)] w fun e w' => ∃ B c, e = .returned (.agg (Dd.vals ⟨4, a, b, 0, 0, 0, [], 0, Par.none, 0, false⟩ B c)) ∧ GetAt w rb FB bs A cp g w.heap.size s3 0 ⟨4, a, b, 0, 0, 0, [], 0, Par.none, 0, false⟩ B c w' := by
  have hz := zero_deed
  have h0 : GetAt w rb FB bs A cp g w.heap.size s 0 ⟨0, 0, 0, 0, 0, 0, [], 0, Par.none, 0, false⟩ none 0 (w.alloc (.cells (Dd.none.vals none 0) 27)) := GetAt.start w hR hg hn hF
  have z := h0.thaw
  have p := h0.ptr
  have dd := h0.deed
  have cs := h0.deed.cells
  dsimp only at cs
  obtain ⟨c0, c1, c2, c3, c4, c5, c6, c7, c32, c33⟩ := cs
  clear hR hg hn hF
  have kh1 : ∀ w, Calls Try.prog 26 #[.int .i64 3, .int .i64 1] w fun e w' => e = .returned (.bool true) ∧ w = w' := fun w => by have := has_is 3 1 w; rwa [hb3_1] at this
  have kh2 : ∀ w, Calls Try.prog 26 #[.int .i64 3, .int .i64 2] w fun e w' => e = .returned (.bool true) ∧ w = w' := fun w => by have := has_is 3 2 w; rwa [hb3_2] at this
  have kh4 : ∀ w, Calls Try.prog 26 #[.int .i64 3, .int .i64 4] w fun e w' => e = .returned (.bool false) ∧ w = w' := fun w => by have := has_is 3 4 w; rwa [hb3_4] at this
  have kh8 : ∀ w, Calls Try.prog 26 #[.int .i64 3, .int .i64 8] w fun e w' => e = .returned (.bool false) ∧ w = w' := fun w => by have := has_is 3 8 w; rwa [hb3_8] at this
  have kh16 : ∀ w, Calls Try.prog 26 #[.int .i64 3, .int .i64 16] w fun e w' => e = .returned (.bool false) ∧ w = w' := fun w => by have := has_is 3 16 w; rwa [hb3_16] at this
  have kh32 : ∀ w, Calls Try.prog 26 #[.int .i64 3, .int .i64 32] w fun e w' => e = .returned (.bool false) ∧ w = w' := fun w => by have := has_is 3 32 w; rwa [hb3_32] at this
  have kh64 : ∀ w, Calls Try.prog 26 #[.int .i64 3, .int .i64 64] w fun e w' => e = .returned (.bool false) ∧ w = w' := fun w => by have := has_is 3 64 w; rwa [hb3_64] at this
  have kh128 : ∀ w, Calls Try.prog 26 #[.int .i64 3, .int .i64 128] w fun e w' => e = .returned (.bool false) ∧ w = w' := fun w => by have := has_is 3 128 w; rwa [hb3_128] at this
  go_enter Try.func33, Try.ntmps33
  go_wp2_with (first
    | (refine load_deed _ rfl rfl _ _ _ _ _ rfl (by assumption) ?_)
    | (refine store_deed _ _ rfl rfl _ _ _ _ _ _ _ _ rfl rfl (by assumption) ?_)
    | (go_at_call 47; refine (h0.int 255 4 255 4 rfl rfl (by omega) K1).mono ?_; clear K1; rintro e w1 ⟨rfl, q1⟩; clear z p dd h0; have z := q1.thaw; have cs := q1.deed.cells; dsimp only at cs; clear c0 c1 c2 c3 c4 c5 c6 c7 c32 c33; obtain ⟨c0, c1, c2, c3, c4, c5, c6, c7, c32, c33⟩ := cs; have h1 := q1.set 0 (.int .i64 4) (d' := ⟨4, 0, 0, 0, 0, 0, [], 0, Par.none, 0, false⟩) (B' := none) (c' := 0) rfl (Lies.nil _ _ _) (Nat.le_refl _) (Nat.zero_le _); have p := h1.ptr; have dd := h1.deed; clear q1)
    | (go_at_call 24; refine (h1.used 3 rfl).mono ?_; rintro e w2 ⟨rfl, h2⟩; clear z p dd h1; have z := h2.thaw; have p := h2.ptr; have dd := h2.deed; have cs := h2.deed.cells; dsimp only at cs; clear c0 c1 c2 c3 c4 c5 c6 c7 c32 c33; obtain ⟨c0, c1, c2, c3, c4, c5, c6, c7, c32, c33⟩ := cs)
    | (go_at_call 48; refine h2.askYes.mono ?_; rintro e w3 ⟨rfl, h3⟩; clear z p dd h2; have z := h3.thaw; have p := h3.ptr; have dd := h3.deed; have cs := h3.deed.cells; dsimp only at cs; clear c0 c1 c2 c3 c4 c5 c6 c7 c32 c33; obtain ⟨c0, c1, c2, c3, c4, c5, c6, c7, c32, c33⟩ := cs)
    | (go_at_call 47; refine (h3.int 63 a 63 (a : Int) rfl rfl (by omega) K2).mono ?_; clear K2; rintro e w4 ⟨rfl, q4⟩; clear z p dd h3; have z := q4.thaw; have cs := q4.deed.cells; dsimp only at cs; clear c0 c1 c2 c3 c4 c5 c6 c7 c32 c33; obtain ⟨c0, c1, c2, c3, c4, c5, c6, c7, c32, c33⟩ := cs; have h4 := q4.set 1 (.int .i64 (a : Int)) (d' := ⟨4, a, 0, 0, 0, 0, [], 0, Par.none, 0, false⟩) (B' := none) (c' := 0) rfl (Lies.nil _ _ _) (Nat.le_refl _) (Nat.zero_le _); have p := h4.ptr; have dd := h4.deed; clear q4)
    | (go_at_call 47; refine (h4.int 127 b 127 (b : Int) rfl rfl (by omega) K3).mono ?_; clear K3; rintro e w5 ⟨rfl, q5⟩; clear z p dd h4; have z := q5.thaw; have cs := q5.deed.cells; dsimp only at cs; clear c0 c1 c2 c3 c4 c5 c6 c7 c32 c33; obtain ⟨c0, c1, c2, c3, c4, c5, c6, c7, c32, c33⟩ := cs; have h5 := q5.set 2 (.int .i64 (b : Int)) (d' := ⟨4, a, b, 0, 0, 0, [], 0, Par.none, 0, false⟩) (B' := none) (c' := 0) rfl (Lies.nil _ _ _) (Nat.le_refl _) (Nat.zero_le _); have p := h5.ptr; have dd := h5.deed; clear q5)
    | (go_at_call 26; refine (kh1 _).mono ?_; clear kh1; rintro e w' ⟨rfl, rfl⟩)
    | (go_at_call 26; refine (kh2 _).mono ?_; clear kh2; rintro e w' ⟨rfl, rfl⟩)
    | (go_at_call 26; refine (kh4 _).mono ?_; clear kh4; rintro e w' ⟨rfl, rfl⟩)
    | (go_at_call 26; refine (kh8 _).mono ?_; clear kh8; rintro e w' ⟨rfl, rfl⟩)
    | (go_at_call 26; refine (kh16 _).mono ?_; clear kh16; rintro e w' ⟨rfl, rfl⟩)
    | (go_at_call 26; refine (kh32 _).mono ?_; clear kh32; rintro e w' ⟨rfl, rfl⟩)
    | (go_at_call 26; refine (kh64 _).mono ?_; clear kh64; rintro e w' ⟨rfl, rfl⟩)
    | (go_at_call 26; refine (kh128 _).mono ?_; clear kh128; rintro e w' ⟨rfl, rfl⟩))
  have hfin := h5.again
  refine bodyPost_ret (res_deed1 Try.results33 rfl hfin.deed) rfl ⟨none, 0, rfl, hfin⟩
set_option maxRecDepth 100000 in
set_option maxHeartbeats 4000000 in
theorem get_mark (rb : Nat) (FB : Nat → Prop) (bs : List Nat) (A : Option Addr) (cp g : Nat) (s : Nat × Nat) (ep : Nat) (xs : List Nat) (s1 : Nat × Nat) (s2 : Nat × Nat) (st : Nat × Nat) (w : World) (hR : ReaderAt w rb FB bs s A cp) (hg : w.heap[g]? = some (.cells #[.pointer (some ⟨rb, 0, none⟩), .int .i64 ((0 : Nat) : Int)] 73 (0, 0))) (hn : rb ≠ g) (hF : ∀ k, FB k → k < w.heap.size ∧ k ≠ g) (hbl : bs.length ≤ 140737488355328) (K1 : rdNum bs s 255 = (5, s1)) (K2 : rdNum bs s1 1073741824 = (ep, s2)) (KR : rdRaw bs s2 (32 : Nat) = (xs, st)) :
    Calls Try.prog 33 #[.pointer (some ⟨g, 0, none⟩)] w fun e w' => ∃ B c, e = .returned (.agg (Dd.vals ⟨5, 0, 0, 0, 0, ep, xs, 0, Par.none, 0, false⟩ B c)) ∧ GetAt w rb FB bs A cp g w.heap.size st 0 ⟨5, 0, 0, 0, 0, ep, xs, 0, Par.none, 0, false⟩ B c w' := by
  have hz := zero_deed
  have h0 : GetAt w rb FB bs A cp g w.heap.size s 0 ⟨0, 0, 0, 0, 0, 0, [], 0, Par.none, 0, false⟩ none 0 (w.alloc (.cells (Dd.none.vals none 0) 27)) := GetAt.start w hR hg hn hF
  have z := h0.thaw
  have p := h0.ptr
  have dd := h0.deed
  have cs := h0.deed.cells
  dsimp only at cs
  obtain ⟨c0, c1, c2, c3, c4, c5, c6, c7, c32, c33⟩ := cs
  clear hR hg hn hF
  have kh1 : ∀ w, Calls Try.prog 26 #[.int .i64 4, .int .i64 1] w fun e w' => e = .returned (.bool false) ∧ w = w' := fun w => by have := has_is 4 1 w; rwa [hb4_1] at this
  have kh2 : ∀ w, Calls Try.prog 26 #[.int .i64 4, .int .i64 2] w fun e w' => e = .returned (.bool false) ∧ w = w' := fun w => by have := has_is 4 2 w; rwa [hb4_2] at this
  have kh4 : ∀ w, Calls Try.prog 26 #[.int .i64 4, .int .i64 4] w fun e w' => e = .returned (.bool true) ∧ w = w' := fun w => by have := has_is 4 4 w; rwa [hb4_4] at this
  have kh8 : ∀ w, Calls Try.prog 26 #[.int .i64 4, .int .i64 8] w fun e w' => e = .returned (.bool false) ∧ w = w' := fun w => by have := has_is 4 8 w; rwa [hb4_8] at this
  have kh16 : ∀ w, Calls Try.prog 26 #[.int .i64 4, .int .i64 16] w fun e w' => e = .returned (.bool false) ∧ w = w' := fun w => by have := has_is 4 16 w; rwa [hb4_16] at this
  have kh32 : ∀ w, Calls Try.prog 26 #[.int .i64 4, .int .i64 32] w fun e w' => e = .returned (.bool false) ∧ w = w' := fun w => by have := has_is 4 32 w; rwa [hb4_32] at this
  have kh64 : ∀ w, Calls Try.prog 26 #[.int .i64 4, .int .i64 64] w fun e w' => e = .returned (.bool false) ∧ w = w' := fun w => by have := has_is 4 64 w; rwa [hb4_64] at this
  have kh128 : ∀ w, Calls Try.prog 26 #[.int .i64 4, .int .i64 128] w fun e w' => e = .returned (.bool false) ∧ w = w' := fun w => by have := has_is 4 128 w; rwa [hb4_128] at this
  go_enter Try.func33, Try.ntmps33
  go_wp2_with (first
    | (refine load_deed _ rfl rfl _ _ _ _ _ rfl (by assumption) ?_)
    | (refine store_deed _ _ rfl rfl _ _ _ _ _ _ _ _ rfl rfl (by assumption) ?_)
    | (go_at_call 47; refine (h0.int 255 5 255 5 rfl rfl (by omega) K1).mono ?_; clear K1; rintro e w1 ⟨rfl, q1⟩; clear z p dd h0; have z := q1.thaw; have cs := q1.deed.cells; dsimp only at cs; clear c0 c1 c2 c3 c4 c5 c6 c7 c32 c33; obtain ⟨c0, c1, c2, c3, c4, c5, c6, c7, c32, c33⟩ := cs; have h1 := q1.set 0 (.int .i64 5) (d' := ⟨5, 0, 0, 0, 0, 0, [], 0, Par.none, 0, false⟩) (B' := none) (c' := 0) rfl (Lies.nil _ _ _) (Nat.le_refl _) (Nat.zero_le _); have p := h1.ptr; have dd := h1.deed; clear q1)
    | (go_at_call 24; refine (h1.used 4 rfl).mono ?_; rintro e w2 ⟨rfl, h2⟩; clear z p dd h1; have z := h2.thaw; have p := h2.ptr; have dd := h2.deed; have cs := h2.deed.cells; dsimp only at cs; clear c0 c1 c2 c3 c4 c5 c6 c7 c32 c33; obtain ⟨c0, c1, c2, c3, c4, c5, c6, c7, c32, c33⟩ := cs)
    | (go_at_call 48; refine h2.askYes.mono ?_; rintro e w3 ⟨rfl, h3⟩; clear z p dd h2; have z := h3.thaw; have p := h3.ptr; have dd := h3.deed; have cs := h3.deed.cells; dsimp only at cs; clear c0 c1 c2 c3 c4 c5 c6 c7 c32 c33; obtain ⟨c0, c1, c2, c3, c4, c5, c6, c7, c32, c33⟩ := cs)
    | (go_at_call 26; refine (kh1 _).mono ?_; clear kh1; rintro e w' ⟨rfl, rfl⟩)
    | (go_at_call 26; refine (kh2 _).mono ?_; clear kh2; rintro e w' ⟨rfl, rfl⟩)
    | (go_at_call 26; refine (kh4 _).mono ?_; clear kh4; rintro e w' ⟨rfl, rfl⟩)
    | (go_at_call 26; refine (kh8 _).mono ?_; clear kh8; rintro e w' ⟨rfl, rfl⟩)
    | (go_at_call 26; refine (kh16 _).mono ?_; clear kh16; rintro e w' ⟨rfl, rfl⟩)
    | (go_at_call 26; refine (kh32 _).mono ?_; clear kh32; rintro e w' ⟨rfl, rfl⟩)
    | (go_at_call 26; refine (kh64 _).mono ?_; clear kh64; rintro e w' ⟨rfl, rfl⟩)
    | (go_at_call 26; refine (kh128 _).mono ?_; clear kh128; rintro e w' ⟨rfl, rfl⟩))
  have hd := h3.drew
  have pd := hd.ptr
  go_region_held3 (fun w' => w'.cell? ⟨g, 0, none⟩ = some (.pointer (some ⟨rb, 0, none⟩)))
    (first | exact pd | exact pa | exact pb | exact pc | exact pp)
    (first
      | (go_at_call 47; refine (hd.int 1073741824 ep 1073741824 (ep : Int) rfl rfl (by omega) K2).mono ?_; clear K2; rintro e wa ⟨rfl, qa⟩; have pa := qa.ptr)
      | (go_at_call 49; refine (qa.raw 32 32 rfl xs (by omega) hbl KR).mono ?_; clear KR; rintro e wb ⟨⟨B1, e1, rfl, l1, l2, l3⟩, qb⟩; clear z; have z := qb.thaw; have cs := qb.deed.cells; dsimp only at cs; clear c0 c1 c2 c3 c4 c5 c6 c7 c32 c33; obtain ⟨c0, c1, c2, c3, c4, c5, c6, c7, c32, c33⟩ := cs; have pb := qb.ptr; have qc := qb.set 5 (.int .i64 (ep : Int)) (d' := ⟨5, 0, 0, 0, 0, ep, [], 0, Par.none, 0, false⟩) (B' := none) (c' := 0) rfl (Lies.nil _ _ _) (Nat.le_refl _) (Nat.zero_le _); have pc := qc.ptr; have lc : Lies _ (fun k => w.heap.size < k) B1 xs := l1.grown (grown_set _ w.heap.size 5 (.int .i64 (ep : Int))) (fun k hk e => by injection e with e; omega); have h4 := qc.set 6 (.slice B1 xs.length e1) (d' := ⟨5, 0, 0, 0, 0, ep, xs, 0, Par.none, 0, false⟩) (B' := B1) (c' := e1) rfl lc l2 l3; have pp := h4.ptr; have dd := h4.deed))
  go_wp2_with (first
    | (refine load_deed _ rfl rfl _ _ _ _ _ rfl (by assumption) ?_)
    | (refine store_deed _ _ rfl rfl _ _ _ _ _ _ _ _ rfl rfl (by assumption) ?_)
    | (go_at_call 26; refine (kh1 _).mono ?_; clear kh1; rintro e w' ⟨rfl, rfl⟩)
    | (go_at_call 26; refine (kh2 _).mono ?_; clear kh2; rintro e w' ⟨rfl, rfl⟩)
    | (go_at_call 26; refine (kh4 _).mono ?_; clear kh4; rintro e w' ⟨rfl, rfl⟩)
    | (go_at_call 26; refine (kh8 _).mono ?_; clear kh8; rintro e w' ⟨rfl, rfl⟩)
    | (go_at_call 26; refine (kh16 _).mono ?_; clear kh16; rintro e w' ⟨rfl, rfl⟩)
    | (go_at_call 26; refine (kh32 _).mono ?_; clear kh32; rintro e w' ⟨rfl, rfl⟩)
    | (go_at_call 26; refine (kh64 _).mono ?_; clear kh64; rintro e w' ⟨rfl, rfl⟩)
    | (go_at_call 26; refine (kh128 _).mono ?_; clear kh128; rintro e w' ⟨rfl, rfl⟩))
  have hfin := h4.again
  refine bodyPost_ret (res_deed1 Try.results33 rfl hfin.deed) rfl ⟨B1, e1, rfl, hfin⟩
set_option maxRecDepth 100000 in
set_option maxHeartbeats 4000000 in
theorem get_other (rb : Nat) (FB : Nat → Prop) (bs : List Nat) (A : Option Addr) (cp g : Nat) (s : Nat × Nat) (a k : Nat) (s1 : Nat × Nat) (s2 : Nat × Nat) (s3 : Nat × Nat) (w : World) (hR : ReaderAt w rb FB bs s A cp) (hg : w.heap[g]? = some (.cells #[.pointer (some ⟨rb, 0, none⟩), .int .i64 ((0 : Nat) : Int)] 73 (0, 0))) (hn : rb ≠ g) (hF : ∀ k, FB k → k < w.heap.size ∧ k ≠ g) (hbl : bs.length ≤ 140737488355328) (K1 : rdNum bs s 255 = (6, s1)) (K2 : rdNum bs s1 63 = (a, s2)) (K3 : rdNum bs s2 255 = (k, s3)) (k3 : 3 ≤ k) (k4 : k ≤ 4) :
    Calls Try.prog 33 #[.pointer (some ⟨g, 0, none⟩)] w fun e w' => ∃ B c, e = .returned (.agg (Dd.vals ⟨6, a, 0, 0, 0, 0, [], k, Par.none, 0, false⟩ B c)) ∧ GetAt w rb FB bs A cp g w.heap.size s3 0 ⟨6, a, 0, 0, 0, 0, [], k, Par.none, 0, false⟩ B c w' := by
  have hz := zero_deed
  have h0 : GetAt w rb FB bs A cp g w.heap.size s 0 ⟨0, 0, 0, 0, 0, 0, [], 0, Par.none, 0, false⟩ none 0 (w.alloc (.cells (Dd.none.vals none 0) 27)) := GetAt.start w hR hg hn hF
  have z := h0.thaw
  have p := h0.ptr
  have dd := h0.deed
  have cs := h0.deed.cells
  dsimp only at cs
  obtain ⟨c0, c1, c2, c3, c4, c5, c6, c7, c32, c33⟩ := cs
  clear hR hg hn hF
  have e1 : decide (1 ≤ k) = true := by simp; omega
  have e2 : decide (k ≤ 4) = true := by simp; omega
  have e3 : decide ((1 : Int) ≤ (k : Int)) = true := by simp; omega
  have e4 : decide ((k : Int) ≤ 4) = true := by simp; omega
  have kh1 : ∀ w, Calls Try.prog 26 #[.int .i64 9, .int .i64 1] w fun e w' => e = .returned (.bool true) ∧ w = w' := fun w => by have := has_is 9 1 w; rwa [hb9_1] at this
  have kh2 : ∀ w, Calls Try.prog 26 #[.int .i64 9, .int .i64 2] w fun e w' => e = .returned (.bool false) ∧ w = w' := fun w => by have := has_is 9 2 w; rwa [hb9_2] at this
  have kh4 : ∀ w, Calls Try.prog 26 #[.int .i64 9, .int .i64 4] w fun e w' => e = .returned (.bool false) ∧ w = w' := fun w => by have := has_is 9 4 w; rwa [hb9_4] at this
  have kh8 : ∀ w, Calls Try.prog 26 #[.int .i64 9, .int .i64 8] w fun e w' => e = .returned (.bool true) ∧ w = w' := fun w => by have := has_is 9 8 w; rwa [hb9_8] at this
  have kh16 : ∀ w, Calls Try.prog 26 #[.int .i64 9, .int .i64 16] w fun e w' => e = .returned (.bool false) ∧ w = w' := fun w => by have := has_is 9 16 w; rwa [hb9_16] at this
  have kh32 : ∀ w, Calls Try.prog 26 #[.int .i64 9, .int .i64 32] w fun e w' => e = .returned (.bool false) ∧ w = w' := fun w => by have := has_is 9 32 w; rwa [hb9_32] at this
  have kh64 : ∀ w, Calls Try.prog 26 #[.int .i64 9, .int .i64 64] w fun e w' => e = .returned (.bool false) ∧ w = w' := fun w => by have := has_is 9 64 w; rwa [hb9_64] at this
  have kh128 : ∀ w, Calls Try.prog 26 #[.int .i64 9, .int .i64 128] w fun e w' => e = .returned (.bool false) ∧ w = w' := fun w => by have := has_is 9 128 w; rwa [hb9_128] at this
  go_enter Try.func33, Try.ntmps33
  go_wp2_with (first
    | (refine load_deed _ rfl rfl _ _ _ _ _ rfl (by assumption) ?_)
    | (refine store_deed _ _ rfl rfl _ _ _ _ _ _ _ _ rfl rfl (by assumption) ?_)
    | (go_at_call 47; refine (h0.int 255 6 255 6 rfl rfl (by omega) K1).mono ?_; clear K1; rintro e w1 ⟨rfl, q1⟩; clear z p dd h0; have z := q1.thaw; have cs := q1.deed.cells; dsimp only at cs; clear c0 c1 c2 c3 c4 c5 c6 c7 c32 c33; obtain ⟨c0, c1, c2, c3, c4, c5, c6, c7, c32, c33⟩ := cs; have h1 := q1.set 0 (.int .i64 6) (d' := ⟨6, 0, 0, 0, 0, 0, [], 0, Par.none, 0, false⟩) (B' := none) (c' := 0) rfl (Lies.nil _ _ _) (Nat.le_refl _) (Nat.zero_le _); have p := h1.ptr; have dd := h1.deed; clear q1)
    | (go_at_call 24; refine (h1.used 9 rfl).mono ?_; rintro e w2 ⟨rfl, h2⟩; clear z p dd h1; have z := h2.thaw; have p := h2.ptr; have dd := h2.deed; have cs := h2.deed.cells; dsimp only at cs; clear c0 c1 c2 c3 c4 c5 c6 c7 c32 c33; obtain ⟨c0, c1, c2, c3, c4, c5, c6, c7, c32, c33⟩ := cs)
    | (go_at_call 48; refine h2.askYes.mono ?_; rintro e w3 ⟨rfl, h3⟩; clear z p dd h2; have z := h3.thaw; have p := h3.ptr; have dd := h3.deed; have cs := h3.deed.cells; dsimp only at cs; clear c0 c1 c2 c3 c4 c5 c6 c7 c32 c33; obtain ⟨c0, c1, c2, c3, c4, c5, c6, c7, c32, c33⟩ := cs)
    | (go_at_call 47; refine (h3.int 63 a 63 (a : Int) rfl rfl (by omega) K2).mono ?_; clear K2; rintro e w4 ⟨rfl, q4⟩; clear z p dd h3; have z := q4.thaw; have cs := q4.deed.cells; dsimp only at cs; clear c0 c1 c2 c3 c4 c5 c6 c7 c32 c33; obtain ⟨c0, c1, c2, c3, c4, c5, c6, c7, c32, c33⟩ := cs; have h4 := q4.set 1 (.int .i64 (a : Int)) (d' := ⟨6, a, 0, 0, 0, 0, [], 0, Par.none, 0, false⟩) (B' := none) (c' := 0) rfl (Lies.nil _ _ _) (Nat.le_refl _) (Nat.zero_le _); have p := h4.ptr; have dd := h4.deed; clear q4)
    | (go_at_call 47; refine (h4.int 255 k 255 (k : Int) rfl rfl (by omega) K3).mono ?_; clear K3; rintro e w5 ⟨rfl, q5⟩; clear z p dd h4; have z := q5.thaw; have cs := q5.deed.cells; dsimp only at cs; clear c0 c1 c2 c3 c4 c5 c6 c7 c32 c33; obtain ⟨c0, c1, c2, c3, c4, c5, c6, c7, c32, c33⟩ := cs; have h5 := q5.set 7 (.int .i64 (k : Int)) (d' := ⟨6, a, 0, 0, 0, 0, [], k, Par.none, 0, false⟩) (B' := none) (c' := 0) rfl (Lies.nil _ _ _) (Nat.le_refl _) (Nat.zero_le _); have p := h5.ptr; have dd := h5.deed; clear q5)
    | (go_at_call 48; refine h5.askYes.mono ?_; rintro e w6 ⟨rfl, h6⟩; clear z p dd h5; have z := h6.thaw; have p := h6.ptr; have dd := h6.deed; have cs := h6.deed.cells; dsimp only at cs; clear c0 c1 c2 c3 c4 c5 c6 c7 c32 c33; obtain ⟨c0, c1, c2, c3, c4, c5, c6, c7, c32, c33⟩ := cs)
    | (go_at_call 24; refine (h6.used 9 (by show (if (k : Int) = 1 then (25 : Int) else if (k : Int) = 2 then 105 else 9) = 9; rw [if_neg (by omega), if_neg (by omega)])).mono ?_; rintro e w7 ⟨rfl, h7⟩; clear z p dd h6; have z := h7.thaw; have p := h7.ptr; have dd := h7.deed; have cs := h7.deed.cells; dsimp only at cs; clear c0 c1 c2 c3 c4 c5 c6 c7 c32 c33; obtain ⟨c0, c1, c2, c3, c4, c5, c6, c7, c32, c33⟩ := cs)
    | (go_at_call 26; refine (kh1 _).mono ?_; clear kh1; rintro e w' ⟨rfl, rfl⟩)
    | (go_at_call 26; refine (kh2 _).mono ?_; clear kh2; rintro e w' ⟨rfl, rfl⟩)
    | (go_at_call 26; refine (kh4 _).mono ?_; clear kh4; rintro e w' ⟨rfl, rfl⟩)
    | (go_at_call 26; refine (kh8 _).mono ?_; clear kh8; rintro e w' ⟨rfl, rfl⟩)
    | (go_at_call 26; refine (kh16 _).mono ?_; clear kh16; rintro e w' ⟨rfl, rfl⟩)
    | (go_at_call 26; refine (kh32 _).mono ?_; clear kh32; rintro e w' ⟨rfl, rfl⟩)
    | (go_at_call 26; refine (kh64 _).mono ?_; clear kh64; rintro e w' ⟨rfl, rfl⟩)
    | (go_at_call 26; refine (kh128 _).mono ?_; clear kh128; rintro e w' ⟨rfl, rfl⟩))
  have hfin := h7.again
  refine bodyPost_ret (res_deed1 Try.results33 rfl hfin.deed) rfl ⟨none, 0, rfl, hfin⟩
set_option maxRecDepth 100000 in
set_option maxHeartbeats 4000000 in
theorem get_otherhi (rb : Nat) (FB : Nat → Prop) (bs : List Nat) (A : Option Addr) (cp g : Nat) (s : Nat × Nat) (a k : Nat) (s1 : Nat × Nat) (s2 : Nat × Nat) (s3 : Nat × Nat) (w : World) (hR : ReaderAt w rb FB bs s A cp) (hg : w.heap[g]? = some (.cells #[.pointer (some ⟨rb, 0, none⟩), .int .i64 ((0 : Nat) : Int)] 73 (0, 0))) (hn : rb ≠ g) (hF : ∀ k, FB k → k < w.heap.size ∧ k ≠ g) (hbl : bs.length ≤ 140737488355328) (K1 : rdNum bs s 255 = (6, s1)) (K2 : rdNum bs s1 63 = (a, s2)) (K3 : rdNum bs s2 255 = (k, s3)) (k4 : 4 < k) :
    Calls Try.prog 33 #[.pointer (some ⟨g, 0, none⟩)] w fun e w' => ∃ B c, e = .returned (.agg (Dd.vals ⟨6, a, 0, 0, 0, 0, [], k, Par.none, 0, false⟩ B c)) ∧ GetAt w rb FB bs A cp g w.heap.size s3 80 ⟨6, a, 0, 0, 0, 0, [], k, Par.none, 0, false⟩ B c w' := by
  have hz := zero_deed
  have h0 : GetAt w rb FB bs A cp g w.heap.size s 0 ⟨0, 0, 0, 0, 0, 0, [], 0, Par.none, 0, false⟩ none 0 (w.alloc (.cells (Dd.none.vals none 0) 27)) := GetAt.start w hR hg hn hF
  have z := h0.thaw
  have p := h0.ptr
  have dd := h0.deed
  have cs := h0.deed.cells
  dsimp only at cs
  obtain ⟨c0, c1, c2, c3, c4, c5, c6, c7, c32, c33⟩ := cs
  clear hR hg hn hF
  have e1 : decide (1 ≤ k) = true := by simp; omega
  have e2 : decide (k ≤ 4) = false := by simp; omega
  have e3 : decide ((1 : Int) ≤ (k : Int)) = true := by simp; omega
  have e4 : decide ((k : Int) ≤ 4) = false := by simp; omega
  have kh1 : ∀ w, Calls Try.prog 26 #[.int .i64 9, .int .i64 1] w fun e w' => e = .returned (.bool true) ∧ w = w' := fun w => by have := has_is 9 1 w; rwa [hb9_1] at this
  have kh2 : ∀ w, Calls Try.prog 26 #[.int .i64 9, .int .i64 2] w fun e w' => e = .returned (.bool false) ∧ w = w' := fun w => by have := has_is 9 2 w; rwa [hb9_2] at this
  have kh4 : ∀ w, Calls Try.prog 26 #[.int .i64 9, .int .i64 4] w fun e w' => e = .returned (.bool false) ∧ w = w' := fun w => by have := has_is 9 4 w; rwa [hb9_4] at this
  have kh8 : ∀ w, Calls Try.prog 26 #[.int .i64 9, .int .i64 8] w fun e w' => e = .returned (.bool true) ∧ w = w' := fun w => by have := has_is 9 8 w; rwa [hb9_8] at this
  have kh16 : ∀ w, Calls Try.prog 26 #[.int .i64 9, .int .i64 16] w fun e w' => e = .returned (.bool false) ∧ w = w' := fun w => by have := has_is 9 16 w; rwa [hb9_16] at this
  have kh32 : ∀ w, Calls Try.prog 26 #[.int .i64 9, .int .i64 32] w fun e w' => e = .returned (.bool false) ∧ w = w' := fun w => by have := has_is 9 32 w; rwa [hb9_32] at this
  have kh64 : ∀ w, Calls Try.prog 26 #[.int .i64 9, .int .i64 64] w fun e w' => e = .returned (.bool false) ∧ w = w' := fun w => by have := has_is 9 64 w; rwa [hb9_64] at this
  have kh128 : ∀ w, Calls Try.prog 26 #[.int .i64 9, .int .i64 128] w fun e w' => e = .returned (.bool false) ∧ w = w' := fun w => by have := has_is 9 128 w; rwa [hb9_128] at this
  go_enter Try.func33, Try.ntmps33
  go_wp2_with (first
    | (refine load_deed _ rfl rfl _ _ _ _ _ rfl (by assumption) ?_)
    | (refine store_deed _ _ rfl rfl _ _ _ _ _ _ _ _ rfl rfl (by assumption) ?_)
    | (go_at_call 47; refine (h0.int 255 6 255 6 rfl rfl (by omega) K1).mono ?_; clear K1; rintro e w1 ⟨rfl, q1⟩; clear z p dd h0; have z := q1.thaw; have cs := q1.deed.cells; dsimp only at cs; clear c0 c1 c2 c3 c4 c5 c6 c7 c32 c33; obtain ⟨c0, c1, c2, c3, c4, c5, c6, c7, c32, c33⟩ := cs; have h1 := q1.set 0 (.int .i64 6) (d' := ⟨6, 0, 0, 0, 0, 0, [], 0, Par.none, 0, false⟩) (B' := none) (c' := 0) rfl (Lies.nil _ _ _) (Nat.le_refl _) (Nat.zero_le _); have p := h1.ptr; have dd := h1.deed; clear q1)
    | (go_at_call 24; refine (h1.used 9 rfl).mono ?_; rintro e w2 ⟨rfl, h2⟩; clear z p dd h1; have z := h2.thaw; have p := h2.ptr; have dd := h2.deed; have cs := h2.deed.cells; dsimp only at cs; clear c0 c1 c2 c3 c4 c5 c6 c7 c32 c33; obtain ⟨c0, c1, c2, c3, c4, c5, c6, c7, c32, c33⟩ := cs)
    | (go_at_call 48; refine h2.askYes.mono ?_; rintro e w3 ⟨rfl, h3⟩; clear z p dd h2; have z := h3.thaw; have p := h3.ptr; have dd := h3.deed; have cs := h3.deed.cells; dsimp only at cs; clear c0 c1 c2 c3 c4 c5 c6 c7 c32 c33; obtain ⟨c0, c1, c2, c3, c4, c5, c6, c7, c32, c33⟩ := cs)
    | (go_at_call 47; refine (h3.int 63 a 63 (a : Int) rfl rfl (by omega) K2).mono ?_; clear K2; rintro e w4 ⟨rfl, q4⟩; clear z p dd h3; have z := q4.thaw; have cs := q4.deed.cells; dsimp only at cs; clear c0 c1 c2 c3 c4 c5 c6 c7 c32 c33; obtain ⟨c0, c1, c2, c3, c4, c5, c6, c7, c32, c33⟩ := cs; have h4 := q4.set 1 (.int .i64 (a : Int)) (d' := ⟨6, a, 0, 0, 0, 0, [], 0, Par.none, 0, false⟩) (B' := none) (c' := 0) rfl (Lies.nil _ _ _) (Nat.le_refl _) (Nat.zero_le _); have p := h4.ptr; have dd := h4.deed; clear q4)
    | (go_at_call 47; refine (h4.int 255 k 255 (k : Int) rfl rfl (by omega) K3).mono ?_; clear K3; rintro e w5 ⟨rfl, q5⟩; clear z p dd h4; have z := q5.thaw; have cs := q5.deed.cells; dsimp only at cs; clear c0 c1 c2 c3 c4 c5 c6 c7 c32 c33; obtain ⟨c0, c1, c2, c3, c4, c5, c6, c7, c32, c33⟩ := cs; have h5 := q5.set 7 (.int .i64 (k : Int)) (d' := ⟨6, a, 0, 0, 0, 0, [], k, Par.none, 0, false⟩) (B' := none) (c' := 0) rfl (Lies.nil _ _ _) (Nat.le_refl _) (Nat.zero_le _); have p := h5.ptr; have dd := h5.deed; clear q5)
    | (go_at_call 48; refine h5.askNo.mono ?_; rintro e w6 ⟨rfl, h6⟩; clear z p dd h5; have z := h6.thaw; have p := h6.ptr; have dd := h6.deed; have cs := h6.deed.cells; dsimp only at cs; clear c0 c1 c2 c3 c4 c5 c6 c7 c32 c33; obtain ⟨c0, c1, c2, c3, c4, c5, c6, c7, c32, c33⟩ := cs)
    | (go_at_call 24; refine (h6.used 9 (by show (if (k : Int) = 1 then (25 : Int) else if (k : Int) = 2 then 105 else 9) = 9; rw [if_neg (by omega), if_neg (by omega)])).mono ?_; rintro e w7 ⟨rfl, h7⟩; clear z p dd h6; have z := h7.thaw; have p := h7.ptr; have dd := h7.deed; have cs := h7.deed.cells; dsimp only at cs; clear c0 c1 c2 c3 c4 c5 c6 c7 c32 c33; obtain ⟨c0, c1, c2, c3, c4, c5, c6, c7, c32, c33⟩ := cs)
    | (go_at_call 26; refine (kh1 _).mono ?_; clear kh1; rintro e w' ⟨rfl, rfl⟩)
    | (go_at_call 26; refine (kh2 _).mono ?_; clear kh2; rintro e w' ⟨rfl, rfl⟩)
    | (go_at_call 26; refine (kh4 _).mono ?_; clear kh4; rintro e w' ⟨rfl, rfl⟩)
    | (go_at_call 26; refine (kh8 _).mono ?_; clear kh8; rintro e w' ⟨rfl, rfl⟩)
    | (go_at_call 26; refine (kh16 _).mono ?_; clear kh16; rintro e w' ⟨rfl, rfl⟩)
    | (go_at_call 26; refine (kh32 _).mono ?_; clear kh32; rintro e w' ⟨rfl, rfl⟩)
    | (go_at_call 26; refine (kh64 _).mono ?_; clear kh64; rintro e w' ⟨rfl, rfl⟩)
    | (go_at_call 26; refine (kh128 _).mono ?_; clear kh128; rintro e w' ⟨rfl, rfl⟩))
  have hfin := h7.again
  refine bodyPost_ret (res_deed1 Try.results33 rfl hfin.deed) rfl ⟨none, 0, rfl, hfin⟩
set_option maxRecDepth 100000 in
set_option maxHeartbeats 4000000 in
theorem get_other0 (rb : Nat) (FB : Nat → Prop) (bs : List Nat) (A : Option Addr) (cp g : Nat) (s : Nat × Nat) (a : Nat) (s1 : Nat × Nat) (s2 : Nat × Nat) (s3 : Nat × Nat) (w : World) (hR : ReaderAt w rb FB bs s A cp) (hg : w.heap[g]? = some (.cells #[.pointer (some ⟨rb, 0, none⟩), .int .i64 ((0 : Nat) : Int)] 73 (0, 0))) (hn : rb ≠ g) (hF : ∀ k, FB k → k < w.heap.size ∧ k ≠ g) (hbl : bs.length ≤ 140737488355328) (K1 : rdNum bs s 255 = (6, s1)) (K2 : rdNum bs s1 63 = (a, s2)) (K3 : rdNum bs s2 255 = (0, s3)) :
    Calls Try.prog 33 #[.pointer (some ⟨g, 0, none⟩)] w fun e w' => ∃ B c, e = .returned (.agg (Dd.vals ⟨6, a, 0, 0, 0, 0, [], 0, Par.none, 0, false⟩ B c)) ∧ GetAt w rb FB bs A cp g w.heap.size s3 80 ⟨6, a, 0, 0, 0, 0, [], 0, Par.none, 0, false⟩ B c w' := by
  have hz := zero_deed
  have h0 : GetAt w rb FB bs A cp g w.heap.size s 0 ⟨0, 0, 0, 0, 0, 0, [], 0, Par.none, 0, false⟩ none 0 (w.alloc (.cells (Dd.none.vals none 0) 27)) := GetAt.start w hR hg hn hF
  have z := h0.thaw
  have p := h0.ptr
  have dd := h0.deed
  have cs := h0.deed.cells
  dsimp only at cs
  obtain ⟨c0, c1, c2, c3, c4, c5, c6, c7, c32, c33⟩ := cs
  clear hR hg hn hF
  have kh1 : ∀ w, Calls Try.prog 26 #[.int .i64 9, .int .i64 1] w fun e w' => e = .returned (.bool true) ∧ w = w' := fun w => by have := has_is 9 1 w; rwa [hb9_1] at this
  have kh2 : ∀ w, Calls Try.prog 26 #[.int .i64 9, .int .i64 2] w fun e w' => e = .returned (.bool false) ∧ w = w' := fun w => by have := has_is 9 2 w; rwa [hb9_2] at this
  have kh4 : ∀ w, Calls Try.prog 26 #[.int .i64 9, .int .i64 4] w fun e w' => e = .returned (.bool false) ∧ w = w' := fun w => by have := has_is 9 4 w; rwa [hb9_4] at this
  have kh8 : ∀ w, Calls Try.prog 26 #[.int .i64 9, .int .i64 8] w fun e w' => e = .returned (.bool true) ∧ w = w' := fun w => by have := has_is 9 8 w; rwa [hb9_8] at this
  have kh16 : ∀ w, Calls Try.prog 26 #[.int .i64 9, .int .i64 16] w fun e w' => e = .returned (.bool false) ∧ w = w' := fun w => by have := has_is 9 16 w; rwa [hb9_16] at this
  have kh32 : ∀ w, Calls Try.prog 26 #[.int .i64 9, .int .i64 32] w fun e w' => e = .returned (.bool false) ∧ w = w' := fun w => by have := has_is 9 32 w; rwa [hb9_32] at this
  have kh64 : ∀ w, Calls Try.prog 26 #[.int .i64 9, .int .i64 64] w fun e w' => e = .returned (.bool false) ∧ w = w' := fun w => by have := has_is 9 64 w; rwa [hb9_64] at this
  have kh128 : ∀ w, Calls Try.prog 26 #[.int .i64 9, .int .i64 128] w fun e w' => e = .returned (.bool false) ∧ w = w' := fun w => by have := has_is 9 128 w; rwa [hb9_128] at this
  go_enter Try.func33, Try.ntmps33
  go_wp2_with (first
    | (refine load_deed _ rfl rfl _ _ _ _ _ rfl (by assumption) ?_)
    | (refine store_deed _ _ rfl rfl _ _ _ _ _ _ _ _ rfl rfl (by assumption) ?_)
    | (go_at_call 47; refine (h0.int 255 6 255 6 rfl rfl (by omega) K1).mono ?_; clear K1; rintro e w1 ⟨rfl, q1⟩; clear z p dd h0; have z := q1.thaw; have cs := q1.deed.cells; dsimp only at cs; clear c0 c1 c2 c3 c4 c5 c6 c7 c32 c33; obtain ⟨c0, c1, c2, c3, c4, c5, c6, c7, c32, c33⟩ := cs; have h1 := q1.set 0 (.int .i64 6) (d' := ⟨6, 0, 0, 0, 0, 0, [], 0, Par.none, 0, false⟩) (B' := none) (c' := 0) rfl (Lies.nil _ _ _) (Nat.le_refl _) (Nat.zero_le _); have p := h1.ptr; have dd := h1.deed; clear q1)
    | (go_at_call 24; refine (h1.used 9 rfl).mono ?_; rintro e w2 ⟨rfl, h2⟩; clear z p dd h1; have z := h2.thaw; have p := h2.ptr; have dd := h2.deed; have cs := h2.deed.cells; dsimp only at cs; clear c0 c1 c2 c3 c4 c5 c6 c7 c32 c33; obtain ⟨c0, c1, c2, c3, c4, c5, c6, c7, c32, c33⟩ := cs)
    | (go_at_call 48; refine h2.askYes.mono ?_; rintro e w3 ⟨rfl, h3⟩; clear z p dd h2; have z := h3.thaw; have p := h3.ptr; have dd := h3.deed; have cs := h3.deed.cells; dsimp only at cs; clear c0 c1 c2 c3 c4 c5 c6 c7 c32 c33; obtain ⟨c0, c1, c2, c3, c4, c5, c6, c7, c32, c33⟩ := cs)
    | (go_at_call 47; refine (h3.int 63 a 63 (a : Int) rfl rfl (by omega) K2).mono ?_; clear K2; rintro e w4 ⟨rfl, q4⟩; clear z p dd h3; have z := q4.thaw; have cs := q4.deed.cells; dsimp only at cs; clear c0 c1 c2 c3 c4 c5 c6 c7 c32 c33; obtain ⟨c0, c1, c2, c3, c4, c5, c6, c7, c32, c33⟩ := cs; have h4 := q4.set 1 (.int .i64 (a : Int)) (d' := ⟨6, a, 0, 0, 0, 0, [], 0, Par.none, 0, false⟩) (B' := none) (c' := 0) rfl (Lies.nil _ _ _) (Nat.le_refl _) (Nat.zero_le _); have p := h4.ptr; have dd := h4.deed; clear q4)
    | (go_at_call 47; refine (h4.int 255 0 255 0 rfl rfl (by omega) K3).mono ?_; clear K3; rintro e w5 ⟨rfl, q5⟩; clear z p dd h4; have z := q5.thaw; have cs := q5.deed.cells; dsimp only at cs; clear c0 c1 c2 c3 c4 c5 c6 c7 c32 c33; obtain ⟨c0, c1, c2, c3, c4, c5, c6, c7, c32, c33⟩ := cs; have h5 := q5.set 7 (.int .i64 0) (d' := ⟨6, a, 0, 0, 0, 0, [], 0, Par.none, 0, false⟩) (B' := none) (c' := 0) rfl (Lies.nil _ _ _) (Nat.le_refl _) (Nat.zero_le _); have p := h5.ptr; have dd := h5.deed; clear q5)
    | (go_at_call 48; refine h5.askNo.mono ?_; rintro e w6 ⟨rfl, h6⟩; clear z p dd h5; have z := h6.thaw; have p := h6.ptr; have dd := h6.deed; have cs := h6.deed.cells; dsimp only at cs; clear c0 c1 c2 c3 c4 c5 c6 c7 c32 c33; obtain ⟨c0, c1, c2, c3, c4, c5, c6, c7, c32, c33⟩ := cs)
    | (go_at_call 24; refine (h6.used 9 rfl).mono ?_; rintro e w7 ⟨rfl, h7⟩; clear z p dd h6; have z := h7.thaw; have p := h7.ptr; have dd := h7.deed; have cs := h7.deed.cells; dsimp only at cs; clear c0 c1 c2 c3 c4 c5 c6 c7 c32 c33; obtain ⟨c0, c1, c2, c3, c4, c5, c6, c7, c32, c33⟩ := cs)
    | (go_at_call 26; refine (kh1 _).mono ?_; clear kh1; rintro e w' ⟨rfl, rfl⟩)
    | (go_at_call 26; refine (kh2 _).mono ?_; clear kh2; rintro e w' ⟨rfl, rfl⟩)
    | (go_at_call 26; refine (kh4 _).mono ?_; clear kh4; rintro e w' ⟨rfl, rfl⟩)
    | (go_at_call 26; refine (kh8 _).mono ?_; clear kh8; rintro e w' ⟨rfl, rfl⟩)
    | (go_at_call 26; refine (kh16 _).mono ?_; clear kh16; rintro e w' ⟨rfl, rfl⟩)
    | (go_at_call 26; refine (kh32 _).mono ?_; clear kh32; rintro e w' ⟨rfl, rfl⟩)
    | (go_at_call 26; refine (kh64 _).mono ?_; clear kh64; rintro e w' ⟨rfl, rfl⟩)
    | (go_at_call 26; refine (kh128 _).mono ?_; clear kh128; rintro e w' ⟨rfl, rfl⟩))
  have hfin := h7.again
  refine bodyPost_ret (res_deed1 Try.results33 rfl hfin.deed) rfl ⟨none, 0, rfl, hfin⟩
set_option maxRecDepth 100000 in
set_option maxHeartbeats 4000000 in
theorem get_vote (rb : Nat) (FB : Nat → Prop) (bs : List Nat) (A : Option Addr) (cp g : Nat) (s : Nat × Nat) (a b n yv : Nat) (s1 : Nat × Nat) (s2 : Nat × Nat) (s3 : Nat × Nat) (s4 : Nat × Nat) (s5 : Nat × Nat) (w : World) (hR : ReaderAt w rb FB bs s A cp) (hg : w.heap[g]? = some (.cells #[.pointer (some ⟨rb, 0, none⟩), .int .i64 ((0 : Nat) : Int)] 73 (0, 0))) (hn : rb ≠ g) (hF : ∀ k, FB k → k < w.heap.size ∧ k ≠ g) (hbl : bs.length ≤ 140737488355328) (K1 : rdNum bs s 255 = (7, s1)) (K2 : rdNum bs s1 63 = (a, s2)) (K3 : rdNum bs s2 127 = (b, s3)) (K4 : rdNum bs s3 31 = (n, s4)) (K5 : rdNum bs s4 1 = (yv, s5)) :
    Calls Try.prog 33 #[.pointer (some ⟨g, 0, none⟩)] w fun e w' => ∃ B c, e = .returned (.agg (Dd.vals ⟨7, a, b, 0, 0, 0, [], 0, Par.none, n, (decide (yv = 1))⟩ B c)) ∧ GetAt w rb FB bs A cp g w.heap.size s5 0 ⟨7, a, b, 0, 0, 0, [], 0, Par.none, n, (decide (yv = 1))⟩ B c w' := by
  have hz := zero_deed
  have h0 : GetAt w rb FB bs A cp g w.heap.size s 0 ⟨0, 0, 0, 0, 0, 0, [], 0, Par.none, 0, false⟩ none 0 (w.alloc (.cells (Dd.none.vals none 0) 27)) := GetAt.start w hR hg hn hF
  have z := h0.thaw
  have p := h0.ptr
  have dd := h0.deed
  have cs := h0.deed.cells
  dsimp only at cs
  obtain ⟨c0, c1, c2, c3, c4, c5, c6, c7, c32, c33⟩ := cs
  clear hR hg hn hF
  have kh1 : ∀ w, Calls Try.prog 26 #[.int .i64 131, .int .i64 1] w fun e w' => e = .returned (.bool true) ∧ w = w' := fun w => by have := has_is 131 1 w; rwa [hb131_1] at this
  have kh2 : ∀ w, Calls Try.prog 26 #[.int .i64 131, .int .i64 2] w fun e w' => e = .returned (.bool true) ∧ w = w' := fun w => by have := has_is 131 2 w; rwa [hb131_2] at this
  have kh4 : ∀ w, Calls Try.prog 26 #[.int .i64 131, .int .i64 4] w fun e w' => e = .returned (.bool false) ∧ w = w' := fun w => by have := has_is 131 4 w; rwa [hb131_4] at this
  have kh8 : ∀ w, Calls Try.prog 26 #[.int .i64 131, .int .i64 8] w fun e w' => e = .returned (.bool false) ∧ w = w' := fun w => by have := has_is 131 8 w; rwa [hb131_8] at this
  have kh16 : ∀ w, Calls Try.prog 26 #[.int .i64 131, .int .i64 16] w fun e w' => e = .returned (.bool false) ∧ w = w' := fun w => by have := has_is 131 16 w; rwa [hb131_16] at this
  have kh32 : ∀ w, Calls Try.prog 26 #[.int .i64 131, .int .i64 32] w fun e w' => e = .returned (.bool false) ∧ w = w' := fun w => by have := has_is 131 32 w; rwa [hb131_32] at this
  have kh64 : ∀ w, Calls Try.prog 26 #[.int .i64 131, .int .i64 64] w fun e w' => e = .returned (.bool false) ∧ w = w' := fun w => by have := has_is 131 64 w; rwa [hb131_64] at this
  have kh128 : ∀ w, Calls Try.prog 26 #[.int .i64 131, .int .i64 128] w fun e w' => e = .returned (.bool true) ∧ w = w' := fun w => by have := has_is 131 128 w; rwa [hb131_128] at this
  go_enter Try.func33, Try.ntmps33
  go_wp2_with (first
    | (refine load_deed _ rfl rfl _ _ _ _ _ rfl (by assumption) ?_)
    | (refine store_deed _ _ rfl rfl _ _ _ _ _ _ _ _ rfl rfl (by assumption) ?_)
    | (go_at_call 47; refine (h0.int 255 7 255 7 rfl rfl (by omega) K1).mono ?_; clear K1; rintro e w1 ⟨rfl, q1⟩; clear z p dd h0; have z := q1.thaw; have cs := q1.deed.cells; dsimp only at cs; clear c0 c1 c2 c3 c4 c5 c6 c7 c32 c33; obtain ⟨c0, c1, c2, c3, c4, c5, c6, c7, c32, c33⟩ := cs; have h1 := q1.set 0 (.int .i64 7) (d' := ⟨7, 0, 0, 0, 0, 0, [], 0, Par.none, 0, false⟩) (B' := none) (c' := 0) rfl (Lies.nil _ _ _) (Nat.le_refl _) (Nat.zero_le _); have p := h1.ptr; have dd := h1.deed; clear q1)
    | (go_at_call 24; refine (h1.used 131 rfl).mono ?_; rintro e w2 ⟨rfl, h2⟩; clear z p dd h1; have z := h2.thaw; have p := h2.ptr; have dd := h2.deed; have cs := h2.deed.cells; dsimp only at cs; clear c0 c1 c2 c3 c4 c5 c6 c7 c32 c33; obtain ⟨c0, c1, c2, c3, c4, c5, c6, c7, c32, c33⟩ := cs)
    | (go_at_call 48; refine h2.askYes.mono ?_; rintro e w3 ⟨rfl, h3⟩; clear z p dd h2; have z := h3.thaw; have p := h3.ptr; have dd := h3.deed; have cs := h3.deed.cells; dsimp only at cs; clear c0 c1 c2 c3 c4 c5 c6 c7 c32 c33; obtain ⟨c0, c1, c2, c3, c4, c5, c6, c7, c32, c33⟩ := cs)
    | (go_at_call 47; refine (h3.int 63 a 63 (a : Int) rfl rfl (by omega) K2).mono ?_; clear K2; rintro e w4 ⟨rfl, q4⟩; clear z p dd h3; have z := q4.thaw; have cs := q4.deed.cells; dsimp only at cs; clear c0 c1 c2 c3 c4 c5 c6 c7 c32 c33; obtain ⟨c0, c1, c2, c3, c4, c5, c6, c7, c32, c33⟩ := cs; have h4 := q4.set 1 (.int .i64 (a : Int)) (d' := ⟨7, a, 0, 0, 0, 0, [], 0, Par.none, 0, false⟩) (B' := none) (c' := 0) rfl (Lies.nil _ _ _) (Nat.le_refl _) (Nat.zero_le _); have p := h4.ptr; have dd := h4.deed; clear q4)
    | (go_at_call 47; refine (h4.int 127 b 127 (b : Int) rfl rfl (by omega) K3).mono ?_; clear K3; rintro e w5 ⟨rfl, q5⟩; clear z p dd h4; have z := q5.thaw; have cs := q5.deed.cells; dsimp only at cs; clear c0 c1 c2 c3 c4 c5 c6 c7 c32 c33; obtain ⟨c0, c1, c2, c3, c4, c5, c6, c7, c32, c33⟩ := cs; have h5 := q5.set 2 (.int .i64 (b : Int)) (d' := ⟨7, a, b, 0, 0, 0, [], 0, Par.none, 0, false⟩) (B' := none) (c' := 0) rfl (Lies.nil _ _ _) (Nat.le_refl _) (Nat.zero_le _); have p := h5.ptr; have dd := h5.deed; clear q5)
    | (go_at_call 26; refine (kh1 _).mono ?_; clear kh1; rintro e w' ⟨rfl, rfl⟩)
    | (go_at_call 26; refine (kh2 _).mono ?_; clear kh2; rintro e w' ⟨rfl, rfl⟩)
    | (go_at_call 26; refine (kh4 _).mono ?_; clear kh4; rintro e w' ⟨rfl, rfl⟩)
    | (go_at_call 26; refine (kh8 _).mono ?_; clear kh8; rintro e w' ⟨rfl, rfl⟩)
    | (go_at_call 26; refine (kh16 _).mono ?_; clear kh16; rintro e w' ⟨rfl, rfl⟩)
    | (go_at_call 26; refine (kh32 _).mono ?_; clear kh32; rintro e w' ⟨rfl, rfl⟩)
    | (go_at_call 26; refine (kh64 _).mono ?_; clear kh64; rintro e w' ⟨rfl, rfl⟩)
    | (go_at_call 26; refine (kh128 _).mono ?_; clear kh128; rintro e w' ⟨rfl, rfl⟩))
  have hd := h5.drew
  have pd := hd.ptr
  go_region_held3 (fun w' => w'.cell? ⟨g, 0, none⟩ = some (.pointer (some ⟨rb, 0, none⟩)))
    (first | exact pd | exact pa | exact pb | exact pc | exact pp)
    (first
      | (go_at_call 47; refine (hd.int 31 n 31 (n : Int) rfl rfl (by omega) K4).mono ?_; clear K4; rintro e wa ⟨rfl, qa⟩; have pa := qa.ptr)
      | (go_at_call 52; refine (qa.flag yv K5).mono ?_; clear K5; rintro e wb ⟨rfl, qb⟩; clear z; have z := qb.thaw; have cs := qb.deed.cells; dsimp only at cs; clear c0 c1 c2 c3 c4 c5 c6 c7 c32 c33; obtain ⟨c0, c1, c2, c3, c4, c5, c6, c7, c32, c33⟩ := cs; have pb := qb.ptr; have qc := qb.set 32 (.int .i64 (n : Int)) (d' := ⟨7, a, b, 0, 0, 0, [], 0, Par.none, n, false⟩) (B' := none) (c' := 0) rfl (Lies.nil _ _ _) (Nat.le_refl _) (Nat.zero_le _); have pc := qc.ptr; have h6 := qc.set 33 (.bool (decide (yv = 1))) (d' := ⟨7, a, b, 0, 0, 0, [], 0, Par.none, n, (decide (yv = 1))⟩) (B' := none) (c' := 0) rfl (Lies.nil _ _ _) (Nat.le_refl _) (Nat.zero_le _); have pp := h6.ptr; have dd := h6.deed))
  go_wp2_with (first
    | (refine load_deed _ rfl rfl _ _ _ _ _ rfl (by assumption) ?_)
    | (refine store_deed _ _ rfl rfl _ _ _ _ _ _ _ _ rfl rfl (by assumption) ?_)
    | (go_at_call 26; refine (kh1 _).mono ?_; clear kh1; rintro e w' ⟨rfl, rfl⟩)
    | (go_at_call 26; refine (kh2 _).mono ?_; clear kh2; rintro e w' ⟨rfl, rfl⟩)
    | (go_at_call 26; refine (kh4 _).mono ?_; clear kh4; rintro e w' ⟨rfl, rfl⟩)
    | (go_at_call 26; refine (kh8 _).mono ?_; clear kh8; rintro e w' ⟨rfl, rfl⟩)
    | (go_at_call 26; refine (kh16 _).mono ?_; clear kh16; rintro e w' ⟨rfl, rfl⟩)
    | (go_at_call 26; refine (kh32 _).mono ?_; clear kh32; rintro e w' ⟨rfl, rfl⟩)
    | (go_at_call 26; refine (kh64 _).mono ?_; clear kh64; rintro e w' ⟨rfl, rfl⟩)
    | (go_at_call 26; refine (kh128 _).mono ?_; clear kh128; rintro e w' ⟨rfl, rfl⟩))
  have hfin := h6.again
  refine bodyPost_ret (res_deed1 Try.results33 rfl hfin.deed) rfl ⟨none, 0, rfl, hfin⟩
set_option maxRecDepth 100000 in
set_option maxHeartbeats 4000000 in
theorem get_bad (rb : Nat) (FB : Nat → Prop) (bs : List Nat) (A : Option Addr) (cp g : Nat) (s : Nat × Nat) (k : Nat) (s1 : Nat × Nat) (w : World) (hR : ReaderAt w rb FB bs s A cp) (hg : w.heap[g]? = some (.cells #[.pointer (some ⟨rb, 0, none⟩), .int .i64 ((0 : Nat) : Int)] 73 (0, 0))) (hn : rb ≠ g) (hF : ∀ k, FB k → k < w.heap.size ∧ k ≠ g) (hbl : bs.length ≤ 140737488355328) (K1 : rdNum bs s 255 = (k, s1)) (hk : k = 0 ∨ 7 < k) :
    Calls Try.prog 33 #[.pointer (some ⟨g, 0, none⟩)] w fun e w' => ∃ B c, e = .returned (.agg (Dd.vals ⟨k, 0, 0, 0, 0, 0, [], 0, Par.none, 0, false⟩ B c)) ∧ GetAt w rb FB bs A cp g w.heap.size s1 80 ⟨k, 0, 0, 0, 0, 0, [], 0, Par.none, 0, false⟩ B c w' := by
  have hz := zero_deed
  have h0 : GetAt w rb FB bs A cp g w.heap.size s 0 ⟨0, 0, 0, 0, 0, 0, [], 0, Par.none, 0, false⟩ none 0 (w.alloc (.cells (Dd.none.vals none 0) 27)) := GetAt.start w hR hg hn hF
  have z := h0.thaw
  have p := h0.ptr
  have dd := h0.deed
  have cs := h0.deed.cells
  dsimp only at cs
  obtain ⟨c0, c1, c2, c3, c4, c5, c6, c7, c32, c33⟩ := cs
  clear hR hg hn hF
  have kh1 : ∀ w, Calls Try.prog 26 #[.int .i64 0, .int .i64 1] w fun e w' => e = .returned (.bool false) ∧ w = w' := fun w => by have := has_is 0 1 w; rwa [show hb 0 1 = false from by decide +kernel] at this
  have kh2 : ∀ w, Calls Try.prog 26 #[.int .i64 0, .int .i64 2] w fun e w' => e = .returned (.bool false) ∧ w = w' := fun w => by have := has_is 0 2 w; rwa [show hb 0 2 = false from by decide +kernel] at this
  have kh4 : ∀ w, Calls Try.prog 26 #[.int .i64 0, .int .i64 4] w fun e w' => e = .returned (.bool false) ∧ w = w' := fun w => by have := has_is 0 4 w; rwa [show hb 0 4 = false from by decide +kernel] at this
  have kh8 : ∀ w, Calls Try.prog 26 #[.int .i64 0, .int .i64 8] w fun e w' => e = .returned (.bool false) ∧ w = w' := fun w => by have := has_is 0 8 w; rwa [show hb 0 8 = false from by decide +kernel] at this
  have kh16 : ∀ w, Calls Try.prog 26 #[.int .i64 0, .int .i64 16] w fun e w' => e = .returned (.bool false) ∧ w = w' := fun w => by have := has_is 0 16 w; rwa [show hb 0 16 = false from by decide +kernel] at this
  have kh32 : ∀ w, Calls Try.prog 26 #[.int .i64 0, .int .i64 32] w fun e w' => e = .returned (.bool false) ∧ w = w' := fun w => by have := has_is 0 32 w; rwa [show hb 0 32 = false from by decide +kernel] at this
  have kh64 : ∀ w, Calls Try.prog 26 #[.int .i64 0, .int .i64 64] w fun e w' => e = .returned (.bool false) ∧ w = w' := fun w => by have := has_is 0 64 w; rwa [show hb 0 64 = false from by decide +kernel] at this
  have kh128 : ∀ w, Calls Try.prog 26 #[.int .i64 0, .int .i64 128] w fun e w' => e = .returned (.bool false) ∧ w = w' := fun w => by have := has_is 0 128 w; rwa [show hb 0 128 = false from by decide +kernel] at this
  go_enter Try.func33, Try.ntmps33
  go_wp2_with (first
    | (refine load_deed _ rfl rfl _ _ _ _ _ rfl (by assumption) ?_)
    | (refine store_deed _ _ rfl rfl _ _ _ _ _ _ _ _ rfl rfl (by assumption) ?_)
    | (go_at_call 47; refine (h0.int 255 k 255 (k : Int) rfl rfl (by omega) K1).mono ?_; clear K1; rintro e w1 ⟨rfl, q1⟩; clear z p dd h0; have z := q1.thaw; have cs := q1.deed.cells; dsimp only at cs; clear c0 c1 c2 c3 c4 c5 c6 c7 c32 c33; obtain ⟨c0, c1, c2, c3, c4, c5, c6, c7, c32, c33⟩ := cs; have h1 := q1.set 0 (.int .i64 (k : Int)) (d' := ⟨k, 0, 0, 0, 0, 0, [], 0, Par.none, 0, false⟩) (B' := none) (c' := 0) rfl (Lies.nil _ _ _) (Nat.le_refl _) (Nat.zero_le _); have p := h1.ptr; have dd := h1.deed; clear q1)
    | (go_at_call 24; refine (h1.used 0 (mask_bad k hk)).mono ?_; rintro e w2 ⟨rfl, h2⟩; clear z p dd h1; have z := h2.thaw; have p := h2.ptr; have dd := h2.deed; have cs := h2.deed.cells; dsimp only at cs; clear c0 c1 c2 c3 c4 c5 c6 c7 c32 c33; obtain ⟨c0, c1, c2, c3, c4, c5, c6, c7, c32, c33⟩ := cs)
    | (go_at_call 48; refine h2.askNo.mono ?_; rintro e w3 ⟨rfl, h3⟩; clear z p dd h2; have z := h3.thaw; have p := h3.ptr; have dd := h3.deed; have cs := h3.deed.cells; dsimp only at cs; clear c0 c1 c2 c3 c4 c5 c6 c7 c32 c33; obtain ⟨c0, c1, c2, c3, c4, c5, c6, c7, c32, c33⟩ := cs)
    | (go_at_call 26; refine (kh1 _).mono ?_; clear kh1; rintro e w' ⟨rfl, rfl⟩)
    | (go_at_call 26; refine (kh2 _).mono ?_; clear kh2; rintro e w' ⟨rfl, rfl⟩)
    | (go_at_call 26; refine (kh4 _).mono ?_; clear kh4; rintro e w' ⟨rfl, rfl⟩)
    | (go_at_call 26; refine (kh8 _).mono ?_; clear kh8; rintro e w' ⟨rfl, rfl⟩)
    | (go_at_call 26; refine (kh16 _).mono ?_; clear kh16; rintro e w' ⟨rfl, rfl⟩)
    | (go_at_call 26; refine (kh32 _).mono ?_; clear kh32; rintro e w' ⟨rfl, rfl⟩)
    | (go_at_call 26; refine (kh64 _).mono ?_; clear kh64; rintro e w' ⟨rfl, rfl⟩)
    | (go_at_call 26; refine (kh128 _).mono ?_; clear kh128; rintro e w' ⟨rfl, rfl⟩))
  have hfin := h3.again
  refine bodyPost_ret (res_deed1 Try.results33 rfl hfin.deed) rfl ⟨none, 0, rfl, hfin⟩
end Go.Proofs.Ytagibkaonmpihaa
