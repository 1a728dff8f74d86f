/- Layer 8 (deed): a deed is read, whatever is there. By contracts. · Layer 8 (deed): a deed is read, with its error; bytes as a deed. By contracts. · Layer 8 (deed): a deed is written; a deed as bytes. By contracts. · The example of layer 8 (deed). By contracts. -/
import Derived.Test.YtokaclacejhppaaDeedGet
import Derived.Test.YtokaclacejhppaaDeedF
import Derived.Test.YtokaclacejhppaaDeedC
import Derived.Test.YtokaclacejhppaaBytesV
namespace Go.Proofs.Ytokaclacejhppaa
open Go.RowKit
set_option linter.unusedVariables false
set_option linter.unusedSimpArgs false

theorem get_is (rb : Nat) (FB : Nat → Prop) (bs : List Nat) (A : Option Addr) (cp g : Nat) (s : Nat × Nat) (d : Dd) (y : Nat) (st : Nat × Nat) (w : World) (hR : ReaderAt w rb FB bs s A cp) (hg : w.heap[g]? = some (.cells #[.pointer (some ⟨rb, 0, none⟩), .int .i64 ((0 : Nat) : Int)] 88 (0, 0))) (hn : rb ≠ g) (hF : ∀ k, FB k → k < w.heap.size ∧ k ≠ g) (hbl : bs.length ≤ 140737488355328) (h : DRaw bs s d y st) :
    Calls Try.prog 41 #[.pointer (some ⟨g, 0, none⟩)] w fun e w' => ∃ B c, e = .returned (.agg (d.vals B c)) ∧ GetAt w rb FB bs A cp g w.heap.size st y d B c w' := by
  cases h with
  | bad k _ h hk =>
    obtain ⟨s1, K1, e⟩ := rdL_inv h
    obtain rfl := rdL_nil e
    exact get_bad rb FB bs A cp g s k _ w hR hg hn hF hbl K1 hk
  | send a t m _ h =>
    obtain ⟨s1, K1, e⟩ := rdL_inv h
    obtain ⟨s2, K2, e⟩ := rdL_inv e
    obtain ⟨s3, K3, e⟩ := rdL_inv e
    obtain ⟨s4, K4, e⟩ := rdL_inv e
    obtain rfl := rdL_nil e
    by_cases hm : m = 0
    · subst hm; rw [if_pos rfl]; exact get_send0 rb FB bs A cp g s a t s1 s2 s3 _ w hR hg hn hF hbl K1 K2 K3 K4
    · rw [if_neg hm]; exact get_send rb FB bs A cp g s a t m s1 s2 s3 _ w hR hg hn hF hbl K1 K2 K3 K4 hm
  | stake a m _ h =>
    obtain ⟨s1, K1, e⟩ := rdL_inv h
    obtain ⟨s2, K2, e⟩ := rdL_inv e
    obtain ⟨s3, K3, e⟩ := rdL_inv e
    obtain rfl := rdL_nil e
    by_cases hm : m = 0
    · subst hm; rw [if_pos rfl]; exact get_stake0 rb FB bs A cp g s a s1 s2 _ w hR hg hn hF hbl K1 K2 K3
    · rw [if_neg hm]; exact get_stake rb FB bs A cp g s a m s1 s2 _ w hR hg hn hF hbl K1 K2 K3 hm
  | top a b m _ h =>
    obtain ⟨s1, K1, e⟩ := rdL_inv h
    obtain ⟨s2, K2, e⟩ := rdL_inv e
    obtain ⟨s3, K3, e⟩ := rdL_inv e
    obtain ⟨s4, K4, e⟩ := rdL_inv e
    obtain rfl := rdL_nil e
    by_cases hm : m = 0
    · subst hm; rw [if_pos rfl]; exact get_top0 rb FB bs A cp g s a b s1 s2 s3 _ w hR hg hn hF hbl K1 K2 K3 K4
    · rw [if_neg hm]; exact get_top rb FB bs A cp g s a b m s1 s2 s3 _ w hR hg hn hF hbl K1 K2 K3 K4 hm
  | leave a b _ h =>
    obtain ⟨s1, K1, e⟩ := rdL_inv h
    obtain ⟨s2, K2, e⟩ := rdL_inv e
    obtain ⟨s3, K3, e⟩ := rdL_inv e
    obtain rfl := rdL_nil e
    exact get_leave rb FB bs A cp g s a b s1 s2 _ w hR hg hn hF hbl K1 K2 K3
  | mark ep sm xs _ h KR =>
    obtain ⟨s1, K1, e⟩ := rdL_inv h
    obtain ⟨s2, K2, e⟩ := rdL_inv e
    obtain rfl := rdL_nil e
    exact get_mark rb FB bs A cp g s ep xs s1 _ _ w hR hg hn hF hbl K1 K2 KR
  | params a sm q ee _ h KP =>
    obtain ⟨s1, K1, e⟩ := rdL_inv h
    obtain ⟨s2, K2, e⟩ := rdL_inv e
    obtain ⟨s3, K3, e⟩ := rdL_inv e
    obtain rfl := rdL_nil e
    exact get_params rb FB bs A cp g s a q _ s1 s2 _ _ w hR hg hn hF hbl K1 K2 K3 KP
  | spend a t m _ h =>
    obtain ⟨s1, K1, e⟩ := rdL_inv h
    obtain ⟨s2, K2, e⟩ := rdL_inv e
    obtain ⟨s3, K3, e⟩ := rdL_inv e
    obtain ⟨s4, K4, e⟩ := rdL_inv e
    obtain ⟨s5, K5, e⟩ := rdL_inv e
    obtain rfl := rdL_nil e
    by_cases hm : m = 0
    · subst hm; rw [if_pos rfl]; exact get_spend0 rb FB bs A cp g s a t s1 s2 s3 s4 _ w hR hg hn hF hbl K1 K2 K3 K4 K5
    · rw [if_neg hm]; exact get_spend rb FB bs A cp g s a t m s1 s2 s3 s4 _ w hR hg hn hF hbl K1 K2 K3 K4 K5 hm
  | other a k _ h h1 h2 =>
    obtain ⟨s1, K1, e⟩ := rdL_inv h
    obtain ⟨s2, K2, e⟩ := rdL_inv e
    obtain ⟨s3, K3, e⟩ := rdL_inv e
    obtain rfl := rdL_nil e
    by_cases h0 : k = 0
    · subst h0; rw [if_neg (by omega)]; exact get_other0 rb FB bs A cp g s a s1 s2 _ w hR hg hn hF hbl K1 K2 K3
    · by_cases h4 : 4 < k
      · rw [if_neg (by omega)]; exact get_otherhi rb FB bs A cp g s a k s1 s2 _ w hR hg hn hF hbl K1 K2 K3 h4
      · rw [if_pos (by omega)]; exact get_other rb FB bs A cp g s a k s1 s2 _ w hR hg hn hF hbl K1 K2 K3 (by omega) (by omega)
  | vote a b n yv _ h =>
    obtain ⟨s1, K1, e⟩ := rdL_inv h
    obtain ⟨s2, K2, e⟩ := rdL_inv e
    obtain ⟨s3, K3, e⟩ := rdL_inv e
    obtain ⟨s4, K4, e⟩ := rdL_inv e
    obtain ⟨s5, K5, e⟩ := rdL_inv e
    obtain rfl := rdL_nil e
    exact get_vote rb FB bs A cp g s a b n yv s1 s2 s3 s4 _ w hR hg hn hF hbl K1 K2 K3 K4 K5
end Go.Proofs.Ytokaclacejhppaa
namespace Go.Proofs.Ytokaclacejhppaa
open Go.RowKit
set_option linter.unusedVariables false
set_option linter.unusedSimpArgs false

/-- The error of a deed that was read: its reader's, or its own. -/
def derr (y : Nat) (st : Nat × Nat) : Nat := if st.2 = 0 then y else st.2

theorem GetAt.err {w0 w : World} {rb : Nat} {FB : Nat → Prop} {bs : List Nat} {A B : Option Addr} {cp g dg c : Nat} {s : Nat × Nat} {y : Nat} {d : Dd} (h : GetAt w0 rb FB bs A cp g dg s y d B c w) (n : Int) (hn : ((derr y s : Nat) : Int) = n) :
    Calls Try.prog 42 #[.pointer (some ⟨g, 0, none⟩)] w fun e w' => e = .returned (.int .i64 n) ∧ w = w' := by
  subst hn
  have p := h.ptr
  have y1 := h.whyIs.1
  have ke := rerr_is rb FB bs s A cp w h.reader
  clear h
  by_cases he : s.2 = 0
  · rw [show derr y s = y from if_pos he]
    have ke0 : Calls Try.prog 23 #[.pointer (some ⟨rb, 0, none⟩)] w fun ev w' => ev = .returned (.int .i64 0) ∧ w = w' := by rw [he] at ke; exact ke
    clear ke
    go_enter Try.func42, Try.ntmps42
    go_wp2_with (go_at_call 23; refine ke0.mono ?_; rintro e w' ⟨rfl, rfl⟩)
    go_ret
    exact ⟨rfl, rfl⟩
  · rw [show derr y s = s.2 from if_neg he]
    generalize s.2 = z at *
    have hd : ((z : Int) != 0) = true := by simp; omega
    clear he
    go_enter Try.func42, Try.ntmps42
    go_wp2_with (go_at_call 23; refine ke.mono ?_; rintro e w' ⟨rfl, rfl⟩)
    go_ret
    exact ⟨rfl, rfl⟩

theorem grown_trans' {w a b : World} {r : Option Nat} (h : w.grownBy a r) (hb : Below w.heap.size a b) : w.grownBy b r :=
  ⟨hb.os.trans h.os, hb.tape.trans h.tape, hb.output.trans h.output, Nat.le_trans h.size hb.size, fun k hk hn => (hb.block k hk).trans (h.block k hk hn)⟩
theorem kept_rd {w w1 w2 : World} {rb g : Nat} (hb : Below w.heap.size w w1) (hk : Kept (fun k => k = rb ∨ k = g) w1 w2) (hg : w.heap.size ≤ g) : w.grownBy w2 (some rb) :=
  ⟨hk.os.trans hb.os, hk.tape.trans hb.tape, hk.output.trans hb.output, Nat.le_trans hb.size hk.size, fun k hkl hne =>
    (hk.block k (Nat.lt_of_lt_of_le hkl hb.size) (fun e => by rcases e with rfl | rfl; exact hne rfl; omega)).trans (hb.block k hkl)⟩

/-- The world in which a deed is read: a place for it, and its reader. -/
def readW (w : World) (rb : Nat) : World := (w.alloc (.cells (Dd.none.vals none 0) 39)).alloc (.cells #[.pointer (some ⟨rb, 0, none⟩), .int .i64 0] 88)
theorem readW_below (w : World) (rb : Nat) : Below w.heap.size w (readW w rb) := ((Below.refl _ _).alloc (Nat.le_refl _) _).alloc (by simp) _
theorem readW_size (w : World) (rb : Nat) : (readW w rb).heap.size = w.heap.size + 2 := by simp [readW]
theorem readW_own (w : World) (rb : Nat) : (readW w rb).heap[w.heap.size + 1]? = some (.cells #[.pointer (some ⟨rb, 0, none⟩), .int .i64 ((0 : Nat) : Int)] 88 (0, 0)) := by
  have h := heap_alloc_new (w.alloc (.cells (Dd.none.vals none 0) 39)) (.cells #[.pointer (some ⟨rb, 0, none⟩), .int .i64 0] 88)
  rw [show (w.alloc (.cells (Dd.none.vals none 0) 39)).heap.size = w.heap.size + 1 by simp] at h
  exact h
theorem readW_none (w : World) (rb : Nat) : DeedAt (readW w rb) w.heap.size Dd.none none 0 39 := (DeedAt.new w Dd.none none 0 39).next ((Below.refl _ _).alloc (Nat.le_refl _) _)

theorem get_in (rb : Nat) (FB : Nat → Prop) (bs : List Nat) (s : Nat × Nat) (A : Option Addr) (cp : Nat) (d : Dd) (y : Nat) (st : Nat × Nat) (w : World) (hR : ReaderAt w rb FB bs s A cp) (hF : ∀ k, FB k → k < w.heap.size) (hbl : bs.length ≤ 140737488355328) (h : DRaw bs s d y st) :
    Calls Try.prog 41 #[.pointer (some ⟨w.heap.size + 1, 0, none⟩)] ((w.alloc (.cells (Dd.none.vals none 0) 39)).alloc (.cells #[.pointer (some ⟨rb, 0, none⟩), .int .i64 0] 88)) fun e w' => ∃ B c, e = .returned (.agg (d.vals B c)) ∧ GetAt (readW w rb) rb FB bs A cp (w.heap.size + 1) (w.heap.size + 2) st y d B c w' := by
  have hl := hR.lt
  have k := get_is rb FB bs A cp (w.heap.size + 1) s d y st (readW w rb) (hR.grown (grown_below (readW_below w rb) none) (by simp) (by simp)) (readW_own w rb) (by omega) (fun k hk => by have := hF k hk; rw [readW_size]; omega) hbl h
  rw [readW_size] at k
  exact k

set_option maxRecDepth 100000 in
set_option maxHeartbeats 4000000 in
theorem dread_ok (rb : Nat) (FB : Nat → Prop) (bs : List Nat) (s : Nat × Nat) (A : Option Addr) (cp : Nat) (d : Dd) (st : Nat × Nat) (w : World) (hR : ReaderAt w rb FB bs s A cp) (hF : ∀ k, FB k → k < w.heap.size) (hbl : bs.length ≤ 140737488355328) (h : Hid (DRaw bs s d 0 st)) (h0 : Hid (st.2 = 0)) :
    Calls Try.prog 24 #[.pointer (some ⟨rb, 0, none⟩)] w fun e w' => ∃ B c, e = .returned (.tuple #[.agg (d.vals B c), .int .i64 0]) ∧ Lies w' (fun k => w.heap.size ≤ k) B d.bits ∧ d.bits.length ≤ c ∧ c ≤ maxLen ∧ Rd w rb FB bs st A cp w' := by
  have hz := zero_deed
  have kd := get_in rb FB bs s A cp d 0 st w hR hF hbl h.out
  have hN := readW_none w rb
  have hB := readW_below w rb
  have hV := readW_size w rb
  have e0 : ((derr 0 st : Nat) : Int) = 0 := by rw [show derr 0 st = 0 from if_pos h0.out]; rfl
  have hrl := hR.lt
  have HF := Lib.hid hF
  clear hR hF hbl h
  go_enter Try.func24, Try.ntmps24
  go_wp2_with (first
    | (go_at_call 41; refine kd.mono ?_; clear kd; rintro e w1 ⟨B, c, rfl, hG⟩; have hN1 : DeedAt w1 w.heap.size Dd.none none 0 39 := (hG.kept.block _ (by omega) (by omega)).trans hN)
    | (refine store_deed _ _ rfl rfl _ d Dd.none B none c 0 _ rfl rfl (DeedAt.new w1 Dd.none none 0 _) ?_; have hb2 : Below w1.heap.size w1 ((w1.alloc (.cells (Dd.none.vals none 0) 39)).setRow w1.heap.size (d.vals B c)) := below_setRow ((Below.refl _ _).alloc (Nat.le_refl _) _) (Nat.le_refl _) _; have hG2 := hG.next hb2; have hN2 := hN1.next hb2; have hD2 : DeedAt ((w1.alloc (.cells (Dd.none.vals none 0) 39)).setRow w1.heap.size (d.vals B c)) w1.heap.size d B c 39 := DeedAt.set (DeedAt.new w1 Dd.none none 0 _))
    | (go_at_call 42; refine (hG2.err 0 e0).mono ?_; rintro e w3 ⟨rfl, rfl⟩)
    | (refine load_deed _ rfl rfl _ d B c _ rfl hD2 ?_)
    | (refine store_deed _ _ rfl rfl w.heap.size d Dd.none B none c 0 _ rfl rfl hN2 ?_))
  have hsm : w.heap.size < w1.heap.size := by have := hG.kept.size; omega
  refine bodyPost_ret (res_deed2 Try.results24 rfl (DeedAt.set hN2)) rfl ⟨B, c, rfl, ?_, hG.room, hG.most, ?_⟩
  · exact ((hG2.lies).grown (grown_setRow _ _ _) (fun k hk e => by injection e with e; omega)).imp (fun k _ hk => by omega)
  · have hg1 := kept_rd hB hG2.kept (Nat.le_succ _)
    have hg2 : w.grownBy _ (some rb) := grown_trans' hg1 (below_setRow (Below.refl w.heap.size _) (Nat.le_refl _) (d.vals B c))
    exact ⟨hG2.reader.grown (grown_setRow _ w.heap.size _) (fun e => by injection e with e; omega) (fun k hk e => by injection e with e; have := HF.out k hk; omega), hg2⟩

set_option maxRecDepth 100000 in
set_option maxHeartbeats 4000000 in
theorem dread_no (rb : Nat) (FB : Nat → Prop) (bs : List Nat) (s : Nat × Nat) (A : Option Addr) (cp : Nat) (d : Dd) (y n : Nat) (st : Nat × Nat) (w : World) (hR : ReaderAt w rb FB bs s A cp) (hF : ∀ k, FB k → k < w.heap.size) (hbl : bs.length ≤ 140737488355328) (h : Hid (DRaw bs s d y st)) (hn : Hid (derr y st = n)) (hn0 : Hid (n ≠ 0)) :
    Calls Try.prog 24 #[.pointer (some ⟨rb, 0, none⟩)] w fun e w' => e = .returned (.tuple #[.agg (Dd.none.vals none 0), .int .i64 (n : Int)]) ∧ Rd w rb FB bs st A cp w' := by
  have hz := zero_deed
  have kd := get_in rb FB bs s A cp d y st w hR hF hbl h.out
  have hN := readW_none w rb
  have hB := readW_below w rb
  have hV := readW_size w rb
  have e0 : ((derr y st : Nat) : Int) = (n : Int) := by rw [hn.out]
  have d1 : ((n : Int) != 0) = true := by have := hn0.out; simp; omega
  have hrl := hR.lt
  have HF := Lib.hid hF
  clear hR hF hbl h
  go_enter Try.func24, Try.ntmps24
  go_wp2_with (first
    | (go_at_call 41; refine kd.mono ?_; clear kd; rintro e w1 ⟨B, c, rfl, hG⟩; have hN1 : DeedAt w1 w.heap.size Dd.none none 0 39 := (hG.kept.block _ (by omega) (by omega)).trans hN)
    | (refine store_deed _ _ rfl rfl w1.heap.size d Dd.none B none c 0 _ rfl rfl (DeedAt.new w1 Dd.none none 0 _) ?_; have hb2 : Below w1.heap.size w1 ((w1.alloc (.cells (Dd.none.vals none 0) 39)).setRow w1.heap.size (d.vals B c)) := below_setRow ((Below.refl _ _).alloc (Nat.le_refl _) _) (Nat.le_refl _) _; have hG2 := hG.next hb2; have hN2 := hN1.next hb2)
    | (go_at_call 42; refine (hG2.err _ e0).mono ?_; rintro e w3 ⟨rfl, rfl⟩)
    | (refine build_deed _ rfl rfl Dd.none none 0 (by kernel_rfl) ?_)
    | (refine store_deed _ _ rfl rfl w.heap.size Dd.none Dd.none none none 0 0 _ rfl rfl hN2 ?_))
  refine bodyPost_ret (res_deed2 Try.results24 rfl (DeedAt.set hN2)) rfl ⟨rfl, ?_⟩
  have hg1 := kept_rd hB hG2.kept (Nat.le_succ _)
  have hg2 : w.grownBy _ (some rb) := grown_trans' hg1 (below_setRow (Below.refl w.heap.size _) (Nat.le_refl _) (Dd.none.vals none 0))
  exact ⟨hG2.reader.grown (grown_setRow _ w.heap.size _) (fun e => by injection e with e; omega) (fun k hk e => by injection e with e; have := HF.out k hk; omega), hg2⟩

/-- By a reader that is none. -/
theorem used_none (w : World) : Calls Try.prog 45 #[.agg (Dd.none.vals none 0)] w fun e w' => e = .returned (.int .i64 0) ∧ Below w.heap.size w w' := used_is Dd.none none 0 w
end Go.Proofs.Ytokaclacejhppaa
namespace Go.Proofs.Ytokaclacejhppaa
open Go.RowKit
set_option linter.unusedVariables false
set_option linter.unusedSimpArgs false

set_option maxRecDepth 100000 in
theorem dwrite_ok (b : Nat) (F : Nat → Prop) (s : List Nat × Nat) (d : Dd) (A : Option Addr) (c : Nat) (w : World) (h : d.Right) (hW : Writes w b F s) (hx : Lies w (· ≠ b) A d.bits) (hr : d.bits.length ≤ c) (hm : c ≤ maxLen) :
    Calls Try.prog 15 #[.pointer (some ⟨b, 0, none⟩), .agg (d.vals A c)] w fun e w' => e = .returned (.int .i64 0) ∧ Left w b F (wputs s d.parts) w' := by
  have hbl := hW.lt
  have hB : Below w.heap.size w (w.alloc (.cells (d.vals A c) 39)) := (Below.refl _ _).alloc (Nat.le_refl _) _
  have hD := DeedAt.new w d A c 39
  have hW0 := hW.below hB
  have hx0 := hx.grown (grown_below hB none) (by simp)
  have kr := fun w => right_ok d A c w h
  have kp := fun w hW hx => put_is b F s d A c w h hW hx hr hm
  clear hW hx h hr hm
  go_enter Try.func15, Try.ntmps15
  go_wp2_with (first
    | (refine load_deed _ rfl rfl _ d A c _ rfl (by assumption) ?_)
    | (go_at_call 30; refine (kr _).mono ?_; clear kr; rintro e w1 ⟨rfl, hb1⟩; have hD1 := hD.next hb1; have hW1 := hW0.below hb1; have hx1 := hx0.grown (grown_below hb1 none) (by simp); have hB1 := Below.then hB hb1)
    | (go_at_call 31; refine (kp _ hW1 hx1).mono ?_; clear kp; rintro e w2 ⟨rfl, hL⟩))
  go_ret
  exact ⟨rfl, Left.from (grown_below hB1 _) (fun k hk => .inl hk) hL⟩
set_option maxRecDepth 100000 in
theorem dwrite_no (a : Addr) (d : Dd) (A : Option Addr) (c : Nat) (w : World) (hf : d.Fits) (h : ¬ d.Right) :
    Calls Try.prog 15 #[.pointer (some a), .agg (d.vals A c)] w fun e w' => e = .returned (.int .i64 80) ∧ Below w.heap.size w w' := by
  have hB : Below w.heap.size w (w.alloc (.cells (d.vals A c) 39)) := (Below.refl _ _).alloc (Nat.le_refl _) _
  have hD := DeedAt.new w d A c 39
  have kr := fun w => right_no d A c w hf h
  clear hf h
  go_enter Try.func15, Try.ntmps15
  go_wp2_with (first
    | (refine load_deed _ rfl rfl _ d A c _ rfl (by assumption) ?_)
    | (go_at_call 30; refine (kr _).mono ?_; clear kr; rintro e w1 ⟨rfl, hb1⟩; have hB1 := Below.then hB hb1))
  go_ret
  exact ⟨rfl, hB1⟩
theorem dwrite_nil (d : Dd) (A : Option Addr) (c : Nat) (w : World) :
    Calls Try.prog 15 #[.pointer none, .agg (d.vals A c)] w fun e w' => e = .returned (.int .i64 1) ∧ Below w.heap.size w w' := by
  have hB : Below w.heap.size w (w.alloc (.cells (d.vals A c) 39)) := (Below.refl _ _).alloc (Nat.le_refl _) _
  go_enter Try.func15, Try.ntmps15
  go_wp2
  go_ret
  exact ⟨rfl, hB⟩

theorem wputs_bytes {d : Dd} (h : d.Right) (pre : List Nat) (hl : pre.length ≤ 130000) : wputs (pre, 0) d.parts = (pre ++ d.bytes, 0) :=
  wputs_ok d.parts pre (by have := (bytes_len h).2; unfold Dd.bytes at this; omega)

end Go.Proofs.Ytokaclacejhppaa
namespace Go.Proofs.Ytokaclacejhppaa
open Go.RowKit
set_option linter.unusedVariables false
set_option linter.unusedSimpArgs false

def egSend : Dd := ⟨1, 0, 0, 1, 5, 0, [], 0, Par.none, 0, false⟩
def egLeave : Dd := ⟨4, 1, 3, 0, 0, 0, [], 0, Par.none, 0, false⟩
theorem egSend_right : egSend.Right := .send 0 1 5 (by decide) (by decide) (by decide) (by decide)
theorem egLeave_right : egLeave.Right := .leave 1 3 (by decide) (by decide)
theorem egSend_bytes : egSend.bytes = [1, 0, 1, 5] := by
  have e : egSend.parts = [form 1, form 0, form 1, form 5] := rfl
  unfold Dd.bytes
  rw [e, form_small (by decide), form_small (by decide), form_small (by decide)]
  rfl
theorem egLeave_bytes : egLeave.bytes = [4, 1, 3] := by
  have e : egLeave.parts = [form 4, form 1, form 3] := rfl
  unfold Dd.bytes
  rw [e, form_small (by decide), form_small (by decide), form_small (by decide)]
  rfl
theorem egLeave_read : DRaw [4, 1, 3] (0, 0) egLeave 0 (3, 0) := by
  have h := draw_form egLeave_right (bs := [4, 1, 3]) (rest := []) (pos := 0) (by decide) (by rw [egLeave_bytes]; rfl)
  rw [egLeave_bytes] at h
  exact h

end Go.Proofs.Ytokaclacejhppaa
