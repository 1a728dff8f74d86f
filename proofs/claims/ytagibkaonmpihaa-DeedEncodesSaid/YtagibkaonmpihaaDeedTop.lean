/- Layer 8 (deed): a deed is read, whatever is there. By contracts. · Layer 8 (deed): a deed is read, with its error; bytes as a deed. By contracts. · Layer 8 (deed): a deed is written; a deed as bytes. By contracts. · The example of layer 8 (deed). By contracts. -/
import Derived.Test.YtagibkaonmpihaaDeedGet
import Derived.Test.YtagibkaonmpihaaDeedF
import Derived.Test.YtagibkaonmpihaaDeedC
import Derived.Test.YtagibkaonmpihaaBytesV
namespace Go.Proofs.Ytagibkaonmpihaa
open Go.RowKit
set_option linter.unusedVariables false
set_option linter.unusedSimpArgs false

theorem get_is (rb : Nat) (FB : Nat → Prop) (bs : List Nat) (A : Option Addr) (cp g : Nat) (s : Nat × Nat) (d : Dd) (y : Nat) (st : Nat × Nat) (w : World) (hR : ReaderAt w rb FB bs s A cp) (hg : w.heap[g]? = some (.cells #[.pointer (some ⟨rb, 0, none⟩), .int .i64 ((0 : Nat) : Int)] 73 (0, 0))) (hn : rb ≠ g) (hF : ∀ k, FB k → k < w.heap.size ∧ k ≠ g) (hbl : bs.length ≤ 140737488355328) (h : DRaw bs s d y st) :
    Calls Try.prog 33 #[.pointer (some ⟨g, 0, none⟩)] w fun e w' => ∃ B c, e = .returned (.agg (d.vals B c)) ∧ GetAt w rb FB bs A cp g w.heap.size st y d B c w' := by
  cases h with
  | bad k _ h hk =>
    obtain ⟨s1, K1, e⟩ := rdL_inv h
    obtain rfl := rdL_nil e
    exact get_bad rb FB bs A cp g s k _ w hR hg hn hF hbl K1 hk
  | send a t m _ h =>
    obtain ⟨s1, K1, e⟩ := rdL_inv h
    obtain ⟨s2, K2, e⟩ := rdL_inv e
    obtain ⟨s3, K3, e⟩ := rdL_inv e
    obtain ⟨s4, K4, e⟩ := rdL_inv e
    obtain rfl := rdL_nil e
    by_cases hm : m = 0
    · subst hm; rw [if_pos rfl]; exact get_send0 rb FB bs A cp g s a t s1 s2 s3 _ w hR hg hn hF hbl K1 K2 K3 K4
    · rw [if_neg hm]; exact get_send rb FB bs A cp g s a t m s1 s2 s3 _ w hR hg hn hF hbl K1 K2 K3 K4 hm
  | stake a m _ h =>
    obtain ⟨s1, K1, e⟩ := rdL_inv h
    obtain ⟨s2, K2, e⟩ := rdL_inv e
    obtain ⟨s3, K3, e⟩ := rdL_inv e
    obtain rfl := rdL_nil e
    by_cases hm : m = 0
    · subst hm; rw [if_pos rfl]; exact get_stake0 rb FB bs A cp g s a s1 s2 _ w hR hg hn hF hbl K1 K2 K3
    · rw [if_neg hm]; exact get_stake rb FB bs A cp g s a m s1 s2 _ w hR hg hn hF hbl K1 K2 K3 hm
  | top a b m _ h =>
    obtain ⟨s1, K1, e⟩ := rdL_inv h
    obtain ⟨s2, K2, e⟩ := rdL_inv e
    obtain ⟨s3, K3, e⟩ := rdL_inv e
    obtain ⟨s4, K4, e⟩ := rdL_inv e
    obtain rfl := rdL_nil e
    by_cases hm : m = 0
    · subst hm; rw [if_pos rfl]; exact get_top0 rb FB bs A cp g s a b s1 s2 s3 _ w hR hg hn hF hbl K1 K2 K3 K4
    · rw [if_neg hm]; exact get_top rb FB bs A cp g s a b m s1 s2 s3 _ w hR hg hn hF hbl K1 K2 K3 K4 hm
  | leave a b _ h =>
    obtain ⟨s1, K1, e⟩ := rdL_inv h
    obtain ⟨s2, K2, e⟩ := rdL_inv e
    obtain ⟨s3, K3, e⟩ := rdL_inv e
    obtain rfl := rdL_nil e
    exact get_leave rb FB bs A cp g s a b s1 s2 _ w hR hg hn hF hbl K1 K2 K3
  | mark ep sm xs _ h KR =>
    obtain ⟨s1, K1, e⟩ := rdL_inv h
    obtain ⟨s2, K2, e⟩ := rdL_inv e
    obtain rfl := rdL_nil e
    exact get_mark rb FB bs A cp g s ep xs s1 _ _ w hR hg hn hF hbl K1 K2 KR
  | params a sm q ee _ h KP =>
    obtain ⟨s1, K1, e⟩ := rdL_inv h
    obtain ⟨s2, K2, e⟩ := rdL_inv e
    obtain ⟨s3, K3, e⟩ := rdL_inv e
    obtain rfl := rdL_nil e
    exact get_params rb FB bs A cp g s a q _ s1 s2 _ _ w hR hg hn hF hbl K1 K2 K3 KP
  | spend a t m _ h =>
    obtain ⟨s1, K1, e⟩ := rdL_inv h
    obtain ⟨s2, K2, e⟩ := rdL_inv e
    obtain ⟨s3, K3, e⟩ := rdL_inv e
    obtain ⟨s4, K4, e⟩ := rdL_inv e
    obtain ⟨s5, K5, e⟩ := rdL_inv e
    obtain rfl := rdL_nil e
    by_cases hm : m = 0
    · subst hm; rw [if_pos rfl]; exact get_spend0 rb FB bs A cp g s a t s1 s2 s3 s4 _ w hR hg hn hF hbl K1 K2 K3 K4 K5
    · rw [if_neg hm]; exact get_spend rb FB bs A cp g s a t m s1 s2 s3 s4 _ w hR hg hn hF hbl K1 K2 K3 K4 K5 hm
  | other a k _ h h1 h2 =>
    obtain ⟨s1, K1, e⟩ := rdL_inv h
    obtain ⟨s2, K2, e⟩ := rdL_inv e
    obtain ⟨s3, K3, e⟩ := rdL_inv e
    obtain rfl := rdL_nil e
    by_cases h0 : k = 0
    · subst h0; rw [if_neg (by omega)]; exact get_other0 rb FB bs A cp g s a s1 s2 _ w hR hg hn hF hbl K1 K2 K3
    · by_cases h4 : 4 < k
      · rw [if_neg (by omega)]; exact get_otherhi rb FB bs A cp g s a k s1 s2 _ w hR hg hn hF hbl K1 K2 K3 h4
      · rw [if_pos (by omega)]; exact get_other rb FB bs A cp g s a k s1 s2 _ w hR hg hn hF hbl K1 K2 K3 (by omega) (by omega)
  | vote a b n yv _ h =>
    obtain ⟨s1, K1, e⟩ := rdL_inv h
    obtain ⟨s2, K2, e⟩ := rdL_inv e
    obtain ⟨s3, K3, e⟩ := rdL_inv e
    obtain ⟨s4, K4, e⟩ := rdL_inv e
    obtain ⟨s5, K5, e⟩ := rdL_inv e
    obtain rfl := rdL_nil e
    exact get_vote rb FB bs A cp g s a b n yv s1 s2 s3 s4 _ w hR hg hn hF hbl K1 K2 K3 K4 K5
end Go.Proofs.Ytagibkaonmpihaa
namespace Go.Proofs.Ytagibkaonmpihaa
open Go.RowKit
set_option linter.unusedVariables false
set_option linter.unusedSimpArgs false

/-- The error of a deed that was read: its reader's, or its own. -/
def derr (y : Nat) (st : Nat × Nat) : Nat := if st.2 = 0 then y else st.2

theorem GetAt.err {w0 w : World} {rb : Nat} {FB : Nat → Prop} {bs : List Nat} {A B : Option Addr} {cp g dg c : Nat} {s : Nat × Nat} {y : Nat} {d : Dd} (h : GetAt w0 rb FB bs A cp g dg s y d B c w) (n : Int) (hn : ((derr y s : Nat) : Int) = n) :
    Calls Try.prog 34 #[.pointer (some ⟨g, 0, none⟩)] w fun e w' => e = .returned (.int .i64 n) ∧ w = w' := by
  subst hn
  have p := h.ptr
  have y1 := h.whyIs.1
  have ke := rerr_is rb FB bs s A cp w h.reader
  clear h
  by_cases he : s.2 = 0
  · rw [show derr y s = y from if_pos he]
    have ke0 : Calls Try.prog 53 #[.pointer (some ⟨rb, 0, none⟩)] w fun ev w' => ev = .returned (.int .i64 0) ∧ w = w' := by rw [he] at ke; exact ke
    clear ke
    go_enter Try.func34, Try.ntmps34
    go_wp2_with (go_at_call 53; refine ke0.mono ?_; rintro e w' ⟨rfl, rfl⟩)
    go_ret
    exact ⟨rfl, rfl⟩
  · rw [show derr y s = s.2 from if_neg he]
    generalize s.2 = z at *
    have hd : ((z : Int) != 0) = true := by simp; omega
    clear he
    go_enter Try.func34, Try.ntmps34
    go_wp2_with (go_at_call 53; refine ke.mono ?_; rintro e w' ⟨rfl, rfl⟩)
    go_ret
    exact ⟨rfl, rfl⟩

theorem grown_trans' {w a b : World} {r : Option Nat} (h : w.grownBy a r) (hb : Below w.heap.size a b) : w.grownBy b r :=
  ⟨hb.os.trans h.os, hb.tape.trans h.tape, hb.output.trans h.output, Nat.le_trans h.size hb.size, fun k hk hn => (hb.block k hk).trans (h.block k hk hn)⟩
theorem kept_rd {w w1 w2 : World} {rb g : Nat} (hb : Below w.heap.size w w1) (hk : Kept (fun k => k = rb ∨ k = g) w1 w2) (hg : w.heap.size ≤ g) : w.grownBy w2 (some rb) :=
  ⟨hk.os.trans hb.os, hk.tape.trans hb.tape, hk.output.trans hb.output, Nat.le_trans hb.size hk.size, fun k hkl hne =>
    (hk.block k (Nat.lt_of_lt_of_le hkl hb.size) (fun e => by rcases e with rfl | rfl; exact hne rfl; omega)).trans (hb.block k hkl)⟩

/-- The world in which a deed is read: a place for it, and its reader. -/
def readW (w : World) (rb : Nat) : World := (w.alloc (.cells (Dd.none.vals none 0) 27)).alloc (.cells #[.pointer (some ⟨rb, 0, none⟩), .int .i64 0] 73)
theorem readW_below (w : World) (rb : Nat) : Below w.heap.size w (readW w rb) := ((Below.refl _ _).alloc (Nat.le_refl _) _).alloc (by simp) _
theorem readW_size (w : World) (rb : Nat) : (readW w rb).heap.size = w.heap.size + 2 := by simp [readW]
theorem readW_own (w : World) (rb : Nat) : (readW w rb).heap[w.heap.size + 1]? = some (.cells #[.pointer (some ⟨rb, 0, none⟩), .int .i64 ((0 : Nat) : Int)] 73 (0, 0)) := by
  have h := heap_alloc_new (w.alloc (.cells (Dd.none.vals none 0) 27)) (.cells #[.pointer (some ⟨rb, 0, none⟩), .int .i64 0] 73)
  rw [show (w.alloc (.cells (Dd.none.vals none 0) 27)).heap.size = w.heap.size + 1 by simp] at h
  exact h
theorem readW_none (w : World) (rb : Nat) : DeedAt (readW w rb) w.heap.size Dd.none none 0 27 := (DeedAt.new w Dd.none none 0 27).next ((Below.refl _ _).alloc (Nat.le_refl _) _)

theorem get_in (rb : Nat) (FB : Nat → Prop) (bs : List Nat) (s : Nat × Nat) (A : Option Addr) (cp : Nat) (d : Dd) (y : Nat) (st : Nat × Nat) (w : World) (hR : ReaderAt w rb FB bs s A cp) (hF : ∀ k, FB k → k < w.heap.size) (hbl : bs.length ≤ 140737488355328) (h : DRaw bs s d y st) :
    Calls Try.prog 33 #[.pointer (some ⟨w.heap.size + 1, 0, none⟩)] ((w.alloc (.cells (Dd.none.vals none 0) 27)).alloc (.cells #[.pointer (some ⟨rb, 0, none⟩), .int .i64 0] 73)) fun e w' => ∃ B c, e = .returned (.agg (d.vals B c)) ∧ GetAt (readW w rb) rb FB bs A cp (w.heap.size + 1) (w.heap.size + 2) st y d B c w' := by
  have hl := hR.lt
  have k := get_is rb FB bs A cp (w.heap.size + 1) s d y st (readW w rb) (hR.grown (grown_below (readW_below w rb) none) (by simp) (by simp)) (readW_own w rb) (by omega) (fun k hk => by have := hF k hk; rw [readW_size]; omega) hbl h
  rw [readW_size] at k
  exact k

set_option maxRecDepth 100000 in
set_option maxHeartbeats 4000000 in
theorem dread_ok (rb : Nat) (FB : Nat → Prop) (bs : List Nat) (s : Nat × Nat) (A : Option Addr) (cp : Nat) (d : Dd) (st : Nat × Nat) (w : World) (hR : ReaderAt w rb FB bs s A cp) (hF : ∀ k, FB k → k < w.heap.size) (hbl : bs.length ≤ 140737488355328) (h : Hid (DRaw bs s d 0 st)) (h0 : Hid (st.2 = 0)) :
    Calls Try.prog 16 #[.pointer (some ⟨rb, 0, none⟩)] w fun e w' => ∃ B c, e = .returned (.tuple #[.agg (d.vals B c), .int .i64 0]) ∧ Lies w' (fun k => w.heap.size ≤ k) B d.bits ∧ d.bits.length ≤ c ∧ c ≤ maxLen ∧ Rd w rb FB bs st A cp w' := by
  have hz := zero_deed
  have kd := get_in rb FB bs s A cp d 0 st w hR hF hbl h.out
  have hN := readW_none w rb
  have hB := readW_below w rb
  have hV := readW_size w rb
  have e0 : ((derr 0 st : Nat) : Int) = 0 := by rw [show derr 0 st = 0 from if_pos h0.out]; rfl
  have hrl := hR.lt
  have HF := Lib.hid hF
  clear hR hF hbl h
  go_enter Try.func16, Try.ntmps16
  go_wp2_with (first
    | (go_at_call 33; refine kd.mono ?_; clear kd; rintro e w1 ⟨B, c, rfl, hG⟩; have hN1 : DeedAt w1 w.heap.size Dd.none none 0 27 := (hG.kept.block _ (by omega) (by omega)).trans hN)
    | (refine store_deed _ _ rfl rfl _ d Dd.none B none c 0 _ rfl rfl (DeedAt.new w1 Dd.none none 0 _) ?_; have hb2 : Below w1.heap.size w1 ((w1.alloc (.cells (Dd.none.vals none 0) 27)).setRow w1.heap.size (d.vals B c)) := below_setRow ((Below.refl _ _).alloc (Nat.le_refl _) _) (Nat.le_refl _) _; have hG2 := hG.next hb2; have hN2 := hN1.next hb2; have hD2 : DeedAt ((w1.alloc (.cells (Dd.none.vals none 0) 27)).setRow w1.heap.size (d.vals B c)) w1.heap.size d B c 27 := DeedAt.set (DeedAt.new w1 Dd.none none 0 _))
    | (go_at_call 34; refine (hG2.err 0 e0).mono ?_; rintro e w3 ⟨rfl, rfl⟩)
    | (refine load_deed _ rfl rfl _ d B c _ rfl hD2 ?_)
    | (refine store_deed _ _ rfl rfl w.heap.size d Dd.none B none c 0 _ rfl rfl hN2 ?_))
  have hsm : w.heap.size < w1.heap.size := by have := hG.kept.size; omega
  refine bodyPost_ret (res_deed2 Try.results16 rfl (DeedAt.set hN2)) rfl ⟨B, c, rfl, ?_, hG.room, hG.most, ?_⟩
  · exact ((hG2.lies).grown (grown_setRow _ _ _) (fun k hk e => by injection e with e; omega)).imp (fun k _ hk => by omega)
  · have hg1 := kept_rd hB hG2.kept (Nat.le_succ _)
    have hg2 : w.grownBy _ (some rb) := grown_trans' hg1 (below_setRow (Below.refl w.heap.size _) (Nat.le_refl _) (d.vals B c))
    exact ⟨hG2.reader.grown (grown_setRow _ w.heap.size _) (fun e => by injection e with e; omega) (fun k hk e => by injection e with e; have := HF.out k hk; omega), hg2⟩

set_option maxRecDepth 100000 in
set_option maxHeartbeats 4000000 in
theorem dread_no (rb : Nat) (FB : Nat → Prop) (bs : List Nat) (s : Nat × Nat) (A : Option Addr) (cp : Nat) (d : Dd) (y n : Nat) (st : Nat × Nat) (w : World) (hR : ReaderAt w rb FB bs s A cp) (hF : ∀ k, FB k → k < w.heap.size) (hbl : bs.length ≤ 140737488355328) (h : Hid (DRaw bs s d y st)) (hn : Hid (derr y st = n)) (hn0 : Hid (n ≠ 0)) :
    Calls Try.prog 16 #[.pointer (some ⟨rb, 0, none⟩)] w fun e w' => e = .returned (.tuple #[.agg (Dd.none.vals none 0), .int .i64 (n : Int)]) ∧ Rd w rb FB bs st A cp w' := by
  have hz := zero_deed
  have kd := get_in rb FB bs s A cp d y st w hR hF hbl h.out
  have hN := readW_none w rb
  have hB := readW_below w rb
  have hV := readW_size w rb
  have e0 : ((derr y st : Nat) : Int) = (n : Int) := by rw [hn.out]
  have d1 : ((n : Int) != 0) = true := by have := hn0.out; simp; omega
  have hrl := hR.lt
  have HF := Lib.hid hF
  clear hR hF hbl h
  go_enter Try.func16, Try.ntmps16
  go_wp2_with (first
    | (go_at_call 33; refine kd.mono ?_; clear kd; rintro e w1 ⟨B, c, rfl, hG⟩; have hN1 : DeedAt w1 w.heap.size Dd.none none 0 27 := (hG.kept.block _ (by omega) (by omega)).trans hN)
    | (refine store_deed _ _ rfl rfl w1.heap.size d Dd.none B none c 0 _ rfl rfl (DeedAt.new w1 Dd.none none 0 _) ?_; have hb2 : Below w1.heap.size w1 ((w1.alloc (.cells (Dd.none.vals none 0) 27)).setRow w1.heap.size (d.vals B c)) := below_setRow ((Below.refl _ _).alloc (Nat.le_refl _) _) (Nat.le_refl _) _; have hG2 := hG.next hb2; have hN2 := hN1.next hb2)
    | (go_at_call 34; refine (hG2.err _ e0).mono ?_; rintro e w3 ⟨rfl, rfl⟩)
    | (refine build_deed _ rfl rfl Dd.none none 0 (by kernel_rfl) ?_)
    | (refine store_deed _ _ rfl rfl w.heap.size Dd.none Dd.none none none 0 0 _ rfl rfl hN2 ?_))
  refine bodyPost_ret (res_deed2 Try.results16 rfl (DeedAt.set hN2)) rfl ⟨rfl, ?_⟩
  have hg1 := kept_rd hB hG2.kept (Nat.le_succ _)
  have hg2 : w.grownBy _ (some rb) := grown_trans' hg1 (below_setRow (Below.refl w.heap.size _) (Nat.le_refl _) (Dd.none.vals none 0))
  exact ⟨hG2.reader.grown (grown_setRow _ w.heap.size _) (fun e => by injection e with e; omega) (fun k hk e => by injection e with e; have := HF.out k hk; omega), hg2⟩

set_option maxRecDepth 100000 in
set_option maxHeartbeats 4000000 in
/-- Bytes that are a deed, all of them. -/
theorem ddecode_ok (xs : List Nat) (S : Nat → Prop) (A : Option Addr) (c : Nat) (d : Dd) (st : Nat × Nat) (w : World) (hx : Lies w S A xs) (hl : xs.length ≤ 140737488355328) (hb : ∀ x ∈ xs, x < 256) (h : Hid (DRaw xs (0, 0) d 0 st)) (h0 : Hid (st.2 = 0)) (hd : Hid (rdDone xs st = 0)) :
    Calls Try.prog 18 #[.slice A xs.length c] w fun e w' => ∃ B c', e = .returned (.tuple #[.agg (d.vals B c'), .int .i64 0]) ∧ Lies w' (fun k => w.heap.size ≤ k) B d.bits ∧ d.bits.length ≤ c' ∧ c' ≤ maxLen ∧ Below w.heap.size w w' := by
  have hz := zero_deed
  have hN := DeedAt.new w Dd.none none 0 27
  have hB : Below w.heap.size w (w.alloc (.cells (Dd.none.vals none 0) 27)) := (Below.refl _ _).alloc (Nat.le_refl _) _
  have hx0 := hx.grown (grown_below hB none) (by simp)
  have hs0 : (w.alloc (.cells (Dd.none.vals none 0) 27)).heap.size = w.heap.size + 1 := by simp
  have ko := open_is xs S A c _ hx0 hl hb
  rw [hs0] at ko
  have kd : ∀ rb FB A' c' w, ReaderAt w rb FB xs st A' c' → Calls Try.prog 36 #[.pointer (some ⟨rb, 0, none⟩)] w fun ev w' => ev = .returned (.int .i64 0) ∧ Below w.heap.size w w' := fun rb FB A' c' w hR => by
    have k := rdone_is rb FB xs st A' c' w hR
    rw [hd.out] at k
    exact k.mono (by rintro e w' ⟨rfl, k, rfl⟩; exact ⟨rfl, ⟨rfl, rfl, rfl, Nat.le_refl _, fun _ _ => rfl⟩⟩)
  have HL := Lib.hid hl
  clear hx hx0 hl hb hd
  go_enter Try.func18, Try.ntmps18
  go_wp2_with (first
    | (go_at_call 35; refine ko.mono ?_; clear ko; rintro e w1 ⟨rb, A', c', rfl, hR1, hrb, hb1⟩; have hN1 := hN.below hb1 (by omega))
    | (go_at_call 16; refine (dread_ok rb _ xs (0, 0) A' c' d st _ hR1 (fun k hk => Nat.lt_trans hk.2 hR1.lt) HL.out h h0).mono ?_; rintro e w2 ⟨B, c2, rfl, hL2, hr2, hm2, hR2, hg2⟩; have hN2 := hN1.grown hg2 (fun e => by injection e with e; omega))
    | (refine store_deed _ _ rfl rfl w2.heap.size d Dd.none B none c2 0 _ rfl rfl (DeedAt.new w2 Dd.none none 0 _) ?_; have hb3 : Below w2.heap.size w2 ((w2.alloc (.cells (Dd.none.vals none 0) 27)).setRow w2.heap.size (d.vals B c2)) := below_setRow ((Below.refl _ _).alloc (Nat.le_refl _) _) (Nat.le_refl _) _; have hN3 := hN2.next hb3; have hR3 := hR2.grown (grown_below hb3 none) (by simp) (by simp); have hD3 : DeedAt ((w2.alloc (.cells (Dd.none.vals none 0) 27)).setRow w2.heap.size (d.vals B c2)) w2.heap.size d B c2 27 := DeedAt.set (DeedAt.new w2 Dd.none none 0 _))
    | (go_at_call 36; refine (kd _ _ _ _ _ hR3).mono ?_; rintro e w4 ⟨rfl, hb4⟩; have hD4 := hD3.next hb4; have hN4 := hN3.next hb4)
    | (refine load_deed _ rfl rfl _ d B c2 _ rfl hD4 ?_)
    | (refine store_deed _ _ rfl rfl w.heap.size d Dd.none B none c2 0 _ rfl rfl hN4 ?_))
  have hB1 : Below w.heap.size w w1 := hB.trans (hb1.mono (by omega))
  have hB2 : Below w.heap.size w w2 := hB1.trans (below_of_grown hg2 (by omega) hB1.size)
  have hB4 := Below.then (Below.then hB2 hb3) hb4
  refine bodyPost_ret (res_deed2 Try.results18 rfl (DeedAt.set hN4)) rfl ⟨B, c2, rfl, ?_, hr2, hm2, below_setRow hB4 (Nat.le_refl _) _⟩
  have l1 := hB1.size
  exact (((hL2.grown (grown_below hb3 none) (by simp)).grown (grown_below hb4 none) (by simp)).grown (grown_setRow _ w.heap.size _) (fun k hk e => by injection e with e; have := hR1.lt; omega)).imp (fun k _ hk => by omega)

set_option maxRecDepth 100000 in
set_option maxHeartbeats 4000000 in
/-- Bytes that are none. -/
theorem ddecode_no (xs : List Nat) (S : Nat → Prop) (A : Option Addr) (c : Nat) (d : Dd) (y n : Nat) (st : Nat × Nat) (w : World) (hx : Lies w S A xs) (hl : xs.length ≤ 140737488355328) (hb : ∀ x ∈ xs, x < 256) (h : Hid (DRaw xs (0, 0) d y st)) (hn : Hid (derr y st = n)) (hn0 : Hid (n ≠ 0)) :
    Calls Try.prog 18 #[.slice A xs.length c] w fun e w' => e = .returned (.tuple #[.agg (Dd.none.vals none 0), .int .i64 (n : Int)]) ∧ Below w.heap.size w w' := by
  have hz := zero_deed
  have hN := DeedAt.new w Dd.none none 0 27
  have hB : Below w.heap.size w (w.alloc (.cells (Dd.none.vals none 0) 27)) := (Below.refl _ _).alloc (Nat.le_refl _) _
  have hx0 := hx.grown (grown_below hB none) (by simp)
  have hs0 : (w.alloc (.cells (Dd.none.vals none 0) 27)).heap.size = w.heap.size + 1 := by simp
  have ko := open_is xs S A c _ hx0 hl hb
  rw [hs0] at ko
  have d1 : ((n : Int) != 0) = true := by have := hn0.out; simp; omega
  have d2 : ((n : Int) == 0) = false := by have := hn0.out; simp; omega
  have HL := Lib.hid hl
  clear hx hx0 hl hb
  go_enter Try.func18, Try.ntmps18
  go_wp2_with (first
    | (go_at_call 35; refine ko.mono ?_; clear ko; rintro e w1 ⟨rb, A', c', rfl, hR1, hrb, hb1⟩; have hN1 := hN.below hb1 (by omega))
    | (go_at_call 16; refine (dread_no rb _ xs (0, 0) A' c' d y n st _ hR1 (fun k hk => Nat.lt_trans hk.2 hR1.lt) HL.out h hn hn0).mono ?_; rintro e w2 ⟨rfl, hR2, hg2⟩; have hN2 := hN1.grown hg2 (fun e => by injection e with e; omega))
    | (refine store_deed _ _ rfl rfl w2.heap.size Dd.none Dd.none none none 0 0 _ rfl rfl (DeedAt.new w2 Dd.none none 0 _) ?_; have hb3 : Below w2.heap.size w2 ((w2.alloc (.cells (Dd.none.vals none 0) 27)).setRow w2.heap.size (Dd.none.vals none 0)) := below_setRow ((Below.refl _ _).alloc (Nat.le_refl _) _) (Nat.le_refl _) _; have hN3 := hN2.next hb3)
    | (refine build_deed _ rfl rfl Dd.none none 0 (by kernel_rfl) ?_)
    | (refine store_deed _ _ rfl rfl w.heap.size Dd.none Dd.none none none 0 0 _ rfl rfl (by assumption) ?_))
  have hB1 : Below w.heap.size w w1 := hB.trans (hb1.mono (by omega))
  have hB2 : Below w.heap.size w w2 := hB1.trans (below_of_grown hg2 (by omega) hB1.size)
  refine bodyPost_ret (res_deed2 Try.results18 rfl (DeedAt.set hN3)) rfl ⟨rfl, below_setRow (Below.then hB2 hb3) (Nat.le_refl _) _⟩

set_option maxRecDepth 100000 in
set_option maxHeartbeats 4000000 in
/-- Bytes behind which others are left. -/
theorem ddecode_left (xs : List Nat) (S : Nat → Prop) (A : Option Addr) (c : Nat) (d : Dd) (y n : Nat) (st : Nat × Nat) (w : World) (hx : Lies w S A xs) (hl : xs.length ≤ 140737488355328) (hb : ∀ x ∈ xs, x < 256) (h : Hid (DRaw xs (0, 0) d y st)) (hy : Hid (y = 0)) (h0 : Hid (st.2 = 0)) (hn : Hid (rdDone xs st = n)) (hn0 : Hid (n ≠ 0)) :
    Calls Try.prog 18 #[.slice A xs.length c] w fun e w' => e = .returned (.tuple #[.agg (Dd.none.vals none 0), .int .i64 (n : Int)]) ∧ Below w.heap.size w w' := by
  have hz := zero_deed
  have hN := DeedAt.new w Dd.none none 0 27
  have hB : Below w.heap.size w (w.alloc (.cells (Dd.none.vals none 0) 27)) := (Below.refl _ _).alloc (Nat.le_refl _) _
  have hx0 := hx.grown (grown_below hB none) (by simp)
  have hs0 : (w.alloc (.cells (Dd.none.vals none 0) 27)).heap.size = w.heap.size + 1 := by simp
  have ko := open_is xs S A c _ hx0 hl hb
  rw [hs0] at ko
  have d1 : ((n : Int) != 0) = true := by have := hn0.out; simp; omega
  have d2 : ((n : Int) == 0) = false := by have := hn0.out; simp; omega
  have kd : ∀ rb FB A' c' w, ReaderAt w rb FB xs st A' c' → Calls Try.prog 36 #[.pointer (some ⟨rb, 0, none⟩)] w fun ev w' => ev = .returned (.int .i64 (n : Int)) ∧ Below w.heap.size w w' := fun rb FB A' c' w hR => by
    have k := rdone_is rb FB xs st A' c' w hR
    rw [hn.out] at k
    exact k.mono (by rintro e w' ⟨rfl, k, rfl⟩; exact ⟨rfl, ⟨rfl, rfl, rfl, Nat.le_refl _, fun _ _ => rfl⟩⟩)
  have HL := Lib.hid hl
  clear hx hx0 hl hb
  go_enter Try.func18, Try.ntmps18
  go_wp2_with (first
    | (go_at_call 35; refine ko.mono ?_; clear ko; rintro e w1 ⟨rb, A', c', rfl, hR1, hrb, hb1⟩; have hN1 := hN.below hb1 (by omega))
    | (go_at_call 16; refine (dread_ok rb _ xs (0, 0) A' c' d st _ hR1 (fun k hk => Nat.lt_trans hk.2 hR1.lt) HL.out (hy.out ▸ h) h0).mono ?_; rintro e w2 ⟨B, c2, rfl, hL2, hr2, hm2, hR2, hg2⟩; have hN2 := hN1.grown hg2 (fun e => by injection e with e; omega))
    | (refine store_deed _ _ rfl rfl w2.heap.size d Dd.none B none c2 0 _ rfl rfl (DeedAt.new w2 Dd.none none 0 _) ?_; have hb3 : Below w2.heap.size w2 ((w2.alloc (.cells (Dd.none.vals none 0) 27)).setRow w2.heap.size (d.vals B c2)) := below_setRow ((Below.refl _ _).alloc (Nat.le_refl _) _) (Nat.le_refl _) _; have hN3 := hN2.next hb3; have hR3 := hR2.grown (grown_below hb3 none) (by simp) (by simp); clear hN2)
    | (go_at_call 36; refine (kd _ _ _ _ _ hR3).mono ?_; rintro e w4 ⟨rfl, hb4⟩; have hN4 := hN3.next hb4; clear hN3)
    | (refine build_deed _ rfl rfl Dd.none none 0 (by kernel_rfl) ?_)
    | (refine store_deed _ _ rfl rfl w.heap.size Dd.none Dd.none none none 0 0 _ rfl rfl (by assumption) ?_))
  have hB1 : Below w.heap.size w w1 := hB.trans (hb1.mono (by omega))
  have hB2 : Below w.heap.size w w2 := hB1.trans (below_of_grown hg2 (by omega) hB1.size)
  refine bodyPost_ret (res_deed2 Try.results18 rfl (DeedAt.set hN4)) rfl ⟨rfl, below_setRow (Below.then (Below.then hB2 hb3) hb4) (Nat.le_refl _) _⟩

/-- By a reader that is none. -/
theorem used_none (w : World) : Calls Try.prog 24 #[.agg (Dd.none.vals none 0)] w fun e w' => e = .returned (.int .i64 0) ∧ Below w.heap.size w w' := used_is Dd.none none 0 w
end Go.Proofs.Ytagibkaonmpihaa
namespace Go.Proofs.Ytagibkaonmpihaa
open Go.RowKit
set_option linter.unusedVariables false
set_option linter.unusedSimpArgs false

set_option maxRecDepth 100000 in
theorem dwrite_ok (b : Nat) (F : Nat → Prop) (s : List Nat × Nat) (d : Dd) (A : Option Addr) (c : Nat) (w : World) (h : d.Right) (hW : Writes w b F s) (hx : Lies w (· ≠ b) A d.bits) (hr : d.bits.length ≤ c) (hm : c ≤ maxLen) :
    Calls Try.prog 9 #[.pointer (some ⟨b, 0, none⟩), .agg (d.vals A c)] w fun e w' => e = .returned (.int .i64 0) ∧ Left w b F (wputs s d.parts) w' := by
  have hbl := hW.lt
  have hB : Below w.heap.size w (w.alloc (.cells (d.vals A c) 27)) := (Below.refl _ _).alloc (Nat.le_refl _) _
  have hD := DeedAt.new w d A c 27
  have hW0 := hW.below hB
  have hx0 := hx.grown (grown_below hB none) (by simp)
  have kr := fun w => right_ok d A c w h
  have kp := fun w hW hx => put_is b F s d A c w h hW hx hr hm
  clear hW hx h hr hm
  go_enter Try.func9, Try.ntmps9
  go_wp2_with (first
    | (refine load_deed _ rfl rfl _ d A c _ rfl (by assumption) ?_)
    | (go_at_call 13; refine (kr _).mono ?_; clear kr; rintro e w1 ⟨rfl, hb1⟩; have hD1 := hD.next hb1; have hW1 := hW0.below hb1; have hx1 := hx0.grown (grown_below hb1 none) (by simp); have hB1 := Below.then hB hb1)
    | (go_at_call 19; refine (kp _ hW1 hx1).mono ?_; clear kp; rintro e w2 ⟨rfl, hL⟩))
  go_ret
  exact ⟨rfl, Left.from (grown_below hB1 _) (fun k hk => .inl hk) hL⟩
set_option maxRecDepth 100000 in
theorem dwrite_no (a : Addr) (d : Dd) (A : Option Addr) (c : Nat) (w : World) (hf : d.Fits) (h : ¬ d.Right) :
    Calls Try.prog 9 #[.pointer (some a), .agg (d.vals A c)] w fun e w' => e = .returned (.int .i64 80) ∧ Below w.heap.size w w' := by
  have hB : Below w.heap.size w (w.alloc (.cells (d.vals A c) 27)) := (Below.refl _ _).alloc (Nat.le_refl _) _
  have hD := DeedAt.new w d A c 27
  have kr := fun w => right_no d A c w hf h
  clear hf h
  go_enter Try.func9, Try.ntmps9
  go_wp2_with (first
    | (refine load_deed _ rfl rfl _ d A c _ rfl (by assumption) ?_)
    | (go_at_call 13; refine (kr _).mono ?_; clear kr; rintro e w1 ⟨rfl, hb1⟩; have hB1 := Below.then hB hb1))
  go_ret
  exact ⟨rfl, hB1⟩
theorem dwrite_nil (d : Dd) (A : Option Addr) (c : Nat) (w : World) :
    Calls Try.prog 9 #[.pointer none, .agg (d.vals A c)] w fun e w' => e = .returned (.int .i64 1) ∧ Below w.heap.size w w' := by
  have hB : Below w.heap.size w (w.alloc (.cells (d.vals A c) 27)) := (Below.refl _ _).alloc (Nat.le_refl _) _
  go_enter Try.func9, Try.ntmps9
  go_wp2
  go_ret
  exact ⟨rfl, hB⟩

theorem wputs_bytes {d : Dd} (h : d.Right) (pre : List Nat) (hl : pre.length ≤ 130000) : wputs (pre, 0) d.parts = (pre ++ d.bytes, 0) :=
  wputs_ok d.parts pre (by have := (bytes_len h).2; unfold Dd.bytes at this; omega)

set_option maxRecDepth 100000 in
set_option maxHeartbeats 1000000 in
theorem dencode_ok (d : Dd) (A : Option Addr) (c : Nat) (w : World) (h : d.Right) (hx : Lies w (· < w.heap.size) A d.bits) (hr : d.bits.length ≤ c) (hm : c ≤ maxLen) :
    Calls Try.prog 8 #[.agg (d.vals A c)] w fun e w' => ∃ v, e = .returned (.tuple #[v, .int .i64 0]) ∧ w'.ownsRow w.heap.size 5 1 v d.bytes.length (u8s d.bytes) ∧ Below w.heap.size w w' := by
  have hz := run_zero
  have hD := (DeedAt.new w d A c 27).next ((Below.refl _ _).alloc (Nat.le_refl _) (.cells zeroWriter 37))
  have hB : Below w.heap.size w ((w.alloc (.cells (d.vals A c) 27)).alloc (.cells zeroWriter 37)) := ((Below.refl _ _).alloc (Nat.le_refl _) _).alloc (by simp) _
  have hnew := writer_new (w.alloc (.cells (d.vals A c) 27))
  have hs : (w.alloc (.cells (d.vals A c) 27)).heap.size = w.heap.size + 1 := by simp
  have hx1 : Lies ((w.alloc (.cells (d.vals A c) 27)).alloc (.cells zeroWriter 37)) (· ≠ w.heap.size + 1) A d.bits := (hx.grown (grown_below hB none) (by simp)).imp (fun k _ h => by omega)
  rw [hs] at hnew
  have kw := dwrite_ok _ _ _ d A c _ h hnew hx1 hr hm
  have hb := wputs_bytes h [] (by simp)
  rw [List.nil_append] at hb
  rw [hb] at kw
  clear h hb hnew hs hx hx1 hr hm
  go_enter Try.func8, Try.ntmps8
  go_wp2_with (first
    | (refine load_deed _ rfl rfl _ d A c _ rfl (by assumption) ?_)
    | (go_at_call 9; refine kw.mono ?_; clear kw; rintro e w1 ⟨rfl, ⟨F', hW1, hF1⟩, hg1⟩; have hB1 := hB.trans (below_of_grown hg1 (Nat.le_succ _) (by simp; omega)))
    | (go_at_call 10; refine (out_ok _ _ _ _ hW1).mono ?_; rintro e w2 ⟨v, rfl, hown, hb2⟩))
  refine bodyPost_ret (v := .tuple #[v, .int .i64 0]) (by simp [results, Try.results8, go_sem]) rfl ⟨v, rfl, ?_, Below.then hB1 hb2⟩
  exact ⟨hown.1, hown.2.imp id fun ⟨g, cap, cur, h1, h2, h3⟩ => ⟨g, cap, cur, h1, Nat.le_trans hB1.size h2, h3⟩⟩
set_option maxRecDepth 100000 in
theorem dencode_no (d : Dd) (A : Option Addr) (c : Nat) (w : World) (hf : d.Fits) (h : ¬ d.Right) :
    Calls Try.prog 8 #[.agg (d.vals A c)] w fun e w' => e = .returned (.tuple #[.slice none 0 0, .int .i64 80]) ∧ Below w.heap.size w w' := by
  have hz := run_zero
  have hD := (DeedAt.new w d A c 27).next ((Below.refl _ _).alloc (Nat.le_refl _) (.cells zeroWriter 37))
  have hB : Below w.heap.size w ((w.alloc (.cells (d.vals A c) 27)).alloc (.cells zeroWriter 37)) := ((Below.refl _ _).alloc (Nat.le_refl _) _).alloc (by simp) _
  have kw := fun a w => dwrite_no a d A c w hf h
  clear h hf
  go_enter Try.func8, Try.ntmps8
  go_wp2_with (first
    | (refine load_deed _ rfl rfl _ d A c _ rfl (by assumption) ?_)
    | (go_at_call 9; refine (kw _ _).mono ?_; clear kw; rintro e w1 ⟨rfl, hb1⟩; have hB1 := Below.then hB hb1))
  refine bodyPost_ret (v := .tuple #[.slice none 0 0, .int .i64 80]) (by simp [results, Try.results8, go_sem]) rfl ⟨rfl, hB1⟩
end Go.Proofs.Ytagibkaonmpihaa
namespace Go.Proofs.Ytagibkaonmpihaa
open Go.RowKit
set_option linter.unusedVariables false
set_option linter.unusedSimpArgs false

def egSend : Dd := ⟨1, 0, 0, 1, 5, 0, [], 0, Par.none, 0, false⟩
def egLeave : Dd := ⟨4, 1, 3, 0, 0, 0, [], 0, Par.none, 0, false⟩
theorem egSend_right : egSend.Right := .send 0 1 5 (by decide) (by decide) (by decide) (by decide)
theorem egLeave_right : egLeave.Right := .leave 1 3 (by decide) (by decide)
theorem egSend_bytes : egSend.bytes = [1, 0, 1, 5] := by
  have e : egSend.parts = [form 1, form 0, form 1, form 5] := rfl
  unfold Dd.bytes
  rw [e, form_small (by decide), form_small (by decide), form_small (by decide)]
  rfl
theorem egLeave_bytes : egLeave.bytes = [4, 1, 3] := by
  have e : egLeave.parts = [form 4, form 1, form 3] := rfl
  unfold Dd.bytes
  rw [e, form_small (by decide), form_small (by decide), form_small (by decide)]
  rfl
theorem egLeave_read : DRaw [4, 1, 3] (0, 0) egLeave 0 (3, 0) := by
  have h := draw_form egLeave_right (bs := [4, 1, 3]) (rest := []) (pos := 0) (by decide) (by rw [egLeave_bytes]; rfl)
  rw [egLeave_bytes] at h
  exact h

set_option maxRecDepth 100000 in
set_option maxHeartbeats 2000000 in
theorem deed_awake (w : World) : Calls Try.prog 7 #[] w fun e w' => e = .returned (.bool true) ∧ Below w.heap.size w w' := by
  have hz := zero_deed
  have k1 := dencode_ok egSend none 0 w egSend_right (Lies.nil _ _ _) (Nat.le_refl _) (Nat.zero_le _)
  rw [egSend_bytes] at k1
  go_enter Try.func7, Try.ntmps7
  go_upto_region 3 with (first
    | (refine build_deed _ rfl rfl egSend none 0 (by kernel_rfl) ?_)
    | (go_at_call 8; refine k1.mono ?_; clear k1; rintro e w1 ⟨v, rfl, hown, hb1⟩; obtain ⟨A1, c1, rfl, -, -, -, hL1⟩ := Lies.own hown; clear hown; have k2 := ddecode_ok [4, 1, 3] _ _ 3 egLeave (3, 0) _ (lies_new w1 [4, 1, 3]) (by decide) (by decide) (Lib.hid egLeave_read) (Lib.hid rfl) (Lib.hid rfl))
    | (go_at_call 18; refine k2.mono ?_; clear k2; rintro e w2 ⟨B, c2, rfl, -, -, -, hb2⟩)
    | (refine store_deed _ _ rfl rfl w2.heap.size egLeave Dd.none B none c2 0 _ rfl rfl (DeedAt.new w2 Dd.none none 0 _) ?_))
  generalize hW3 : World.setRow _ _ _ = w3
  have hD3 : DeedAt w3 w2.heap.size egLeave B c2 27 := by rw [← hW3]; exact DeedAt.set (DeedAt.new w2 Dd.none none 0 _)
  have hb3 : Below w2.heap.size w2 w3 := by rw [← hW3]; exact below_setRow ((Below.refl _ _).alloc (Nat.le_refl _) _) (Nat.le_refl _) _
  have hB1 : Below w1.heap.size w1 (w1.alloc (.cells (u8s [4, 1, 3]).toArray 5)) := (Below.refl _ _).alloc (Nat.le_refl _) _
  have hB3 : Below w1.heap.size w1 w3 := Below.then (Below.then hB1 hb2) hb3
  have hb4 : Below w3.heap.size w3 (w3.alloc (.cells (u8s [1, 0, 1, 5]).toArray 5)) := (Below.refl _ _).alloc (Nat.le_refl _) _
  have hL4 := (hL1.grown (grown_below hB3 none) (by simp)).grown (grown_below hb4 none) (by simp)
  have k3 := same_true [1, 0, 1, 5] _ _ A1 _ c1 4 _ hL4 (lies_new w3 [1, 0, 1, 5]) (by decide)
  have hD4 := hD3.next hb4
  clear hW3 hL4 hL1
  go_wp2_with (go_at_call 14; refine k3.mono ?_; clear k3; rintro e w5 ⟨rfl, hb5⟩; obtain ⟨c0, c1, c2, c3, c4, c5, c6, c7, c32, c33⟩ := (hD4.next hb5).cells; simp only [egLeave] at c0 c2)
  go_ret
  exact ⟨rfl, Below.then (Below.then (Below.then hb1 hB3) hb4) hb5⟩
end Go.Proofs.Ytagibkaonmpihaa
