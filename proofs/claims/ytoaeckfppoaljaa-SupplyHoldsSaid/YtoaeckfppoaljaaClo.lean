/- Layer 21 (supply): copies of lists, by contracts: slices.Clone at each type that a state holds. -/
import Derived.Test.YtoaeckfppoaljaaCore
import Derived.Test.YtoaeckfppoaljaaProg
import Derived.Laws.AppendOwnNone
import Derived.Lib.SliceRun
namespace Go.Proofs.Ytoaeckfppoaljaa
open Go.RowKit
set_option linter.unusedVariables false
set_option linter.unusedSimpArgs false

theorem cinfo_nat : (Try.prog.info? 22).map (fun i => (i.zero, i.size, i.bytes)) = some (some (.int .u64 0), 1, 8) := by kernel_rfl
set_option maxRecDepth 100000 in
set_option maxHeartbeats 1000000 in
/-- A copy, in memory of its own. -/
theorem clones_nat (xs : List Value) (n B : Nat) (A : Option Addr) (c : Nat) (w : World) (hx : Row w B A xs) (hn : xs.length = n * 1) (h1 : ∀ v ∈ xs, v.oneCell' = true) (hl : n * 8 ≤ 140737488355328) :
    Calls Try.prog 38 #[.slice A n c] w fun e w' => ∃ v, e = .returned v ∧ w'.ownsRow w.heap.size 22 1 v n xs ∧ Below w.heap.size w w' := by
  have q22 : ∀ (w : World) (a : Option Addr) (n c n' c' : Nat), (binOp .eql 25 (.slice a n c) (.slice none n' c')).run Try.prog w = .ok (.bool a.isNone) w := fun w a n c n' c' => Lib.run_eql_slice_nil w _ _ a n c n' c' Try.underlying25
  rcases A with _ | a
  · have hxs : xs = [] := by
      cases xs with
      | nil => rfl
      | cons x r => obtain ⟨a, ha, _⟩ := hx 0 x rfl; cases ha
    subst hxs
    have hn0 : n = 0 := by simp at hn; omega
    subst hn0
    go_enter Try.func38, Try.ntmps38
    go_wp2
    refine bodyPost_ret (v := .slice none 0 0) (by simp [results, Try.results38, go_sem]) rfl ⟨_, rfl, World.ownsRow_nil _ _ _ _, Below.refl _ _⟩
  · obtain ⟨i0, hi0, hz0, hz1, hz2⟩ := info_parts cinfo_nat
    have hsrc2 : ∀ o j u, xs[j]? = some u → (w.alloc o).cell? (a.add j) = some u := fun o j u hj => by
      obtain ⟨a', ha', _, this⟩ := hx j u hj
      cases ha'
      rw [World.cell?_alloc_lt _ _ _ (World.block_lt_of_cell? w _ this)]; exact this
    have HS := Lib.hid hsrc2
    have HN := Lib.hid hn
    have H1 := Lib.hid h1
    clear hsrc2 hn h1
    go_enter Try.func38, Try.ntmps38
    go_wp2_with (at_builtin; refine wpList_append_own _ rfl _ _ 25 rfl w.heap.size 22 i0 _ 1 8 Try.underlying25 hi0 hz0 hz1 hz2 rfl (by decide) _ _ _ rfl (World.ownsRow_made w #[] 0 (Nat.le_refl _) (Nat.zero_le _) rfl) a n c xs rfl ?c1 ?c2 ?c3 ?c4 ?c5 ?c6 ?_)
    case c1 => exact HN.out
    case c2 => exact HS.out _
    case c3 => exact H1.out
    case c4 => simp only [maxLen]; omega
    try (case c5 => omega)
    try (case c6 => simp)
    intro v' w3 hown hgrow _
    have hb' : Below w.heap.size w w3 := ((Below.refl _ w).alloc (Nat.le_refl _) _).grown hgrow (by simp) (by intro k hk; simp [Value.ownBlock] at hk; omega)
    clear hgrow
    go_wp2
    refine bodyPost_ret (v := v') (by simp [results, Try.results38, go_sem]) rfl ⟨_, rfl, by simpa using hown, hb'⟩

theorem cinfo_mem : (Try.prog.info? 60).map (fun i => (i.zero, i.size, i.bytes)) = some (some (.agg #[.int .u64 0, .int .u64 0, .int .u64 0, .int .i64 0, .int .i64 0, .int .i64 0]), 6, 48) := by kernel_rfl
set_option maxRecDepth 100000 in
set_option maxHeartbeats 1000000 in
/-- A copy, in memory of its own. -/
theorem clones_mem (xs : List Value) (n B : Nat) (A : Option Addr) (c : Nat) (w : World) (hx : Row w B A xs) (hn : xs.length = n * 6) (h1 : ∀ v ∈ xs, v.oneCell' = true) (hl : n * 48 ≤ 140737488355328) :
    Calls Try.prog 39 #[.slice A n c] w fun e w' => ∃ v, e = .returned v ∧ w'.ownsRow w.heap.size 60 6 v n xs ∧ Below w.heap.size w w' := by
  have q22 : ∀ (w : World) (a : Option Addr) (n c n' c' : Nat), (binOp .eql 26 (.slice a n c) (.slice none n' c')).run Try.prog w = .ok (.bool a.isNone) w := fun w a n c n' c' => Lib.run_eql_slice_nil w _ _ a n c n' c' Try.underlying26
  rcases A with _ | a
  · have hxs : xs = [] := by
      cases xs with
      | nil => rfl
      | cons x r => obtain ⟨a, ha, _⟩ := hx 0 x rfl; cases ha
    subst hxs
    have hn0 : n = 0 := by simp at hn; omega
    subst hn0
    go_enter Try.func39, Try.ntmps39
    go_wp2
    refine bodyPost_ret (v := .slice none 0 0) (by simp [results, Try.results39, go_sem]) rfl ⟨_, rfl, World.ownsRow_nil _ _ _ _, Below.refl _ _⟩
  · obtain ⟨i0, hi0, hz0, hz1, hz2⟩ := info_parts cinfo_mem
    have hsrc2 : ∀ o j u, xs[j]? = some u → (w.alloc o).cell? (a.add j) = some u := fun o j u hj => by
      obtain ⟨a', ha', _, this⟩ := hx j u hj
      cases ha'
      rw [World.cell?_alloc_lt _ _ _ (World.block_lt_of_cell? w _ this)]; exact this
    have HS := Lib.hid hsrc2
    have HN := Lib.hid hn
    have H1 := Lib.hid h1
    clear hsrc2 hn h1
    go_enter Try.func39, Try.ntmps39
    go_wp2_with (at_builtin; refine wpList_append_own _ rfl _ _ 26 rfl w.heap.size 60 i0 _ 6 48 Try.underlying26 hi0 hz0 hz1 hz2 rfl (by decide) _ _ _ rfl (World.ownsRow_made w #[] 0 (Nat.le_refl _) (Nat.zero_le _) rfl) a n c xs rfl ?c1 ?c2 ?c3 ?c4 ?c5 ?c6 ?_)
    case c1 => exact HN.out
    case c2 => exact HS.out _
    case c3 => exact H1.out
    case c4 => simp only [maxLen]; omega
    try (case c5 => omega)
    try (case c6 => simp)
    intro v' w3 hown hgrow _
    have hb' : Below w.heap.size w w3 := ((Below.refl _ w).alloc (Nat.le_refl _) _).grown hgrow (by simp) (by intro k hk; simp [Value.ownBlock] at hk; omega)
    clear hgrow
    go_wp2
    refine bodyPost_ret (v := v') (by simp [results, Try.results39, go_sem]) rfl ⟨_, rfl, by simpa using hown, hb'⟩

theorem cinfo_int : (Try.prog.info? 3).map (fun i => (i.zero, i.size, i.bytes)) = some (some (.int .i64 0), 1, 8) := by kernel_rfl
set_option maxRecDepth 100000 in
set_option maxHeartbeats 1000000 in
/-- A copy, in memory of its own. -/
theorem clones_int (xs : List Value) (n B : Nat) (A : Option Addr) (c : Nat) (w : World) (hx : Row w B A xs) (hn : xs.length = n * 1) (h1 : ∀ v ∈ xs, v.oneCell' = true) (hl : n * 8 ≤ 140737488355328) :
    Calls Try.prog 40 #[.slice A n c] w fun e w' => ∃ v, e = .returned v ∧ w'.ownsRow w.heap.size 3 1 v n xs ∧ Below w.heap.size w w' := by
  have q22 : ∀ (w : World) (a : Option Addr) (n c n' c' : Nat), (binOp .eql 27 (.slice a n c) (.slice none n' c')).run Try.prog w = .ok (.bool a.isNone) w := fun w a n c n' c' => Lib.run_eql_slice_nil w _ _ a n c n' c' Try.underlying27
  rcases A with _ | a
  · have hxs : xs = [] := by
      cases xs with
      | nil => rfl
      | cons x r => obtain ⟨a, ha, _⟩ := hx 0 x rfl; cases ha
    subst hxs
    have hn0 : n = 0 := by simp at hn; omega
    subst hn0
    go_enter Try.func40, Try.ntmps40
    go_wp2
    refine bodyPost_ret (v := .slice none 0 0) (by simp [results, Try.results40, go_sem]) rfl ⟨_, rfl, World.ownsRow_nil _ _ _ _, Below.refl _ _⟩
  · obtain ⟨i0, hi0, hz0, hz1, hz2⟩ := info_parts cinfo_int
    have hsrc2 : ∀ o j u, xs[j]? = some u → (w.alloc o).cell? (a.add j) = some u := fun o j u hj => by
      obtain ⟨a', ha', _, this⟩ := hx j u hj
      cases ha'
      rw [World.cell?_alloc_lt _ _ _ (World.block_lt_of_cell? w _ this)]; exact this
    have HS := Lib.hid hsrc2
    have HN := Lib.hid hn
    have H1 := Lib.hid h1
    clear hsrc2 hn h1
    go_enter Try.func40, Try.ntmps40
    go_wp2_with (at_builtin; refine wpList_append_own _ rfl _ _ 27 rfl w.heap.size 3 i0 _ 1 8 Try.underlying27 hi0 hz0 hz1 hz2 rfl (by decide) _ _ _ rfl (World.ownsRow_made w #[] 0 (Nat.le_refl _) (Nat.zero_le _) rfl) a n c xs rfl ?c1 ?c2 ?c3 ?c4 ?c5 ?c6 ?_)
    case c1 => exact HN.out
    case c2 => exact HS.out _
    case c3 => exact H1.out
    case c4 => simp only [maxLen]; omega
    try (case c5 => omega)
    try (case c6 => simp)
    intro v' w3 hown hgrow _
    have hb' : Below w.heap.size w w3 := ((Below.refl _ w).alloc (Nat.le_refl _) _).grown hgrow (by simp) (by intro k hk; simp [Value.ownBlock] at hk; omega)
    clear hgrow
    go_wp2
    refine bodyPost_ret (v := v') (by simp [results, Try.results40, go_sem]) rfl ⟨_, rfl, by simpa using hown, hb'⟩

theorem cinfo_dep : (Try.prog.info? 62).map (fun i => (i.zero, i.size, i.bytes)) = some (some (.agg #[.int .i64 0, .int .i64 0, .int .u64 0, .bool false]), 4, 32) := by kernel_rfl
set_option maxRecDepth 100000 in
set_option maxHeartbeats 1000000 in
/-- A copy, in memory of its own. -/
theorem clones_dep (xs : List Value) (n B : Nat) (A : Option Addr) (c : Nat) (w : World) (hx : Row w B A xs) (hn : xs.length = n * 4) (h1 : ∀ v ∈ xs, v.oneCell' = true) (hl : n * 32 ≤ 140737488355328) :
    Calls Try.prog 41 #[.slice A n c] w fun e w' => ∃ v, e = .returned v ∧ w'.ownsRow w.heap.size 62 4 v n xs ∧ Below w.heap.size w w' := by
  have q22 : ∀ (w : World) (a : Option Addr) (n c n' c' : Nat), (binOp .eql 28 (.slice a n c) (.slice none n' c')).run Try.prog w = .ok (.bool a.isNone) w := fun w a n c n' c' => Lib.run_eql_slice_nil w _ _ a n c n' c' Try.underlying28
  rcases A with _ | a
  · have hxs : xs = [] := by
      cases xs with
      | nil => rfl
      | cons x r => obtain ⟨a, ha, _⟩ := hx 0 x rfl; cases ha
    subst hxs
    have hn0 : n = 0 := by simp at hn; omega
    subst hn0
    go_enter Try.func41, Try.ntmps41
    go_wp2
    refine bodyPost_ret (v := .slice none 0 0) (by simp [results, Try.results41, go_sem]) rfl ⟨_, rfl, World.ownsRow_nil _ _ _ _, Below.refl _ _⟩
  · obtain ⟨i0, hi0, hz0, hz1, hz2⟩ := info_parts cinfo_dep
    have hsrc2 : ∀ o j u, xs[j]? = some u → (w.alloc o).cell? (a.add j) = some u := fun o j u hj => by
      obtain ⟨a', ha', _, this⟩ := hx j u hj
      cases ha'
      rw [World.cell?_alloc_lt _ _ _ (World.block_lt_of_cell? w _ this)]; exact this
    have HS := Lib.hid hsrc2
    have HN := Lib.hid hn
    have H1 := Lib.hid h1
    clear hsrc2 hn h1
    go_enter Try.func41, Try.ntmps41
    go_wp2_with (at_builtin; refine wpList_append_own _ rfl _ _ 28 rfl w.heap.size 62 i0 _ 4 32 Try.underlying28 hi0 hz0 hz1 hz2 rfl (by decide) _ _ _ rfl (World.ownsRow_made w #[] 0 (Nat.le_refl _) (Nat.zero_le _) rfl) a n c xs rfl ?c1 ?c2 ?c3 ?c4 ?c5 ?c6 ?_)
    case c1 => exact HN.out
    case c2 => exact HS.out _
    case c3 => exact H1.out
    case c4 => simp only [maxLen]; omega
    try (case c5 => omega)
    try (case c6 => simp)
    intro v' w3 hown hgrow _
    have hb' : Below w.heap.size w w3 := ((Below.refl _ w).alloc (Nat.le_refl _) _).grown hgrow (by simp) (by intro k hk; simp [Value.ownBlock] at hk; omega)
    clear hgrow
    go_wp2
    refine bodyPost_ret (v := v') (by simp [results, Try.results41, go_sem]) rfl ⟨_, rfl, by simpa using hown, hb'⟩

theorem cinfo_due : (Try.prog.info? 64).map (fun i => (i.zero, i.size, i.bytes)) = some (some (.agg #[.int .i64 0, .int .i64 0, .int .u64 0]), 3, 24) := by kernel_rfl
set_option maxRecDepth 100000 in
set_option maxHeartbeats 1000000 in
/-- A copy, in memory of its own. -/
theorem clones_due (xs : List Value) (n B : Nat) (A : Option Addr) (c : Nat) (w : World) (hx : Row w B A xs) (hn : xs.length = n * 3) (h1 : ∀ v ∈ xs, v.oneCell' = true) (hl : n * 24 ≤ 140737488355328) :
    Calls Try.prog 42 #[.slice A n c] w fun e w' => ∃ v, e = .returned v ∧ w'.ownsRow w.heap.size 64 3 v n xs ∧ Below w.heap.size w w' := by
  have q22 : ∀ (w : World) (a : Option Addr) (n c n' c' : Nat), (binOp .eql 29 (.slice a n c) (.slice none n' c')).run Try.prog w = .ok (.bool a.isNone) w := fun w a n c n' c' => Lib.run_eql_slice_nil w _ _ a n c n' c' Try.underlying29
  rcases A with _ | a
  · have hxs : xs = [] := by
      cases xs with
      | nil => rfl
      | cons x r => obtain ⟨a, ha, _⟩ := hx 0 x rfl; cases ha
    subst hxs
    have hn0 : n = 0 := by simp at hn; omega
    subst hn0
    go_enter Try.func42, Try.ntmps42
    go_wp2
    refine bodyPost_ret (v := .slice none 0 0) (by simp [results, Try.results42, go_sem]) rfl ⟨_, rfl, World.ownsRow_nil _ _ _ _, Below.refl _ _⟩
  · obtain ⟨i0, hi0, hz0, hz1, hz2⟩ := info_parts cinfo_due
    have hsrc2 : ∀ o j u, xs[j]? = some u → (w.alloc o).cell? (a.add j) = some u := fun o j u hj => by
      obtain ⟨a', ha', _, this⟩ := hx j u hj
      cases ha'
      rw [World.cell?_alloc_lt _ _ _ (World.block_lt_of_cell? w _ this)]; exact this
    have HS := Lib.hid hsrc2
    have HN := Lib.hid hn
    have H1 := Lib.hid h1
    clear hsrc2 hn h1
    go_enter Try.func42, Try.ntmps42
    go_wp2_with (at_builtin; refine wpList_append_own _ rfl _ _ 29 rfl w.heap.size 64 i0 _ 3 24 Try.underlying29 hi0 hz0 hz1 hz2 rfl (by decide) _ _ _ rfl (World.ownsRow_made w #[] 0 (Nat.le_refl _) (Nat.zero_le _) rfl) a n c xs rfl ?c1 ?c2 ?c3 ?c4 ?c5 ?c6 ?_)
    case c1 => exact HN.out
    case c2 => exact HS.out _
    case c3 => exact H1.out
    case c4 => simp only [maxLen]; omega
    try (case c5 => omega)
    try (case c6 => simp)
    intro v' w3 hown hgrow _
    have hb' : Below w.heap.size w w3 := ((Below.refl _ w).alloc (Nat.le_refl _) _).grown hgrow (by simp) (by intro k hk; simp [Value.ownBlock] at hk; omega)
    clear hgrow
    go_wp2
    refine bodyPost_ret (v := v') (by simp [results, Try.results42, go_sem]) rfl ⟨_, rfl, by simpa using hown, hb'⟩

theorem cinfo_mot : (Try.prog.info? 90).map (fun i => (i.zero, i.size, i.bytes)) = some (some (.agg #[.int .i64 0, .int .i64 0, .int .u64 0, .int .u64 0, .int .u64 0, .int .u64 0, .int .u64 0, .int .u64 0, .int .u64 0, .int .u64 0, .int .u64 0, .int .u64 0, .int .u64 0, .int .u64 0, .int .u64 0, .int .u64 0, .int .i64 0, .int .i64 0, .int .i64 0, .int .i64 0, .int .i64 0, .int .i64 0, .int .i64 0, .int .i64 0, .int .i64 0, .int .i64 0, .int .i64 0, .int .u64 0, .int .i64 0, .int .i64 0, .int .i64 0, .slice none 0 0, .slice none 0 0]), 33, 296) := by kernel_rfl
set_option maxRecDepth 100000 in
set_option maxHeartbeats 1000000 in
/-- A copy, in memory of its own. -/
theorem clones_mot (xs : List Value) (n B : Nat) (A : Option Addr) (c : Nat) (w : World) (hx : Row w B A xs) (hn : xs.length = n * 33) (h1 : ∀ v ∈ xs, v.oneCell' = true) (hl : n * 296 ≤ 140737488355328) :
    Calls Try.prog 43 #[.slice A n c] w fun e w' => ∃ v, e = .returned v ∧ w'.ownsRow w.heap.size 90 33 v n xs ∧ Below w.heap.size w w' := by
  have q22 : ∀ (w : World) (a : Option Addr) (n c n' c' : Nat), (binOp .eql 30 (.slice a n c) (.slice none n' c')).run Try.prog w = .ok (.bool a.isNone) w := fun w a n c n' c' => Lib.run_eql_slice_nil w _ _ a n c n' c' Try.underlying30
  rcases A with _ | a
  · have hxs : xs = [] := by
      cases xs with
      | nil => rfl
      | cons x r => obtain ⟨a, ha, _⟩ := hx 0 x rfl; cases ha
    subst hxs
    have hn0 : n = 0 := by simp at hn; omega
    subst hn0
    go_enter Try.func43, Try.ntmps43
    go_wp2
    refine bodyPost_ret (v := .slice none 0 0) (by simp [results, Try.results43, go_sem]) rfl ⟨_, rfl, World.ownsRow_nil _ _ _ _, Below.refl _ _⟩
  · obtain ⟨i0, hi0, hz0, hz1, hz2⟩ := info_parts cinfo_mot
    have hsrc2 : ∀ o j u, xs[j]? = some u → (w.alloc o).cell? (a.add j) = some u := fun o j u hj => by
      obtain ⟨a', ha', _, this⟩ := hx j u hj
      cases ha'
      rw [World.cell?_alloc_lt _ _ _ (World.block_lt_of_cell? w _ this)]; exact this
    have HS := Lib.hid hsrc2
    have HN := Lib.hid hn
    have H1 := Lib.hid h1
    clear hsrc2 hn h1
    go_enter Try.func43, Try.ntmps43
    go_wp2_with (at_builtin; refine wpList_append_own _ rfl _ _ 30 rfl w.heap.size 90 i0 _ 33 296 Try.underlying30 hi0 hz0 hz1 hz2 rfl (by decide) _ _ _ rfl (World.ownsRow_made w #[] 0 (Nat.le_refl _) (Nat.zero_le _) rfl) a n c xs rfl ?c1 ?c2 ?c3 ?c4 ?c5 ?c6 ?_)
    case c1 => exact HN.out
    case c2 => exact HS.out _
    case c3 => exact H1.out
    case c4 => simp only [maxLen]; omega
    try (case c5 => omega)
    try (case c6 => simp)
    intro v' w3 hown hgrow _
    have hb' : Below w.heap.size w w3 := ((Below.refl _ w).alloc (Nat.le_refl _) _).grown hgrow (by simp) (by intro k hk; simp [Value.ownBlock] at hk; omega)
    clear hgrow
    go_wp2
    refine bodyPost_ret (v := v') (by simp [results, Try.results43, go_sem]) rfl ⟨_, rfl, by simpa using hown, hb'⟩

theorem cinfo_byte : (Try.prog.info? 5).map (fun i => (i.zero, i.size, i.bytes)) = some (some (.int .u8 0), 1, 1) := by kernel_rfl
set_option maxRecDepth 100000 in
set_option maxHeartbeats 1000000 in
/-- A copy, in memory of its own. -/
theorem clones_byte (xs : List Value) (n B : Nat) (A : Option Addr) (c : Nat) (w : World) (hx : Row w B A xs) (hn : xs.length = n * 1) (h1 : ∀ v ∈ xs, v.oneCell' = true) (hl : n * 1 ≤ 140737488355328) :
    Calls Try.prog 44 #[.slice A n c] w fun e w' => ∃ v, e = .returned v ∧ w'.ownsRow w.heap.size 5 1 v n xs ∧ Below w.heap.size w w' := by
  have q22 : ∀ (w : World) (a : Option Addr) (n c n' c' : Nat), (binOp .eql 31 (.slice a n c) (.slice none n' c')).run Try.prog w = .ok (.bool a.isNone) w := fun w a n c n' c' => Lib.run_eql_slice_nil w _ _ a n c n' c' Try.underlying31
  rcases A with _ | a
  · have hxs : xs = [] := by
      cases xs with
      | nil => rfl
      | cons x r => obtain ⟨a, ha, _⟩ := hx 0 x rfl; cases ha
    subst hxs
    have hn0 : n = 0 := by simp at hn; omega
    subst hn0
    go_enter Try.func44, Try.ntmps44
    go_wp2
    refine bodyPost_ret (v := .slice none 0 0) (by simp [results, Try.results44, go_sem]) rfl ⟨_, rfl, World.ownsRow_nil _ _ _ _, Below.refl _ _⟩
  · obtain ⟨i0, hi0, hz0, hz1, hz2⟩ := info_parts cinfo_byte
    have hsrc2 : ∀ o j u, xs[j]? = some u → (w.alloc o).cell? (a.add j) = some u := fun o j u hj => by
      obtain ⟨a', ha', _, this⟩ := hx j u hj
      cases ha'
      rw [World.cell?_alloc_lt _ _ _ (World.block_lt_of_cell? w _ this)]; exact this
    have HS := Lib.hid hsrc2
    have HN := Lib.hid hn
    have H1 := Lib.hid h1
    clear hsrc2 hn h1
    go_enter Try.func44, Try.ntmps44
    go_wp2_with (at_builtin; refine wpList_append_own _ rfl _ _ 31 rfl w.heap.size 5 i0 _ 1 1 Try.underlying31 hi0 hz0 hz1 hz2 rfl (by decide) _ _ _ rfl (World.ownsRow_made w #[] 0 (Nat.le_refl _) (Nat.zero_le _) rfl) a n c xs rfl ?c1 ?c2 ?c3 ?c4 ?c5 ?c6 ?_)
    case c1 => exact HN.out
    case c2 => exact HS.out _
    case c3 => exact H1.out
    case c4 => simp only [maxLen]; omega
    try (case c5 => omega)
    try (case c6 => simp)
    intro v' w3 hown hgrow _
    have hb' : Below w.heap.size w w3 := ((Below.refl _ w).alloc (Nat.le_refl _) _).grown hgrow (by simp) (by intro k hk; simp [Value.ownBlock] at hk; omega)
    clear hgrow
    go_wp2
    refine bodyPost_ret (v := v') (by simp [results, Try.results44, go_sem]) rfl ⟨_, rfl, by simpa using hown, hb'⟩

theorem cinfo_bytes : (Try.prog.info? 31).map (fun i => (i.zero, i.size, i.bytes)) = some (some (.slice none 0 0), 1, 24) := by kernel_rfl
set_option maxRecDepth 100000 in
set_option maxHeartbeats 1000000 in
/-- A copy, in memory of its own. -/
theorem clones_bytes (xs : List Value) (n B : Nat) (A : Option Addr) (c : Nat) (w : World) (hx : Row w B A xs) (hn : xs.length = n * 1) (h1 : ∀ v ∈ xs, v.oneCell' = true) (hl : n * 24 ≤ 140737488355328) :
    Calls Try.prog 45 #[.slice A n c] w fun e w' => ∃ v, e = .returned v ∧ w'.ownsRow w.heap.size 31 1 v n xs ∧ Below w.heap.size w w' := by
  have q22 : ∀ (w : World) (a : Option Addr) (n c n' c' : Nat), (binOp .eql 32 (.slice a n c) (.slice none n' c')).run Try.prog w = .ok (.bool a.isNone) w := fun w a n c n' c' => Lib.run_eql_slice_nil w _ _ a n c n' c' Try.underlying32
  rcases A with _ | a
  · have hxs : xs = [] := by
      cases xs with
      | nil => rfl
      | cons x r => obtain ⟨a, ha, _⟩ := hx 0 x rfl; cases ha
    subst hxs
    have hn0 : n = 0 := by simp at hn; omega
    subst hn0
    go_enter Try.func45, Try.ntmps45
    go_wp2
    refine bodyPost_ret (v := .slice none 0 0) (by simp [results, Try.results45, go_sem]) rfl ⟨_, rfl, World.ownsRow_nil _ _ _ _, Below.refl _ _⟩
  · obtain ⟨i0, hi0, hz0, hz1, hz2⟩ := info_parts cinfo_bytes
    have hsrc2 : ∀ o j u, xs[j]? = some u → (w.alloc o).cell? (a.add j) = some u := fun o j u hj => by
      obtain ⟨a', ha', _, this⟩ := hx j u hj
      cases ha'
      rw [World.cell?_alloc_lt _ _ _ (World.block_lt_of_cell? w _ this)]; exact this
    have HS := Lib.hid hsrc2
    have HN := Lib.hid hn
    have H1 := Lib.hid h1
    clear hsrc2 hn h1
    go_enter Try.func45, Try.ntmps45
    go_wp2_with (at_builtin; refine wpList_append_own _ rfl _ _ 32 rfl w.heap.size 31 i0 _ 1 24 Try.underlying32 hi0 hz0 hz1 hz2 rfl (by decide) _ _ _ rfl (World.ownsRow_made w #[] 0 (Nat.le_refl _) (Nat.zero_le _) rfl) a n c xs rfl ?c1 ?c2 ?c3 ?c4 ?c5 ?c6 ?_)
    case c1 => exact HN.out
    case c2 => exact HS.out _
    case c3 => exact H1.out
    case c4 => simp only [maxLen]; omega
    try (case c5 => omega)
    try (case c6 => simp)
    intro v' w3 hown hgrow _
    have hb' : Below w.heap.size w w3 := ((Below.refl _ w).alloc (Nat.le_refl _) _).grown hgrow (by simp) (by intro k hk; simp [Value.ownBlock] at hk; omega)
    clear hgrow
    go_wp2
    refine bodyPost_ret (v := v') (by simp [results, Try.results45, go_sem]) rfl ⟨_, rfl, by simpa using hown, hb'⟩
end Go.Proofs.Ytoaeckfppoaljaa
