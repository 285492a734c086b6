/-
  Package low: what is asked; clones; the binary search.
-/
import Derived.Test.YtgonfdedapnlnaaLowA
namespace Go.Proofs.Ytgonfdedapnlnaa.lo
open Go.RowKit aid mem
attribute [local go_sem ↓] Go.wp_at_zero Go.wp_at_succ
set_option linter.unusedVariables false

theorem ret_ii {a b : Int} (h : a = b) : Ending.returned (.int .i64 a) = .returned (.int .i64 b) := by rw [h]
theorem new_bad {win : Int} {w : World} (h : ¬ (1 ≤ win ∧ win ≤ 4611686018427387904)) : Calls Try.prog 7 #[.int .i64 win] w
    fun x w' => x = .returned (.tuple #[.pointer none, .int .i64 2]) ∧ w = w' := by
  go_enter Try.func7, Try.ntmps7
  by_cases h1 : win < 1
  · go_wp2
    go_ret2
    exact ⟨rfl, rfl⟩
  · have h2 : 4611686018427387904 < win := by omega
    go_wp2
    go_ret2
    exact ⟨rfl, rfl⟩
theorem new_ok {win : Int} {w : World} (h : 1 ≤ win ∧ win ≤ 4611686018427387904) : Calls Try.prog 7 #[.int .i64 win] w
    fun x w' => x = .returned (.tuple #[.pointer (some ⟨w.heap.size, 0, none⟩), .int .i64 0]) ∧ LwAt w' w.heap.size win 0 none 0 0 ∧ Below w.heap.size w w' := by
  obtain ⟨h1, h2⟩ := h
  go_enter Try.func7, Try.ntmps7
  go_wp2
  go_ret2
  exact ⟨rfl, heap_alloc_new w _, (Below.refl _ _).alloc (Nat.le_refl _) _⟩
theorem len_any {w : World} {B : Nat} {win last : Int} {a : Option Addr} {n cap : Nat} (h : LwAt w B win last a n cap) : Calls Try.prog 9 #[.pointer (some ⟨B, 0, none⟩)] w fun e w' => e = .returned (.int .i64 n) ∧ w = w' := by
  have c2 := cofr h 2 _ rfl
  go_enter Try.func9, Try.ntmps9
  go_wp2
  go_ret
  exact ⟨rfl, rfl⟩
theorem last_any {w : World} {B : Nat} {win last : Int} {a : Option Addr} {n cap : Nat} (h : LwAt w B win last a n cap) : Calls Try.prog 13 #[.pointer (some ⟨B, 0, none⟩)] w fun e w' => e = .returned (.int .i64 last) ∧ w = w' := by
  have c1 := cofr h 1 _ rfl
  go_enter Try.func13, Try.ntmps13
  go_wp2
  go_ret
  exact ⟨rfl, rfl⟩
set_option maxHeartbeats 1000000 in
theorem add_bad {w : World} {B : Nat} {win last : Int} {a : Option Addr} {n cap : Nat} (h : LwAt w B win last a n cap) (now v : Int) (hb : now < last ∨ 4611686018427387904 < now ∨ v < 0 ∨ 4611686018427387904 < v) :
    Calls Try.prog 10 #[.pointer (some ⟨B, 0, none⟩), .int .i64 now, .int .i64 v] w fun e w' => e = .returned (.int .i64 3) ∧ Below w.heap.size w w' := by
  have c1 := cofr h 1 _ rfl
  go_enter Try.func10, Try.ntmps10
  by_cases h1 : now < last
  · go_wp2_with fail
    go_ret
    exact ⟨rfl, Below.refl _ _⟩
  · by_cases h2 : 4611686018427387904 < now
    · go_wp2_with fail
      go_ret
      exact ⟨rfl, Below.refl _ _⟩
    · by_cases h3 : v < 0
      · go_wp2_with fail
        go_ret
        exact ⟨rfl, Below.refl _ _⟩
      · have h4 : 4611686018427387904 < v := by omega
        go_wp2_with fail
        go_ret
        exact ⟨rfl, Below.refl _ _⟩
theorem none_any (now v : Int) (w : World) : Calls Try.prog 10 #[.pointer none, .int .i64 now, .int .i64 v] w fun e w' => e = .returned (.int .i64 1) ∧ w = w' := by
  go_enter Try.func10, Try.ntmps10
  go_wp2
  go_ret
  exact ⟨rfl, rfl⟩
theorem none_len (w : World) : Calls Try.prog 9 #[.pointer none] w fun e w' => e = .returned (.int .i64 0) ∧ w = w' := by
  go_enter Try.func9, Try.ntmps9
  go_wp2
  go_ret
  exact ⟨rfl, rfl⟩
theorem none_last (w : World) : Calls Try.prog 13 #[.pointer none] w fun e w' => e = .returned (.int .i64 0) ∧ w = w' := by
  go_enter Try.func13, Try.ntmps13
  go_wp2
  go_ret
  exact ⟨rfl, rfl⟩
theorem none_clone (w : World) : Calls Try.prog 8 #[.pointer none] w fun e w' => e = .returned (.pointer none) ∧ w = w' := by
  go_enter Try.func8, Try.ntmps8
  go_wp2
  go_ret
  exact ⟨rfl, rfl⟩
theorem lw3 {w w' : World} {B : Nat} {win last : Int} {a : Option Addr} {n cap : Nat} (h : LwAt w B win last a n cap) (hb : Below w.heap.size w w') : w'.cell? ⟨B, 0, none⟩ = some (.int .i64 win) ∧ w'.cell? ⟨B, 1, none⟩ = some (.int .i64 last) ∧ w'.cell? ⟨B, 2, none⟩ = some (.slice a n cap) :=
  ⟨cofr (h.later hb) 0 _ rfl, cofr (h.later hb) 1 _ rfl, cofr (h.later hb) 2 _ rfl⟩
set_option maxHeartbeats 1000000 in
theorem sclone_any {w : World} {a : Option Addr} {n cap : Nat} {l : List Mk} (h : Ks w a n cap l) (hn : a = none ∨ 0 < n) (hn2 : n ≤ 1000000) : Calls Try.prog 15 #[.slice a n cap] w
    fun e w' => (∃ a' cap', e = .returned (.slice a' n cap')) ∧ Below w.heap.size w w' := by
  obtain ⟨i0, hi, hz0, hz1, hz2⟩ := info_split info_val
  have hle := h.row.le
  by_cases h0 : n = 0
  · obtain rfl : a = none := by rcases hn with h | h; exact h; omega
    subst h0
    obtain rfl : cap = 0 := by
      by_cases hc : cap = 0
      · exact hc
      · obtain ⟨g, off, cur, hx, _⟩ := h.row.rest (by omega)
        cases hx
    have he : ∀ w : World, (binOp .eql 39 (.slice none 0 0) (.slice none 0 0)).run Try.prog w = .ok (.bool true) w := fun _ => rfl
    go_enter Try.func15, Try.ntmps15
    go_wp2
    go_ret
    exact ⟨⟨none, 0, rfl⟩, Below.refl _ _⟩
  · obtain ⟨g, off, rfl, _⟩ := h.row.cell (by omega)
    have HS := Lib.hid (fun W (hb : Below w.heap.size w W) => (h.later hb).row.src Try.underlying39 (by intro u hu; unfold mkCells at hu; obtain ⟨x, _, hx⟩ := List.mem_flatMap.1 hu; simp at hx; rcases hx with rfl | rfl <;> rfl))
    clear h
    have he : ∀ w : World, (binOp .eql 39 (.slice (some ⟨g, off, none⟩) n cap) (.slice none 0 0)).run Try.prog w = .ok (.bool false) w := fun _ => rfl
    go_enter Try.func15, Try.ntmps15
    go_wp2_with (at_builtin; go_must (refine wpList_append_slr _ rfl (.tmp 5) (.tmp 6) 39 39 rfl 44 i0 (.agg #[.int .i64 0, .int .i64 0]) 2 16 Try.underlying39 hi hz0 hz1 (by decide) hz2 rfl _ 0 0 [] rfl (SlR.sub0 _) _ rfl n (by omega) (mkCells l) (HS.out _ ((Below.refl _ _).alloc (Nat.le_refl _) _)) (by unfold maxLen; omega) (by omega) ?_); intro a' cap' w3 hrow hkp hat)
    go_ret
    exact ⟨⟨a', cap', by simp⟩, (Below.refl w.heap.size w |>.alloc (Nat.le_refl _) _).trans (hkp.below (by simp [blk_zero]) (by simp))⟩
set_option maxHeartbeats 1000000 in
theorem clone_any {w : World} {B : Nat} {win last : Int} {a : Option Addr} {n cap : Nat} {l : List Mk} (h : LwAt w B win last a n cap) (hk : Ks w a n cap l) (hn : a = none ∨ 0 < n) (hn2 : n ≤ 1000000) :
    Calls Try.prog 8 #[.pointer (some ⟨B, 0, none⟩)] w fun e w' => ∃ C a' cap', e = .returned (.pointer (some ⟨C, 0, none⟩)) ∧ LwAt w' C win last a' n cap' ∧ Below w.heap.size w w' ∧ w.heap.size ≤ C := by
  have HC := Lib.hid (fun W (hb : Below w.heap.size w W) => sclone_any (hk.later hb) hn hn2)
  have c0 := cofr h 0 _ rfl; have c1 := cofr h 1 _ rfl; have c2 := cofr h 2 _ rfl
  have H := Lib.hid h
  clear hk hn hn2 h
  go_enter Try.func8, Try.ntmps8
  go_wp2_with fail
  go_region_held3 (fun w' => w'.cell? ⟨B, 0, none⟩ = some (.int .i64 win) ∧ w'.cell? ⟨B, 1, none⟩ = some (.int .i64 last) ∧ w'.cell? ⟨B, 2, none⟩ = some (.slice a n cap)) (first | go_keep | with_reducible exact lw3 H.out hb1)
    ((go_at_call 15; (with_reducible refine (HC.out _ (Below.refl _ _).drew).mono ?_); rintro e w1 ⟨⟨a', cap', rfl⟩, hb1⟩; replace hb1 := (Below.refl w.heap.size w).drew.trans hb1))
  go_wp2
  go_ret
  exact ⟨w1.heap.size, a', cap', rfl, heap_alloc_new w1 _, hb1.trans ((Below.refl _ _).alloc (Nat.le_refl _) _ |>.mono hb1.size), hb1.size⟩
end Go.Proofs.Ytgonfdedapnlnaa.lo
