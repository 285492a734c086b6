/-
  Package rack: ahead.
-/
import Derived.Test.YtpoifoanigpncaaRakW
import Derived.Laws.StructEq
namespace Go.Proofs.Ytpoifoanigpncaa.rk
open Go.RowKit aid mem bk
attribute [local go_sem ↓] Go.wp_at_zero Go.wp_at_succ
set_option linter.unusedVariables false
set_option linter.unusedSimpArgs false

abbrev ecV (told : Bool) (val : Int) : Value := .agg #[.bool told, .int .u32 val]
theorem row1 (w : World) (v : Int) (T : TypeId) : ∀ k, k < 1 → (w.alloc (.cells #[.int .u32 v] T)).cell? ⟨w.heap.size, 0 + k, none⟩ = some (.int .u32 (([v] : List Int).getD k 0)) := fun k hk => by
  obtain rfl : k = 0 := by omega
  exact cofr (heap_alloc_new w _) 0 _ rfl
theorem row2 (w : World) (v : Int) (T : TypeId) (o : Obj) : ∀ k, k < 1 → ((w.alloc (.cells #[.int .u32 v] T)).alloc o).cell? ⟨w.heap.size, 0 + k, none⟩ = some (.int .u32 (([v] : List Int).getD k 0)) := fun k hk =>
  ((al _ _).cell (World.block_lt_of_cell? _ _ (row1 w v T k hk))).trans (row1 w v T k hk)
theorem row3 (w : World) (v : Int) (T : TypeId) (o : Obj) : ∀ k, k < 1 → ((w.alloc o).alloc (.cells #[.int .u32 v] T)).cell? ⟨w.heap.size + 1, 0 + k, none⟩ = some (.int .u32 (([v] : List Int).getD k 0)) := fun k hk => by
  have := row1 (w.alloc o) v T k hk
  rw [World.size_alloc] at this
  exact this
theorem eq_guardE : Try.prog.eqGuardType Try.prog.depth 29 = false := by kernel_rfl
theorem lat1 (val s : Int) : sq.latest val val [s] = if 0 < sq.dist val s then s else val := by
  have h0 : sq.dist val val = 0 := by unfold sq.dist; omega
  simp only [sq.latest, h0]
theorem ahead_val {told : Bool} {val s : Int} (hs : 0 ≤ s ∧ s ≤ 4294967295) (hv : 0 ≤ val ∧ val ≤ 4294967295) : (told && !(decide (val = sq.latest val val [s]))) = (told && decide (0 < sq.dist val s)) := by
  rw [lat1]
  by_cases h : 0 < sq.dist val s
  · rw [if_pos h]
    have : val ≠ s := by rintro rfl; unfold sq.dist at h; omega
    simp [h, this]
  · rw [if_neg h]; simp [h]
set_option maxRecDepth 100000 in
set_option maxHeartbeats 2000000 in
theorem ahead_true {val s : Int} (hv : 0 ≤ val ∧ val ≤ 4294967295) (hs : -9223372036854775808 ≤ s ∧ s ≤ 9223372036854775807) (w : World) :
    Calls Try.prog 45 #[ecV true val, .int .i64 s] w fun e w' => e = .returned (.bool (aheadB true val s)) ∧ Below w.heap.size w w' := by
  have HW := Lib.hid (fun W => sq.wrap_any s W hs)
  have hm := sq.m32_bd s
  have HAV := Lib.hid (show (true && !(decide (val = sq.latest val val [sq.m32 s]))) = aheadB true val s from ahead_val hm hv)
  have HL := Lib.hid (fun (b cap : Nat) (W : World) (hc : ∀ k, k < 1 → W.cell? ⟨b, 0 + k, none⟩ = some (.int .u32 (([sq.m32 s] : List Int).getD k 0))) => sq.latest_any val b 0 cap 1 [sq.m32 s] W hv rfl (by decide) (fun x hx => by simp at hx; subst hx; exact hm) hc)
  have b0 := al w (.cells #[.bool true, .int .u32 val] 29)
  have y0 := heap_alloc_new w (.cells #[.bool true, .int .u32 val] 29)
  have HR := Lib.hid (fun W T => row1 W (sq.m32 s) T)
  have HR2 := Lib.hid (fun W T o => row2 W (sq.m32 s) T o)
  have HR3 := Lib.hid (fun W T o => row3 W (sq.m32 s) T o)
  generalize sq.latest val val [sq.m32 s] = L at *
  generalize sq.m32 s = m at *
  by_cases hvl : val = L
  · subst hvl
    have hR := HAV.out
    rw [decide_eq_true rfl] at hR
    rw [← hR]
    clear hR HAV
    have c0 : (w.alloc (.cells #[.bool true, .int .u32 val] 29)).cell? ⟨w.heap.size, 0, none⟩ = some (.bool true) := cofr y0 0 _ rfl
    have c1 : (w.alloc (.cells #[.bool true, .int .u32 val] 29)).cell? ⟨w.heap.size, 1, none⟩ = some (.int .u32 val) := cofr y0 1 _ rfl
    clear y0
    go_enter Try.func45, Try.ntmps45
    go_wp2_with fail
    generalize hW : w.alloc (.cells #[.bool true, .int .u32 val] 29) = W at *
    have hlw := World.block_lt_of_cell? W _ c0
    have c := And.intro (show W.drew.cell? ⟨w.heap.size, 0, none⟩ = some (.bool true) from c0) (show W.drew.cell? ⟨w.heap.size, 1, none⟩ = some (.int .u32 val) from c1)
    clear hW
    go_region_held3 (fun w' => w'.cell? ⟨w.heap.size, 0, none⟩ = some (.bool true) ∧ w'.cell? ⟨w.heap.size, 1, none⟩ = some (.int .u32 val)) (first | exact c | go_keep)
      (first
        | (go_at_call 59; (with_reducible refine (HW.out _).mono ?_); rintro x w1 ⟨rfl, rfl⟩)
        | (go_at_call 58; (refine (HL.out _ _ _ (by first | exact HR.out _ _ | exact HR2.out _ _ _ | exact HR3.out _ _ _)).mono ?_); rintro x w1 ⟨rfl, rfl⟩))
    all_goals
      go_wp2
      all_goals
        go_ret
        refine ⟨ret_b (by first | rfl | simp), ?_⟩
        exact (b0.drew.alloc (Nat.le_of_lt hlw) _).alloc (by simp; omega) _
  · have hR := HAV.out
    have hvb : (val == L) = false := by simpa using hvl
    rw [decide_eq_false hvl] at hR
    rw [← hR]
    clear hR HAV
    have c0 : (w.alloc (.cells #[.bool true, .int .u32 val] 29)).cell? ⟨w.heap.size, 0, none⟩ = some (.bool true) := cofr y0 0 _ rfl
    have c1 : (w.alloc (.cells #[.bool true, .int .u32 val] 29)).cell? ⟨w.heap.size, 1, none⟩ = some (.int .u32 val) := cofr y0 1 _ rfl
    clear y0
    go_enter Try.func45, Try.ntmps45
    go_wp2_with fail
    generalize hW : w.alloc (.cells #[.bool true, .int .u32 val] 29) = W at *
    have hlw := World.block_lt_of_cell? W _ c0
    have c := And.intro (show W.drew.cell? ⟨w.heap.size, 0, none⟩ = some (.bool true) from c0) (show W.drew.cell? ⟨w.heap.size, 1, none⟩ = some (.int .u32 val) from c1)
    clear hW
    go_region_held3 (fun w' => w'.cell? ⟨w.heap.size, 0, none⟩ = some (.bool true) ∧ w'.cell? ⟨w.heap.size, 1, none⟩ = some (.int .u32 val)) (first | exact c | go_keep)
      (first
        | (go_at_call 59; (with_reducible refine (HW.out _).mono ?_); rintro x w1 ⟨rfl, rfl⟩)
        | (go_at_call 58; (refine (HL.out _ _ _ (by first | exact HR.out _ _ | exact HR2.out _ _ _ | exact HR3.out _ _ _)).mono ?_); rintro x w1 ⟨rfl, rfl⟩))
    all_goals
      go_wp2
      all_goals
        go_ret
        refine ⟨ret_b (by first | rfl | simp), ?_⟩
        exact (b0.drew.alloc (Nat.le_of_lt hlw) _).alloc (by simp; omega) _
set_option maxRecDepth 100000 in
set_option maxHeartbeats 2000000 in
theorem ahead_false {val s : Int} (hv : 0 ≤ val ∧ val ≤ 4294967295) (hs : -9223372036854775808 ≤ s ∧ s ≤ 9223372036854775807) (w : World) :
    Calls Try.prog 45 #[ecV false val, .int .i64 s] w fun e w' => e = .returned (.bool (aheadB false val s)) ∧ Below w.heap.size w w' := by
  have HW := Lib.hid (fun W => sq.wrap_any s W hs)
  have hm := sq.m32_bd s
  have HAV := Lib.hid (show (false && !(decide (val = sq.latest val val [sq.m32 s]))) = aheadB false val s from ahead_val hm hv)
  have HL := Lib.hid (fun (b cap : Nat) (W : World) (hc : ∀ k, k < 1 → W.cell? ⟨b, 0 + k, none⟩ = some (.int .u32 (([sq.m32 s] : List Int).getD k 0))) => sq.latest_any val b 0 cap 1 [sq.m32 s] W hv rfl (by decide) (fun x hx => by simp at hx; subst hx; exact hm) hc)
  have b0 := al w (.cells #[.bool false, .int .u32 val] 29)
  have y0 := heap_alloc_new w (.cells #[.bool false, .int .u32 val] 29)
  have HR := Lib.hid (fun W T => row1 W (sq.m32 s) T)
  have HR2 := Lib.hid (fun W T o => row2 W (sq.m32 s) T o)
  have HR3 := Lib.hid (fun W T o => row3 W (sq.m32 s) T o)
  generalize sq.latest val val [sq.m32 s] = L at *
  generalize sq.m32 s = m at *
  by_cases hvl : val = L
  · subst hvl
    have hR := HAV.out
    rw [decide_eq_true rfl] at hR
    rw [← hR]
    clear hR HAV
    have c0 : (w.alloc (.cells #[.bool false, .int .u32 val] 29)).cell? ⟨w.heap.size, 0, none⟩ = some (.bool false) := cofr y0 0 _ rfl
    have c1 : (w.alloc (.cells #[.bool false, .int .u32 val] 29)).cell? ⟨w.heap.size, 1, none⟩ = some (.int .u32 val) := cofr y0 1 _ rfl
    clear y0
    go_enter Try.func45, Try.ntmps45
    go_wp2_with fail
    generalize hW : w.alloc (.cells #[.bool false, .int .u32 val] 29) = W at *
    have hlw := World.block_lt_of_cell? W _ c0
    have c := And.intro (show W.drew.cell? ⟨w.heap.size, 0, none⟩ = some (.bool false) from c0) (show W.drew.cell? ⟨w.heap.size, 1, none⟩ = some (.int .u32 val) from c1)
    clear hW
    go_region_held3 (fun w' => w'.cell? ⟨w.heap.size, 0, none⟩ = some (.bool false) ∧ w'.cell? ⟨w.heap.size, 1, none⟩ = some (.int .u32 val)) (first | exact c | go_keep)
      (first
        | (go_at_call 59; (with_reducible refine (HW.out _).mono ?_); rintro x w1 ⟨rfl, rfl⟩)
        | (go_at_call 58; (refine (HL.out _ _ _ (by first | exact HR.out _ _ | exact HR2.out _ _ _ | exact HR3.out _ _ _)).mono ?_); rintro x w1 ⟨rfl, rfl⟩))
    all_goals
      go_wp2
      all_goals
        go_ret
        refine ⟨ret_b (by first | rfl | simp), ?_⟩
        exact (b0.drew.alloc (Nat.le_of_lt hlw) _).alloc (by simp; omega) _
  · have hR := HAV.out
    have hvb : (val == L) = false := by simpa using hvl
    rw [decide_eq_false hvl] at hR
    rw [← hR]
    clear hR HAV
    have c0 : (w.alloc (.cells #[.bool false, .int .u32 val] 29)).cell? ⟨w.heap.size, 0, none⟩ = some (.bool false) := cofr y0 0 _ rfl
    have c1 : (w.alloc (.cells #[.bool false, .int .u32 val] 29)).cell? ⟨w.heap.size, 1, none⟩ = some (.int .u32 val) := cofr y0 1 _ rfl
    clear y0
    go_enter Try.func45, Try.ntmps45
    go_wp2_with fail
    generalize hW : w.alloc (.cells #[.bool false, .int .u32 val] 29) = W at *
    have hlw := World.block_lt_of_cell? W _ c0
    have c := And.intro (show W.drew.cell? ⟨w.heap.size, 0, none⟩ = some (.bool false) from c0) (show W.drew.cell? ⟨w.heap.size, 1, none⟩ = some (.int .u32 val) from c1)
    clear hW
    go_region_held3 (fun w' => w'.cell? ⟨w.heap.size, 0, none⟩ = some (.bool false) ∧ w'.cell? ⟨w.heap.size, 1, none⟩ = some (.int .u32 val)) (first | exact c | go_keep)
      (first
        | (go_at_call 59; (with_reducible refine (HW.out _).mono ?_); rintro x w1 ⟨rfl, rfl⟩)
        | (go_at_call 58; (refine (HL.out _ _ _ (by first | exact HR.out _ _ | exact HR2.out _ _ _ | exact HR3.out _ _ _)).mono ?_); rintro x w1 ⟨rfl, rfl⟩))
    all_goals
      go_wp2
      all_goals
        go_ret
        refine ⟨ret_b (by first | rfl | simp), ?_⟩
        exact (b0.drew.alloc (Nat.le_of_lt hlw) _).alloc (by simp; omega) _
theorem ahead_any {val s : Int} (told : Bool) (hv : 0 ≤ val ∧ val ≤ 4294967295) (hs : -9223372036854775808 ≤ s ∧ s ≤ 9223372036854775807) (w : World) :
    Calls Try.prog 45 #[ecV told val, .int .i64 s] w fun e w' => e = .returned (.bool (aheadB told val s)) ∧ Below w.heap.size w w' := by
  cases told
  · exact ahead_false hv hs w
  · exact ahead_true hv hs w
end Go.Proofs.Ytpoifoanigpncaa.rk
