/-
  Package span: Touch, Holds, Below, From, Compare.
-/
import Derived.Test.YtkimlcmbbfcffaaSpnM
import Derived.WalkSpells
namespace Go.Proofs.Ytkimlcmbbfcffaa.sp
open Go.RowKit aid mem
attribute [local go_sem ↓] Go.wp_at_zero Go.wp_at_succ
set_option linter.unusedVariables false

/-- two boxes side by side -/
structure M2 (w0 : World) (B : Nat) (s t : Int × Int) (w : World) : Prop where
  b0 : SpAt w B s
  b1 : SpAt w (B + 1) t
  below : Below w0.heap.size w0 w
  le : w0.heap.size ≤ B
theorem M2.later {w0 : World} {B : Nat} {s t : Int × Int} {w w' : World} (h : M2 w0 B s t w) (hb : Below w.heap.size w w') : M2 w0 B s t w' :=
  ⟨h.b0.later hb, h.b1.later hb, h.below.trans (hb.mono h.below.size), h.le⟩
theorem M2.all {w0 : World} {B : Nat} {s t : Int × Int} {w : World} (h : M2 w0 B s t w) : w.cell? ⟨B, 0, none⟩ = some (.int .i64 s.1) ∧ w.cell? ⟨B, 1, none⟩ = some (.int .i64 s.2) ∧ w.cell? ⟨B + 1, 0, none⟩ = some (.int .i64 t.1) ∧ w.cell? ⟨B + 1, 1, none⟩ = some (.int .i64 t.2) :=
  ⟨h.b0.c0, h.b0.c1, h.b1.c0, h.b1.c1⟩
theorem M2.put0 {w0 : World} {B : Nat} {s t : Int × Int} {w : World} (h : M2 w0 B s t w) (a b : Int) : M2 w0 B (a, b) t ((w.setCell ⟨B, 0, none⟩ (.int .i64 a)).setCell ⟨B, 1, none⟩ (.int .i64 b)) :=
  ⟨h.b0.put a b, h.b1.keep (kput w B _ _) (by simp), h.below.trans ((kput w B _ _).below (by simpa using h.le) h.below.size), h.le⟩
theorem M2.put1 {w0 : World} {B : Nat} {s t : Int × Int} {w : World} (h : M2 w0 B s t w) (a b : Int) : M2 w0 B s (a, b) ((w.setCell ⟨B + 1, 0, none⟩ (.int .i64 a)).setCell ⟨B + 1, 1, none⟩ (.int .i64 b)) :=
  ⟨h.b0.keep (kput w (B + 1) _ _) (by simp), h.b1.put a b, h.below.trans ((kput w (B + 1) _ _).below (by have := h.le; simp; omega) h.below.size), h.le⟩
theorem m2_new (w : World) (s t : Int × Int) : M2 w w.heap.size s t ((w.alloc (.cells #[.int .i64 s.1, .int .i64 s.2] 32)).alloc (.cells #[.int .i64 t.1, .int .i64 t.2] 32)) := by
  obtain ⟨h1, h2, h3⟩ := two_new w s t
  exact ⟨h1, h2, h3, Nat.le_refl _⟩
theorem m2_zero (w : World) (s : Int × Int) : M2 w w.heap.size s (0, 0) ((w.alloc (.cells #[.int .i64 s.1, .int .i64 s.2] 32)).alloc (.cells #[.int .i64 0, .int .i64 0] 32)) := m2_new w s (0, 0)

theorem eq_sp (a b c d : Int) (w : World) : (Op.equalIn 10000 32 (.agg #[.int .i64 a, .int .i64 b]) (.agg #[.int .i64 c, .int .i64 d])).run Try.prog w = .ok (a == c && b == d) w := by
  have u3 := Try.underlying3
  have a3 := Try.isAgg3
  have z3 := Try.sizeOf3
  have hS : Try.prog.underlying 32 = some (.struct (Try.prog.fieldsOf 32)) := by kernel_rfl
  rw [show (10000 : Nat) = 9999 + 1 from rfl, run_equalIn_agg w 9999 32 _ _ hS (by kernel_rfl)]
  simp only [Program.fieldsOf, Try.underlying32]
  go_simp
  by_cases h1 : a = c <;> by_cases h2 : b = d <;> simp [h1, h2]
theorem eq_guard : Try.prog.eqGuardType Try.prog.depth 32 = false := by kernel_rfl

set_option maxRecDepth 100000 in
set_option maxHeartbeats 800000 in
theorem holds_any (s t : Int × Int) (w : World) : Calls Try.prog 28 #[spV s, spV t] w (RetB (holdsB s t) w) := by
  have M0 := (m2_new w s t)
  have H : Hid (holdsB s t = (decide (lenI t = 0) || decide (meetP s t = t))) := Lib.hid rfl
  have HF := len_any t
  have HG := meet_any s t
  generalize lenI t = n at *
  generalize meetP s t = m at *
  have HFF := Lib.hid HF
  have HGG := Lib.hid HG
  clear HF HG
  have eqb := eq_sp m.1 m.2 t.1 t.2
  have eqg := eq_guard
  by_cases hn : n = 0
  · have hn1 : (n == 0) = true := by simpa using hn
    have H' : Hid (holdsB s t = true) := Lib.hid (by rw [H.out]; simp [hn])
    clear H eqb hn
    go_enter Try.func28, Try.ntmps28
    go_wp2_with fail
    generalize (w.alloc (.cells #[.int .i64 s.1, .int .i64 s.2] 32)).alloc (.cells #[.int .i64 t.1, .int .i64 t.2] 32) = W at *
    generalize w.heap.size = B at *
    have M1 := M0.later (Below.refl _ _).drew
    have c0 := M1.b0.c0; have c1 := M1.b0.c1; have d0 := M1.b1.c0; have d1 := M1.b1.c1
    go_region_with (go_at_call 25; refine (HFF.out _).mono ?_; rintro e w2 ⟨rfl, h2⟩; have M2 := M1.later h2; clear M1 h2 c0 c1 d0 d1)
    all_goals
      go_wp2
      go_ret
      exact ⟨ret_b H'.out.symm, M2.below⟩
  · have hn1 : (n == 0) = false := by simpa using hn
    have H' : Hid (holdsB s t = (m.1 == t.1 && m.2 == t.2)) := Lib.hid (by rw [H.out]; simp only [hn, decide_false, Bool.false_or]; rw [Bool.eq_iff_iff]; simp [Prod.ext_iff])
    clear H hn
    go_enter Try.func28, Try.ntmps28
    go_wp2_with fail
    generalize (w.alloc (.cells #[.int .i64 s.1, .int .i64 s.2] 32)).alloc (.cells #[.int .i64 t.1, .int .i64 t.2] 32) = W at *
    generalize w.heap.size = B at *
    have M1 := M0.later (Below.refl _ _).drew
    go_region_held3 (fun w' => w'.cell? ⟨B, 0, none⟩ = some (.int .i64 s.1) ∧ w'.cell? ⟨B, 1, none⟩ = some (.int .i64 s.2) ∧ w'.cell? ⟨B + 1, 0, none⟩ = some (.int .i64 t.1) ∧ w'.cell? ⟨B + 1, 1, none⟩ = some (.int .i64 t.2)) (first | exact M3.all | exact M2.all | exact M1.all | exact M0.all | go_keep) (first
      | (go_at_call 25; refine (HFF.out _).mono ?_; rintro e w2 ⟨rfl, h2⟩; have M2 := M1.later h2; clear M1 h2)
      | (go_at_call 33; refine (HGG.out _).mono ?_; rintro e w3 ⟨rfl, h3⟩; have M3 := M2.later h3; clear M2 h3))
    all_goals
      go_wp2
      go_ret
      exact ⟨ret_b H'.out.symm, M3.below⟩

end Go.Proofs.Ytkimlcmbbfcffaa.sp
