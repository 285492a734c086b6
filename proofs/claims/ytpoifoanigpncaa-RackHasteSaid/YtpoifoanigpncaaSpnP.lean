/-
  Package span: Touch, Holds, Below, From, Compare.
-/
import Derived.Test.YtpoifoanigpncaaSpnM
import Derived.WalkSpells
namespace Go.Proofs.Ytpoifoanigpncaa.sp
open Go.RowKit aid mem
attribute [local go_sem ↓] Go.wp_at_zero Go.wp_at_succ
set_option linter.unusedVariables false

/-- two boxes side by side -/
structure M2 (w0 : World) (B : Nat) (s t : Int × Int) (w : World) : Prop where
  b0 : SpAt w B s
  b1 : SpAt w (B + 1) t
  below : Below w0.heap.size w0 w
  le : w0.heap.size ≤ B
theorem M2.later {w0 : World} {B : Nat} {s t : Int × Int} {w w' : World} (h : M2 w0 B s t w) (hb : Below w.heap.size w w') : M2 w0 B s t w' :=
  ⟨h.b0.later hb, h.b1.later hb, h.below.trans (hb.mono h.below.size), h.le⟩
theorem M2.all {w0 : World} {B : Nat} {s t : Int × Int} {w : World} (h : M2 w0 B s t w) : w.cell? ⟨B, 0, none⟩ = some (.int .i64 s.1) ∧ w.cell? ⟨B, 1, none⟩ = some (.int .i64 s.2) ∧ w.cell? ⟨B + 1, 0, none⟩ = some (.int .i64 t.1) ∧ w.cell? ⟨B + 1, 1, none⟩ = some (.int .i64 t.2) :=
  ⟨h.b0.c0, h.b0.c1, h.b1.c0, h.b1.c1⟩
theorem M2.put0 {w0 : World} {B : Nat} {s t : Int × Int} {w : World} (h : M2 w0 B s t w) (a b : Int) : M2 w0 B (a, b) t ((w.setCell ⟨B, 0, none⟩ (.int .i64 a)).setCell ⟨B, 1, none⟩ (.int .i64 b)) :=
  ⟨h.b0.put a b, h.b1.keep (kput w B _ _) (by simp), h.below.trans ((kput w B _ _).below (by simpa using h.le) h.below.size), h.le⟩
theorem M2.put1 {w0 : World} {B : Nat} {s t : Int × Int} {w : World} (h : M2 w0 B s t w) (a b : Int) : M2 w0 B s (a, b) ((w.setCell ⟨B + 1, 0, none⟩ (.int .i64 a)).setCell ⟨B + 1, 1, none⟩ (.int .i64 b)) :=
  ⟨h.b0.keep (kput w (B + 1) _ _) (by simp), h.b1.put a b, h.below.trans ((kput w (B + 1) _ _).below (by have := h.le; simp; omega) h.below.size), h.le⟩
theorem m2_new (w : World) (s t : Int × Int) : M2 w w.heap.size s t ((w.alloc (.cells #[.int .i64 s.1, .int .i64 s.2] 24)).alloc (.cells #[.int .i64 t.1, .int .i64 t.2] 24)) := by
  obtain ⟨h1, h2, h3⟩ := two_new w s t
  exact ⟨h1, h2, h3, Nat.le_refl _⟩
theorem m2_zero (w : World) (s : Int × Int) : M2 w w.heap.size s (0, 0) ((w.alloc (.cells #[.int .i64 s.1, .int .i64 s.2] 24)).alloc (.cells #[.int .i64 0, .int .i64 0] 24)) := m2_new w s (0, 0)

theorem eq_sp (a b c d : Int) (w : World) : (Op.equalIn 10000 24 (.agg #[.int .i64 a, .int .i64 b]) (.agg #[.int .i64 c, .int .i64 d])).run Try.prog w = .ok (a == c && b == d) w := by
  have u3 := Try.underlying3
  have a3 := Try.isAgg3
  have z3 := Try.sizeOf3
  have hS : Try.prog.underlying 24 = some (.struct (Try.prog.fieldsOf 24)) := by kernel_rfl
  rw [show (10000 : Nat) = 9999 + 1 from rfl, run_equalIn_agg w 9999 24 _ _ hS (by kernel_rfl)]
  simp only [Program.fieldsOf, Try.underlying24]
  go_simp
  by_cases h1 : a = c <;> by_cases h2 : b = d <;> simp [h1, h2]
theorem eq_guard : Try.prog.eqGuardType Try.prog.depth 24 = false := by kernel_rfl

end Go.Proofs.Ytpoifoanigpncaa.sp
