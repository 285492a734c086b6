/-
  The reference's Same, of two lists of spans.
-/
import Derived.Test.YtkimlcmbbfcffaaSpnS
import Derived.Laws.StructEq
namespace Go.Proofs.Ytkimlcmbbfcffaa.sp
open Go.RowKit aid mem
attribute [local go_sem ↓] Go.wp_at_zero Go.wp_at_succ
set_option linter.unusedVariables false

theorem eq_spB (x y : Int × Int) (w : World) : (Op.equalIn 10000 32 (.agg #[.int .i64 x.1, .int .i64 x.2]) (.agg #[.int .i64 y.1, .int .i64 y.2])).run Try.prog w = .ok (decide (x = y)) w := by
  rw [eq_sp]
  congr 1
  rw [Bool.eq_iff_iff]
  simp [Prod.ext_iff]
theorem take_eq_succ {l r : List (Int × Int)} {k : Nat} (h : l.take k = r.take k) (hk : k < l.length) (hr : k < r.length) : (l.take (k + 1) = r.take (k + 1)) ↔ l.getD k (0, 0) = r.getD k (0, 0) := by
  have e1 := List.take_succ_eq_append_getElem hk
  have e2 := List.take_succ_eq_append_getElem hr
  rw [e1, e2, h, List.append_right_inj]
  simp [List.getD, hk, hr]
theorem bdN (w : World) (n : Nat) : Below w.heap.size w (w.drewN n) := ⟨rfl, rfl, rfl, Nat.le_refl _, fun _ _ => rfl⟩

end Go.Proofs.Ytkimlcmbbfcffaa.sp
