/-
  Hulls of lists of spans, as the reference has them.
-/
import Derived.Test.YtpoifoanigpncaaSpnH
namespace Go.Proofs.Ytpoifoanigpncaa.sp
open Go.RowKit aid mem
attribute [local go_sem ↓] Go.wp_at_zero Go.wp_at_succ
set_option linter.unusedVariables false

theorem M2.s10 {w0 : World} {B : Nat} {s t : Int × Int} {w : World} (h : M2 w0 B s t w) (x : Int) : M2 w0 B s (x, t.2) (w.setCell ⟨B + 1, 0, none⟩ (.int .i64 x)) := by
  have hk := (Kept.refl [B + 1] w).setCell (p := ⟨B + 1, 0, none⟩) (.inl (by simp)) (.int .i64 x)
  exact ⟨h.b0.keep hk (by simp), h.b1.set0 x, h.below.trans (hk.below (by have := h.le; simp; omega) h.below.size), h.le⟩
theorem M2.s11 {w0 : World} {B : Nat} {s t : Int × Int} {w : World} (h : M2 w0 B s t w) (x : Int) : M2 w0 B s (t.1, x) (w.setCell ⟨B + 1, 1, none⟩ (.int .i64 x)) := by
  have hk := (Kept.refl [B + 1] w).setCell (p := ⟨B + 1, 1, none⟩) (.inl (by simp)) (.int .i64 x)
  exact ⟨h.b0.keep hk (by simp), h.b1.set1 x, h.below.trans (hk.below (by have := h.le; simp; omega) h.below.size), h.le⟩

end Go.Proofs.Ytpoifoanigpncaa.sp
