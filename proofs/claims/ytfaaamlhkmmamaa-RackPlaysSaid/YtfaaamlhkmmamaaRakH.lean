/-
  Layer 15's law: does.
-/
import Derived.Test.YtfaaamlhkmmamaaRakE
import Derived.Test.YtfaaamlhkmmamaaRakF
import Derived.Test.YtfaaamlhkmmamaaRakG
namespace Go.Proofs.Ytfaaamlhkmmamaa.rk
open Go.RowKit aid mem bk
set_option linter.unusedVariables false

theorem does_any {w : World} {X : Nat} {x : Rk} (h : RkAt w X x) (ho : Ok x) {s : OpV} (hs : OpOk s) : Calls Try.prog 11 #[.pointer (some ⟨X, 0, none⟩), rkV x, .agg (opC s)] w (DoesP w X x s) := by
  by_cases h2 : s.kind % 4 = 2
  · exact does_dup h ho hs h2
  by_cases h3 : s.kind % 4 = 3
  · exact does_calm h ho hs h2 h3
  by_cases hc : s.r.sent < 0 ∨ 4611686018427387904 < s.r.sent ∨ s.now < 0 ∨ 4611686018427387904 < s.now
  · exact does_skip h ho hs h2 h3 hc
  · exact does_came h ho hs h2 h3 hc
/-- rack's, and the document's in a box, of one's own -/
structure FL (w0 : World) (X X2 : Nat) (x : Rk) (W : World) : Prop where
  rk : RkAt W X x
  bx : W.heap[X2]? = some (rkO x)
  ok : Ok x
  below : Below w0.heap.size w0 W
  xl : w0.heap.size ≤ X
  ne : X < X2
section
variable {w0 W W' : World} {X X2 : Nat} {x x' : Rk}
theorem FL.later (h : FL w0 X X2 x W) (hb : Below W.heap.size W W') : FL w0 X X2 x W' :=
  ⟨h.rk.later hb, (hb.block _ (lt_of_block h.bx)).trans h.bx, h.ok, h.below.trans (hb.mono h.below.size), h.xl, h.ne⟩
theorem FL.drew (h : FL w0 X X2 x W) : FL w0 X X2 x W.drew := ⟨h.rk, h.bx, h.ok, h.below.drew, h.xl, h.ne⟩
theorem FL.step (h : FL w0 X X2 x W) (ho : Ok x') (hx : RkAt W' X x') (hk : Kept [X] W W') : FL w0 X X2 x' (put8 X2 x' W') := by
  have hn := h.ne
  have hx0 := h.xl
  have kk := put8_kept X2 x' W'
  have b1 := h.below.trans (hk.below (by simpa using h.xl) h.below.size)
  exact ⟨hx.keep kk (by simp; omega), put8_at (hk.heap (by simp; omega) h.bx) x', ho, b1.trans (kk.below (by simp; omega) b1.size), h.xl, hn⟩
theorem FL.made (hb : Below w0.heap.size w0 W) (hx : RkAt W X x) (ho : Ok x) (hX : w0.heap.size ≤ X) : FL w0 X W.heap.size x (W.alloc (rkO x)) :=
  ⟨hx.later (al W _), heap_alloc_new _ _, ho, hb.trans ((al W _).mono hb.size), hX, hx.lt⟩
end
end Go.Proofs.Ytfaaamlhkmmamaa.rk
