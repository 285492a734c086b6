/-
  Package runs: a set in memory; all, Len, place, behind, check.
-/
import Derived.Test.YtdoedcfmhdnbgaaSpnE
import Derived.Test.YtdoedcfmhdnbgaaKp
import Derived.Test.YtdoedcfmhdnbgaaRunZ
import Derived.Shelf.Abstract
namespace Go.Proofs.Ytdoedcfmhdnbgaa.rn
open Go.RowKit aid mem sp
attribute [local go_sem ↓] Go.wp_at_zero Go.wp_at_succ
set_option linter.unusedVariables false

theorem cofr {w : World} {B : Nat} {cs : Array Value} {t : TypeId} (h : w.heap[B]? = some (.cells cs t (0, 0))) (i : Nat) (v : Value) (hv : cs[i]? = some v) : w.cell? ⟨B, i, none⟩ = some v := (cell_of_row w B i _ _ (0, 0) h).trans hv
theorem fofr {w : World} {B : Nat} {cs : Array Value} {t : TypeId} (h : w.heap[B]? = some (.cells cs t (0, 0))) (i : Nat) : w.frozen? ⟨B, i, none⟩ = false := by simp [World.frozen?, h]
theorem kcell {w w' : World} {p : Addr} {v : Value} (hb : Below w.heap.size w w') (h : w.cell? p = some v) : w'.cell? p = some v := (hb.cell (World.block_lt_of_cell? w _ h)).trans h
theorem spTake (l : List Sp) : ∀ k, (spCells l).take (k * 2) = spCells (l.take k) := by
  induction l with
  | nil => intro k; simp [spCells]
  | cons x l ih =>
    intro k
    cases k with
    | zero => simp [spCells]
    | succ k =>
      rw [show (k + 1) * 2 = k * 2 + 1 + 1 from by omega, List.take_succ_cons]
      show .int .i64 x.1 :: List.take (k * 2 + 1) (.int .i64 x.2 :: spCells l) = _
      rw [List.take_succ_cons, ih k]
      rfl
theorem spDrop (l : List Sp) : ∀ k, (spCells l).drop (k * 2) = spCells (l.drop k) := by
  induction l with
  | nil => intro k; simp [spCells]
  | cons x l ih =>
    intro k
    cases k with
    | zero => simp
    | succ k =>
      rw [show (k + 1) * 2 = k * 2 + 1 + 1 from by omega]
      show List.drop (k * 2 + 1 + 1) (.int .i64 x.1 :: .int .i64 x.2 :: spCells l) = _
      rw [List.drop_succ_cons, List.drop_succ_cons, ih k]
      rfl
theorem row_len {w : World} {a : Option Addr} {n cap : Nat} {l : List Sp} (h : SlR w 24 2 a n cap (spCells l)) : l.length = n := by have := h.len; rw [spCells_len] at this; omega
theorem row_cells {w : World} {a : Option Addr} {n cap : Nat} {l : List Sp} (h : SlR w 24 2 a n cap (spCells l)) (h0 : 0 < n) : ∃ g off, a = some ⟨g, off, none⟩ ∧ ∀ i, i < n → w.cell? ⟨g, off + i * 2, none⟩ = some (.int .i64 (l.getD i (0, 0)).1) ∧ w.cell? ⟨g, off + i * 2 + 1, none⟩ = some (.int .i64 (l.getD i (0, 0)).2) := by
  obtain ⟨g, off, rfl, hc⟩ := h.cell (by have := h.le; omega)
  refine ⟨g, off, rfl, fun i hi => ?_⟩
  obtain ⟨e0, e1⟩ := spCells_get l i (by rw [row_len h]; exact hi)
  exact ⟨(hc (i * 2) (by omega)).trans e0, by rw [Nat.add_assoc]; exact (hc (i * 2 + 1) (by omega)).trans e1⟩
/-- a place is found -/
def RetN (r : Nat) (w : World) (e : Ending) (w' : World) : Prop := e = .returned (.int .i64 r) ∧ Below w.heap.size w w'
/-! ### the tests of places -/
end Go.Proofs.Ytdoedcfmhdnbgaa.rn
