/-
  Hulls of lists of spans.
-/
import Derived.Test.YtpoifoanigpncaaSpnT
namespace Go.Proofs.Ytpoifoanigpncaa.sp
open Go.RowKit aid mem
attribute [local go_sem ↓] Go.wp_at_zero Go.wp_at_succ
set_option linter.unusedVariables false

/-- a slice of spans -/
structure SlS (w : World) (a : Option Addr) (n cap : Nat) (l : List (Int × Int)) : Prop where
  len : l.length = n
  le : n ≤ cap
  most : cap ≤ maxLen
  nil : a = none → cap = 0
  cells : 0 < n → ∃ b off, a = some ⟨b, off, none⟩ ∧ ∀ i, i < n → w.cell? ⟨b, off + i * 2, none⟩ = some (.int .i64 (l.getD i (0, 0)).1) ∧ w.cell? ⟨b, off + i * 2 + 1, none⟩ = some (.int .i64 (l.getD i (0, 0)).2)
theorem SlS.keep {w w' : World} {a : Option Addr} {n cap : Nat} {l : List (Int × Int)} (h : SlS w a n cap l) {S : List Nat} (hk : Kept S w w') (hd : ∀ x, a = some x → 0 < n → x.block ∉ S) : SlS w' a n cap l :=
  ⟨h.len, h.le, h.most, h.nil, fun h0 => by
    obtain ⟨b, off, rfl, hc⟩ := h.cells h0
    exact ⟨b, off, rfl, fun i hi => ⟨hk.cell (p := ⟨b, off + i * 2, none⟩) (hd ⟨b, off, none⟩ rfl h0) (hc i hi).1, hk.cell (p := ⟨b, off + i * 2 + 1, none⟩) (hd ⟨b, off, none⟩ rfl h0) (hc i hi).2⟩⟩⟩
theorem SlS.later {w w' : World} {a : Option Addr} {n cap : Nat} {l : List (Int × Int)} (h : SlS w a n cap l) (hk : Below w.heap.size w w') : SlS w' a n cap l :=
  h.keep (Kept.of_below hk (Nat.le_refl _) []) (fun _ _ _ => by simp)
/-- two spans in a new array -/
theorem sls_two (w : World) (s t : Int × Int) (ty : TypeId) : SlS (w.alloc (.cells #[.int .i64 s.1, .int .i64 s.2, .int .i64 t.1, .int .i64 t.2] ty)) (some ⟨w.heap.size, 0, none⟩) 2 2 [s, t] :=
  ⟨rfl, Nat.le_refl _, by simp [maxLen], (fun h => by cases h), fun _ => ⟨w.heap.size, 0, rfl, fun i hi => by
    rcases (show i = 0 ∨ i = 1 by omega) with rfl | rfl
    · exact ⟨World.cell?_alloc_at _ _ _ _ rfl, World.cell?_alloc_at _ _ _ _ rfl⟩
    · exact ⟨World.cell?_alloc_at _ _ _ _ rfl, World.cell?_alloc_at _ _ _ _ rfl⟩⟩⟩

theorem hull_take (l : List (Int × Int)) (k : Nat) (hk : k < l.length) : hullP (l.take (k + 1)) = widerP (hullP (l.take k)) (l.getD k (0, 0)) := by
  rw [← hullP_snoc]
  congr 1
  rw [List.take_succ_eq_append_getElem hk]
  simp [List.getD, hk]

end Go.Proofs.Ytpoifoanigpncaa.sp
