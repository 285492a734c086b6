/-
  Rows of spans.
-/
import Derived.Test.YtdoedcfmhdnbgaaSpnO
import Derived.Test.YtdoedcfmhdnbgaaOwn
namespace Go.Proofs.Ytdoedcfmhdnbgaa.sp
open Go.RowKit aid mem
set_option linter.unusedVariables false

def spCells (l : List (Int × Int)) : List Value := l.flatMap (fun x => [.int .i64 x.1, .int .i64 x.2])
theorem spCells_snoc (l : List (Int × Int)) (x : Int × Int) : spCells (l ++ [x]) = spCells l ++ [.int .i64 x.1, .int .i64 x.2] := by simp [spCells]
theorem spCells_append (l r : List (Int × Int)) : spCells (l ++ r) = spCells l ++ spCells r := by simp [spCells]
theorem spCells_len (l : List (Int × Int)) : (spCells l).length = l.length * 2 := by
  induction l with
  | nil => rfl
  | cons x l ih => rw [show spCells (x :: l) = [.int .i64 x.1, .int .i64 x.2] ++ spCells l from rfl, List.length_append, ih]; simp; omega
theorem spCells_get (l : List (Int × Int)) : ∀ i, i < l.length → (spCells l)[i * 2]? = some (.int .i64 (l.getD i (0, 0)).1) ∧ (spCells l)[i * 2 + 1]? = some (.int .i64 (l.getD i (0, 0)).2) := by
  induction l with
  | nil => intro i hi; simp at hi
  | cons x l ih =>
    intro i hi
    rw [show spCells (x :: l) = .int .i64 x.1 :: .int .i64 x.2 :: spCells l from rfl]
    cases i with
    | zero => exact ⟨rfl, rfl⟩
    | succ i =>
      have := ih i (by simpa using hi)
      rw [show (i + 1) * 2 = i * 2 + 1 + 1 from by omega]
      simpa [List.getD] using this
theorem spCells_inj : ∀ {l r : List (Int × Int)}, spCells l = spCells r → l = r := by
  intro l
  induction l with
  | nil => intro r h; cases r with | nil => rfl | cons y r => simp [spCells] at h
  | cons x l ih =>
    intro r h
    cases r with
    | nil => simp [spCells] at h
    | cons y r =>
      rw [show spCells (x :: l) = .int .i64 x.1 :: .int .i64 x.2 :: spCells l from rfl, show spCells (y :: r) = .int .i64 y.1 :: .int .i64 y.2 :: spCells r from rfl] at h
      injection h with h1 h
      injection h with h2 h
      injection h1 with _ h1
      injection h2 with _ h2
      rw [ih h, Prod.ext h1 h2]
theorem spCells_one (l : List (Int × Int)) : ∀ u ∈ spCells l, u.oneCell' = true := by
  intro u hu
  unfold spCells at hu
  obtain ⟨x, _, hx⟩ := List.mem_flatMap.1 hu
  simp at hx
  rcases hx with rfl | rfl <;> rfl
theorem info_span : (Try.prog.info? 24).map (fun i => (i.zero, i.size, i.bytes)) = some (some (.agg #[.int .i64 0, .int .i64 0]), 2, 16) := by kernel_rfl
/-- one span in a new array, as what is appended -/
theorem span_src (X : World) (s : Int × Int) : Src Try.prog 2 30 (.slice (some ⟨X.heap.size, 0, none⟩) 1 1) 1 [.int .i64 s.1, .int .i64 s.2] (X.alloc (.cells #[.int .i64 s.1, .int .i64 s.2] 24)) := by
  refine Src.ofSlice _ Try.underlying30 ⟨X.heap.size, 0, none⟩ 1 1 _ rfl ?_ (by simp [Value.oneCell'])
  intro j u hu
  have := cell_of_row (X.alloc (.cells #[.int .i64 s.1, .int .i64 s.2] 24)) X.heap.size j _ _ (0, 0) (heap_alloc_new X _)
  have hadd : (⟨X.heap.size, 0, none⟩ : Addr).add j = ⟨X.heap.size, 0 + j, none⟩ := by unfold Addr.add; split <;> simp_all
  rw [hadd, Nat.zero_add, this, ← hu]
  simp
/-- a slice of spans, as what is appended -/
theorem SlS.src {w : World} {a : Option Addr} {n cap : Nat} {l : List (Int × Int)} (h : SlS w a n cap l) : Src Try.prog 2 30 (.slice a n cap) n (spCells l) w := by
  have hl : (spCells l).length = n * 2 := by rw [spCells_len, h.len]
  cases a with
  | none =>
    have hn : n = 0 := by have := h.le; have := h.nil rfl; omega
    subst hn
    obtain rfl : l = [] := List.eq_nil_of_length_eq_zero h.len
    exact Src.ofNil w Try.underlying30 cap
  | some x =>
    refine Src.ofSlice w Try.underlying30 x n cap _ hl ?_ (spCells_one l)
    intro j u hu
    have hj : j < n * 2 := by rw [← hl]; exact (List.getElem?_eq_some_iff.1 hu).1
    obtain ⟨b, off, hx, hc⟩ := h.cells (by omega)
    obtain rfl : x = ⟨b, off, none⟩ := by injection hx
    have hadd : (⟨b, off, none⟩ : Addr).add j = ⟨b, off + j, none⟩ := by unfold Addr.add; split <;> simp_all
    rw [hadd]
    obtain ⟨c0, c1⟩ := hc (j / 2) (by omega)
    obtain ⟨e0, e1⟩ := spCells_get l (j / 2) (by rw [h.len]; omega)
    by_cases hp : j % 2 = 0
    · rw [show j = j / 2 * 2 from by omega] at hu ⊢
      rw [e0] at hu
      cases hu
      exact c0
    · rw [show j = j / 2 * 2 + 1 from by omega] at hu ⊢
      rw [e1] at hu
      cases hu
      rw [← Nat.add_assoc]
      exact c1
/-- a row of one's own is a slice of spans -/
theorem sls_of_own {w : World} {base : Nat} {v : Value} {n : Nat} {l : List (Int × Int)} (h : w.ownsRow base 24 2 v n (spCells l)) :
    ∃ a cap, v = .slice a n cap ∧ SlS w a n cap l ∧ ∀ x, a = some x → v.ownBlock = some x.block := by
  have hl : l.length = n := by have := h.1; rw [spCells_len] at this; omega
  rcases h.2 with ⟨rfl, rfl⟩ | ⟨g, cap, cur, rfl, hb, hg, hn, hm, hc, ht⟩
  · exact ⟨none, 0, rfl, ⟨hl, Nat.le_refl _, by unfold maxLen; omega, fun _ => rfl, fun h => by omega⟩, fun _ h => by cases h⟩
  · refine ⟨some ⟨g, 0, none⟩, cap, rfl, ⟨hl, hn, hm, (fun h => by cases h), fun _ => ⟨g, 0, rfl, fun i hi => ?_⟩⟩, fun x hx => by injection hx with hx; subst hx; rfl⟩
    obtain ⟨e0, e1⟩ := spCells_get l i (by omega)
    rw [← ht, List.getElem?_take, if_pos (by omega)] at e0 e1
    rw [cell_of_row w g _ cur _ (0, 0) hg, cell_of_row w g _ cur _ (0, 0) hg, Nat.zero_add]
    exact ⟨by simpa using e0, by simpa using e1⟩
end Go.Proofs.Ytdoedcfmhdnbgaa.sp
