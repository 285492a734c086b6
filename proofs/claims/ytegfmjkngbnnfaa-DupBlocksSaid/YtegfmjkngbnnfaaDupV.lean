/-
  Package dup: spans as blocks, as numbers.
-/
import Derived.Test.YtegfmjkngbnnfaaDupX
namespace Go.Proofs.Ytegfmjkngbnnfaa.dp
open sq sp
set_option linter.unusedVariables false

/-- a span's block -/
def mkB (first : Int) (s : Int × Int) : Bk := (m32 (first + m32 s.1), m32 (first + m32 s.2))
def putB (first : Int) (l : List Bk) (s : Int × Int) : List Bk := if 0 < lenI s ∧ l.length < 4 then l ++ [mkB first s] else l
/-- the blocks of spans -/
def blocksP (first : Int) (d : Int × Int) (l : List (Int × Int)) : List Bk := (d :: l).foldl (putB first) []
theorem blocks_snoc (first : Int) (acc : List Bk) (l : List (Int × Int)) (k : Nat) (hk : k < l.length) : (l.take (k + 1)).foldl (putB first) acc = putB first ((l.take k).foldl (putB first) acc) (l.getD k (0, 0)) := by
  rw [List.take_succ_eq_append_getElem hk, List.foldl_append]
  simp [List.getD, hk]
theorem put_le (first : Int) (l : List Bk) (s : Int × Int) (h : l.length ≤ 4) : (putB first l s).length ≤ 4 := by
  unfold putB
  split
  · simp; omega
  · exact h
theorem fold_le (first : Int) (acc : List Bk) (l : List (Int × Int)) (h : acc.length ≤ 4) : (l.foldl (putB first) acc).length ≤ 4 := by
  induction l generalizing acc with
  | nil => exact h
  | cons x l ih => exact ih _ (put_le first acc x h)
theorem mkB_ok (first : Int) (s : Int × Int) : BkOk (mkB first s) := by
  have h1 := m32_bd (first + m32 s.1)
  have h2 := m32_bd (first + m32 s.2)
  exact ⟨h1, h2⟩
theorem put_ok (first : Int) (l : List Bk) (s : Int × Int) (h : ∀ b ∈ l, BkOk b) : ∀ b ∈ putB first l s, BkOk b := by
  unfold putB
  split
  · intro b hb
    rcases List.mem_append.1 hb with hb | hb
    · exact h b hb
    · simp at hb; subst hb; exact mkB_ok first s
  · exact h
theorem fold_ok (first : Int) (acc : List Bk) (l : List (Int × Int)) (h : ∀ b ∈ acc, BkOk b) : ∀ b ∈ l.foldl (putB first) acc, BkOk b := by
  induction l generalizing acc with
  | nil => exact h
  | cons x l ih => exact ih _ (put_ok first acc x h)
end Go.Proofs.Ytegfmjkngbnnfaa.dp
