/-
  The law's list of all (told).
-/
import Derived.Test.YtdoedcfmhdnbgaaRunI
import Derived.Test.YtdoedcfmhdnbgaaApp
import Derived.Test.YtdoedcfmhdnbgaaSpnE
namespace Go.Proofs.Ytdoedcfmhdnbgaa.rn
open Go.RowKit Go.Shelf aid mem rng sp
attribute [local go_sem] Oper.semAt_some
set_option linter.unusedVariables false
set_option linter.unusedSimpArgs false

/-- a list of pairs is handed back, in memory of its own -/
def Told (L : List Sp) (w : World) (e : Ending) (W' : World) : Prop :=
  ∃ v, e = .returned v ∧ W'.ownsRow w.heap.size 24 2 v L.length (spCells L) ∧ Below w.heap.size w W'
/-- between two rounds: n0: the heap's size ahead; B: the list's box -/
def ToldI (w : World) (B : Nat) (pre : List Sp) (C : Nat → Prop) (W : World) : Prop :=
  ∃ v, W.heap[B]? = some (.cells #[v] 30 (0, 0)) ∧ C B ∧ W.ownsRow w.heap.size 24 2 v pre.length (spCells pre) ∧ (∀ k, v.ownBlock = some k → C k ∧ k ≠ B) ∧ Below w.heap.size w W
theorem told_bears (w : World) (B n : Nat) (hn : w.heap.size ≤ n) : Bears n (ToldI w B) := by
  rintro s C X Y ⟨v, h1, h2, h3, h4, h5⟩ hz hs
  exact ⟨v, hs.heap (.inr h2) h1, h2, own_step h3 (fun k o hk ho => hs.heap (.inr (h4 k hk).1) ho), h4, h5.trans (hs.below (by omega) (fun k hk => .inl (by omega)))⟩
/-- a round's end -/
theorem told_next {w X X1 w1 : World} {B : Nat} {pre : List Sp} {x : Sp} {C : Nat → Prop} {v v' : Value} (h1 : X.heap[B]? = some (.cells #[v] 30 (0, 0))) (h2 : C B) (h4 : ∀ k, v.ownBlock = some k → C k ∧ k ≠ B) (h5 : Below w.heap.size w X)
    (hb : w.heap.size ≤ B) (hX : X1 = X.alloc (.cells #[.int .i64 x.1, .int .i64 x.2] 24))
    (ho : w1.ownsRow w.heap.size 24 2 v' (pre.length + 1) (spCells pre ++ [.int .i64 x.1, .int .i64 x.2])) (hg : X1.grownBy w1 v.ownBlock) (hw : v'.ownBlock = v.ownBlock ∨ v'.ownBlock = some X1.heap.size)
    (hvb : ∀ k, v.ownBlock = some k → w.heap.size ≤ k) :
    ∃ C', Round C X C' (w1.setCell ⟨B, 0, none⟩ v') ∧ ToldI w B (pre ++ [x]) C' (w1.setCell ⟨B, 0, none⟩ v') := by
  have hz : X1.heap.size = X.heap.size + 1 := by rw [hX]; simp
  have b1 : Below X.heap.size X X1 := by rw [hX]; exact bal (w := X) _
  have hBX := lt_of_block h1
  have nB : v.ownBlock ≠ some B := fun e => (h4 B e).2 rfl
  have hB1 : w1.heap[B]? = some (.cells #[v] 30 (0, 0)) := (hg.block B (by omega) (fun e => nB e.symm)).trans ((b1.block B hBX).trans h1)
  have hzz : (w1.setCell ⟨B, 0, none⟩ v').heap.size = w1.heap.size := by simp
  have s1 : rng.Steps (fun k => ¬ C k) X (w1.setCell ⟨B, 0, none⟩ v') := by
    refine ((rng.Steps.of_below b1 _).trans (B := X1) ?_).trans (rng.Steps.setCell _ _ _ _ (fun e => e h2))
    exact ⟨hg.os, hg.tape, hg.output, hg.size, fun k hk hn => hg.block k hk (fun e => hn (h4 k e.symm).1)⟩
  refine ⟨fun k => C k ∨ (X.heap.size ≤ k ∧ k < w1.heap.size), ⟨s1, fun k hk => by rw [hzz]; exact hk⟩, v', (heap_setCell_same _ B 0 _ _ _ hB1).trans rfl, .inl h2, ?_, ?_, ?_⟩
  · rw [List.length_append, List.length_singleton, spCells_snoc]
    refine own_step ho (fun k o hk hko => (Below.heap_setCell w1 ⟨B, 0, none⟩ v' k ?_).trans hko)
    rintro rfl
    rcases hw with e | e
    · exact nB (e ▸ hk)
    · rw [e] at hk; cases hk; omega
  · intro k hk
    rcases hw with e | e
    · rw [e] at hk; exact ⟨.inl (h4 k hk).1, (h4 k hk).2⟩
    · rw [e] at hk
      cases hk
      have := (own_in ho e).1
      exact ⟨.inr ⟨by omega, by omega⟩, by omega⟩
  · refine ((h5.trans (b1.mono h5.size)).trans ?_).setCell (by simpa using hb) _
    exact ⟨hg.os, hg.tape, hg.output, hg.size, fun k hk => hg.block k (by have := h5.size; omega) (fun e => by have := hvb k e.symm; omega)⟩

end Go.Proofs.Ytdoedcfmhdnbgaa.rn
