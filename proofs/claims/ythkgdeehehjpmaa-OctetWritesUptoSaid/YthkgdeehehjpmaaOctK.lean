/-
  Layer 2: what must come of fixed calls.
-/
import Derived.Test.YthkgdeehehjpmaaOctF
namespace Go.Proofs.Ythkgdeehehjpmaa.oc
open Go.RowKit aid mem
set_option linter.unusedVariables false

theorem wr_new (w : World) (t : TypeId) : Wr (w.alloc (.cells #[.pointer none, .int .i64 0] t)) w.heap.size [] [] :=
  ⟨World.frozen?_alloc_at _ _ _ _ rfl, World.frozen?_alloc_at _ _ _ _ rfl, World.cell?_alloc_at _ _ _ _ rfl, by simp, .inl ⟨World.cell?_alloc_at _ _ _ _ rfl, rfl, rfl⟩⟩

/-- a chain of calls of one writer, from a world in which neither it nor what it makes was there -/
structure Chain (B : Nat) (w : World) (p : Nat) (l : List Int) (w' : World) : Prop where
  ex : ∃ S, Wr w' p S l ∧ ∀ k ∈ S, B ≤ k
  p : B ≤ p
  below : Below B w w'

theorem Chain.step {B : Nat} {w : World} {p : Nat} {l' : List Int} {w1 w2 : World} {S : List Nat} (hB : B ≤ w1.heap.size) (hp : B ≤ p) (hb : Below B w w1) (hS : ∀ k ∈ S, B ≤ k)
    (h : ∃ S', Wr w2 p S' l' ∧ Kept (p :: S) w1 w2 ∧ ∀ k ∈ S', k ∈ S ∨ w1.heap.size ≤ k) : Chain B w p l' w2 := by
  obtain ⟨S', h1, h2, h3⟩ := h
  refine ⟨⟨S', h1, fun k hk => ?_⟩, hp, hb.trans (h2.below ?_ hB)⟩
  · rcases h3 k hk with h | h
    · exact hS k h
    · omega
  · intro k hk
    rcases List.mem_cons.1 hk with rfl | hk
    · exact hp
    · exact hS k hk

set_option maxHeartbeats 800000 in
theorem known_any (w : World) : Calls Try.prog 23 #[] w fun e w' => e = .returned (.bool true) ∧ Below w.heap.size w w' := by
  go_enter Try.func23, Try.ntmps23
  go_wp2_with fail
  have hW0 := wr_new w 43
  have hb0 : Below w.heap.size w (w.alloc (.cells #[.pointer none, .int .i64 0] 43)) := (Below.refl _ _).alloc (Nat.le_refl _) _
  refine (four_any w.heap.size [] [] 1 _ hW0 (by omega) (by simp)).mono ?_
  rintro e w1 ⟨rfl, h1⟩
  have hc1 := Chain.step (B := w.heap.size) (by simp) (Nat.le_refl _) hb0 (by simp) h1
  clear h1 hW0 hb0
  obtain ⟨⟨S1, hw1, hS1⟩, hp1, hb1⟩ := hc1
  go_wp2_with fail
  refine (two_any w.heap.size S1 _ 258 w1 hw1 (by omega) (by simp)).mono ?_
  rintro e w2 ⟨rfl, h2⟩
  have hc2 := Chain.step hb1.size hp1 hb1 hS1 h2
  clear h2 hw1 hS1 hb1
  obtain ⟨⟨S2, hw2, hS2⟩, _, hb2⟩ := hc2
  have el : ([] ++ [1 / 16777216, 1 / 65536 % 256, 1 / 256 % 256, 1 % 256] ++ [258 / 256, 258 % 256] : List Int) = [0, 0, 0, 1, 1, 2] := by decide
  rw [el] at hw2
  clear el
  go_wp2_with fail
  refine (bytes_any _ _ _ _ hw2).mono ?_
  rintro e w3 ⟨v, rfl, hown, hb3⟩
  obtain ⟨a, cap, hv, hsl, _⟩ := sl_of_own hown
  rw [hv]
  clear hown hv
  have hw3 := hw2.keep (Kept.of_below hb3 (Nat.le_refl _) []) (by simp) (by simp)
  clear hw2
  go_wp2_with fail
  have hs2 := sl_new .u8 5 w3 [0, 0, 0, 1, 1, 2] (by simp [maxLen])
  have hsl' := hsl.later ((Below.refl w3.heap.size w3).alloc (Nat.le_refl _) (.cells (ints .u8 [0, 0, 0, 1, 1, 2]).toArray 5))
  refine (same_true _ _ 6 _ _ [0, 0, 0, 1, 1, 2] _ hsl' hs2).mono ?_
  rintro e w4 ⟨rfl, nq, hw4⟩
  have hb4 : Below w3.heap.size w3 w4 := by rw [hw4]; exact below_drewN ((Below.refl _ _).alloc (Nat.le_refl _) _) _
  have hw5 := hw3.keep (Kept.of_below hb4 (Nat.le_refl _) []) (by simp) (by simp)
  clear hw4 hw3 hs2 hsl' hsl
  go_wp2_with fail
  refine (len_any _ _ _ _ hw5).mono ?_
  rintro e w' ⟨rfl, rfl⟩
  go_wp2_with fail
  go_ret
  refine ⟨rfl, (hb2.trans (hb3.mono hb2.size)).trans (hb4.mono ?_)⟩
  have := hb2.size
  have := hb3.size
  omega
end Go.Proofs.Ythkgdeehehjpmaa.oc
