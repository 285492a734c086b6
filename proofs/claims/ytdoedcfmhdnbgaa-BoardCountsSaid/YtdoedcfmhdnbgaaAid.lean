/-
  Small facts on numbers, for walks. Imports nothing of the program.
-/
import Derived.WalkKit
import Derived.WalkLawsBesides
import Derived.WalkSpells
import Derived.Handy
import Derived.Lib.Hide
namespace Go.Proofs.Ytdoedcfmhdnbgaa.aid
open Go.RowKit

theorem ret_i {k : IntKind} {a b : Int} (h : a = b) : Ending.returned (.int k a) = .returned (.int k b) := by rw [h]
theorem ret_b {a b : Bool} (h : a = b) : Ending.returned (.bool a) = .returned (.bool b) := by rw [h]

theorem tmod_pos (n m : Int) (h0 : 0 ≤ n) : n.tmod m = n % m := Int.tmod_eq_emod_of_nonneg h0

/-- the remainder cut towards nought, by a modulus above 0 -/
theorem tmod_or (n m : Int) (hm : 0 < m) : (0 ≤ n.tmod m ∧ n.tmod m = n % m) ∨ (n.tmod m < 0 ∧ n.tmod m = n % m - m) := by
  by_cases h0 : 0 ≤ n
  · left
    rw [Int.tmod_eq_emod_of_nonneg h0]
    exact ⟨Int.emod_nonneg _ (by omega), rfl⟩
  · have h := Int.tmod_eq_emod (a := n) (b := m)
    have h1 := Int.emod_nonneg n (b := m) (by omega)
    have h2 := Int.emod_lt_of_pos n hm
    by_cases hd : m ∣ n
    · left
      rw [h]
      have hz : n % m = 0 := Int.emod_eq_zero_of_dvd hd
      simp [hd, hz]
    · right
      rw [h]
      have hz : n % m ≠ 0 := fun e => hd (Int.dvd_of_emod_eq_zero e)
      have ha : (m.natAbs : Int) = m := by omega
      simp [hd, h0, ha]
      omega

theorem w64 (n : Int) (h : -9223372036854775808 ≤ n ∧ n ≤ 9223372036854775807) : wrap64 n = n := by unfold wrap64; omega
theorem w32 (n : Int) (h : -2147483648 ≤ n ∧ n ≤ 2147483647) : wrap32 n = n := by unfold wrap32; omega
theorem w32_bd (n : Int) : -2147483648 ≤ wrap32 n ∧ wrap32 n ≤ 2147483647 := by unfold wrap32; omega

/-- what is told of a slice of integers that came in: it is nil; or it leads to a row of 'cap' cells, the numbers 'zs' (the first 'len' are its elements), each fitting its kind -/
def IsRow (k : IntKind) (w : World) (a : Option Addr) (len cap : Nat) (zs : List Int) : Prop :=
  (a = none ∧ len = 0 ∧ cap = 0 ∧ zs = []) ∨
  ∃ x, a = some x ∧ len ≤ cap ∧ cap ≤ maxLen ∧ zs.length = cap ∧ (∀ i, i < zs.length → w.cell? (x.add i) = some (.int k (zs.getD i 0))) ∧ ∀ n ∈ zs, (Lit.int k n).wf = true

/-- the elements of such a slice: there are none; or they lie at a place -/
theorem IsRow.elems {k : IntKind} {w : World} {a : Option Addr} {len cap : Nat} {zs : List Int} (h : IsRow k w a len cap zs) :
    len = 0 ∨ ∃ b off, a = some ⟨b, off, none⟩ ∧ len ≤ 9223372036854775807 ∧ (zs.take len).length = len ∧ (∀ i, i < len → w.cell? ⟨b, off + i, none⟩ = some (.int k ((zs.take len).getD i 0))) ∧ ∀ n ∈ zs.take len, (Lit.int k n).wf = true := by
  rcases h with ⟨_, h, _, _⟩ | ⟨x, hx, h1, h2, h3, h4, h5⟩
  · exact .inl h
  · by_cases h0 : len = 0
    · exact .inl h0
    · right
      obtain ⟨b, off, rfl, hc⟩ := ints_at h4 (by omega)
      refine ⟨b, off, hx, by unfold maxLen at h2; omega, by simp; omega, ?_, fun n hn => h5 n (List.mem_of_mem_take hn)⟩
      intro i hi
      rw [hc i (by omega)]
      congr 2
      simp [List.getD, hi]

theorem getD_bd {zs : List Int} (P : Int → Prop) (h0 : P 0) (h : ∀ n ∈ zs, P n) (j : Nat) : P (zs.getD j 0) := by
  by_cases hj : j < zs.length
  · simp only [List.getD, List.getElem?_eq_getElem hj, Option.getD_some]
    exact h _ (List.getElem_mem _)
  · simp only [List.getD, List.getElem?_eq_none (Nat.le_of_not_lt hj), Option.getD_none]
    exact h0
end Go.Proofs.Ytdoedcfmhdnbgaa.aid
