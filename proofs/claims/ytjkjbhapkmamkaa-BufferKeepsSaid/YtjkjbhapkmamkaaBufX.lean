/-
  A buffer as numbers and lists; its ring as a list. Imports nothing of the program.
-/
import Derived.Test.YtjkjbhapkmamkaaSpnX
namespace Go.Proofs.Ytjkjbhapkmamkaa.bf
open sp
set_option linter.unusedVariables false

/-- a buffer: where its bytes begin, how many there may be, its bytes -/
structure Bf where
  una : Nat
  most : Nat
  l : List Int
structure Ok (x : Bf) : Prop where
  m0 : 1 ≤ x.most
  m1 : x.most ≤ 65536
  n : x.l.length ≤ x.most
  e : x.una + x.l.length ≤ 4611686018427387904
def wrE (x : Bf) (n : Nat) : Int := if x.most < x.l.length + n then 4 else if 4611686018427387904 < x.una + x.l.length + n then 3 else 0
def wrX (x : Bf) (p : List Int) : Bf := if wrE x p.length = 0 then ⟨x.una, x.most, x.l ++ p⟩ else x
def rdB (x : Bf) (s : Int × Int) : Bool := mayB s.1 s.2 && decide ((x.una : Int) ≤ s.1) && decide (s.2 ≤ (x.una : Int) + x.l.length)
def rdE (x : Bf) (s : Int × Int) : Int := if rdB x s = true then 0 else 3
def rdL (x : Bf) (s : Int × Int) : List Int := if rdB x s = true then (x.l.take (s.2 - x.una).toNat).drop (s.1 - x.una).toNat else []
def frE (x : Bf) (t : Int) : Int := if t < x.una then 11 else if (x.una : Int) + x.l.length < t then 12 else 0
def frX (x : Bf) (t : Int) : Bf := if frE x t = 0 then ⟨t.toNat, x.most, x.l.drop (t - x.una).toNat⟩ else x
theorem wrE_cases (x : Bf) (n : Nat) : (wrE x n = 4 ∧ x.most < x.l.length + n) ∨ (wrE x n = 3 ∧ x.l.length + n ≤ x.most ∧ 4611686018427387904 < x.una + x.l.length + n) ∨ (wrE x n = 0 ∧ x.l.length + n ≤ x.most ∧ x.una + x.l.length + n ≤ 4611686018427387904) := by
  unfold wrE
  split
  · omega
  split <;> omega
theorem Ok.wr {x : Bf} (h : Ok x) (p : List Int) : Ok (wrX x p) := by
  unfold wrX
  split
  · rename_i h0
    rcases wrE_cases x p.length with ⟨h1, _⟩ | ⟨h1, _⟩ | ⟨_, h1, h2⟩
    · omega
    · omega
    · exact ⟨h.m0, h.m1, by simpa using h1, by simp; omega⟩
  · exact h
theorem frE_cases (x : Bf) (t : Int) : (frE x t = 11 ∧ t < x.una) ∨ (frE x t = 12 ∧ (x.una : Int) ≤ t ∧ (x.una : Int) + x.l.length < t) ∨ (frE x t = 0 ∧ (x.una : Int) ≤ t ∧ t ≤ (x.una : Int) + x.l.length) := by
  unfold frE
  split
  · omega
  split <;> omega
theorem Ok.fr {x : Bf} (h : Ok x) (t : Int) : Ok (frX x t) := by
  unfold frX
  split
  · rename_i h0
    have := h.n; have := h.e
    rcases frE_cases x t with ⟨h1, _⟩ | ⟨h1, _⟩ | ⟨_, h1, h2⟩
    · omega
    · omega
    · exact ⟨h.m0, h.m1, by simp; omega, by simp; omega⟩
  · exact h
theorem rdB_iff {x : Bf} {s : Int × Int} : rdB x s = true ↔ 0 ≤ s.1 ∧ s.1 ≤ s.2 ∧ s.2 ≤ 4611686018427387904 ∧ (x.una : Int) ≤ s.1 ∧ s.2 ≤ (x.una : Int) + x.l.length := by
  unfold rdB mayB
  simp
  omega

/-! ### the ring -/
structure Ring (R : List Int) (x : Bf) : Prop where
  len : R.length = x.most
  at_ : ∀ i, i < x.l.length → R[(x.una + i) % x.most]? = x.l[i]?
theorem mod_step (a b m : Nat) (hm : 0 < m) (h : b ≤ m) : (a + b) % m = if a % m + b < m then a % m + b else a % m + b - m := by
  have h1 := Nat.mod_lt a hm
  rcases Nat.lt_or_ge b m with h2 | h2
  · rw [Nat.add_mod, Nat.mod_eq_of_lt h2]
    split
    · rename_i c; exact Nat.mod_eq_of_lt c
    · rename_i c
      rw [Nat.mod_eq_sub_mod (by omega), Nat.mod_eq_of_lt (by omega)]
  · have : b = m := by omega
    subst this
    rw [if_neg (by omega)]
    simp
/-- where the first piece ends, and how much there is of it; and of the second -/
def spl (m s n : Nat) : Nat := min (s % m + n) m
/-- bytes are written -/
def wr1 (R : List Int) (s : Nat) (p : List Int) : List Int := R.take (s % R.length) ++ p.take (spl R.length s p.length - s % R.length) ++ R.drop (spl R.length s p.length)
def wr (R : List Int) (s : Nat) (p : List Int) : List Int := p.drop (spl R.length s p.length - s % R.length) ++ (wr1 R s p).drop (s % R.length + p.length - spl R.length s p.length)
def rd (R : List Int) (s n : Nat) : List Int := (R.take (spl R.length s n)).drop (s % R.length) ++ R.take (s % R.length + n - spl R.length s n)
section
variable {R : List Int} {s : Nat} {p : List Int}
theorem wr1_len (h0 : 0 < R.length) : (wr1 R s p).length = R.length := by
  have := Nat.mod_lt s h0
  unfold wr1 spl
  simp only [List.length_append, List.length_take, List.length_drop]
  omega
theorem wr_len (h0 : 0 < R.length) (hp : p.length ≤ R.length) : (wr R s p).length = R.length := by
  have h1 := wr1_len (s := s) (p := p) h0
  have := Nat.mod_lt s h0
  unfold wr spl at *
  simp only [List.length_append, List.length_drop] at *
  omega
theorem wr_at (h0 : 0 < R.length) (hp : p.length ≤ R.length) (j : Nat) (hj : j < R.length) :
    (wr R s p)[j]? = if s % R.length ≤ j ∧ j < s % R.length + p.length then p[j - s % R.length]? else if j + R.length < s % R.length + p.length then p[j + R.length - s % R.length]? else R[j]? := by
  have h2 := Nat.mod_lt s h0
  unfold wr wr1 spl
  generalize s % R.length = a at *
  by_cases c : a + p.length ≤ R.length
  · have e : min (a + p.length) R.length = a + p.length := by omega
    rw [e]
    have e1 : a + p.length - a = p.length := by omega
    have e2 : a + p.length - (a + p.length) = 0 := by omega
    rw [e1, e2]
    simp only [List.drop_length, List.nil_append, List.drop_zero, List.take_length]
    rw [if_neg (show ¬ j + R.length < a + p.length by omega)]
    by_cases c1 : j < a
    · rw [if_neg (by omega), List.append_assoc, List.getElem?_append_left (by rw [List.length_take]; omega), List.getElem?_take, if_pos c1]
    · by_cases c2 : j < a + p.length
      · rw [if_pos (by omega), List.getElem?_append_left (by rw [List.length_append, List.length_take]; omega), List.getElem?_append_right (by rw [List.length_take]; omega)]
        congr 1
        rw [List.length_take]; omega
      · rw [if_neg (by omega), List.getElem?_append_right (by rw [List.length_append, List.length_take]; omega), List.getElem?_drop]
        congr 1
        rw [List.length_append, List.length_take]; omega
  · have e : min (a + p.length) R.length = R.length := by omega
    rw [e]
    simp only [List.drop_length, List.append_nil]
    by_cases c3 : j + R.length < a + p.length
    · rw [if_neg (by omega), if_pos c3, List.getElem?_append_left (by rw [List.length_drop]; omega), List.getElem?_drop]
      congr 1
      omega
    · rw [if_neg c3, List.getElem?_append_right (by rw [List.length_drop]; omega), List.getElem?_drop]
      have e3 : a + p.length - R.length + (j - (p.drop (R.length - a)).length) = j := by rw [List.length_drop]; omega
      rw [e3]
      by_cases c1 : j < a
      · rw [if_neg (by omega), List.getElem?_append_left (by rw [List.length_take]; omega), List.getElem?_take, if_pos c1]
      · rw [if_pos (by omega), List.getElem?_append_right (by rw [List.length_take]; omega), List.getElem?_take, if_pos (by rw [List.length_take]; omega)]
        congr 1
        rw [List.length_take]; omega
end
theorem Ring.wr {R : List Int} {x : Bf} (h : Ring R x) (ho : Ok x) (p : List Int) (hp : x.l.length + p.length ≤ x.most) : Ring (bf.wr R (x.una + x.l.length) p) ⟨x.una, x.most, x.l ++ p⟩ := by
  have hm := ho.m0
  have hlen := h.len
  have h0 : 0 < R.length := by omega
  have hpl : p.length ≤ R.length := by omega
  refine ⟨by rw [wr_len h0 hpl]; exact hlen, fun i hi => ?_⟩
  simp only [List.length_append] at hi ⊢
  have hat : ∀ j, j < x.l.length → R[(x.una + j) % R.length]? = x.l[j]? := fun j hj => by rw [hlen]; exact h.at_ j hj
  show (bf.wr R (x.una + x.l.length) p)[(x.una + i) % x.most]? = _
  rw [← hlen]
  rw [wr_at h0 hpl _ (Nat.mod_lt _ h0)]
  by_cases hil : i < x.l.length
  · have e := mod_step (x.una + i) (x.l.length - i) R.length h0 (by omega)
    have : x.una + i + (x.l.length - i) = x.una + x.l.length := by omega
    rw [this] at e
    have h3 := Nat.mod_lt (x.una + i) h0
    rw [List.getElem?_append_left hil, ← hat i hil]
    generalize (x.una + x.l.length) % R.length = b at *
    generalize (x.una + i) % R.length = a at *
    rw [if_neg (by split at e <;> omega), if_neg (by split at e <;> omega)]
  · have e := mod_step (x.una + x.l.length) (i - x.l.length) R.length h0 (by omega)
    have : x.una + x.l.length + (i - x.l.length) = x.una + i := by omega
    rw [this] at e
    have h3 := Nat.mod_lt (x.una + x.l.length) h0
    rw [List.getElem?_append_right (by omega)]
    generalize (x.una + x.l.length) % R.length = b at *
    generalize (x.una + i) % R.length = a at *
    split at e
    · rw [if_pos (by omega)]
      congr 1
      omega
    · rw [if_neg (by omega), if_pos (by omega)]
      congr 1
      omega
theorem Ring.rd {R : List Int} {x : Bf} (h : Ring R x) (ho : Ok x) (s n : Nat) (h1 : x.una ≤ s) (h2 : s + n ≤ x.una + x.l.length) : bf.rd R s n = (x.l.drop (s - x.una)).take n := by
  have hm := ho.m0
  have hn := ho.n
  have hlen := h.len
  have h0 : 0 < R.length := by omega
  have hat : ∀ j, j < x.l.length → R[(x.una + j) % R.length]? = x.l[j]? := fun j hj => by rw [hlen]; exact h.at_ j hj
  have h3 := Nat.mod_lt s h0
  apply List.ext_getElem?
  intro i
  rw [List.getElem?_take]
  by_cases hi : i < n
  · rw [if_pos hi, List.getElem?_drop]
    have h4 := hat (s - x.una + i) (by omega)
    have e : x.una + (s - x.una + i) = s + i := by omega
    rw [e] at h4
    rw [← h4, mod_step s i R.length h0 (by omega)]
    unfold bf.rd spl
    generalize s % R.length = a at *
    split
    · rw [List.getElem?_append_left (by rw [List.length_drop, List.length_take]; omega), List.getElem?_drop, List.getElem?_take, if_pos (by omega)]
    · rw [List.getElem?_append_right (by rw [List.length_drop, List.length_take]; omega), List.getElem?_take, if_pos (by rw [List.length_drop, List.length_take]; omega)]
      congr 1
      rw [List.length_drop, List.length_take]; omega
  · rw [if_neg hi, List.getElem?_eq_none]
    unfold bf.rd spl
    generalize s % R.length = a at *
    rw [List.length_append, List.length_drop, List.length_take, List.length_take]
    omega
theorem Ring.fr {R : List Int} {x : Bf} (h : Ring R x) (t : Nat) (h1 : x.una ≤ t) (h2 : t ≤ x.una + x.l.length) : Ring R ⟨t, x.most, x.l.drop (t - x.una)⟩ := by
  refine ⟨h.len, fun i hi => ?_⟩
  simp only [List.length_drop] at hi ⊢
  have := h.at_ (t - x.una + i) (by omega)
  rw [List.getElem?_drop, ← this]
  congr 2
  omega
theorem ring_new (una most : Nat) (R : List Int) (h : R.length = most) : Ring R ⟨una, most, []⟩ := ⟨h, fun i hi => absurd hi (Nat.not_lt_zero i)⟩
theorem rdL_eq {x : Bf} {s : Int × Int} (h : rdB x s = true) : rdL x s = (x.l.drop (s.1.toNat - x.una)).take (s.2 - s.1).toNat ∧ (rdL x s).length = (s.2 - s.1).toNat ∧ x.una ≤ s.1.toNat ∧ s.1.toNat + (s.2 - s.1).toNat ≤ x.una + x.l.length := by
  have hi := rdB_iff.1 h
  unfold rdL
  rw [if_pos h, List.drop_take]
  have e1 : (s.1 - x.una).toNat = s.1.toNat - x.una := by omega
  have e2 : (s.2 - x.una).toNat - (s.1.toNat - x.una) = (s.2 - s.1).toNat := by omega
  rw [e1, e2]
  refine ⟨rfl, ?_, by omega, by omega⟩
  rw [List.length_take, List.length_drop]
  omega
end Go.Proofs.Ytjkjbhapkmamkaa.bf
