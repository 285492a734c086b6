/-
  Spans as pairs of numbers. Imports nothing of the program.
-/
import Derived.Test.YtdoedcfmhdnbgaaAid
namespace Go.Proofs.Ytdoedcfmhdnbgaa.sp
set_option linter.unusedVariables false

def mayB (f t : Int) : Bool := decide (0 ≤ f) && decide (f ≤ t) && decide (t ≤ 4611686018427387904)
theorem mayB_iff {f t : Int} : mayB f t = true ↔ 0 ≤ f ∧ f ≤ t ∧ t ≤ 4611686018427387904 := by
  unfold mayB
  simp [and_assoc]
def fitP (f t : Int) : Int × Int := if mayB f t = true then (f, t) else (0, 0)
def betw (a b : Int) : Int × Int := if b ≤ a then (0, 0) else (a, b)
/-- 0 ≤ From ≤ To ≤ MaxOff -/
def Ok (p : Int × Int) : Prop := 0 ≤ p.1 ∧ p.1 ≤ p.2 ∧ p.2 ≤ 4611686018427387904
theorem fit_ok (f t : Int) : Ok (fitP f t) := by
  unfold fitP Ok
  split
  · exact mayB_iff.1 (by assumption)
  · simp
theorem fit_self {f t : Int} (h : Ok (f, t)) : fitP f t = (f, t) := by
  unfold fitP; rw [if_pos (mayB_iff.2 h)]
theorem betw_ok {a b : Int} (h0 : 0 ≤ a) (h1 : b ≤ 4611686018427387904) : Ok (betw a b) := by
  unfold betw Ok
  split <;> simp <;> omega

def lenI (s : Int × Int) : Int := (fitP s.1 s.2).2 - (fitP s.1 s.2).1
def hasB (s : Int × Int) (o : Int) : Bool := decide ((fitP s.1 s.2).1 ≤ o) && decide (o < (fitP s.1 s.2).2)
def meetP (s t : Int × Int) : Int × Int := betw (max (fitP s.1 s.2).1 (fitP t.1 t.2).1) (min (fitP s.1 s.2).2 (fitP t.1 t.2).2)
def touchB (s t : Int × Int) : Bool := decide (lenI s ≠ 0) && decide (lenI t ≠ 0) && decide (s.1 ≤ t.2) && decide (t.1 ≤ s.2)
def holdsB (s t : Int × Int) : Bool := decide (lenI t = 0) || decide (meetP s t = t)
def belowP (s : Int × Int) (o : Int) : Int × Int := betw (fitP s.1 s.2).1 (min (fitP s.1 s.2).2 o)
def fromP (s : Int × Int) (o : Int) : Int × Int := betw (max (fitP s.1 s.2).1 o) (fitP s.1 s.2).2
def widerP (h s : Int × Int) : Int × Int := if lenI s = 0 then h else if h = (0, 0) then s else (min h.1 s.1, max h.2 s.2)
def hullP (l : List (Int × Int)) : Int × Int := l.foldl widerP (0, 0)
def cmpI (s t : Int × Int) : Int := if s = t then 0 else if s.1 < t.1 ∨ (s.1 = t.1 ∧ s.2 < t.2) then -1 else 1
/-- a span that counts -/
def ofP (s : Int × Int) : Int × Int := if mayB s.1 s.2 = true ∧ s.1 ≠ s.2 then s else (0, 0)

theorem lenI_bd (s : Int × Int) : 0 ≤ lenI s ∧ lenI s ≤ 4611686018427387904 := by
  have := fit_ok s.1 s.2
  unfold Ok at this
  unfold lenI
  omega
theorem of_ok (s : Int × Int) : Ok (ofP s) := by
  unfold ofP Ok
  split
  · exact mayB_iff.1 (by rename_i h; exact h.1)
  · simp
theorem of_cases (s : Int × Int) : (ofP s = s ∧ Ok s ∧ s.1 < s.2 ∧ fitP s.1 s.2 = s) ∨ (ofP s = (0, 0) ∧ lenI s = 0 ∧ (fitP s.1 s.2).1 = (fitP s.1 s.2).2) := by
  unfold ofP lenI fitP
  by_cases h : mayB s.1 s.2 = true
  · have h' := mayB_iff.1 h
    by_cases h2 : s.1 = s.2
    · right
      rw [if_neg (by intro x; exact x.2 h2), if_pos h]
      simp; omega
    · left
      rw [if_pos ⟨h, h2⟩, if_pos h]
      exact ⟨rfl, h', by omega, rfl⟩
  · right
    rw [if_neg (by intro x; exact h x.1), if_neg h]
    simp
theorem len_of (s : Int × Int) : (ofP s).2 - (ofP s).1 = lenI s := by
  rcases of_cases s with ⟨h, _, _, hf⟩ | ⟨h, hl, _⟩
  · rw [h]; unfold lenI; rw [hf]
  · rw [h, hl]; rfl
theorem has_of (s : Int × Int) (o : Int) : (decide ((ofP s).1 ≤ o) && decide (o < (ofP s).2)) = hasB s o := by
  unfold hasB
  rcases of_cases s with ⟨h, _, _, hf⟩ | ⟨h, hl, he⟩
  · rw [h, hf]
  · rw [h, Bool.eq_iff_iff]; simp; omega
theorem meet_ok (s t : Int × Int) : Ok (meetP s t) := by
  have h1 := fit_ok s.1 s.2
  have h2 := fit_ok t.1 t.2
  unfold Ok at h1 h2
  exact betw_ok (by omega) (by omega)
/-- the reference's Meet -/
def rmeetP (s t : Int × Int) : Int × Int :=
  ofP (if (ofP s).1 < (ofP t).1 then (ofP t).1 else (ofP s).1, if (ofP t).2 < (ofP s).2 then (ofP t).2 else (ofP s).2)
theorem of_betw {a b : Int} (h0 : 0 ≤ a) (h1 : b ≤ 4611686018427387904) : ofP (a, b) = betw a b := by
  unfold ofP betw
  by_cases h : b ≤ a
  · rw [if_pos h]
    split
    · rename_i hx
      have := mayB_iff.1 hx.1
      have := hx.2
      simp at *
      omega
    · rfl
  · rw [if_neg h, if_pos ⟨mayB_iff.2 ⟨h0, by simp; omega, h1⟩, by simp; omega⟩]
theorem rmeet_eq (s t : Int × Int) : rmeetP s t = meetP s t := by
  unfold rmeetP meetP
  have hs := of_ok s
  have ht := of_ok t
  have fs := fit_ok s.1 s.2
  have ft := fit_ok t.1 t.2
  unfold Ok at hs ht fs ft
  rw [of_betw (by split <;> omega) (by split <;> omega)]
  unfold betw
  rcases of_cases s with ⟨h, _, _, hf⟩ | ⟨h, hl, he⟩ <;> rcases of_cases t with ⟨k, _, _, kf⟩ | ⟨k, kl, ke⟩ <;> rw [h, k] at *
  all_goals (try rw [hf] at *) <;> (try rw [kf] at *)
  all_goals (repeat' split) <;> first | rfl | (simp at *; omega) | (ext <;> simp at * <;> omega)
end Go.Proofs.Ytdoedcfmhdnbgaa.sp
