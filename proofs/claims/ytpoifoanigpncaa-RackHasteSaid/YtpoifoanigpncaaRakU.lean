/-
  Lists: what is late (RackHaste).
-/
import Derived.Test.YtpoifoanigpncaaRakL
namespace Go.Proofs.Ytpoifoanigpncaa.rk
open Go.RowKit aid mem bk
set_option linter.unusedVariables false

/-- what is late was sent so long ago, and is not lost -/
theorem lt1_mem (O al now : Int) : ∀ (L : List Nd) (acc : List (Int × Int)), ∀ p ∈ (lt1 O al now L acc).1, p ∈ acc ∨ ∃ y ∈ L, p = (y.2.f, y.2.t) ∧ y.2.order < O ∧ y.2.lost = false ∧ y.2.sent + al < now := by
  intro L
  induction L with
  | nil => intro acc p hp; exact .inl hp
  | cons x rest ih =>
    intro acc p hp
    simp only [lt1] at hp
    by_cases h1 : O ≤ x.2.order
    · rw [if_pos h1] at hp; exact .inl hp
    rw [if_neg h1] at hp
    cases h2 : x.2.lost with
    | true =>
      rw [h2] at hp
      rw [if_pos rfl] at hp
      rcases ih acc p hp with h | ⟨y, hy, h⟩
      · exact .inl h
      · exact .inr ⟨y, List.mem_cons_of_mem _ hy, h⟩
    | false =>
      rw [h2] at hp
      rw [if_neg (by simp)] at hp
      by_cases h3 : now ≤ x.2.sent + al
      · rw [if_pos h3] at hp; exact .inl hp
      · rw [if_neg h3] at hp
        rcases ih _ p hp with h | ⟨y, hy, h⟩
        · rcases List.mem_append.1 h with h | h
          · exact .inl h
          · simp at h
            exact .inr ⟨x, by simp, h, by omega, h2, by omega⟩
        · exact .inr ⟨y, List.mem_cons_of_mem _ hy, h⟩
theorem lt1_len (O al now : Int) : ∀ (L : List Nd) (acc : List (Int × Int)), acc.length ≤ (lt1 O al now L acc).1.length ∧ (lt1 O al now L acc).1.length ≤ acc.length + L.length := by
  intro L
  induction L with
  | nil => intro acc; simp [lt1]
  | cons x rest ih =>
    intro acc
    simp only [lt1]
    have h1 := ih acc
    have h2 := ih (acc ++ [(x.2.f, x.2.t)])
    rw [List.length_append] at h2
    simp only [List.length_cons, List.length_nil] at h2 ⊢
    split
    · exact ⟨Nat.le_refl _, by simp⟩
    split
    · exact ⟨h1.1, by omega⟩
    split
    · exact ⟨Nat.le_refl _, by simp⟩
    · exact ⟨by omega, by omega⟩
/-- the next time: not ahead of it, and then one more -/
theorem lt1_next (O al now : Int) : ∀ (L : List Nd) (acc : List (Int × Int)), (lt1 O al now L acc).2.2 = true →
    now < (lt1 O al now L acc).2.1 ∧ (lt1 O al ((lt1 O al now L acc).2.1 - 1) L acc).1.length = (lt1 O al now L acc).1.length ∧ (lt1 O al now L acc).1.length < (lt1 O al (lt1 O al now L acc).2.1 L acc).1.length ∧ ∃ y ∈ L, (lt1 O al now L acc).2.1 = y.2.sent + al + 1 := by
  intro L
  induction L with
  | nil => intro acc h; simp [lt1] at h
  | cons x rest ih =>
    intro acc h
    by_cases h1 : O ≤ x.2.order
    · simp only [lt1] at h; rw [if_pos h1] at h; simp at h
    cases h2 : x.2.lost with
    | true =>
      have e : ∀ t, lt1 O al t (x :: rest) acc = lt1 O al t rest acc := fun t => by simp only [lt1]; rw [if_neg h1, h2, if_pos rfl]
      simp only [e] at h ⊢
      obtain ⟨a, b, c, y, hy, d⟩ := ih acc h
      exact ⟨a, b, c, y, List.mem_cons_of_mem _ hy, d⟩
    | false =>
      have e : ∀ t, lt1 O al t (x :: rest) acc = if t ≤ x.2.sent + al then (acc, x.2.sent + al + 1, true) else lt1 O al t rest (acc ++ [(x.2.f, x.2.t)]) := fun t => by simp only [lt1]; rw [if_neg h1, h2, if_neg (by simp)]
      by_cases h3 : now ≤ x.2.sent + al
      · have e0 : lt1 O al now (x :: rest) acc = (acc, x.2.sent + al + 1, true) := by rw [e, if_pos h3]
        rw [e0]
        simp only
        rw [e, if_pos (by omega), e, if_neg (by omega)]
        refine ⟨by omega, rfl, ?_, x, by simp, rfl⟩
        have := (lt1_len O al (x.2.sent + al + 1) rest (acc ++ [(x.2.f, x.2.t)])).1
        rw [List.length_append] at this
        simp only [List.length_cons, List.length_nil] at this
        omega
      · have e0 : lt1 O al now (x :: rest) acc = lt1 O al now rest (acc ++ [(x.2.f, x.2.t)]) := by rw [e, if_neg h3]
        rw [e0] at h ⊢
        obtain ⟨a, b, c, y, hy, d⟩ := ih _ h
        rw [e, if_neg (by omega), e, if_neg (by omega)]
        exact ⟨a, b, c, y, List.mem_cons_of_mem _ hy, d⟩
end Go.Proofs.Ytpoifoanigpncaa.rk
