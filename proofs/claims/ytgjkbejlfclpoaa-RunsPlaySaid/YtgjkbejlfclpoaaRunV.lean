/-
  What Add and Remove answer, and what they leave, as lists. Imports nothing of the program.
-/
import Derived.Test.YtgjkbejlfclpoaaRunZ
namespace Go.Proofs.Ytgjkbejlfclpoaa.rn
open Go.RowKit aid sp
set_option linter.unusedVariables false

theorem bytes_zero {l : List Sp} (h : ∀ x ∈ l, ROk x) (h0 : bytesL l = 0) : l = [] := by
  cases l with
  | nil => rfl
  | cons x l =>
    have hx := h x (by simp)
    have := hx.2.1
    have hb : 0 ≤ bytesL l := by
      clear h0
      induction l with
      | nil => rw [bytes_nil]; omega
      | cons y l ih =>
        have := ih (fun z hz => h z (by simp at hz ⊢; rcases hz with hz | hz; exact .inl hz; exact .inr (.inr hz)))
        have hy := h y (by simp)
        have := hy.2.1
        rw [bytes_cons, len_rok hy]; omega
    rw [bytes_cons, len_rok hx] at h0
    omega
theorem came_none {l : List Sp} {s : Sp} (hl : Rn l) (hs : ROk s) (h : lenI s - withinL l s = 0) : refWi l s = l := by
  obtain ⟨w1, w2, _⟩ := wi_spec hl hs
  obtain ⟨g1, g2, g3, g4⟩ := gaps_all s hl
  have hg : gapsL l s = [] := bytes_zero (by rw [← g2]; exact g1.ok) (by rw [g4]; exact h)
  refine Rn.ext w1 hl (fun o => ?_)
  rw [w2]
  constructor
  · rintro (a | a)
    · exact a
    · by_cases c : In l o
      · exact c
      · have := (g3 o).2 ⟨by rw [fit_of hs.ok]; exact a, c⟩
        rw [hg] at this
        exact absurd this In.nil
  · exact fun a => .inl a
theorem went_none {l : List Sp} {s : Sp} (hl : Rn l) (hs : Ok s) (h : withinL l s = 0) : refWo l s = l := by
  by_cases h0 : lenI s = 0
  · unfold refWo; rw [if_pos h0]
  · have hk := rok_of hs h0
    obtain ⟨w1, w2, _⟩ := wo_spec hl hk
    obtain ⟨p1, p2, p3, _⟩ := parts_spec s hl
    have hp : partsL l s = [] := bytes_zero p1.ok (by rw [p3]; exact h)
    unfold refWo
    rw [if_neg h0]
    refine Rn.ext w1 hl (fun o => ?_)
    rw [w2]
    constructor
    · exact fun a => a.1
    · intro a
      refine ⟨a, fun b => ?_⟩
      have := (p2 o).2 ⟨a, by rw [fit_of hs]; exact b⟩
      rw [hp] at this
      exact In.nil this
/-- where what touches s begins and ends -/
def lo1 (l : List Sp) (s : Sp) : Nat := plc (fun x => decide (s.1 ≤ x.2)) l
def hi1 (l : List Sp) (s : Sp) : Nat := plc (fun x => decide (s.2 < x.1)) l
def hi2 (l : List Sp) (s : Sp) : Nat := plc (fun x => decide (s.2 ≤ x.1)) l
theorem lo1_spec {l : List Sp} (s : Sp) (hl : Rn l) : lo1 l s ≤ l.length ∧ (∀ x ∈ l.take (lo1 l s), x.2 < s.1) ∧ (∀ x ∈ l.drop (lo1 l s), s.1 ≤ x.2) := by
  have hf := plc_found (q := fun x => decide (s.1 ≤ x.2)) (l := l) (hl.mono2' s.1)
  obtain ⟨h1, h2⟩ := Found.take (q := fun x => decide (s.1 ≤ x.2)) hf rfl
  exact ⟨hf.le, fun x hx => by have := of_decide_eq_false (h1 x hx); omega, fun x hx => of_decide_eq_true (h2 x hx)⟩
theorem hi1_spec {l : List Sp} (s : Sp) (hl : Rn l) : hi1 l s ≤ l.length ∧ (∀ x ∈ l.take (hi1 l s), x.1 ≤ s.2) ∧ (∀ x ∈ l.drop (hi1 l s), s.2 < x.1) := by
  have hf := plc_found (q := fun x => decide (s.2 < x.1)) (l := l) (hl.mono1 s.2)
  obtain ⟨h1, h2⟩ := Found.take (q := fun x => decide (s.2 < x.1)) hf rfl
  exact ⟨hf.le, fun x hx => by have := of_decide_eq_false (h1 x hx); omega, fun x hx => of_decide_eq_true (h2 x hx)⟩
theorem hi2_spec {l : List Sp} (s : Sp) (hl : Rn l) : hi2 l s ≤ l.length ∧ (∀ x ∈ l.take (hi2 l s), x.1 < s.2) ∧ (∀ x ∈ l.drop (hi2 l s), s.2 ≤ x.1) := by
  have hf := plc_found (q := fun x => decide (s.2 ≤ x.1)) (l := l) (hl.mono1' s.2)
  obtain ⟨h1, h2⟩ := Found.take (q := fun x => decide (s.2 ≤ x.1)) hf rfl
  exact ⟨hf.le, fun x hx => by have := of_decide_eq_false (h1 x hx); omega, fun x hx => of_decide_eq_true (h2 x hx)⟩
theorem take_mem {l : List Sp} {i k : Nat} (h : i < k) (hl : i < l.length) : l.getD i (0, 0) ∈ l.take k := by
  have h1 : i < (l.take k).length := by rw [List.length_take]; omega
  have e : (l.take k)[i] = l.getD i (0, 0) := by simp [List.getD, hl]
  rw [← e]; exact List.getElem_mem _
theorem drop_mem {l : List Sp} {i k : Nat} (h : k ≤ i) (hl : i < l.length) : l.getD i (0, 0) ∈ l.drop k := by
  have h1 : i - k < (l.drop k).length := by rw [List.length_drop]; omega
  have e : (l.drop k)[i - k] = l.getD i (0, 0) := by
    rw [List.getElem_drop]
    simp [List.getD, hl, show k + (i - k) = i by omega]
  rw [← e]; exact List.getElem_mem _
theorem lo1_hi1 {l : List Sp} {s : Sp} (hl : Rn l) (hs : ROk s) : lo1 l s ≤ hi1 l s := by
  obtain ⟨a1, a2, a3⟩ := lo1_spec s hl
  obtain ⟨b1, b2, b3⟩ := hi1_spec s hl
  by_cases c : lo1 l s ≤ hi1 l s
  · exact c
  · exfalso
    have h1 := a2 _ (take_mem (show hi1 l s < lo1 l s by omega) (by omega))
    have h2 := b3 _ (drop_mem (Nat.le_refl _) (show hi1 l s < l.length by omega))
    have := (hl.ok _ (getD_mem (show hi1 l s < l.length by omega))).2.1
    have := hs.2.1
    omega
theorem bhd_hi2 {l : List Sp} {s : Sp} (hl : Rn l) (hs : ROk s) (hw : withinL l s ≠ 0) : bhd l s.1 < hi2 l s := by
  obtain ⟨a1, a2, a3⟩ := bhd_spec hl s.1
  obtain ⟨b1, b2, b3⟩ := hi2_spec s hl
  by_cases c : bhd l s.1 < hi2 l s
  · exact c
  · exfalso
    apply hw
    obtain ⟨p1, p2, p3, _⟩ := parts_spec s hl
    rw [← p3]
    have hp : partsL l s = [] := by
      cases hq : partsL l s with
      | nil => rfl
      | cons x t =>
        exfalso
        have hx := (p1.ok x (by rw [hq]; simp))
        obtain ⟨⟨y, hy, h1, h2⟩, h3⟩ := (p2 x.1).1 (by rw [hq]; exact ⟨x, by simp, Int.le_refl _, hx.2.1⟩)
        rw [fit_of hs.ok] at h3
        have hy' := hy
        rw [← List.take_append_drop (hi2 l s) l] at hy'
        rcases List.mem_append.1 hy' with h | h
        · have hm : y ∈ l.take (bhd l s.1) := by
            have e : l.take (hi2 l s) = (l.take (bhd l s.1)).take (hi2 l s) := by rw [List.take_take]; congr 1; omega
            rw [e] at h
            exact List.mem_of_mem_take h
          have := a2 y hm
          omega
        · have := b3 y h
          omega
    rw [hp, bytes_nil]
/-- how many came, what is told, what the set is then -/
def addN (l : List Sp) (s : Sp) : Int × Int × List Sp :=
  if mayB s.1 s.2 = true then (if lenI s - withinL l s = 0 then (0, 0, l) else if 4096 < (refWi l s).length then (0, 4, l) else (lenI s - withinL l s, 0, refWi l s)) else (0, 3, l)
def remN (l : List Sp) (s : Sp) : Int × Int × List Sp :=
  if mayB s.1 s.2 = true then (if withinL l s = 0 then (0, 0, l) else if 4096 < (refWo l s).length then (0, 4, l) else (withinL l s, 0, refWo l s)) else (0, 3, l)
theorem wi_rn {l : List Sp} {s : Sp} (hl : Rn l) (hs : Ok s) : Rn (refWi l s) := by
  by_cases h0 : lenI s = 0
  · unfold refWi; rw [if_pos h0]; exact hl
  · exact (wi_spec hl (rok_of hs h0)).1
theorem wo_rn {l : List Sp} {s : Sp} (hl : Rn l) (hs : Ok s) : Rn (refWo l s) := by
  by_cases h0 : lenI s = 0
  · unfold refWo; rw [if_pos h0]; exact hl
  · unfold refWo; rw [if_neg h0]; exact (wo_spec hl (rok_of hs h0)).1
theorem addN_rn {l : List Sp} {s : Sp} (hl : Rn l) : Rn (addN l s).2.2 := by
  unfold addN
  by_cases h : mayB s.1 s.2 = true
  · rw [if_pos h]
    have hs : Ok s := mayB_iff.1 h
    split
    · exact hl
    · split
      · exact hl
      · exact wi_rn hl hs
  · rw [if_neg h]; exact hl
theorem remN_rn {l : List Sp} {s : Sp} (hl : Rn l) : Rn (remN l s).2.2 := by
  unfold remN
  by_cases h : mayB s.1 s.2 = true
  · rw [if_pos h]
    have hs : Ok s := mayB_iff.1 h
    split
    · exact hl
    · split
      · exact hl
      · exact wo_rn hl hs
  · rw [if_neg h]; exact hl
/-- where there is room, it is what the reference says -/
theorem addN_ok {l : List Sp} {s : Sp} (hl : Rn l) (hs : Ok s) (hr : (refWi l s).length ≤ 4096) : addN l s = (bytesL (refWi l s) - bytesL l, 0, refWi l s) := by
  unfold addN
  rw [if_pos (mayB_iff.2 hs)]
  have hb : bytesL (refWi l s) - bytesL l = lenI s - withinL l s := by
    by_cases h0 : lenI s = 0
    · have e : refWi l s = l := by unfold refWi; rw [if_pos h0]
      have hw : withinL l s = 0 := by rw [← (parts_spec s hl).2.2.1, parts_none hl.ok h0]; rfl
      rw [e, hw, h0]; omega
    · exact (wi_spec hl (rok_of hs h0)).2.2
  by_cases h : lenI s - withinL l s = 0
  · rw [if_pos h]
    have e : refWi l s = l := by
      by_cases h0 : lenI s = 0
      · unfold refWi; rw [if_pos h0]
      · exact came_none hl (rok_of hs h0) h
    rw [e]; simp
  · rw [if_neg h, if_neg (by omega), hb]
theorem remN_ok {l : List Sp} {s : Sp} (hl : Rn l) (hs : Ok s) (hr : (refWo l s).length ≤ 4096) : remN l s = (bytesL l - bytesL (refWo l s), 0, refWo l s) := by
  unfold remN
  rw [if_pos (mayB_iff.2 hs)]
  have hb : bytesL l - bytesL (refWo l s) = withinL l s := by
    by_cases h0 : lenI s = 0
    · have e : refWo l s = l := by unfold refWo; rw [if_pos h0]
      have hw : withinL l s = 0 := by rw [← (parts_spec s hl).2.2.1, parts_none hl.ok h0]; rfl
      rw [e, hw]; omega
    · have := (wo_spec hl (rok_of hs h0)).2.2.1
      unfold refWo; rw [if_neg h0]; omega
  by_cases h : withinL l s = 0
  · rw [if_pos h, went_none hl hs h]; simp
  · rw [if_neg h, if_neg (by omega), hb]
theorem wo_len (l : List Sp) (s : Sp) (hl : Rn l) (hs : Ok s) : (refWo l s).length ≤ l.length + 1 := by
  by_cases h0 : lenI s = 0
  · unfold refWo; rw [if_pos h0]; omega
  · have hk := rok_of hs h0
    by_cases hw : withinL l s = 0
    · rw [went_none hl hs hw]; omega
    · obtain ⟨a1, a2, a3⟩ := bhd_spec hl s.1
      obtain ⟨b1, b2, b3⟩ := hi2_spec s hl
      have hlt := bhd_hi2 hl hk hw
      rw [← rem_at (0, 0) hl hk hlt b1 a2 a3 b2 b3]
      unfold remAt
      have h1 : ∀ x : Sp, (ne x).length ≤ 1 := fun x => by unfold ne; split <;> simp
      have h2 := h1 (belowP (l.getD (bhd l s.1) (0, 0)) s.1)
      have h3 := h1 (fromP (l.getD (hi2 l s - 1) (0, 0)) s.2)
      simp only [List.length_append, List.length_take, List.length_drop]
      omega
theorem wi_len (l : List Sp) (s : Sp) (hl : Rn l) (hs : Ok s) : (refWi l s).length ≤ l.length + 1 := by
  by_cases h0 : lenI s = 0
  · unfold refWi; rw [if_pos h0]; omega
  · have hk := rok_of hs h0
    obtain ⟨a1, a2, a3⟩ := lo1_spec s hl
    obtain ⟨b1, b2, b3⟩ := hi1_spec s hl
    have hlt := lo1_hi1 hl hk
    rw [← add_at hl hk hlt a2 a3 b2 b3]
    unfold addAt
    simp only [List.length_append, List.length_take, List.length_drop, List.length_singleton]
    omega
end Go.Proofs.Ytgjkbejlfclpoaa.rn
