/-
  Spans as pairs of numbers: the reference's other calls; hulls; the laws. Imports nothing of the program.
-/
import Derived.Test.YtdoedcfmhdnbgaaSpnX
namespace Go.Proofs.Ytdoedcfmhdnbgaa.sp
set_option linter.unusedVariables false

theorem len_fit {s : Int × Int} (h : Ok s) : lenI s = s.2 - s.1 := by
  unfold lenI
  rw [show fitP s.1 s.2 = s from fit_self (f := s.1) (t := s.2) h]
theorem len_ofP (s : Int × Int) : lenI (ofP s) = lenI s := by
  rw [len_fit (of_ok s), len_of]
theorem of_lt (s : Int × Int) : ofP s = (0, 0) ∨ (ofP s = s ∧ Ok s ∧ s.1 < s.2) := by
  rcases of_cases s with ⟨h, h1, h2, _⟩ | ⟨h, _⟩
  · exact .inr ⟨h, h1, h2⟩
  · exact .inl h
theorem meet_of (s t : Int × Int) : meetP s t = betw (max (ofP s).1 (ofP t).1) (min (ofP s).2 (ofP t).2) := by
  rw [← rmeet_eq]
  unfold rmeetP
  have hs := of_ok s
  have ht := of_ok t
  unfold Ok at hs ht
  rw [of_betw (by split <;> omega) (by split <;> omega)]
  congr 1
  · split <;> omega
  · split <;> omega
theorem holds_eq (s t : Int × Int) : decide (meetP s t = ofP t) = holdsB s t := by
  unfold holdsB
  by_cases h : lenI t = 0
  · rw [decide_eq_true h, Bool.true_or, decide_eq_true]
    rcases of_cases t with ⟨h1, h2, h3, _⟩ | ⟨h1, _⟩
    · rw [len_fit h2] at h; omega
    · rw [meet_of, h1]
      have hs := of_ok s
      unfold Ok at hs
      unfold betw
      rw [if_pos (by simp; omega)]
  · rw [decide_eq_false h, Bool.false_or]
    rcases of_cases t with ⟨h1, h2, h3, _⟩ | ⟨h1, h2, _⟩
    · rw [h1]
    · exact absurd h2 h
theorem touch_no (s t : Int × Int) (h : lenI s = 0 ∨ lenI t = 0) : touchB s t = false := by
  unfold touchB
  rcases h with h | h <;> simp [h]
theorem touch_eq (s t : Int × Int) (hs : lenI s ≠ 0) (ht : lenI t ≠ 0) :
    (decide (lenI (meetP (ofP s) (ofP t)) > 0) || decide ((ofP s).2 = (ofP t).1) || decide ((ofP t).2 = (ofP s).1)) = touchB s t := by
  have h1 : ofP s = s ∧ Ok s ∧ s.1 < s.2 := by
    rcases of_cases s with ⟨h1, h2, h3, _⟩ | ⟨_, h2, _⟩
    · exact ⟨h1, h2, h3⟩
    · exact absurd h2 hs
  have h2 : ofP t = t ∧ Ok t ∧ t.1 < t.2 := by
    rcases of_cases t with ⟨h1, h2, h3, _⟩ | ⟨_, h2, _⟩
    · exact ⟨h1, h2, h3⟩
    · exact absurd h2 ht
  rw [h1.1, h2.1, len_fit (meet_ok _ _), meet_of, h1.1, h2.1]
  unfold touchB betw
  obtain ⟨_, o1, l1⟩ := h1
  obtain ⟨_, o2, l2⟩ := h2
  unfold Ok at o1 o2
  rw [Bool.eq_iff_iff]
  split <;> simp [hs, ht] <;> omega
theorem below_no (s : Int × Int) (o : Int) (h : o < 0) : belowP s o = (0, 0) := by
  have := fit_ok s.1 s.2
  unfold Ok at this
  unfold belowP betw
  rw [if_pos (by omega)]
theorem below_eq (s : Int × Int) (o : Int) (h : 0 ≤ o) : meetP s (0, min o 4611686018427387904) = belowP s o := by
  have := fit_ok s.1 s.2
  unfold meetP belowP
  rw [fit_self (f := 0) (t := min o 4611686018427387904) ⟨by simp, by simp; omega, by simp; omega⟩]
  unfold Ok at this
  congr 1 <;> simp <;> omega
theorem from_no (s : Int × Int) (o : Int) (h : 4611686018427387904 < o) : fromP s o = (0, 0) := by
  have := fit_ok s.1 s.2
  unfold Ok at this
  unfold fromP betw
  rw [if_pos (by omega)]
theorem from_eq (s : Int × Int) (o : Int) (h : o ≤ 4611686018427387904) : meetP s (max o 0, 4611686018427387904) = fromP s o := by
  have := fit_ok s.1 s.2
  unfold meetP fromP
  rw [fit_self (f := max o 0) (t := 4611686018427387904) ⟨by simp; omega, by simp; omega, by simp⟩]
  unfold Ok at this
  congr 1 <;> simp <;> omega

/-- a hull so far -/
def Inv (h : Int × Int) : Prop := h = (0, 0) ∨ (Ok h ∧ h.1 < h.2)
theorem wider_inv {h : Int × Int} (s : Int × Int) (hi : Inv h) : Inv (widerP h s) := by
  unfold widerP
  by_cases h0 : lenI s = 0
  · rw [if_pos h0]; exact hi
  · rw [if_neg h0]
    have hs : Ok s ∧ s.1 < s.2 := by
      rcases of_cases s with ⟨_, h2, h3, _⟩ | ⟨_, h2, _⟩
      · exact ⟨h2, h3⟩
      · exact absurd h2 h0
    split
    · exact .inr hs
    · rename_i hne
      rcases hi with rfl | ⟨h1, h2⟩
      · exact absurd rfl hne
      · obtain ⟨k1, k2⟩ := hs
        unfold Ok at h1 k1
        exact .inr ⟨⟨by simp; omega, by simp; omega, by simp; omega⟩, by simp; omega⟩
theorem hull_inv (l : List (Int × Int)) (h : Int × Int) (hi : Inv h) : Inv (l.foldl widerP h) := by
  induction l generalizing h with
  | nil => exact hi
  | cons a l ih => exact ih _ (wider_inv a hi)
theorem hullP_inv (l : List (Int × Int)) : Inv (hullP l) := hull_inv l _ (.inl rfl)
theorem hullP_snoc (l : List (Int × Int)) (s : Int × Int) : hullP (l ++ [s]) = widerP (hullP l) s := by
  unfold hullP
  rw [List.foldl_append]
  rfl
/-- the reference's step, of a span that is not empty -/
theorem wider_none (h s : Int × Int) (h0 : lenI s = 0) : widerP h s = h := by unfold widerP; rw [if_pos h0]
theorem wider_first (s : Int × Int) (h0 : lenI s ≠ 0) : widerP (0, 0) s = s := by unfold widerP; rw [if_neg h0, if_pos rfl]
theorem inv_len {h : Int × Int} (hi : Inv h) : (lenI h = 0 ↔ h = (0, 0)) := by
  rcases hi with rfl | ⟨h1, h2⟩
  · exact ⟨fun _ => rfl, fun _ => rfl⟩
  · rw [len_fit h1]
    constructor
    · intro h; omega
    · intro h; rw [h] at h2; simp at h2
theorem wider_more {h s : Int × Int} (h0 : lenI s ≠ 0) (h1 : h ≠ (0, 0)) : widerP h s = (min h.1 s.1, max h.2 s.2) := by unfold widerP; rw [if_neg h0, if_neg h1]
theorem of_self {s : Int × Int} (h0 : lenI s ≠ 0) : ofP s = s ∧ Ok s ∧ s.1 < s.2 := by
  rcases of_cases s with ⟨h1, h2, h3, _⟩ | ⟨_, h2, _⟩
  · exact ⟨h1, h2, h3⟩
  · exact absurd h2 h0

/-! ### The laws -/
theorem hull_two (s t : Int × Int) : hullP [s, t] = widerP (widerP (0, 0) s) t := rfl
theorem parts_len (s : Int × Int) (o : Int) : lenI (belowP s o) + lenI (fromP s o) = lenI s := by
  have hs := fit_ok s.1 s.2
  have h1 : Ok (belowP s o) := by unfold Ok at hs; exact betw_ok (by omega) (by omega)
  have h2 : Ok (fromP s o) := by unfold Ok at hs; exact betw_ok (by omega) (by omega)
  rw [len_fit h1, len_fit h2]
  unfold lenI belowP fromP betw
  unfold Ok at hs
  split <;> split <;> simp <;> omega
theorem parts_meet (s : Int × Int) (o : Int) : lenI (meetP (belowP s o) (fromP s o)) = 0 := by
  have hs := fit_ok s.1 s.2
  have h1 : Ok (belowP s o) := by unfold Ok at hs; exact betw_ok (by omega) (by omega)
  have h2 : Ok (fromP s o) := by unfold Ok at hs; exact betw_ok (by omega) (by omega)
  rw [len_fit (meet_ok _ _)]
  unfold meetP
  rw [show fitP (belowP s o).1 (belowP s o).2 = belowP s o from fit_self h1, show fitP (fromP s o).1 (fromP s o).2 = fromP s o from fit_self h2]
  unfold Ok at hs
  unfold belowP fromP betw
  (repeat' split) <;> simp at * <;> omega
theorem parts_cases (s : Int × Int) (o : Int) (hf : fitP s.1 s.2 = s) (h : s.1 < s.2) :
    (belowP s o = (0, 0) ∧ fromP s o = s) ∨ (s.1 < o ∧ o < s.2 ∧ belowP s o = (s.1, o) ∧ fromP s o = (o, s.2)) ∨ (belowP s o = s ∧ fromP s o = (0, 0)) := by
  unfold belowP fromP betw
  rw [hf]
  by_cases h1 : o ≤ s.1
  · left
    rw [if_pos (by omega), if_neg (by omega)]
    exact ⟨rfl, by ext <;> simp; omega⟩
  · by_cases h2 : o < s.2
    · right; left
      rw [if_neg (by omega), if_neg (by omega)]
      exact ⟨by omega, h2, by ext <;> simp; omega, by ext <;> simp; omega⟩
    · right; right
      rw [if_neg (by omega), if_pos (by omega)]
      exact ⟨by ext <;> simp; omega, rfl⟩
theorem parts_zero (s : Int × Int) (o : Int) (hf : (fitP s.1 s.2).1 = (fitP s.1 s.2).2) : belowP s o = (0, 0) ∧ fromP s o = (0, 0) := by
  unfold belowP fromP betw
  rw [if_pos (by omega), if_pos (by omega)]
  exact ⟨rfl, rfl⟩
theorem parts_hull (s : Int × Int) (o : Int) : hullP [belowP s o, fromP s o] = ofP s := by
  rw [hull_two]
  rcases of_cases s with ⟨h, h3, h4, hf⟩ | ⟨h, _, he⟩
  · rw [h]
    have hl : lenI s ≠ 0 := by rw [len_fit h3]; omega
    unfold Ok at h3
    rcases parts_cases s o hf h4 with ⟨e1, e2⟩ | ⟨l1, l2, e1, e2⟩ | ⟨e1, e2⟩
    · rw [e1, e2, show widerP (0, 0) (0, 0) = (0, 0) from rfl, wider_first _ hl]
    · have k1 : lenI (s.1, o) ≠ 0 := by rw [len_fit ⟨by simp; omega, by simp; omega, by simp; omega⟩]; simp; omega
      have k2 : lenI (o, s.2) ≠ 0 := by rw [len_fit ⟨by simp; omega, by simp; omega, by simp; omega⟩]; simp; omega
      rw [e1, e2, wider_first _ k1, wider_more k2 (by intro h; injection h with h1 h2; omega)]
      ext <;> simp <;> omega
    · rw [e1, e2, wider_first _ hl, wider_none _ _ rfl]
  · obtain ⟨e1, e2⟩ := parts_zero s o he
    rw [e1, e2, h]
    rfl
theorem parts_has (s : Int × Int) (o : Int) : hasB (belowP s o) o = false := by
  have hs := fit_ok s.1 s.2
  have h1 : Ok (belowP s o) := by unfold Ok at hs; exact betw_ok (by omega) (by omega)
  unfold hasB
  rw [show fitP (belowP s o).1 (belowP s o).2 = belowP s o from fit_self h1]
  unfold Ok at hs
  unfold belowP betw
  rw [Bool.eq_false_iff]
  intro h
  split at h <;> simp at h <;> omega
theorem parts_from (s : Int × Int) (o : Int) (h : lenI (fromP s o) ≠ 0) : o ≤ (fromP s o).1 := by
  unfold fromP betw at *
  by_cases h1 : (fitP s.1 s.2).2 ≤ max (fitP s.1 s.2).1 o
  · rw [if_pos h1] at h
    exact absurd rfl h
  · rw [if_neg h1]
    simp
    omega
theorem touch_meet (s t : Int × Int) (h : touchB s t = false) : lenI (meetP s t) = 0 := by
  rw [len_fit (meet_ok _ _), meet_of]
  unfold touchB at h
  rcases of_cases s with ⟨e1, o1, l1, f1⟩ | ⟨e1, _, _⟩
  · rcases of_cases t with ⟨e2, o2, l2, f2⟩ | ⟨e2, _, _⟩
    · rw [len_fit o1, len_fit o2] at h
      rw [e1, e2]
      unfold Ok at o1 o2
      unfold betw
      simp at h
      split <;> simp <;> omega
    · rw [e2]
      have := of_ok s
      unfold Ok at this
      unfold betw
      split <;> simp at * <;> omega
  · rw [e1]
    have := of_ok t
    unfold Ok at this
    unfold betw
    split <;> simp at * <;> omega
theorem touch_hull (s t : Int × Int) (h : touchB s t = true) : lenI (hullP [s, t]) + lenI (meetP s t) = lenI s + lenI t := by
  have h' := h
  unfold touchB at h'
  simp at h'
  obtain ⟨⟨⟨h1, h2⟩, h3⟩, h4⟩ := h'
  obtain ⟨e1, o1, l1⟩ := of_self h1
  obtain ⟨e2, o2, l2⟩ := of_self h2
  have hi := hullP_inv [s, t]
  rw [hull_two, wider_first _ h1] at *
  have hne : s ≠ (0, 0) := by intro h; rw [h] at l1; simp at l1
  rw [wider_more h2 hne] at *
  have ho : Ok (min s.1 t.1, max s.2 t.2) := by
    unfold Ok at o1 o2 ⊢
    exact ⟨by simp; omega, by simp; omega, by simp; omega⟩
  rw [len_fit ho, len_fit (meet_ok _ _), len_fit o1, len_fit o2, meet_of, e1, e2]
  unfold Ok at o1 o2
  unfold betw
  split <;> simp <;> omega
theorem touch_comm (s t : Int × Int) : touchB t s = touchB s t := by
  unfold touchB
  rw [Bool.eq_iff_iff]
  simp
  constructor <;> (rintro ⟨⟨⟨h1, h2⟩, h3⟩, h4⟩; exact ⟨⟨⟨h2, h1⟩, h4⟩, h3⟩)
end Go.Proofs.Ytdoedcfmhdnbgaa.sp
