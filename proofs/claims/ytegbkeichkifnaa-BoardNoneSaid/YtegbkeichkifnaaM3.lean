/-
  Several texts in one: SpnY SpnQ SpnT SpnH SpnG SpnK Open SpnO App Own SpnS SpnE Kp RunW RunP RngB RunQ
-/
import Derived.OpenShut
import Derived.Deep.Slices
import Derived.ProofKit
import Derived.OwnWalkIn
import Derived.Laws.StructEq
import Derived.Shelf.Abstract
import Derived.RangeFuncWrites
import Derived.Shelf.RegionOpen
import Derived.WalkKit
import Derived.TacticsInMore
import Derived.LoopNIn
import Derived.LoopIn
import Derived.Test.YtegbkeichkifnaaM2
/-!   Spans as pairs of numbers: the reference's other calls; hulls; the laws. Imports nothing of the program.
-/
namespace Go.Proofs.Ytegbkeichkifnaa.sp
set_option linter.unusedVariables false

theorem len_fit {s : Int × Int} (h : Ok s) : lenI s = s.2 - s.1 := by
  unfold lenI
  rw [show fitP s.1 s.2 = s from fit_self (f := s.1) (t := s.2) h]
theorem len_ofP (s : Int × Int) : lenI (ofP s) = lenI s := by
  rw [len_fit (of_ok s), len_of]
theorem of_lt (s : Int × Int) : ofP s = (0, 0) ∨ (ofP s = s ∧ Ok s ∧ s.1 < s.2) := by
  rcases of_cases s with ⟨h, h1, h2, _⟩ | ⟨h, _⟩
  · exact .inr ⟨h, h1, h2⟩
  · exact .inl h
theorem meet_of (s t : Int × Int) : meetP s t = betw (max (ofP s).1 (ofP t).1) (min (ofP s).2 (ofP t).2) := by
  rw [← rmeet_eq]
  unfold rmeetP
  have hs := of_ok s
  have ht := of_ok t
  unfold Ok at hs ht
  rw [of_betw (by split <;> omega) (by split <;> omega)]
  congr 1
  · split <;> omega
  · split <;> omega
theorem holds_eq (s t : Int × Int) : decide (meetP s t = ofP t) = holdsB s t := by
  unfold holdsB
  by_cases h : lenI t = 0
  · rw [decide_eq_true h, Bool.true_or, decide_eq_true]
    rcases of_cases t with ⟨h1, h2, h3, _⟩ | ⟨h1, _⟩
    · rw [len_fit h2] at h; omega
    · rw [meet_of, h1]
      have hs := of_ok s
      unfold Ok at hs
      unfold betw
      rw [if_pos (by simp; omega)]
  · rw [decide_eq_false h, Bool.false_or]
    rcases of_cases t with ⟨h1, h2, h3, _⟩ | ⟨h1, h2, _⟩
    · rw [h1]
    · exact absurd h2 h
theorem touch_no (s t : Int × Int) (h : lenI s = 0 ∨ lenI t = 0) : touchB s t = false := by
  unfold touchB
  rcases h with h | h <;> simp [h]
theorem touch_eq (s t : Int × Int) (hs : lenI s ≠ 0) (ht : lenI t ≠ 0) :
    (decide (lenI (meetP (ofP s) (ofP t)) > 0) || decide ((ofP s).2 = (ofP t).1) || decide ((ofP t).2 = (ofP s).1)) = touchB s t := by
  have h1 : ofP s = s ∧ Ok s ∧ s.1 < s.2 := by
    rcases of_cases s with ⟨h1, h2, h3, _⟩ | ⟨_, h2, _⟩
    · exact ⟨h1, h2, h3⟩
    · exact absurd h2 hs
  have h2 : ofP t = t ∧ Ok t ∧ t.1 < t.2 := by
    rcases of_cases t with ⟨h1, h2, h3, _⟩ | ⟨_, h2, _⟩
    · exact ⟨h1, h2, h3⟩
    · exact absurd h2 ht
  rw [h1.1, h2.1, len_fit (meet_ok _ _), meet_of, h1.1, h2.1]
  unfold touchB betw
  obtain ⟨_, o1, l1⟩ := h1
  obtain ⟨_, o2, l2⟩ := h2
  unfold Ok at o1 o2
  rw [Bool.eq_iff_iff]
  split <;> simp [hs, ht] <;> omega
theorem below_no (s : Int × Int) (o : Int) (h : o < 0) : belowP s o = (0, 0) := by
  have := fit_ok s.1 s.2
  unfold Ok at this
  unfold belowP betw
  rw [if_pos (by omega)]
theorem below_eq (s : Int × Int) (o : Int) (h : 0 ≤ o) : meetP s (0, min o 4611686018427387904) = belowP s o := by
  have := fit_ok s.1 s.2
  unfold meetP belowP
  rw [fit_self (f := 0) (t := min o 4611686018427387904) ⟨by simp, by simp; omega, by simp; omega⟩]
  unfold Ok at this
  congr 1 <;> simp <;> omega
theorem from_no (s : Int × Int) (o : Int) (h : 4611686018427387904 < o) : fromP s o = (0, 0) := by
  have := fit_ok s.1 s.2
  unfold Ok at this
  unfold fromP betw
  rw [if_pos (by omega)]
theorem from_eq (s : Int × Int) (o : Int) (h : o ≤ 4611686018427387904) : meetP s (max o 0, 4611686018427387904) = fromP s o := by
  have := fit_ok s.1 s.2
  unfold meetP fromP
  rw [fit_self (f := max o 0) (t := 4611686018427387904) ⟨by simp; omega, by simp; omega, by simp⟩]
  unfold Ok at this
  congr 1 <;> simp <;> omega

/-- a hull so far -/
def Inv (h : Int × Int) : Prop := h = (0, 0) ∨ (Ok h ∧ h.1 < h.2)
theorem wider_inv {h : Int × Int} (s : Int × Int) (hi : Inv h) : Inv (widerP h s) := by
  unfold widerP
  by_cases h0 : lenI s = 0
  · rw [if_pos h0]; exact hi
  · rw [if_neg h0]
    have hs : Ok s ∧ s.1 < s.2 := by
      rcases of_cases s with ⟨_, h2, h3, _⟩ | ⟨_, h2, _⟩
      · exact ⟨h2, h3⟩
      · exact absurd h2 h0
    split
    · exact .inr hs
    · rename_i hne
      rcases hi with rfl | ⟨h1, h2⟩
      · exact absurd rfl hne
      · obtain ⟨k1, k2⟩ := hs
        unfold Ok at h1 k1
        exact .inr ⟨⟨by simp; omega, by simp; omega, by simp; omega⟩, by simp; omega⟩
theorem hull_inv (l : List (Int × Int)) (h : Int × Int) (hi : Inv h) : Inv (l.foldl widerP h) := by
  induction l generalizing h with
  | nil => exact hi
  | cons a l ih => exact ih _ (wider_inv a hi)
theorem hullP_inv (l : List (Int × Int)) : Inv (hullP l) := hull_inv l _ (.inl rfl)
theorem hullP_snoc (l : List (Int × Int)) (s : Int × Int) : hullP (l ++ [s]) = widerP (hullP l) s := by
  unfold hullP
  rw [List.foldl_append]
  rfl
/-- the reference's step, of a span that is not empty -/
theorem wider_none (h s : Int × Int) (h0 : lenI s = 0) : widerP h s = h := by unfold widerP; rw [if_pos h0]
theorem wider_first (s : Int × Int) (h0 : lenI s ≠ 0) : widerP (0, 0) s = s := by unfold widerP; rw [if_neg h0, if_pos rfl]
theorem inv_len {h : Int × Int} (hi : Inv h) : (lenI h = 0 ↔ h = (0, 0)) := by
  rcases hi with rfl | ⟨h1, h2⟩
  · exact ⟨fun _ => rfl, fun _ => rfl⟩
  · rw [len_fit h1]
    constructor
    · intro h; omega
    · intro h; rw [h] at h2; simp at h2
theorem wider_more {h s : Int × Int} (h0 : lenI s ≠ 0) (h1 : h ≠ (0, 0)) : widerP h s = (min h.1 s.1, max h.2 s.2) := by unfold widerP; rw [if_neg h0, if_neg h1]
theorem of_self {s : Int × Int} (h0 : lenI s ≠ 0) : ofP s = s ∧ Ok s ∧ s.1 < s.2 := by
  rcases of_cases s with ⟨h1, h2, h3, _⟩ | ⟨_, h2, _⟩
  · exact ⟨h1, h2, h3⟩
  · exact absurd h2 h0

/-! ### The laws -/
theorem hull_two (s t : Int × Int) : hullP [s, t] = widerP (widerP (0, 0) s) t := rfl
theorem parts_len (s : Int × Int) (o : Int) : lenI (belowP s o) + lenI (fromP s o) = lenI s := by
  have hs := fit_ok s.1 s.2
  have h1 : Ok (belowP s o) := by unfold Ok at hs; exact betw_ok (by omega) (by omega)
  have h2 : Ok (fromP s o) := by unfold Ok at hs; exact betw_ok (by omega) (by omega)
  rw [len_fit h1, len_fit h2]
  unfold lenI belowP fromP betw
  unfold Ok at hs
  split <;> split <;> simp <;> omega
theorem parts_meet (s : Int × Int) (o : Int) : lenI (meetP (belowP s o) (fromP s o)) = 0 := by
  have hs := fit_ok s.1 s.2
  have h1 : Ok (belowP s o) := by unfold Ok at hs; exact betw_ok (by omega) (by omega)
  have h2 : Ok (fromP s o) := by unfold Ok at hs; exact betw_ok (by omega) (by omega)
  rw [len_fit (meet_ok _ _)]
  unfold meetP
  rw [show fitP (belowP s o).1 (belowP s o).2 = belowP s o from fit_self h1, show fitP (fromP s o).1 (fromP s o).2 = fromP s o from fit_self h2]
  unfold Ok at hs
  unfold belowP fromP betw
  (repeat' split) <;> simp at * <;> omega
theorem parts_cases (s : Int × Int) (o : Int) (hf : fitP s.1 s.2 = s) (h : s.1 < s.2) :
    (belowP s o = (0, 0) ∧ fromP s o = s) ∨ (s.1 < o ∧ o < s.2 ∧ belowP s o = (s.1, o) ∧ fromP s o = (o, s.2)) ∨ (belowP s o = s ∧ fromP s o = (0, 0)) := by
  unfold belowP fromP betw
  rw [hf]
  by_cases h1 : o ≤ s.1
  · left
    rw [if_pos (by omega), if_neg (by omega)]
    exact ⟨rfl, by ext <;> simp; omega⟩
  · by_cases h2 : o < s.2
    · right; left
      rw [if_neg (by omega), if_neg (by omega)]
      exact ⟨by omega, h2, by ext <;> simp; omega, by ext <;> simp; omega⟩
    · right; right
      rw [if_neg (by omega), if_pos (by omega)]
      exact ⟨by ext <;> simp; omega, rfl⟩
theorem parts_zero (s : Int × Int) (o : Int) (hf : (fitP s.1 s.2).1 = (fitP s.1 s.2).2) : belowP s o = (0, 0) ∧ fromP s o = (0, 0) := by
  unfold belowP fromP betw
  rw [if_pos (by omega), if_pos (by omega)]
  exact ⟨rfl, rfl⟩
theorem parts_hull (s : Int × Int) (o : Int) : hullP [belowP s o, fromP s o] = ofP s := by
  rw [hull_two]
  rcases of_cases s with ⟨h, h3, h4, hf⟩ | ⟨h, _, he⟩
  · rw [h]
    have hl : lenI s ≠ 0 := by rw [len_fit h3]; omega
    unfold Ok at h3
    rcases parts_cases s o hf h4 with ⟨e1, e2⟩ | ⟨l1, l2, e1, e2⟩ | ⟨e1, e2⟩
    · rw [e1, e2, show widerP (0, 0) (0, 0) = (0, 0) from rfl, wider_first _ hl]
    · have k1 : lenI (s.1, o) ≠ 0 := by rw [len_fit ⟨by simp; omega, by simp; omega, by simp; omega⟩]; simp; omega
      have k2 : lenI (o, s.2) ≠ 0 := by rw [len_fit ⟨by simp; omega, by simp; omega, by simp; omega⟩]; simp; omega
      rw [e1, e2, wider_first _ k1, wider_more k2 (by intro h; injection h with h1 h2; omega)]
      ext <;> simp <;> omega
    · rw [e1, e2, wider_first _ hl, wider_none _ _ rfl]
  · obtain ⟨e1, e2⟩ := parts_zero s o he
    rw [e1, e2, h]
    rfl
theorem parts_has (s : Int × Int) (o : Int) : hasB (belowP s o) o = false := by
  have hs := fit_ok s.1 s.2
  have h1 : Ok (belowP s o) := by unfold Ok at hs; exact betw_ok (by omega) (by omega)
  unfold hasB
  rw [show fitP (belowP s o).1 (belowP s o).2 = belowP s o from fit_self h1]
  unfold Ok at hs
  unfold belowP betw
  rw [Bool.eq_false_iff]
  intro h
  split at h <;> simp at h <;> omega
theorem parts_from (s : Int × Int) (o : Int) (h : lenI (fromP s o) ≠ 0) : o ≤ (fromP s o).1 := by
  unfold fromP betw at *
  by_cases h1 : (fitP s.1 s.2).2 ≤ max (fitP s.1 s.2).1 o
  · rw [if_pos h1] at h
    exact absurd rfl h
  · rw [if_neg h1]
    simp
    omega
theorem touch_meet (s t : Int × Int) (h : touchB s t = false) : lenI (meetP s t) = 0 := by
  rw [len_fit (meet_ok _ _), meet_of]
  unfold touchB at h
  rcases of_cases s with ⟨e1, o1, l1, f1⟩ | ⟨e1, _, _⟩
  · rcases of_cases t with ⟨e2, o2, l2, f2⟩ | ⟨e2, _, _⟩
    · rw [len_fit o1, len_fit o2] at h
      rw [e1, e2]
      unfold Ok at o1 o2
      unfold betw
      simp at h
      split <;> simp <;> omega
    · rw [e2]
      have := of_ok s
      unfold Ok at this
      unfold betw
      split <;> simp at * <;> omega
  · rw [e1]
    have := of_ok t
    unfold Ok at this
    unfold betw
    split <;> simp at * <;> omega
theorem touch_hull (s t : Int × Int) (h : touchB s t = true) : lenI (hullP [s, t]) + lenI (meetP s t) = lenI s + lenI t := by
  have h' := h
  unfold touchB at h'
  simp at h'
  obtain ⟨⟨⟨h1, h2⟩, h3⟩, h4⟩ := h'
  obtain ⟨e1, o1, l1⟩ := of_self h1
  obtain ⟨e2, o2, l2⟩ := of_self h2
  have hi := hullP_inv [s, t]
  rw [hull_two, wider_first _ h1] at *
  have hne : s ≠ (0, 0) := by intro h; rw [h] at l1; simp at l1
  rw [wider_more h2 hne] at *
  have ho : Ok (min s.1 t.1, max s.2 t.2) := by
    unfold Ok at o1 o2 ⊢
    exact ⟨by simp; omega, by simp; omega, by simp; omega⟩
  rw [len_fit ho, len_fit (meet_ok _ _), len_fit o1, len_fit o2, meet_of, e1, e2]
  unfold Ok at o1 o2
  unfold betw
  split <;> simp <;> omega
theorem touch_comm (s t : Int × Int) : touchB t s = touchB s t := by
  unfold touchB
  rw [Bool.eq_iff_iff]
  simp
  constructor <;> (rintro ⟨⟨⟨h1, h2⟩, h3⟩, h4⟩; exact ⟨⟨⟨h2, h1⟩, h4⟩, h3⟩)
end Go.Proofs.Ytegbkeichkifnaa.sp
/-!   Spans, as the reference has them: Holds, Touch, Below, From; wider.
-/
namespace Go.Proofs.Ytegbkeichkifnaa.sp
open Go.RowKit aid mem
attribute [local go_sem ↓] Go.wp_at_zero Go.wp_at_succ
set_option linter.unusedVariables false

set_option maxRecDepth 100000 in
set_option maxHeartbeats 800000 in
theorem rbelow_any (s : Int × Int) (o : Int) (w : World) : Calls Try.prog 71 #[spV s, .int .i64 o] w (RetS (belowP s o) w) := by
  have M0 := m2_zero w s
  by_cases h : o < 0
  · have H : Hid (belowP s o = (0, 0)) := Lib.hid (below_no s o h)
    go_enter Try.func71, Try.ntmps71
    go_wp2
    exact bodyPost_ret (v := spV (0, 0)) (by simp [results, Try.results71, go_sem]) rfl ⟨by rw [H.out], (bal _).alloc (bal _).size _⟩
  · have H : Hid (meetP s (0, min o 4611686018427387904) = belowP s o) := Lib.hid (below_eq s o (by omega))
    generalize belowP s o = r at *
    go_enter Try.func71, Try.ntmps71
    go_wp2_with fail
    all_goals
      generalize (w.alloc (.cells #[.int .i64 s.1, .int .i64 s.2] 24)).alloc (.cells #[.int .i64 0, .int .i64 0] 24) = W at *
      generalize w.heap.size = B at *
      refine (rmeet_any s (0, _) _).mono ?_
      rintro e w2 ⟨rfl, h2⟩
      have M2 := M0.later h2
      rw [show meetP s _ = r from by rw [← H.out]; congr 2; omega]
      have M3 := M2.put1 r.1 r.2
      have c0 := M2.b1.c0; have c1 := M2.b1.c1; have f0 := M2.b1.f0; have f1 := M2.b1.f1
      clear h2 M0 M2
      go_wp2_with fail
      have e0 := M3.b1.c0; have e1 := M3.b1.c1
      exact bodyPost_ret (v := spV r) (by simp [results, Try.results71, go_sem, e0, e1]) rfl ⟨rfl, M3.below⟩

set_option maxRecDepth 100000 in
set_option maxHeartbeats 800000 in
theorem rfrom_any (s : Int × Int) (o : Int) (w : World) : Calls Try.prog 39 #[spV s, .int .i64 o] w (RetS (fromP s o) w) := by
  have M0 := m2_zero w s
  by_cases h : 4611686018427387904 < o
  · have H : Hid (fromP s o = (0, 0)) := Lib.hid (from_no s o h)
    go_enter Try.func39, Try.ntmps39
    go_wp2
    exact bodyPost_ret (v := spV (0, 0)) (by simp [results, Try.results39, go_sem]) rfl ⟨by rw [H.out], (bal _).alloc (bal _).size _⟩
  · have H : Hid (meetP s (max o 0, 4611686018427387904) = fromP s o) := Lib.hid (from_eq s o (by omega))
    generalize fromP s o = r at *
    go_enter Try.func39, Try.ntmps39
    go_wp2_with fail
    all_goals
      generalize (w.alloc (.cells #[.int .i64 s.1, .int .i64 s.2] 24)).alloc (.cells #[.int .i64 0, .int .i64 0] 24) = W at *
      generalize w.heap.size = B at *
      refine (rmeet_any s (_, 4611686018427387904) _).mono ?_
      rintro e w2 ⟨rfl, h2⟩
      have M2 := M0.later h2
      rw [show meetP s _ = r from by rw [← H.out]; congr 2; omega]
      have M3 := M2.put1 r.1 r.2
      have c0 := M2.b1.c0; have c1 := M2.b1.c1; have f0 := M2.b1.f0; have f1 := M2.b1.f1
      clear h2 M0 M2
      go_wp2_with fail
      have e0 := M3.b1.c0; have e1 := M3.b1.c1
      exact bodyPost_ret (v := spV r) (by simp [results, Try.results39, go_sem, e0, e1]) rfl ⟨rfl, M3.below⟩

set_option maxRecDepth 100000 in
set_option maxHeartbeats 1600000 in
theorem wider_any (u s : Int × Int) (w : World) : Calls Try.prog 81 #[spV u, spV s] w (RetS (widerP u s) w) := by
  obtain ⟨s1, s2, s3, b1⟩ := three_new w u s
  have M0 : M3 w w.heap.size u s (0, 0) (((w.alloc (.cells #[.int .i64 u.1, .int .i64 u.2] 24)).alloc (.cells #[.int .i64 s.1, .int .i64 s.2] 24)).alloc (.cells #[.int .i64 0, .int .i64 0] 24)) := ⟨s1, s2, s3, b1, Nat.le_refl _⟩
  clear s1 s2 s3 b1
  have HF := len_any s
  have eqb := eq_sp u.1 u.2 0 0
  have eqg := eq_guard
  by_cases hl : lenI s = 0
  · have H : Hid (widerP u s = u) := Lib.hid (wider_none u s hl)
    have hl1 : (lenI s == 0) = true := by simpa using hl
    generalize lenI s = n at *
    have HFF := Lib.hid HF
    clear HF hl
    go_enter Try.func81, Try.ntmps81
    go_wp2_with fail
    generalize ((w.alloc (.cells #[.int .i64 u.1, .int .i64 u.2] 24)).alloc (.cells #[.int .i64 s.1, .int .i64 s.2] 24)).alloc (.cells #[.int .i64 0, .int .i64 0] 24) = W at *
    generalize w.heap.size = B at *
    refine (HFF.out _).mono ?_
    rintro e w1 ⟨rfl, h1⟩
    have M1 := M0.later h1
    clear M0 h1
    have M4 := M1.put2 (u.1) (u.2)
    have g0 := M1.b2.c0; have g1 := M1.b2.c1; have g2 := M1.b2.f0; have g3 := M1.b2.f1
    have c0 := M1.b0.c0; have c1 := M1.b0.c1; have d0 := M1.b1.c0; have d1 := M1.b1.c1
    clear M1
    go_wp2_with fail
    have e0 := M4.b2.c0; have e1 := M4.b2.c1
    exact bodyPost_ret (v := spV u) (by simp [results, Try.results81, go_sem, e0, e1]) rfl ⟨by rw [H.out], M4.below⟩
  · have hl1 : (lenI s == 0) = false := by simpa using hl
    by_cases hz : u = (0, 0)
    · have H : Hid (widerP u s = s) := Lib.hid (by rw [hz]; exact wider_first s hl)
      have hb : (u.1 == 0 && u.2 == 0) = true := by simp [hz]
      rw [hb] at eqb
      generalize lenI s = n at *
      have HFF := Lib.hid HF
      clear HF hl hz hb
      go_enter Try.func81, Try.ntmps81
      go_wp2_with fail
      generalize ((w.alloc (.cells #[.int .i64 u.1, .int .i64 u.2] 24)).alloc (.cells #[.int .i64 s.1, .int .i64 s.2] 24)).alloc (.cells #[.int .i64 0, .int .i64 0] 24) = W at *
      generalize w.heap.size = B at *
      refine (HFF.out _).mono ?_
      rintro e w1 ⟨rfl, h1⟩
      have M1 := M0.later h1
      clear M0 h1
      have M4 := M1.put2 (s.1) (s.2)
      have g0 := M1.b2.c0; have g1 := M1.b2.c1; have g2 := M1.b2.f0; have g3 := M1.b2.f1
      have c0 := M1.b0.c0; have c1 := M1.b0.c1; have d0 := M1.b1.c0; have d1 := M1.b1.c1
      clear M1
      go_wp2_with fail
      have e0 := M4.b2.c0; have e1 := M4.b2.c1
      exact bodyPost_ret (v := spV s) (by simp [results, Try.results81, go_sem, e0, e1]) rfl ⟨by rw [H.out], M4.below⟩
    · have H : Hid (widerP u s = (min u.1 s.1, max u.2 s.2)) := Lib.hid (wider_more hl hz)
      have hb : (u.1 == 0 && u.2 == 0) = false := by
        rw [Bool.eq_false_iff]; intro hx; apply hz; simp at hx; exact Prod.ext hx.1 hx.2
      rw [hb] at eqb
      generalize lenI s = n at *
      have HFF := Lib.hid HF
      clear HF hl hz hb
      go_enter Try.func81, Try.ntmps81
      go_wp2_with fail
      generalize ((w.alloc (.cells #[.int .i64 u.1, .int .i64 u.2] 24)).alloc (.cells #[.int .i64 s.1, .int .i64 s.2] 24)).alloc (.cells #[.int .i64 0, .int .i64 0] 24) = W at *
      generalize w.heap.size = B at *
      refine (HFF.out _).mono ?_
      rintro e w1 ⟨rfl, h1⟩
      have M1 := M0.later h1
      clear M0 h1
      have g0 := M1.b2.c0; have g1 := M1.b2.c1; have g2 := M1.b2.f0; have g3 := M1.b2.f1
      have c0 := M1.b0.c0; have c1 := M1.b0.c1; have d0 := M1.b1.c0; have d1 := M1.b1.c1
      go_wp2_with fail
      all_goals
        first
        | (have M4 := M1.put2 u.1 u.2; have e0 := M4.b2.c0; have e1 := M4.b2.c1; exact bodyPost_ret (v := spV (u.1, u.2)) (by simp [results, Try.results81, go_sem, e0, e1]) rfl ⟨by rw [H.out, show min u.1 s.1 = u.1 by omega, show max u.2 s.2 = u.2 by omega], M4.below⟩)
        | (have M4 := M1.put2 u.1 s.2; have e0 := M4.b2.c0; have e1 := M4.b2.c1; exact bodyPost_ret (v := spV (u.1, s.2)) (by simp [results, Try.results81, go_sem, e0, e1]) rfl ⟨by rw [H.out, show min u.1 s.1 = u.1 by omega, show max u.2 s.2 = s.2 by omega], M4.below⟩)
        | (have M4 := M1.put2 s.1 u.2; have e0 := M4.b2.c0; have e1 := M4.b2.c1; exact bodyPost_ret (v := spV (s.1, u.2)) (by simp [results, Try.results81, go_sem, e0, e1]) rfl ⟨by rw [H.out, show min u.1 s.1 = s.1 by omega, show max u.2 s.2 = u.2 by omega], M4.below⟩)
        | (have M4 := M1.put2 s.1 s.2; have e0 := M4.b2.c0; have e1 := M4.b2.c1; exact bodyPost_ret (v := spV (s.1, s.2)) (by simp [results, Try.results81, go_sem, e0, e1]) rfl ⟨by rw [H.out, show min u.1 s.1 = s.1 by omega, show max u.2 s.2 = s.2 by omega], M4.below⟩)
end Go.Proofs.Ytegbkeichkifnaa.sp
/-!   Spans, as the reference has them: Touch.
-/
namespace Go.Proofs.Ytegbkeichkifnaa.sp
open Go.RowKit aid mem
attribute [local go_sem ↓] Go.wp_at_zero Go.wp_at_succ
set_option linter.unusedVariables false

/-- two boxes, wherever they lie -/
structure MP (w0 : World) (A C : Nat) (a b : Int × Int) (w : World) : Prop where
  a : SpAt w A a
  b : SpAt w C b
  below : Below w0.heap.size w0 w
theorem MP.later {w0 : World} {A C : Nat} {a b : Int × Int} {w w' : World} (h : MP w0 A C a b w) (hb : Below w.heap.size w w') : MP w0 A C a b w' :=
  ⟨h.a.later hb, h.b.later hb, h.below.trans (hb.mono h.below.size)⟩

set_option maxRecDepth 100000 in
set_option maxHeartbeats 1600000 in
theorem rtouch_any (s t : Int × Int) (w : World) : Calls Try.prog 72 #[spV s, spV t] w (RetB (touchB s t) w) := by
  have M0 := m2_new w s t
  have HF := rof_any s
  have HG := rof_any t
  have hp := len_ofP s
  have hq := len_ofP t
  have HT := touch_eq s t
  have HN := touch_no s t
  generalize ofP s = p at *
  generalize ofP t = q at *
  rw [← hp, ← hq] at HT HN
  clear hp hq
  have HFF := Lib.hid HF
  have HGG := Lib.hid HG
  have HTT := Lib.hid HT
  have HNN := Lib.hid HN
  have HA := Lib.hid (rlen_any p)
  have HB := Lib.hid (rlen_any q)
  have HM := Lib.hid (rmeet_any p q)
  have HL := Lib.hid (rlen_any (meetP p q))
  clear HF HG HT HN
  generalize lenI p = n at *
  generalize lenI q = m at *
  generalize meetP p q = r at *
  generalize lenI r = k at *
  generalize touchB s t = b at *
  by_cases hn : n = 0
  · have H : Hid (b = false) := Lib.hid (HNN.out (.inl hn))
    have hn1 : (n == 0) = true := by simpa using hn
    clear hn HTT HNN
    go_enter Try.func72, Try.ntmps72
    go_wp2_with fail
    generalize (w.alloc (.cells #[.int .i64 s.1, .int .i64 s.2] 24)).alloc (.cells #[.int .i64 t.1, .int .i64 t.2] 24) = W at *
    generalize w.heap.size = B at M0 ⊢
    refine (HFF.out _).mono ?_
    rintro e w1 ⟨rfl, h1⟩
    have M1 := M0.later h1
    have c0 := M1.b1.c0; have c1 := M1.b1.c1
    have n1 := M1.b0.lt; have n2 := M1.b1.lt; have n4 := M1.below.size
    clear h1 M0
    go_wp2_with fail
    refine (HGG.out _).mono ?_
    rintro e w2 ⟨rfl, h2⟩
    have A2 := (sp_new w1 p).later h2
    have M2 : MP w w1.heap.size w2.heap.size p q (w2.alloc (.cells #[.int .i64 q.1, .int .i64 q.2] 24)) := ⟨A2.later (bal (.cells #[.int .i64 q.1, .int .i64 q.2] 24)), sp_new w2 q, ((M1.below.alloc n4 (.cells #[.int .i64 p.1, .int .i64 p.2] 24)).trans (h2.mono (by simp; omega))).alloc (by have := h2.size; simp at this; omega) (.cells #[.int .i64 q.1, .int .i64 q.2] 24)⟩
    have n5 := A2.lt
    have d0 := A2.c0; have d1 := A2.c1
    clear h2 M1 c0 c1
    go_wp2_with fail
    refine (HA.out _).mono ?_
    rintro e w3 ⟨rfl, h3⟩
    have M3 := M2.later h3
    clear M2 h3
    go_wp2
    go_ret
    exact ⟨ret_b H.out.symm, M3.below⟩
  · have hn1 : (n == 0) = false := by simpa using hn
    by_cases hm : m = 0
    · have H : Hid (b = false) := Lib.hid (HNN.out (.inr hm))
      have hm1 : (m == 0) = true := by simpa using hm
      clear hn hm HTT HNN
      go_enter Try.func72, Try.ntmps72
      go_wp2_with fail
      generalize (w.alloc (.cells #[.int .i64 s.1, .int .i64 s.2] 24)).alloc (.cells #[.int .i64 t.1, .int .i64 t.2] 24) = W at *
      generalize w.heap.size = B at M0 ⊢
      refine (HFF.out _).mono ?_
      rintro e w1 ⟨rfl, h1⟩
      have M1 := M0.later h1
      have c0 := M1.b1.c0; have c1 := M1.b1.c1
      have n1 := M1.b0.lt; have n2 := M1.b1.lt; have n4 := M1.below.size
      clear h1 M0
      go_wp2_with fail
      refine (HGG.out _).mono ?_
      rintro e w2 ⟨rfl, h2⟩
      have A2 := (sp_new w1 p).later h2
      have M2 : MP w w1.heap.size w2.heap.size p q (w2.alloc (.cells #[.int .i64 q.1, .int .i64 q.2] 24)) := ⟨A2.later (bal (.cells #[.int .i64 q.1, .int .i64 q.2] 24)), sp_new w2 q, ((M1.below.alloc n4 (.cells #[.int .i64 p.1, .int .i64 p.2] 24)).trans (h2.mono (by simp; omega))).alloc (by have := h2.size; simp at this; omega) (.cells #[.int .i64 q.1, .int .i64 q.2] 24)⟩
      have n5 := A2.lt
      have d0 := A2.c0; have d1 := A2.c1
      clear h2 M1 c0 c1
      go_wp2_with fail
      refine (HA.out _).mono ?_
      rintro e w3 ⟨rfl, h3⟩
      have M3 := M2.later h3
      clear M2 h3 d0 d1
      have d0 := M3.b.c0; have d1 := M3.b.c1
      go_wp2_with fail
      refine (HB.out _).mono ?_
      rintro e w4 ⟨rfl, h4⟩
      have M4 := M3.later h4
      clear M3 h4 d0 d1
      go_wp2
      go_ret
      exact ⟨ret_b H.out.symm, M4.below⟩
    · have hm1 : (m == 0) = false := by simpa using hm
      have H : Hid ((decide (k > 0) || decide (p.2 = q.1) || decide (q.2 = p.1)) = b) := Lib.hid (HTT.out hn hm)
      clear hn hm HTT HNN
      go_enter Try.func72, Try.ntmps72
      go_wp2_with fail
      generalize (w.alloc (.cells #[.int .i64 s.1, .int .i64 s.2] 24)).alloc (.cells #[.int .i64 t.1, .int .i64 t.2] 24) = W at *
      generalize w.heap.size = B at M0 ⊢
      refine (HFF.out _).mono ?_
      rintro e w1 ⟨rfl, h1⟩
      have M1 := M0.later h1
      have c0 := M1.b1.c0; have c1 := M1.b1.c1
      have n1 := M1.b0.lt; have n2 := M1.b1.lt; have n4 := M1.below.size
      clear h1 M0
      go_wp2_with fail
      refine (HGG.out _).mono ?_
      rintro e w2 ⟨rfl, h2⟩
      have A2 := (sp_new w1 p).later h2
      have M2 : MP w w1.heap.size w2.heap.size p q (w2.alloc (.cells #[.int .i64 q.1, .int .i64 q.2] 24)) := ⟨A2.later (bal (.cells #[.int .i64 q.1, .int .i64 q.2] 24)), sp_new w2 q, ((M1.below.alloc n4 (.cells #[.int .i64 p.1, .int .i64 p.2] 24)).trans (h2.mono (by simp; omega))).alloc (by have := h2.size; simp at this; omega) (.cells #[.int .i64 q.1, .int .i64 q.2] 24)⟩
      have n5 := A2.lt
      have d0 := A2.c0; have d1 := A2.c1
      clear h2 M1 c0 c1
      go_wp2_with fail
      refine (HA.out _).mono ?_
      rintro e w3 ⟨rfl, h3⟩
      have M3 := M2.later h3
      clear M2 h3 d0 d1
      have d0 := M3.b.c0; have d1 := M3.b.c1
      go_wp2_with fail
      refine (HB.out _).mono ?_
      rintro e w4 ⟨rfl, h4⟩
      have M4 := M3.later h4
      clear M3 h4 d0 d1
      have d0 := M4.b.c0; have d1 := M4.b.c1; have c0 := M4.a.c0; have c1 := M4.a.c1
      go_wp2_with fail
      refine (HM.out _).mono ?_
      rintro e w5 ⟨rfl, h5⟩
      have M5 := M4.later h5
      clear M4 h5 d0 d1 c0 c1
      go_wp2_with fail
      refine (HL.out _).mono ?_
      rintro e w6 ⟨rfl, h6⟩
      have M6 := M5.later h6
      clear M5 h6
      have d0 := M6.b.c0; have d1 := M6.b.c1; have c0 := M6.a.c0; have c1 := M6.a.c1
      go_wp2
      all_goals
        go_ret
        exact ⟨ret_b (by rw [← H.out, Bool.eq_iff_iff]; simp <;> omega), M6.below⟩
end Go.Proofs.Ytegbkeichkifnaa.sp
/-!   Hulls of lists of spans.
-/
namespace Go.Proofs.Ytegbkeichkifnaa.sp
open Go.RowKit aid mem
attribute [local go_sem ↓] Go.wp_at_zero Go.wp_at_succ
set_option linter.unusedVariables false

/-- a slice of spans -/
structure SlS (w : World) (a : Option Addr) (n cap : Nat) (l : List (Int × Int)) : Prop where
  len : l.length = n
  le : n ≤ cap
  most : cap ≤ maxLen
  nil : a = none → cap = 0
  cells : 0 < n → ∃ b off, a = some ⟨b, off, none⟩ ∧ ∀ i, i < n → w.cell? ⟨b, off + i * 2, none⟩ = some (.int .i64 (l.getD i (0, 0)).1) ∧ w.cell? ⟨b, off + i * 2 + 1, none⟩ = some (.int .i64 (l.getD i (0, 0)).2)
theorem SlS.keep {w w' : World} {a : Option Addr} {n cap : Nat} {l : List (Int × Int)} (h : SlS w a n cap l) {S : List Nat} (hk : Kept S w w') (hd : ∀ x, a = some x → 0 < n → x.block ∉ S) : SlS w' a n cap l :=
  ⟨h.len, h.le, h.most, h.nil, fun h0 => by
    obtain ⟨b, off, rfl, hc⟩ := h.cells h0
    exact ⟨b, off, rfl, fun i hi => ⟨hk.cell (p := ⟨b, off + i * 2, none⟩) (hd ⟨b, off, none⟩ rfl h0) (hc i hi).1, hk.cell (p := ⟨b, off + i * 2 + 1, none⟩) (hd ⟨b, off, none⟩ rfl h0) (hc i hi).2⟩⟩⟩
theorem SlS.later {w w' : World} {a : Option Addr} {n cap : Nat} {l : List (Int × Int)} (h : SlS w a n cap l) (hk : Below w.heap.size w w') : SlS w' a n cap l :=
  h.keep (Kept.of_below hk (Nat.le_refl _) []) (fun _ _ _ => by simp)
/-- two spans in a new array -/
theorem sls_two (w : World) (s t : Int × Int) (ty : TypeId) : SlS (w.alloc (.cells #[.int .i64 s.1, .int .i64 s.2, .int .i64 t.1, .int .i64 t.2] ty)) (some ⟨w.heap.size, 0, none⟩) 2 2 [s, t] :=
  ⟨rfl, Nat.le_refl _, by simp [maxLen], (fun h => by cases h), fun _ => ⟨w.heap.size, 0, rfl, fun i hi => by
    rcases (show i = 0 ∨ i = 1 by omega) with rfl | rfl
    · exact ⟨World.cell?_alloc_at _ _ _ _ rfl, World.cell?_alloc_at _ _ _ _ rfl⟩
    · exact ⟨World.cell?_alloc_at _ _ _ _ rfl, World.cell?_alloc_at _ _ _ _ rfl⟩⟩⟩

theorem hull_take (l : List (Int × Int)) (k : Nat) (hk : k < l.length) : hullP (l.take (k + 1)) = widerP (hullP (l.take k)) (l.getD k (0, 0)) := by
  rw [← hullP_snoc]
  congr 1
  rw [List.take_succ_eq_append_getElem hk]
  simp [List.getD, hk]

set_option maxRecDepth 100000 in
set_option maxHeartbeats 1600000 in
theorem hull_any (l : List (Int × Int)) (a : Option Addr) (n cap : Nat) (w : World) (hl : SlS w a n cap l) : Calls Try.prog 61 #[.slice a n cap] w (RetS (hullP l) w) := by
  have hlen := hl.len
  have hle := hl.le
  have hmost := hl.most
  unfold maxLen at hmost
  have M0 := m2_new w (0, 0) (0, 0)
  by_cases hz : n = 0
  · subst hz
    obtain rfl : l = [] := List.eq_nil_of_length_eq_zero hlen
    have H : Hid (hullP [] = (0, 0)) := Lib.hid rfl
    go_enter Try.func61, Try.ntmps61
    go_wp2_with fail
    generalize (w.alloc (.cells #[.int .i64 0, .int .i64 0] 24)).alloc (.cells #[.int .i64 0, .int .i64 0] 24) = W at *
    generalize w.heap.size = B at M0 ⊢
    go_loopw [8] (fun i wr => i = .int .i64 0 ∧ wr = W) (fun _ _ => 0)
    case atStart => exact ⟨rfl, rfl⟩
    case round =>
      obtain ⟨rfl, rfl⟩ := hrel
      have M3 := M0.put0 0 0
      have c0 := M0.b0.c0; have c1 := M0.b0.c1; have f0 := M0.b0.f0; have f1 := M0.b0.f1
      have d0 := M0.b1.c0; have d1 := M0.b1.c1
      go_wp2_with fail
      have e0 := M3.b0.c0; have e1 := M3.b0.c1
      exact bodyPost_ret (v := spV (0, 0)) (by simp [results, Try.results61, go_sem, e0, e1]) rfl ⟨by rw [H.out], M3.below⟩
  · obtain ⟨b, off, rfl, hc⟩ := hl.cells (by omega)
    have hbl : b < w.heap.size := World.block_lt_of_cell? w _ (hc 0 (by omega)).1
    have HC := Lib.hid hc
    have HL := Lib.hid hlen
    have HS := Lib.hid (hull_take l)
    clear hc hlen hl
    go_enter Try.func61, Try.ntmps61
    go_wp2_with fail
    generalize (w.alloc (.cells #[.int .i64 0, .int .i64 0] 24)).alloc (.cells #[.int .i64 0, .int .i64 0] 24) = W at *
    generalize hB : w.heap.size = B at M0 ⊢
    go_loopw [8] (fun i wr => ∃ k : Nat, k ≤ n ∧ i = .int .i64 k ∧ M2 w B (0, 0) (hullP (l.take k)) wr) (fun i _ => n - (intOf i).toNat)
    case atStart => exact ⟨0, Nat.zero_le _, rfl, M0⟩
    case round =>
      clear M0
      obtain ⟨k, hk, rfl, MK⟩ := hrel
      obtain ⟨wo, rfl⟩ : ∃ wo : World, wo = wr := ⟨_, rfl⟩
      by_cases hlt : k < n
      · obtain ⟨x0, x1⟩ := HC.out k hlt
        have hst := HS.out k (by rw [HL.out]; exact hlt)
        generalize l.getD k (0, 0) = x at *
        generalize hullP (l.take k) = h at *
        have HST := Lib.hid hst
        have y0 := (MK.below.cell (p := ⟨b, off + k * 2, none⟩) (by simpa using hbl)).trans x0
        have y1 := (MK.below.cell (p := ⟨b, off + k * 2 + 1, none⟩) (by simpa using hbl)).trans x1
        have n1 := MK.b0.lt; have n2 := MK.b1.lt
        have c0 := MK.b1.c0; have c1 := MK.b1.c1
        clear hst x0 x1
        go_wp2_with fail
        have M3 := MK.later (bal (.cells #[.int .i64 x.1, .int .i64 x.2] 24))
        refine (wider_any h x _).mono ?_
        rintro e w4 ⟨rfl, h4⟩
        have M4 := M3.later h4
        clear M3 h4 c0 c1 MK y0 y1
        rw [← HST.out]
        generalize hhh : hullP (l.take (k + 1)) = u at *
        have M5 := M4.put1 u.1 u.2
        have c0 := M4.b1.c0; have c1 := M4.b1.c1; have f0 := M4.b1.f0; have f1 := M4.b1.f1
        have HH := Lib.hid hhh
        clear hhh M4
        go_wp2_with fail
        go_roundw
        case rel => exact ⟨k + 1, by omega, by go_num, by rw [HH.out]; exact M5⟩
        case measure => simp [intOf]; omega
      · have hkn : Hid (hullP (l.take k) = hullP l) := Lib.hid (by rw [List.take_of_length_le (by have := HL.out; omega)])
        rw [hkn.out] at MK
        generalize hullP l = h at *
        have M3 := MK.put0 h.1 h.2
        have c0 := MK.b0.c0; have c1 := MK.b0.c1; have f0 := MK.b0.f0; have f1 := MK.b0.f1
        have d0 := MK.b1.c0; have d1 := MK.b1.c1
        clear MK
        go_wp2_with fail
        have e0 := M3.b0.c0; have e1 := M3.b0.c1
        exact bodyPost_ret (v := spV h) (by simp [results, Try.results61, go_sem, e0, e1]) rfl ⟨rfl, M3.below⟩
end Go.Proofs.Ytegbkeichkifnaa.sp
/-!   Hulls of lists of spans, as the reference has them.
-/
namespace Go.Proofs.Ytegbkeichkifnaa.sp
open Go.RowKit aid mem
attribute [local go_sem ↓] Go.wp_at_zero Go.wp_at_succ
set_option linter.unusedVariables false

theorem M2.s10 {w0 : World} {B : Nat} {s t : Int × Int} {w : World} (h : M2 w0 B s t w) (x : Int) : M2 w0 B s (x, t.2) (w.setCell ⟨B + 1, 0, none⟩ (.int .i64 x)) := by
  have hk := (Kept.refl [B + 1] w).setCell (p := ⟨B + 1, 0, none⟩) (.inl (by simp)) (.int .i64 x)
  exact ⟨h.b0.keep hk (by simp), h.b1.set0 x, h.below.trans (hk.below (by have := h.le; simp; omega) h.below.size), h.le⟩
theorem M2.s11 {w0 : World} {B : Nat} {s t : Int × Int} {w : World} (h : M2 w0 B s t w) (x : Int) : M2 w0 B s (t.1, x) (w.setCell ⟨B + 1, 1, none⟩ (.int .i64 x)) := by
  have hk := (Kept.refl [B + 1] w).setCell (p := ⟨B + 1, 1, none⟩) (.inl (by simp)) (.int .i64 x)
  exact ⟨h.b0.keep hk (by simp), h.b1.set1 x, h.below.trans (hk.below (by have := h.le; simp; omega) h.below.size), h.le⟩

set_option maxRecDepth 100000 in
set_option maxHeartbeats 3200000 in
theorem rhull_any (l : List (Int × Int)) (a : Option Addr) (n cap : Nat) (w : World) (hl : SlS w a n cap l) : Calls Try.prog 73 #[.slice a n cap] w (RetS (hullP l) w) := by
  have hlen := hl.len
  have hle := hl.le
  have hmost := hl.most
  unfold maxLen at hmost
  have M0 := m2_new w (0, 0) (0, 0)
  by_cases hz : n = 0
  · subst hz
    obtain rfl : l = [] := List.eq_nil_of_length_eq_zero hlen
    have H : Hid (hullP [] = (0, 0)) := Lib.hid rfl
    go_enter Try.func73, Try.ntmps73
    go_wp2_with fail
    generalize (w.alloc (.cells #[.int .i64 0, .int .i64 0] 24)).alloc (.cells #[.int .i64 0, .int .i64 0] 24) = W at *
    generalize w.heap.size = B at M0 ⊢
    go_loopw [4] (fun i wr => i = .int .i64 0 ∧ wr = W) (fun _ _ => 0)
    case atStart => exact ⟨rfl, rfl⟩
    case round =>
      obtain ⟨rfl, rfl⟩ := hrel
      have M3 := M0.put0 0 0
      have c0 := M0.b0.c0; have c1 := M0.b0.c1; have f0 := M0.b0.f0; have f1 := M0.b0.f1
      have d0 := M0.b1.c0; have d1 := M0.b1.c1
      go_wp2_with fail
      have e0 := M3.b0.c0; have e1 := M3.b0.c1
      exact bodyPost_ret (v := spV (0, 0)) (by simp [results, Try.results73, go_sem, e0, e1]) rfl ⟨by rw [H.out], M3.below⟩
  · obtain ⟨b, off, rfl, hc⟩ := hl.cells (by omega)
    have hbl : b < w.heap.size := World.block_lt_of_cell? w _ (hc 0 (by omega)).1
    have HC := Lib.hid hc
    have HL := Lib.hid hlen
    have HS := Lib.hid (hull_take l)
    have HI := Lib.hid (fun k => hullP_inv (l.take k))
    clear hc hlen hl
    go_enter Try.func73, Try.ntmps73
    go_wp2_with fail
    generalize (w.alloc (.cells #[.int .i64 0, .int .i64 0] 24)).alloc (.cells #[.int .i64 0, .int .i64 0] 24) = W at *
    generalize hB : w.heap.size = B at M0 ⊢
    go_loopw [4] (fun i wr => ∃ k : Nat, k ≤ n ∧ i = .int .i64 k ∧ M2 w B (0, 0) (hullP (l.take k)) wr) (fun i _ => n - (intOf i).toNat)
    case atStart => exact ⟨0, Nat.zero_le _, rfl, M0⟩
    case round =>
      clear M0
      obtain ⟨k, hk, rfl, MK⟩ := hrel
      obtain ⟨wo, rfl⟩ : ∃ wo : World, wo = wr := ⟨_, rfl⟩
      by_cases hlt : k < n
      · obtain ⟨x0, x1⟩ := HC.out k hlt
        have hst := HS.out k (by rw [HL.out]; exact hlt)
        have hin := HI.out k
        generalize l.getD k (0, 0) = x at *
        generalize hullP (l.take k) = h at *
        have y0 := (MK.below.cell (p := ⟨b, off + k * 2, none⟩) (by simpa using hbl)).trans x0
        have y1 := (MK.below.cell (p := ⟨b, off + k * 2 + 1, none⟩) (by simpa using hbl)).trans x1
        have n1 := MK.b0.lt; have n2 := MK.b1.lt; have n3 := MK.below.size
        clear x0 x1
        by_cases hx : lenI x = 0
        · have HST : Hid (hullP (l.take (k + 1)) = h) := Lib.hid (by rw [hst, wider_none _ _ hx])
          have hq := len_ofP x
          have hf := rof_any x
          rw [hx] at hq
          generalize ofP x = p at *
          have HF := Lib.hid hf
          have HQ := Lib.hid (rlen_any p)
          have hx1 : (lenI p == 0) = true := by simpa using hq
          clear hst hin hx hq hf
          go_wp2_with fail
          refine (HF.out _).mono ?_
          rintro e w4 ⟨rfl, h4⟩
          have M4 := MK.later h4
          clear MK h4 y0 y1
          go_wp2_with fail
          refine (HQ.out _).mono ?_
          rintro e w5 ⟨rfl, h5⟩
          have M5 := (M4.later (bal (.cells #[.int .i64 p.1, .int .i64 p.2] 24))).later h5
          have X5 := (sp_new w4 p).later h5
          have n6 := M4.b1.lt
          have n7 := X5.lt
          clear h5 M4
          go_wp2_with fail
          go_roundw
          case rel => exact ⟨k + 1, by omega, by go_num, by rw [HST.out]; exact M5⟩
          case measure => simp [intOf]; omega
        · obtain ⟨hsf, hok, hne⟩ := of_self hx
          have hf := rof_any x
          rw [hsf] at hf
          have HF := Lib.hid hf
          have HQ := Lib.hid (rlen_any x)
          have hx1 : (lenI x == 0) = false := by simpa using hx
          clear hsf hf
          by_cases hh : h = (0, 0)
          · have HST : Hid (hullP (l.take (k + 1)) = x) := Lib.hid (by rw [hst, hh, wider_first _ hx])
            subst hh
            have HR := Lib.hid (rlen_any (0, 0))
            have hh1 : (lenI (0, 0) == 0) = true := rfl
            clear hst hin hx hok hne
            go_wp2_with fail
            refine (HF.out _).mono ?_
            rintro e w4 ⟨rfl, h4⟩
            have M4 := MK.later h4
            clear MK h4 y0 y1
            go_wp2_with fail
            refine (HQ.out _).mono ?_
            rintro e w5 ⟨rfl, h5⟩
            have M5 := (M4.later (bal (.cells #[.int .i64 x.1, .int .i64 x.2] 24))).later h5
            have X5 := (sp_new w4 x).later h5
            have n6 := M4.b1.lt
            have n7 := X5.lt
            clear h5 M4
            have d0 := M5.b1.c0; have d1 := M5.b1.c1
            go_wp2_with fail
            refine (HR.out _).mono ?_
            rintro e w6 ⟨rfl, h6⟩
            have M6 := M5.later h6
            have X6 := X5.later h6
            clear h6 M5 X5 d0 d1
            have d0 := M6.b1.c0; have d1 := M6.b1.c1; have g0 := M6.b1.f0; have g1 := M6.b1.f1; have c0 := X6.c0; have c1 := X6.c1
            have M7 := M6.put1 x.1 x.2
            have n8 : w4.heap.size ≠ B + 1 := by omega
            clear M6
            go_wp2_with fail
            go_roundw
            case rel => exact ⟨k + 1, by omega, by go_num, by rw [HST.out]; exact M7⟩
            case measure => simp [intOf]; omega
          · have hh1 : (lenI h == 0) = false := by
              rw [Bool.eq_false_iff]; intro e; exact hh ((inv_len hin).1 (by simpa using e))
            have hst2 := hst.trans (wider_more hx hh)
            have HR := Lib.hid (rlen_any h)
            clear hst hin hx hok hne hh
            by_cases ha : x.1 < h.1
            · by_cases hb : h.2 < x.2
              · have HST : Hid (hullP (l.take (k + 1)) = (x.1, x.2)) := Lib.hid (by rw [hst2]; ext <;> simp <;> omega)
                clear hst2
                go_wp2_with fail
                refine (HF.out _).mono ?_
                rintro e w4 ⟨rfl, h4⟩
                have M4 := MK.later h4
                clear MK h4 y0 y1
                go_wp2_with fail
                refine (HQ.out _).mono ?_
                rintro e w5 ⟨rfl, h5⟩
                have M5 := (M4.later (bal (.cells #[.int .i64 x.1, .int .i64 x.2] 24))).later h5
                have X5 := (sp_new w4 x).later h5
                have n6 := M4.b1.lt
                have n7 := X5.lt
                clear h5 M4
                have d0 := M5.b1.c0; have d1 := M5.b1.c1
                go_wp2_with fail
                refine (HR.out _).mono ?_
                rintro e w6 ⟨rfl, h6⟩
                have M6 := M5.later h6
                have X6 := X5.later h6
                clear h6 M5 X5 d0 d1
                have d0 := M6.b1.c0; have d1 := M6.b1.c1; have g0 := M6.b1.f0; have g1 := M6.b1.f1; have c0 := X6.c0; have c1 := X6.c1
                have M7 := (M6.s10 x.1).s11 x.2
                have n8 : w4.heap.size ≠ B + 1 := by omega
                clear M6
                go_wp2_with fail
                go_roundw
                case rel => exact ⟨k + 1, by omega, by go_num, by rw [HST.out]; exact M7⟩
                case measure => simp [intOf]; omega
              · have HST : Hid (hullP (l.take (k + 1)) = (x.1, h.2)) := Lib.hid (by rw [hst2]; ext <;> simp <;> omega)
                clear hst2
                go_wp2_with fail
                refine (HF.out _).mono ?_
                rintro e w4 ⟨rfl, h4⟩
                have M4 := MK.later h4
                clear MK h4 y0 y1
                go_wp2_with fail
                refine (HQ.out _).mono ?_
                rintro e w5 ⟨rfl, h5⟩
                have M5 := (M4.later (bal (.cells #[.int .i64 x.1, .int .i64 x.2] 24))).later h5
                have X5 := (sp_new w4 x).later h5
                have n6 := M4.b1.lt
                have n7 := X5.lt
                clear h5 M4
                have d0 := M5.b1.c0; have d1 := M5.b1.c1
                go_wp2_with fail
                refine (HR.out _).mono ?_
                rintro e w6 ⟨rfl, h6⟩
                have M6 := M5.later h6
                have X6 := X5.later h6
                clear h6 M5 X5 d0 d1
                have d0 := M6.b1.c0; have d1 := M6.b1.c1; have g0 := M6.b1.f0; have g1 := M6.b1.f1; have c0 := X6.c0; have c1 := X6.c1
                have M7 := M6.s10 x.1
                have n8 : w4.heap.size ≠ B + 1 := by omega
                clear M6
                go_wp2_with fail
                go_roundw
                case rel => exact ⟨k + 1, by omega, by go_num, by rw [HST.out]; exact M7⟩
                case measure => simp [intOf]; omega
            · by_cases hb : h.2 < x.2
              · have HST : Hid (hullP (l.take (k + 1)) = (h.1, x.2)) := Lib.hid (by rw [hst2]; ext <;> simp <;> omega)
                clear hst2
                go_wp2_with fail
                refine (HF.out _).mono ?_
                rintro e w4 ⟨rfl, h4⟩
                have M4 := MK.later h4
                clear MK h4 y0 y1
                go_wp2_with fail
                refine (HQ.out _).mono ?_
                rintro e w5 ⟨rfl, h5⟩
                have M5 := (M4.later (bal (.cells #[.int .i64 x.1, .int .i64 x.2] 24))).later h5
                have X5 := (sp_new w4 x).later h5
                have n6 := M4.b1.lt
                have n7 := X5.lt
                clear h5 M4
                have d0 := M5.b1.c0; have d1 := M5.b1.c1
                go_wp2_with fail
                refine (HR.out _).mono ?_
                rintro e w6 ⟨rfl, h6⟩
                have M6 := M5.later h6
                have X6 := X5.later h6
                clear h6 M5 X5 d0 d1
                have d0 := M6.b1.c0; have d1 := M6.b1.c1; have g0 := M6.b1.f0; have g1 := M6.b1.f1; have c0 := X6.c0; have c1 := X6.c1
                have M7 := (M6).s11 x.2
                have n8 : w4.heap.size ≠ B + 1 := by omega
                clear M6
                go_wp2_with fail
                go_roundw
                case rel => exact ⟨k + 1, by omega, by go_num, by rw [HST.out]; exact M7⟩
                case measure => simp [intOf]; omega
              · have HST : Hid (hullP (l.take (k + 1)) = (h.1, h.2)) := Lib.hid (by rw [hst2]; ext <;> simp <;> omega)
                clear hst2
                go_wp2_with fail
                refine (HF.out _).mono ?_
                rintro e w4 ⟨rfl, h4⟩
                have M4 := MK.later h4
                clear MK h4 y0 y1
                go_wp2_with fail
                refine (HQ.out _).mono ?_
                rintro e w5 ⟨rfl, h5⟩
                have M5 := (M4.later (bal (.cells #[.int .i64 x.1, .int .i64 x.2] 24))).later h5
                have X5 := (sp_new w4 x).later h5
                have n6 := M4.b1.lt
                have n7 := X5.lt
                clear h5 M4
                have d0 := M5.b1.c0; have d1 := M5.b1.c1
                go_wp2_with fail
                refine (HR.out _).mono ?_
                rintro e w6 ⟨rfl, h6⟩
                have M6 := M5.later h6
                have X6 := X5.later h6
                clear h6 M5 X5 d0 d1
                have d0 := M6.b1.c0; have d1 := M6.b1.c1; have g0 := M6.b1.f0; have g1 := M6.b1.f1; have c0 := X6.c0; have c1 := X6.c1
                have M7 := M6
                have n8 : w4.heap.size ≠ B + 1 := by omega
                clear M6
                go_wp2_with fail
                go_roundw
                case rel => exact ⟨k + 1, by omega, by go_num, by rw [HST.out]; exact M7⟩
                case measure => simp [intOf]; omega
      · have hkn : Hid (hullP (l.take k) = hullP l) := Lib.hid (by rw [List.take_of_length_le (by have := HL.out; omega)])
        rw [hkn.out] at MK
        generalize hullP l = h at *
        have M3 := MK.put0 h.1 h.2
        have c0 := MK.b0.c0; have c1 := MK.b0.c1; have f0 := MK.b0.f0; have f1 := MK.b0.f1
        have d0 := MK.b1.c0; have d1 := MK.b1.c1
        clear MK
        go_wp2_with fail
        have e0 := M3.b0.c0; have e1 := M3.b0.c1
        exact bodyPost_ret (v := spV h) (by simp [results, Try.results73, go_sem, e0, e1]) rfl ⟨rfl, M3.below⟩
end Go.Proofs.Ytegbkeichkifnaa.sp
/-!   Layer 6: what must come of fixed calls; the walks of the laws SpanTouches and SpanAsks.
-/
namespace Go.Proofs.Ytegbkeichkifnaa.sp
open Go.RowKit aid mem
attribute [local go_sem ↓] Go.wp_at_zero Go.wp_at_succ
set_option linter.unusedVariables false

end Go.Proofs.Ytegbkeichkifnaa.sp
/-!   What came in, opened: a slice of whatever elements, element by element. Imports nothing of the program.
-/
namespace Go.Proofs.Ytegbkeichkifnaa.opn
open Go.RowKit aid mem Go.ChangeShapes Go.WideShapes Go.ChangeAt
set_option linter.unusedVariables false

theorem exists_list {T : Type} (n : Nat) (Q : Nat → T → Prop) (h : ∀ i, i < n → ∃ t, Q i t) : ∃ l : List T, l.length = n ∧ ∀ i (hi : i < l.length), Q i l[i] := by
  induction n with
  | zero => exact ⟨[], rfl, fun i hi => absurd hi (Nat.not_lt_zero i)⟩
  | succ n ih =>
    obtain ⟨l, hl, hq⟩ := ih (fun i hi => h i (by omega))
    obtain ⟨t, ht⟩ := h n (by omega)
    refine ⟨l ++ [t], by simp [hl], fun i hi => ?_⟩
    by_cases hil : i < l.length
    · rw [List.getElem_append_left hil]; exact hq i hil
    · have : i = n := by simp at hi; omega
      subst this
      simpa [hl] using ht

theorem mapM_some {α : Type} (f : Nat → Option α) : ∀ (n : Nat) (cs : List α), (List.range n).mapM f = some cs → cs.length = n ∧ ∀ j, j < n → f j = cs[j]? := by
  intro n
  induction n with
  | zero => intro cs h; simp at h; subst h; exact ⟨rfl, fun j hj => absurd hj (Nat.not_lt_zero j)⟩
  | succ n ih =>
    intro cs h
    rw [List.range_succ, List.mapM_append] at h
    simp only [Option.bind_eq_bind, Option.bind_eq_some_iff] at h
    obtain ⟨qs, h1, bs, h2, h3⟩ := h
    rw [List.mapM_cons] at h2
    simp only [List.mapM_nil, Option.bind_eq_bind, Option.bind_eq_some_iff] at h2
    obtain ⟨c, hc, _, h4, h5⟩ := h2
    injection h4 with h4
    subst h4
    injection h5 with h5
    subst h5
    injection h3 with h3
    subst h3
    obtain ⟨hl, hj⟩ := ih qs h1
    refine ⟨by simp [hl], fun j hjn => ?_⟩
    by_cases hjl : j < n
    · rw [hj j hjl, List.getElem?_append_left (by omega)]
    · have : j = n := by omega
      subst this
      rw [hc, List.getElem?_append_right (by omega)]
      simp [hl]

theorem cells_some {w : World} {base : Nat} {a : Addr} {n : Nat} {cs : List Value} (h : w.cells? base a n = some cs) : cs.length = n ∧ ∀ j, j < n → w.cell? (a.add j) = cs[j]? := by
  unfold World.cells? at h
  split at h
  · exact mapM_some _ _ _ h
  · cases h

/-- a slice of elements of c cells each: the element at i stands for l's at i, by R -/
structure ElA {T : Type} (R : List Value → T → Prop) (c : Nat) (w : World) (a : Option Addr) (n cap : Nat) (l : List T) : Prop where
  len : l.length = n
  le : n ≤ cap
  most : cap ≤ maxLen
  nil : a = none → cap = 0
  cells : 0 < n → ∃ b off, a = some ⟨b, off, none⟩ ∧ ∀ i (hi : i < l.length), ∃ cs, R cs l[i] ∧ cs.length = c ∧ ∀ j, j < c → w.cell? ⟨b, off + (i * c + j), none⟩ = cs[j]?

theorem ElA.keep {T : Type} {R : List Value → T → Prop} {c : Nat} {w w' : World} {a : Option Addr} {n cap : Nat} {l : List T} (h : ElA R c w a n cap l) {S : List Nat} (hk : Kept S w w') (hd : ∀ x, a = some x → x.block ∉ S) : ElA R c w' a n cap l :=
  ⟨h.len, h.le, h.most, h.nil, fun h0 => by
    obtain ⟨b, off, rfl, hc⟩ := h.cells h0
    refine ⟨b, off, rfl, fun i hi => ?_⟩
    obtain ⟨cs, h1, h2, h3⟩ := hc i hi
    refine ⟨cs, h1, h2, fun j hj => ?_⟩
    have h4 := h3 j hj
    rw [List.getElem?_eq_getElem (by omega)] at h4 ⊢
    exact hk.cell (p := ⟨b, off + (i * c + j), none⟩) (hd ⟨b, off, none⟩ rfl) h4⟩

section
variable {H : Type} {enc : TypeId × Value → H} {P : Program} {w : World} {base : Nat} {spare : Nat → Bool} {held : Bool}

/-- opened: 'hE': what one element's reading says -/
theorem open_els {T : Type} {R : List Value → T → Prop} {D : DataW H → T → Prop} {t e : TypeId} {a : Option Addr} {len cap : Nat} {d : DataW H} {p : List MemPlace}
    (ht : P.underlying t = some (.slice e)) (hc : 0 < P.cellsOf e) (h : ∃ fuel, DataW.trod enc P w base spare held fuel t [.slice a len cap] = some (d, p))
    (hE : ∀ n cs d' p', DataW.trod enc P w base spare held n e cs = some (d', p') → ∃ x : T, R cs x ∧ D d' x) :
    ∃ l : List T, ElA R (P.cellsOf e) w a len cap l ∧ ((d = .nil ∧ l = []) ∨ ∃ elems rest, d = .slice elems rest ∧ elems.length = l.length ∧ ∀ i (hi : i < l.length) (hi' : i < elems.length), D elems[i] l[i]) := by
  obtain ⟨fuel, h⟩ := h
  rcases DataW.trod_slice ht h with ⟨hcs, hx⟩ | ⟨a', len', cap', elems, rest, n, _, hcs, hx, hb, hl, hm, hlen, hel, hsp, hns⟩
  · injection hcs with hcs _
    injection hcs with h1 h2 h3
    subst h1 h2 h3
    injection hx with hx _
    exact ⟨[], ⟨rfl, Nat.le_refl _, by simp [maxLen], fun _ => rfl, fun h => by omega⟩, .inl ⟨hx, rfl⟩⟩
  · injection hcs with hcs _
    injection hcs with h1 h2 h3
    subst h1 h2 h3
    injection hx with hx _
    have hkey : ∀ i, i < len → ∃ x : T, (∃ cs, R cs x ∧ w.cells? base (a'.add (i * P.cellsOf e)) (P.cellsOf e) = some cs) ∧ ∃ y, elems[i]? = some y ∧ D y.1 x := by
      intro i hi
      have := hel i hi
      rw [List.getElem?_eq_getElem (by omega)] at this
      obtain ⟨cs, h1, h2⟩ := Option.bind_eq_some_iff.1 this
      obtain ⟨x, hR, hD⟩ := hE n cs _ _ h2
      exact ⟨x, ⟨cs, hR, h1⟩, _, List.getElem?_eq_getElem (by omega), hD⟩
    obtain ⟨l, hll, hq⟩ := exists_list len _ hkey
    refine ⟨l, ⟨hll, hl, hm, (fun h => by cases h), fun h0 => ?_⟩, .inr ⟨_, _, hx, by simp [hlen, hll], fun i hi hi' => ?_⟩⟩
    · have hshape : a'.spot = none := by
        obtain ⟨⟨cs, _, hcs⟩, _⟩ := hq 0 (by omega)
        obtain ⟨hcl, hcj⟩ := cells_some hcs
        have h0 := hcj 0 hc
        rw [List.getElem?_eq_getElem (by omega)] at h0
        simp only [Nat.zero_mul, Addr.add, if_true] at h0
        unfold World.cell? at h0
        split at h0
        · split at h0
          · cases h0
          · rename_i hs; simpa using hs
        · cases h0
      obtain ⟨b, off, spot⟩ := a'
      simp only at hshape
      subst hshape
      refine ⟨b, off, rfl, fun i hi => ?_⟩
      obtain ⟨⟨cs, hR, hcs⟩, _⟩ := hq i hi
      obtain ⟨hcl, hcj⟩ := cells_some hcs
      refine ⟨cs, hR, hcl, fun j hj => ?_⟩
      have hadd : (⟨b, off, none⟩ : Addr).add (i * P.cellsOf e + j) = ⟨b, off + (i * P.cellsOf e + j), none⟩ := by unfold Addr.add; split <;> simp_all
      rw [← hcj j hj, Go.Deep.add_add, hadd]
    · obtain ⟨_, y, hy, hD⟩ := hq i hi
      have hie : i < elems.length := by omega
      rw [List.getElem?_eq_getElem hie] at hy
      injection hy with hy
      simp only [List.getElem_map]
      rw [hy]
      exact hD
end
end Go.Proofs.Ytegbkeichkifnaa.opn
/-!   Spans that came in, opened.
-/
namespace Go.Proofs.Ytegbkeichkifnaa.sp
open Go.RowKit aid mem opn Go.ChangeShapes Go.WideShapes Go.ChangeAt
set_option linter.unusedVariables false

theorem cells_int : Try.prog.cellsOf 3 = 1 := by kernel_rfl
theorem cells_span : Try.prog.cellsOf 24 = 2 := by kernel_rfl
def SpIs (cs : List Value) (q : Int × Int) : Prop := cs = [.int .i64 q.1, .int .i64 q.2]

section
variable {H : Type} {enc : TypeId × Value → H} {w : World} {base : Nat}
set_option maxRecDepth 100000 in
theorem span_of (n : Nat) (cs : List Value) (d : DataW H) (p : List MemPlace)
    (h : DataW.trod enc Try.prog w base (fun _ => true) true n 24 cs = some (d, p)) : ∃ q : Int × Int, SpIs cs q ∧ True := by
  obtain ⟨xs, m, _, hx, hl, hxl, hf⟩ := DataW.trod_struct Try.underlying24 h
  rw [cells_span] at hl
  have h0 := hf 0 _ rfl
  have h1 := hf 1 _ rfl
  match cs, hl, xs, hxl with
  | [c0, c1], _, [x0, x1], _ =>
    simp [cells_int] at h0 h1
    obtain ⟨k, hk, hk2, hkw⟩ := DataW.trod_int Try.underlying3 h0
    obtain ⟨q, hq, hq2, hqw⟩ := DataW.trod_int Try.underlying3 h1
    injection hk with hk _
    injection hq with hq _
    subst hk hq
    exact ⟨(k, q), rfl, trivial⟩
set_option maxRecDepth 100000 in
theorem open_span {b0 : Nat} {v : Value} {d : DataW H} {p : List MemPlace} (hv : Value.okWide Try.prog w .any b0 24 v)
    (hk : DataW.Trod enc Try.prog w base (fun _ => true) true 24 v d p) : ∃ s : Int × Int, v = spV s := by
  obtain ⟨cs, rfl, hsz⟩ := okWide_struct Try.underlying24 hv
  obtain ⟨fuel, h⟩ := hk
  obtain ⟨q, hq, _⟩ := span_of fuel _ d p h
  refine ⟨q, ?_⟩
  unfold SpIs at hq
  have : cs = #[.int .i64 q.1, .int .i64 q.2] := by
    apply Array.toList_inj.1
    simpa [Value.cells] using hq
  rw [this]
theorem sls_of_els {a : Option Addr} {len cap : Nat} {l : List (Int × Int)} (h : ElA SpIs 2 w a len cap l) : SlS w a len cap l := by
  refine ⟨h.len, h.le, h.most, h.nil, fun h0 => ?_⟩
  obtain ⟨b, off, ha, hc⟩ := h.cells h0
  refine ⟨b, off, ha, fun i hi => ?_⟩
  have hil : i < l.length := by rw [h.len]; exact hi
  obtain ⟨cs, hR, _, hj⟩ := hc i hil
  rw [hR] at hj
  have e : l.getD i (0, 0) = l[i] := by simp [List.getD, hil]
  rw [e]
  have j0 := hj 0 (by omega)
  have j1 := hj 1 (by omega)
  rw [← Nat.add_assoc] at j1
  exact ⟨by simpa using j0, by simpa using j1⟩
set_option maxRecDepth 100000 in
theorem open_spans {a : Option Addr} {len cap : Nat} {d : DataW H} {p : List MemPlace}
    (h : ∃ fuel, DataW.trod enc Try.prog w base (fun _ => true) true fuel 30 [.slice a len cap] = some (d, p)) :
    ∃ l : List (Int × Int), SlS w a len cap l ∧ True := by
  obtain ⟨l, hl, _⟩ := open_els (R := SpIs) (D := fun (_ : DataW H) (_ : Int × Int) => True) Try.underlying30 (by rw [cells_span]; omega) h span_of
  rw [cells_span] at hl
  exact ⟨l, sls_of_els hl, trivial⟩
end
end Go.Proofs.Ytegbkeichkifnaa.sp
/-!   append, of whatever source, onto a row of one's own: elements of any size; where the row lies then is told. Within a fence, too. Imports nothing of the program.
-/
namespace Go.Proofs.Ytegbkeichkifnaa.mem
open Go.RowKit aid
set_option linter.unusedVariables false
section
variable {P : Program} (w : World)

theorem run_append_sz (t tx ty : TypeId) (base : Nat) (e : TypeId) (i : TypeInfo) (z : Value) (sz bytes : Nat) (ht : P.underlying t = some (.slice e)) (hi : P.info? e = some i) (hz : i.zero = some z)
    (hsize : i.size = sz) (hsz : 0 < sz) (hby : i.bytes = bytes) (hzs : z.cells.size = sz)
    (v : Value) (n : Nat) (xs : List Value) (hown : w.ownsRow base e sz v n xs) (x : Value) (m : Nat) (news : List Value) (hs : Src P sz tx x m news w)
    (h63 : n + m ≤ maxLen) (hbytes : (n + m) * bytes ≤ 140737488355328) (hbase : base ≤ w.heap.size) :
    ∃ v' w', (Builtin.append_ #[t, tx] ty #[v, x]).run P w = .ok v' w' ∧ w'.ownsRow base e sz v' (n + m) (xs ++ news) ∧ w.grownBy w' v.ownBlock ∧
      (v'.ownBlock = v.ownBlock ∨ v'.ownBlock = some w.heap.size) := by
  have hnl : news.length = m * sz := by simpa using hs.newsLen
  have hxl : xs.length = n * sz := by simpa using hown.1
  have h63' : ((n + m : Nat) : Int) ≤ 9223372036854775807 := by unfold maxLen at h63; omega
  have hs' : Src P i.size tx x m news w := by rw [hsize]; exact hs
  have hlen : (xs ++ news).length = (n + m) * sz := by rw [List.length_append, hxl, hnl, Nat.add_mul]
  have grow : ∀ (b : Option Addr) (cap : Nat), cap < n + m → (Builtin.firstCells i.size n (.slice b n cap)).run P w.drew = .ok xs.toArray w.drew →
      ∃ v' w', (Builtin.append_ #[t, tx] ty #[.slice b n cap, x]).run P w = .ok v' w' ∧ w'.ownsRow base e sz v' (n + m) (xs ++ news) ∧ w.grownBy w' (Value.ownBlock (.slice b n cap)) ∧
      (v'.ownBlock = Value.ownBlock (.slice b n cap) ∨ v'.ownBlock = some w.heap.size) := by
    intro b cap hlt hold
    have hr := run_append_grow_src (P := P) w t tx ty e i z ht hi hz b n cap xs hold x m news hs' hlt h63' (by rw [hby]; exact growslice_fits (by omega) hbytes)
    refine ⟨_, _, hr, ⟨hlen, .inr ⟨w.heap.size, _, _, rfl, hbase, heap_alloc_new w.drew _, grownCap_ge _ _ _ _, grownCap_le_maxLen _ _ _ _ h63, ?_, ?_⟩⟩, ⟨rfl, rfl, rfl, by simp, fun k hk _ => Below.heap_alloc w.drew _ k hk⟩, .inr rfl⟩
    · have hge := grownCap_ge w (n + m) cap e
      simp only [Array.size_append, List.size_toArray, size_zeroCells, hzs]
      rw [← hlen, List.length_append, hxl, hnl] at *
      have : grownCap w (n + m) cap e = (n + m) + (grownCap w (n + m) cap e - (n + m)) := by omega
      generalize grownCap w (n + m) cap e - (n + m) = q at *
      rw [this, Nat.add_mul, Nat.add_mul]
    · simp only [Array.toList_append]
      rw [← hlen]
      exact List.take_left
  rcases hown.2 with ⟨rfl, rfl⟩ | ⟨g, cap, cur, rfl, hbg, hg, hnc, hcm, hcs, htake⟩
  · obtain rfl : xs = [] := List.eq_nil_of_length_eq_zero (by omega)
    by_cases hm : m = 0
    · subst hm
      obtain rfl : news = [] := List.eq_nil_of_length_eq_zero (by omega)
      refine ⟨.slice none 0 0, w, ?_, World.ownsRow_nil w base e sz, ⟨rfl, rfl, rfl, Nat.le_refl _, fun _ _ _ => rfl⟩, .inl rfl⟩
      have hc := hs'.cells
      rcases hs.kind with ⟨e', hk⟩ | hk <;> simp [Builtin.append_, run_underlying ht, run_underlying hk, sizeOf, typeInfo, hi, hs.len, hc]
    · exact grow none 0 (by omega) (run_firstCells_none w.drew i.size 0 0 0)
  · by_cases hroom : n + m ≤ cap
    · have hcell : ∀ j, w.cell? ⟨g, j, none⟩ = cur[j]? := fun j => cell_of_row w g j cur e (0, 0) hg
      have hfr : ∀ j, w.frozen? ⟨g, j, none⟩ = false := fun j => by simp [World.frozen?, hg]
      have hmul : n * sz + m * sz ≤ cap * sz := by rw [← Nat.add_mul]; exact Nat.mul_le_mul_right _ hroom
      have hr := run_append_room_src (P := P) w t tx ty e i ht hi g 0 n cap x m news hs' hroom
        (fun j hj => by rw [hcell, hsize]; rw [Array.getElem?_eq_getElem (by rw [hcs]; omega)]; rfl) (fun j hj => hfr _)
      rw [hsize] at hr
      simp only [Nat.zero_add] at hr
      have hsr : w.setCells g (n * sz) news = w.setRow g (cur.toList.take (n * sz) ++ news ++ cur.toList.drop (n * sz + news.length)).toArray := by
        have h2 := run_storeCells_at P g (n * sz) e news 0 cur w hg (by omega) hs.one
        have h3 := run_storeCells_cells (P := P) g (n * sz) news 0 w (fun j hj => by rw [hcell]; rw [Array.getElem?_eq_getElem (by rw [hcs]; omega)]; rfl) (fun j hj => hfr _) hs.one
        simp only [Nat.add_zero] at h2 h3
        rw [h2] at h3
        injection h3 with _ h3
        exact h3.symm
      rw [hsr] at hr
      refine ⟨_, _, hr, ⟨hlen, .inr ⟨g, cap, _, rfl, hbg, setRow_heap w g cur _ e _ hg, hroom, hcm, ?_, ?_⟩⟩, ⟨rfl, rfl, rfl, by simp, fun k _ hk => setRow_other w g k _ (fun e => hk (by simp [Value.ownBlock, e]))⟩, .inl rfl⟩
      · simp only [List.size_toArray, List.length_append, List.length_take, List.length_drop, Array.length_toList]
        omega
      · simp only
        rw [htake, ← hlen]
        exact List.take_left
    · refine grow (some ⟨g, 0, none⟩) cap (by omega) ?_
      exact run_firstCells_some w.drew i.size n ⟨g, 0, none⟩ n cap xs (by rw [hxl, hsize]) (by have := hown.cells (g := g) rfl; simpa using this)

/-- within a fence -/
theorem wpListIn_append_sz {F : Fence} {q : Nat} {ops : Array Oper} {rest : List Oper} {o : Oper} {a : Act} {Q : Exit → Act → World → Prop}
    (hg : o.guard = none) (s x : Operand) (t tx : TypeId) (hop : o.op = Op.call { callee := Callee.builtin Builtin.append, args := #[s, x], argTypes := #[t, tx] })
    (base : Nat) (e : TypeId) (i : TypeInfo) (z : Value) (sz bytes : Nat) (ht : P.underlying t = some (.slice e)) (hi : P.info? e = some i) (hz : i.zero = some z)
    (hsize : i.size = sz) (hsz : 0 < sz) (hby : i.bytes = bytes) (hzs : z.cells.size = sz)
    (v : Value) (n : Nat) (xs : List Value) (hsv : a.eval s = v) (hown : w.ownsRow base e sz v n xs) (xv : Value) (hx : a.eval x = xv) (m : Nat) (news : List Value) (hs : Src P sz tx xv m news w)
    (h63 : n + m ≤ maxLen) (hbytes : (n + m) * bytes ≤ 140737488355328) (hbase : base ≤ w.heap.size)
    (hK : ∀ a' cap' w', w'.ownsRow base e sz (.slice a' (n + m) cap') (n + m) (xs ++ news) → w.grownBy w' v.ownBlock → (Value.ownBlock (.slice a' (n + m) cap') = v.ownBlock ∨ Value.ownBlock (.slice a' (n + m) cap') = some w.heap.size) → wpListIn F q P ops Q rest (a.put o.dst (.slice a' (n + m) cap')) w') :
    wpListIn F q P ops Q (o :: rest) a w := by
  refine wpListIn_plain hg fun K hK' => ?_
  obtain ⟨v', w', hrun, r1, r2, r3⟩ := run_append_sz (P := P) w t tx o.type base e i z sz bytes ht hi hz hsize hsz hby hzs v n xs hown xv m news hs h63 hbytes hbase
  obtain ⟨a', cap', rfl⟩ := own_form r1
  unfold Oper.wpIn
  refine ⟨?_, ?_⟩
  · simp [Oper.about, hop, resolve, Target.leads, Sem.run_pure]
  · rw [Oper.semAt_plain F _ _ (by rw [hop]; intro c hc'; cases hc')]
    simp [execOp, hop, resolve, invoke, builtin, hsv, hx, hrun, Result.andThen]
    exact hK' _ _ (hK a' cap' w' r1 r2 r3)
theorem wpList_append_sz {ops : Array Oper} {rest : List Oper} {o : Oper} {a : Act} {Q : Exit → Act → World → Prop} (hgd : o.guard = none) (s x : Operand) (t tx : TypeId)
    (ho : o.op = .call { callee := .builtin .append, args := #[s, x], argTypes := #[t, tx] })
    (base : Nat) (e : TypeId) (i : TypeInfo) (z : Value) (sz bytes : Nat) (ht : P.underlying t = some (.slice e)) (hi : P.info? e = some i) (hz : i.zero = some z)
    (hsize : i.size = sz) (hsz : 0 < sz) (hby : i.bytes = bytes) (hzs : z.cells.size = sz)
    (v : Value) (n : Nat) (xs : List Value) (hsv : a.eval s = v) (hown : w.ownsRow base e sz v n xs) (xv : Value) (hx : a.eval x = xv) (m : Nat) (news : List Value) (hs : Src P sz tx xv m news w)
    (h63 : n + m ≤ maxLen) (hbytes : (n + m) * bytes ≤ 140737488355328) (hbase : base ≤ w.heap.size)
    (h : ∀ a' cap' w', w'.ownsRow base e sz (.slice a' (n + m) cap') (n + m) (xs ++ news) → w.grownBy w' v.ownBlock → (Value.ownBlock (.slice a' (n + m) cap') = v.ownBlock ∨ Value.ownBlock (.slice a' (n + m) cap') = some w.heap.size) → wpList P ops Q rest (a.put o.dst (.slice a' (n + m) cap')) w') : wpList P ops Q (o :: rest) a w := by
  refine wpList_plain hgd fun K hK => ?_
  obtain ⟨v', w', hr, h2, h3, h4⟩ := run_append_sz (P := P) w t tx o.type base e i z sz bytes ht hi hz hsize hsz hby hzs v n xs hown xv m news hs h63 hbytes hbase
  unfold Oper.wp execOp
  obtain ⟨a', cap', rfl⟩ := own_form h2
  simp only [ho, resolve, invoke, builtin, Sem.run_bind, Sem.run_pure, Result.andThen_ok, List.map_toArray, List.map_cons, List.map_nil, hsv, hx, hr]
  exact hK _ _ (h a' cap' w' h2 h3 h4)
end
end Go.Proofs.Ytegbkeichkifnaa.mem
/-!   Rows of one's own: what keeps them. Imports nothing of the program.
-/
namespace Go.Proofs.Ytegbkeichkifnaa.mem
open Go.RowKit aid
set_option linter.unusedVariables false

theorem al {w : World} (o : Obj) : Below w.heap.size w (w.alloc o) := (Below.refl _ _).alloc (Nat.le_refl _) _
theorem own_step {W W' : World} {base : Nat} {e : TypeId} {size : Nat} {v : Value} {n : Nat} {xs : List Value} (ho : W.ownsRow base e size v n xs) (h : ∀ k o, v.ownBlock = some k → W.heap[k]? = some o → W'.heap[k]? = some o) : W'.ownsRow base e size v n xs := by
  refine ⟨ho.1, ?_⟩
  rcases ho.2 with hn | ⟨g, cap, cur, rfl, hb, hgg, rest⟩
  · exact .inl hn
  · exact .inr ⟨g, cap, cur, rfl, hb, h g _ rfl hgg, rest⟩
theorem own_later {W W' : World} {base : Nat} {e : TypeId} {size : Nat} {v : Value} {n : Nat} {xs : List Value} (ho : W.ownsRow base e size v n xs) (h : Below W.heap.size W W') : W'.ownsRow base e size v n xs :=
  own_step ho (fun k o _ hk => (h.block k (lt_of_block hk)).trans hk)
theorem own_in {W : World} {base : Nat} {e : TypeId} {size : Nat} {v : Value} {n : Nat} {xs : List Value} (ho : W.ownsRow base e size v n xs) {k : Nat} (hk : v.ownBlock = some k) : k < W.heap.size ∧ base ≤ k := by
  rcases ho.2 with ⟨rfl, _⟩ | ⟨g, cap, cur, rfl, hb, hgg, rest⟩
  · cases hk
  · cases hk; exact ⟨lt_of_block hgg, hb⟩
theorem below_grown {w w1 : World} {v : Value} {B : Nat} (hg : w.grownBy w1 v.ownBlock) (hB : B ≤ w.heap.size) (hv : ∀ k, v.ownBlock = some k → B ≤ k) : Below B w w1 :=
  ⟨hg.os, hg.tape, hg.output, hg.size, fun k hk => hg.block k (by omega) (fun e => by have := hv k e.symm; omega)⟩
theorem info_split {o : Option TypeInfo} {z : Value} {a b : Nat} (h : o.map (fun i => (i.zero, i.size, i.bytes)) = some (some z, a, b)) : ∃ i, o = some i ∧ i.zero = some z ∧ i.size = a ∧ i.bytes = b := by
  cases o with
  | none => simp at h
  | some i => simp at h; exact ⟨i, rfl, h.1, h.2.1, h.2.2⟩
section
variable {P : Program} (w : World)
/-- append as a step of a region that draws its order: elements of any size -/
theorem step_append_sz {ops : Array Oper} {o : Oper} {a : Act} {K : Act → World → Prop} {Q : Exit → Act → World → Prop} {E : Prop} (hgd : o.guard = none) (s x : Operand) (t tx : TypeId)
    (ho : o.op = .call { callee := .builtin .append, args := #[s, x], argTypes := #[t, tx] })
    (base : Nat) (e : TypeId) (i : TypeInfo) (z : Value) (sz bytes : Nat) (ht : P.underlying t = some (.slice e)) (hi : P.info? e = some i) (hz : i.zero = some z)
    (hsize : i.size = sz) (hsz : 0 < sz) (hby : i.bytes = bytes) (hzs : z.cells.size = sz)
    (v : Value) (n : Nat) (xs : List Value) (hsv : a.eval s = v) (hown : w.ownsRow base e sz v n xs) (xv : Value) (hx : a.eval x = xv) (m : Nat) (news : List Value) (hs : Src P sz tx xv m news w)
    (h63 : n + m ≤ maxLen) (hbytes : (n + m) * bytes ≤ 140737488355328) (hbase : base ≤ w.heap.size)
    (h : ∀ a' cap' w', w'.ownsRow base e sz (.slice a' (n + m) cap') (n + m) (xs ++ news) → w.grownBy w' v.ownBlock → (Value.ownBlock (.slice a' (n + m) cap') = v.ownBlock ∨ Value.ownBlock (.slice a' (n + m) cap') = some w.heap.size) → K (a.put o.dst (.slice a' (n + m) cap')) w') :
    if Region.wanted o (yielded ops a.tmps) = true then Oper.wp P o a w K Q else E := by
  have hw : Region.wanted o (yielded ops a.tmps) = true := by simp [Region.wanted, hgd]
  rw [if_pos hw]
  obtain ⟨v', w', hr, h2, h3, h4⟩ := run_append_sz (P := P) w t tx o.type base e i z sz bytes ht hi hz hsize hsz hby hzs v n xs hown xv m news hs h63 hbytes hbase
  unfold Oper.wp execOp
  obtain ⟨a', cap', rfl⟩ := own_form h2
  simp only [ho, resolve, invoke, builtin, Sem.run_bind, Sem.run_pure, Result.andThen_ok, List.map_toArray, List.map_cons, List.map_nil, hsv, hx, hr]
  exact h a' cap' w' h2 h3 h4
end
end Go.Proofs.Ytegbkeichkifnaa.mem
/-!   Rows of spans.
-/
namespace Go.Proofs.Ytegbkeichkifnaa.sp
open Go.RowKit aid mem
set_option linter.unusedVariables false

def spCells (l : List (Int × Int)) : List Value := l.flatMap (fun x => [.int .i64 x.1, .int .i64 x.2])
theorem spCells_snoc (l : List (Int × Int)) (x : Int × Int) : spCells (l ++ [x]) = spCells l ++ [.int .i64 x.1, .int .i64 x.2] := by simp [spCells]
theorem spCells_append (l r : List (Int × Int)) : spCells (l ++ r) = spCells l ++ spCells r := by simp [spCells]
theorem spCells_len (l : List (Int × Int)) : (spCells l).length = l.length * 2 := by
  induction l with
  | nil => rfl
  | cons x l ih => rw [show spCells (x :: l) = [.int .i64 x.1, .int .i64 x.2] ++ spCells l from rfl, List.length_append, ih]; simp; omega
theorem spCells_get (l : List (Int × Int)) : ∀ i, i < l.length → (spCells l)[i * 2]? = some (.int .i64 (l.getD i (0, 0)).1) ∧ (spCells l)[i * 2 + 1]? = some (.int .i64 (l.getD i (0, 0)).2) := by
  induction l with
  | nil => intro i hi; simp at hi
  | cons x l ih =>
    intro i hi
    rw [show spCells (x :: l) = .int .i64 x.1 :: .int .i64 x.2 :: spCells l from rfl]
    cases i with
    | zero => exact ⟨rfl, rfl⟩
    | succ i =>
      have := ih i (by simpa using hi)
      rw [show (i + 1) * 2 = i * 2 + 1 + 1 from by omega]
      simpa [List.getD] using this
theorem spCells_inj : ∀ {l r : List (Int × Int)}, spCells l = spCells r → l = r := by
  intro l
  induction l with
  | nil => intro r h; cases r with | nil => rfl | cons y r => simp [spCells] at h
  | cons x l ih =>
    intro r h
    cases r with
    | nil => simp [spCells] at h
    | cons y r =>
      rw [show spCells (x :: l) = .int .i64 x.1 :: .int .i64 x.2 :: spCells l from rfl, show spCells (y :: r) = .int .i64 y.1 :: .int .i64 y.2 :: spCells r from rfl] at h
      injection h with h1 h
      injection h with h2 h
      injection h1 with _ h1
      injection h2 with _ h2
      rw [ih h, Prod.ext h1 h2]
theorem spCells_one (l : List (Int × Int)) : ∀ u ∈ spCells l, u.oneCell' = true := by
  intro u hu
  unfold spCells at hu
  obtain ⟨x, _, hx⟩ := List.mem_flatMap.1 hu
  simp at hx
  rcases hx with rfl | rfl <;> rfl
theorem info_span : (Try.prog.info? 24).map (fun i => (i.zero, i.size, i.bytes)) = some (some (.agg #[.int .i64 0, .int .i64 0]), 2, 16) := by kernel_rfl
/-- one span in a new array, as what is appended -/
theorem span_src (X : World) (s : Int × Int) : Src Try.prog 2 30 (.slice (some ⟨X.heap.size, 0, none⟩) 1 1) 1 [.int .i64 s.1, .int .i64 s.2] (X.alloc (.cells #[.int .i64 s.1, .int .i64 s.2] 24)) := by
  refine Src.ofSlice _ Try.underlying30 ⟨X.heap.size, 0, none⟩ 1 1 _ rfl ?_ (by simp [Value.oneCell'])
  intro j u hu
  have := cell_of_row (X.alloc (.cells #[.int .i64 s.1, .int .i64 s.2] 24)) X.heap.size j _ _ (0, 0) (heap_alloc_new X _)
  have hadd : (⟨X.heap.size, 0, none⟩ : Addr).add j = ⟨X.heap.size, 0 + j, none⟩ := by unfold Addr.add; split <;> simp_all
  rw [hadd, Nat.zero_add, this, ← hu]
  simp
/-- a slice of spans, as what is appended -/
theorem SlS.src {w : World} {a : Option Addr} {n cap : Nat} {l : List (Int × Int)} (h : SlS w a n cap l) : Src Try.prog 2 30 (.slice a n cap) n (spCells l) w := by
  have hl : (spCells l).length = n * 2 := by rw [spCells_len, h.len]
  cases a with
  | none =>
    have hn : n = 0 := by have := h.le; have := h.nil rfl; omega
    subst hn
    obtain rfl : l = [] := List.eq_nil_of_length_eq_zero h.len
    exact Src.ofNil w Try.underlying30 cap
  | some x =>
    refine Src.ofSlice w Try.underlying30 x n cap _ hl ?_ (spCells_one l)
    intro j u hu
    have hj : j < n * 2 := by rw [← hl]; exact (List.getElem?_eq_some_iff.1 hu).1
    obtain ⟨b, off, hx, hc⟩ := h.cells (by omega)
    obtain rfl : x = ⟨b, off, none⟩ := by injection hx
    have hadd : (⟨b, off, none⟩ : Addr).add j = ⟨b, off + j, none⟩ := by unfold Addr.add; split <;> simp_all
    rw [hadd]
    obtain ⟨c0, c1⟩ := hc (j / 2) (by omega)
    obtain ⟨e0, e1⟩ := spCells_get l (j / 2) (by rw [h.len]; omega)
    by_cases hp : j % 2 = 0
    · rw [show j = j / 2 * 2 from by omega] at hu ⊢
      rw [e0] at hu
      cases hu
      exact c0
    · rw [show j = j / 2 * 2 + 1 from by omega] at hu ⊢
      rw [e1] at hu
      cases hu
      rw [← Nat.add_assoc]
      exact c1
/-- a row of one's own is a slice of spans -/
theorem sls_of_own {w : World} {base : Nat} {v : Value} {n : Nat} {l : List (Int × Int)} (h : w.ownsRow base 24 2 v n (spCells l)) :
    ∃ a cap, v = .slice a n cap ∧ SlS w a n cap l ∧ ∀ x, a = some x → v.ownBlock = some x.block := by
  have hl : l.length = n := by have := h.1; rw [spCells_len] at this; omega
  rcases h.2 with ⟨rfl, rfl⟩ | ⟨g, cap, cur, rfl, hb, hg, hn, hm, hc, ht⟩
  · exact ⟨none, 0, rfl, ⟨hl, Nat.le_refl _, by unfold maxLen; omega, fun _ => rfl, fun h => by omega⟩, fun _ h => by cases h⟩
  · refine ⟨some ⟨g, 0, none⟩, cap, rfl, ⟨hl, hn, hm, (fun h => by cases h), fun _ => ⟨g, 0, rfl, fun i hi => ?_⟩⟩, fun x hx => by injection hx with hx; subst hx; rfl⟩
    obtain ⟨e0, e1⟩ := spCells_get l i (by omega)
    rw [← ht, List.getElem?_take, if_pos (by omega)] at e0 e1
    rw [cell_of_row w g _ cur _ (0, 0) hg, cell_of_row w g _ cur _ (0, 0) hg, Nat.zero_add]
    exact ⟨by simpa using e0, by simpa using e1⟩
end Go.Proofs.Ytegbkeichkifnaa.sp
/-!   The reference's Same, of two lists of spans.
-/
namespace Go.Proofs.Ytegbkeichkifnaa.sp
open Go.RowKit aid mem
attribute [local go_sem ↓] Go.wp_at_zero Go.wp_at_succ
set_option linter.unusedVariables false

theorem eq_spB (x y : Int × Int) (w : World) : (Op.equalIn 10000 24 (.agg #[.int .i64 x.1, .int .i64 x.2]) (.agg #[.int .i64 y.1, .int .i64 y.2])).run Try.prog w = .ok (decide (x = y)) w := by
  rw [eq_sp]
  congr 1
  rw [Bool.eq_iff_iff]
  simp [Prod.ext_iff]
theorem take_eq_succ {l r : List (Int × Int)} {k : Nat} (h : l.take k = r.take k) (hk : k < l.length) (hr : k < r.length) : (l.take (k + 1) = r.take (k + 1)) ↔ l.getD k (0, 0) = r.getD k (0, 0) := by
  have e1 := List.take_succ_eq_append_getElem hk
  have e2 := List.take_succ_eq_append_getElem hr
  rw [e1, e2, h, List.append_right_inj]
  simp [List.getD, hk, hr]
theorem bdN (w : World) (n : Nat) : Below w.heap.size w (w.drewN n) := ⟨rfl, rfl, rfl, Nat.le_refl _, fun _ _ => rfl⟩

set_option maxRecDepth 100000 in
set_option maxHeartbeats 3200000 in
theorem rsame_any {w : World} {a b : Option Addr} {n m c d : Nat} {l r : List (Int × Int)} (ho : SlS w a n c l) (hq : SlS w b m d r) :
    Calls Try.prog 32 #[.slice a n c, .slice b m d] w fun e w' => e = .returned (.bool (decide (l = r))) ∧ Below w.heap.size w w' := by
  have hmo := ho.most
  have hleo := ho.le
  have hmq := hq.most
  have hleq := hq.le
  have hl1 := ho.len
  have hl2 := hq.len
  unfold maxLen at hmo hmq
  by_cases hnm : n = m
  · subst hnm
    have H1 := Lib.hid ho.cells
    have H2 := Lib.hid hq.cells
    have HL := Lib.hid (And.intro hl1 hl2)
    clear ho hq hl1 hl2
    go_enter Try.func32, Try.ntmps32
    go_wp2_with fail
    go_loopw [5] (fun i wr => ∃ k nq : Nat, k ≤ n ∧ i = .int .i64 k ∧ wr = w.drewN nq ∧ Hid (l.take k = r.take k)) (fun i _ => n - (intOf i).toNat)
    case atStart => exact ⟨0, 0, Nat.zero_le _, rfl, rfl, Lib.hid rfl⟩
    case round =>
      obtain ⟨k, nq, hk, rfl, rfl, HT⟩ := hrel
      have hk0 : (0 : Int) ≤ (k : Int) := by omega
      by_cases hlt : k < n
      · obtain ⟨b1, o1, rfl, hc1⟩ := H1.out (by omega)
        obtain ⟨b2, o2, rfl, hc2⟩ := H2.out (by omega)
        obtain ⟨g1, g2⟩ := hc1 k hlt
        obtain ⟨g3, g4⟩ := hc2 k hlt
        have hk1 : (k : Int) < (n : Int) := by omega
        have hst := take_eq_succ HT.out (by rw [HL.out.1]; exact hlt) (by rw [HL.out.2]; exact hlt)
        generalize l.getD k (0, 0) = x at *
        generalize r.getD k (0, 0) = y at *
        have HST := Lib.hid hst
        clear hc1 hc2 hst
        have eqg := eq_guard
        by_cases hxy : x = y
        · have eqb : ∀ w, (Op.equalIn 10000 24 (.agg #[.int .i64 x.1, .int .i64 x.2]) (.agg #[.int .i64 y.1, .int .i64 y.2])).run Try.prog w = .ok true w := fun w => by rw [eq_spB, hxy]; simp
          have H' := Lib.hid (HST.out.2 hxy)
          clear hxy HST
          go_wp2_with fail
          go_quiet (fail)
          clear eqb eqg
          go_wp2
          go_roundw
          case rel => exact ⟨k + 1, _, by omega, by go_num, rfl, H'⟩
          case measure => simp [intOf]; omega
        · have eqb : ∀ w, (Op.equalIn 10000 24 (.agg #[.int .i64 x.1, .int .i64 x.2]) (.agg #[.int .i64 y.1, .int .i64 y.2])).run Try.prog w = .ok false w := fun w => by rw [eq_spB, decide_eq_false hxy]
          have H' : Hid (decide (l = r) = false) := Lib.hid (decide_eq_false (fun e => hxy (HST.out.1 (by rw [e]))))
          clear hxy HST
          go_wp2_with fail
          go_quiet (fail)
          clear eqb eqg
          go_wp2
          go_ret
          exact ⟨ret_b H'.out.symm, ⟨rfl, rfl, rfl, Nat.le_refl _, fun _ _ => rfl⟩⟩
      · have H' : Hid (decide (l = r) = true) := Lib.hid (decide_eq_true (by have := HT.out; rw [List.take_of_length_le (by rw [HL.out.1]; omega), List.take_of_length_le (by rw [HL.out.2]; omega)] at this; exact this))
        clear HT
        go_wp2
        go_ret
        exact ⟨ret_b H'.out.symm, bdN w nq⟩
  · have H' : Hid (decide (l = r) = false) := Lib.hid (decide_eq_false (fun e => hnm (by rw [← hl1, ← hl2, e])))
    clear ho hq hl1 hl2
    go_enter Try.func32, Try.ntmps32
    go_wp2_with fail
    go_ret
    exact ⟨ret_b H'.out.symm, Below.refl _ _⟩
end Go.Proofs.Ytegbkeichkifnaa.sp
/-!   Slices with room behind them, that lead into a row of one's own anywhere; append onto them. Imports nothing of the program.
-/
namespace Go.Proofs.Ytegbkeichkifnaa.mem
open Go.RowKit aid
set_option linter.unusedVariables false

structure SlR (w : World) (e : TypeId) (sz : Nat) (a : Option Addr) (n cap : Nat) (xs : List Value) : Prop where
  len : xs.length = n * sz
  le : n ≤ cap
  most : cap ≤ maxLen
  rest : 0 < cap → ∃ g off cur, a = some ⟨g, off, none⟩ ∧ w.heap[g]? = some (.cells cur e (0, 0)) ∧ off + cap * sz ≤ cur.size ∧ ∀ j, j < n * sz → cur[off + j]? = xs[j]?
/-- the block that it may write -/
def blk (a : Option Addr) (cap : Nat) : List Nat := if cap = 0 then [] else a.toList.map (·.block)
theorem blk_zero (a : Option Addr) : blk a 0 = [] := rfl
theorem blk_some (g off cap : Nat) (h : 0 < cap) : blk (some ⟨g, off, none⟩) cap = [g] := by unfold blk; rw [if_neg (by omega)]; rfl
theorem SlR.nil (w : World) (e : TypeId) (sz : Nat) : SlR w e sz none 0 0 [] := ⟨by simp, Nat.le_refl _, by simp [maxLen], fun h => by omega⟩
theorem SlR.keep {w w' : World} {e : TypeId} {sz : Nat} {a : Option Addr} {n cap : Nat} {xs : List Value} (h : SlR w e sz a n cap xs) {S : List Nat} (hk : Kept S w w') (hd : ∀ b ∈ blk a cap, b ∉ S) : SlR w' e sz a n cap xs :=
  ⟨h.len, h.le, h.most, fun h0 => by
    obtain ⟨g, off, cur, rfl, hg, h1, h2⟩ := h.rest h0
    exact ⟨g, off, cur, rfl, hk.heap (hd g (by rw [blk_some _ _ _ h0]; simp)) hg, h1, h2⟩⟩
theorem SlR.later {w w' : World} {e : TypeId} {sz : Nat} {a : Option Addr} {n cap : Nat} {xs : List Value} (h : SlR w e sz a n cap xs) (hk : Below w.heap.size w w') : SlR w' e sz a n cap xs :=
  h.keep (Kept.of_below hk (Nat.le_refl _) []) (fun _ _ => by simp)
theorem SlR.lt {w : World} {e : TypeId} {sz : Nat} {a : Option Addr} {n cap : Nat} {xs : List Value} (h : SlR w e sz a n cap xs) : ∀ b ∈ blk a cap, b < w.heap.size ∧ ∃ cur, w.heap[b]? = some (.cells cur e (0, 0)) := by
  intro b hb
  by_cases h0 : cap = 0
  · subst h0; simp [blk_zero] at hb
  · obtain ⟨g, off, cur, rfl, hg, _⟩ := h.rest (by omega)
    rw [blk_some _ _ _ (by omega)] at hb
    simp at hb
    subst hb
    exact ⟨lt_of_block hg, cur, hg⟩
/-- the cells of it -/
theorem SlR.cell {w : World} {e : TypeId} {sz : Nat} {a : Option Addr} {n cap : Nat} {xs : List Value} (h : SlR w e sz a n cap xs) (h0 : 0 < cap) : ∃ g off, a = some ⟨g, off, none⟩ ∧ ∀ j, j < n * sz → w.cell? ⟨g, off + j, none⟩ = xs[j]? := by
  obtain ⟨g, off, cur, rfl, hg, h1, h2⟩ := h.rest h0
  exact ⟨g, off, rfl, fun j hj => by rw [cell_of_row w g _ _ _ (0, 0) hg]; exact h2 j hj⟩
/-- a piece of it, with some of its room: where it has room, its address is moved -/
theorem SlR.sub {w : World} {e : TypeId} {sz : Nat} {g off n cap : Nat} {xs : List Value} (h : SlR w e sz (some ⟨g, off, none⟩) n cap xs) (b f r : Nat) (hbf : b ≤ f) (hfn : f ≤ n) (hfr : f ≤ r) (hr : r ≤ cap) (hbr : b < r) :
    SlR w e sz (some ⟨g, off + b * sz, none⟩) (f - b) (r - b) ((xs.take (f * sz)).drop (b * sz)) := by
  have hm1 : b * sz ≤ f * sz := Nat.mul_le_mul_right _ hbf
  have hm2 : f * sz ≤ n * sz := Nat.mul_le_mul_right _ hfn
  have hm3 : r * sz ≤ cap * sz := Nat.mul_le_mul_right _ hr
  have hsb : (f - b) * sz = f * sz - b * sz := Nat.sub_mul _ _ _
  have hsr : (r - b) * sz = r * sz - b * sz := Nat.sub_mul _ _ _
  have hm4 : b * sz ≤ r * sz := Nat.mul_le_mul_right _ (by omega)
  refine ⟨?_, by omega, by have := h.most; omega, fun _ => ?_⟩
  · have := h.len
    rw [List.length_drop, List.length_take, hsb]
    omega
  · obtain ⟨g', off', cur, hx, hg, h1, h2⟩ := h.rest (by omega)
    injection hx with hx
    injection hx with hx1 hx2
    subst hx1 hx2
    refine ⟨g, off + b * sz, cur, rfl, hg, by omega, fun j hj => ?_⟩
    rw [Nat.add_assoc, h2 (b * sz + j) (by omega), List.getElem?_drop, List.getElem?_take, if_pos (by omega)]
/-- where it has none, whatever its address -/
theorem SlR.sub0 {w : World} {e : TypeId} {sz : Nat} (a : Option Addr) : SlR w e sz a 0 0 [] := ⟨by simp, Nat.le_refl _, by simp [maxLen], fun h => by omega⟩
/-- as what is appended -/
theorem SlR.src {P : Program} {w : World} {e : TypeId} {sz : Nat} {a : Option Addr} {n cap : Nat} {xs : List Value} {t : TypeId} (h : SlR w e sz a n cap xs) (ht : P.underlying t = some (.slice e)) (h1 : ∀ u ∈ xs, u.oneCell' = true) : Src P sz t (.slice a n cap) n xs w := by
  cases a with
  | none =>
    have hn : n = 0 := by
      by_cases h0 : cap = 0
      · have := h.le; omega
      · obtain ⟨g, off, cur, hx, _⟩ := h.rest (by omega)
        cases hx
    subst hn
    have hx0 : xs = [] := List.eq_nil_of_length_eq_zero (by have := h.len; omega)
    subst hx0
    exact Src.ofNil w ht cap
  | some x =>
    refine Src.ofSlice w ht x n cap _ h.len ?_ h1
    intro j u hu
    have hj : j < n * sz := by rw [← h.len]; exact (List.getElem?_eq_some_iff.1 hu).1
    have h0 : 0 < cap := by
      by_cases h0 : cap = 0
      · have := h.le; have : n = 0 := by omega
        subst this; omega
      · omega
    obtain ⟨g, off, hx, hc⟩ := h.cell h0
    obtain rfl : x = ⟨g, off, none⟩ := by injection hx
    have hadd : (⟨g, off, none⟩ : Addr).add j = ⟨g, off + j, none⟩ := by unfold Addr.add; split <;> simp_all
    rw [hadd, hc j hj, hu]
/-- a row of one's own is one -/
theorem slr_of_own {w : World} {base : Nat} {e : TypeId} {sz : Nat} {v : Value} {n : Nat} {xs : List Value} (h : w.ownsRow base e sz v n xs) : ∃ a cap, v = .slice a n cap ∧ SlR w e sz a n cap xs ∧ ∀ b ∈ blk a cap, base ≤ b := by
  rcases h.2 with ⟨rfl, rfl⟩ | ⟨g, cap, cur, rfl, hb, hg, hn, hm, hc, ht⟩
  · have := h.1
    have : xs = [] := List.eq_nil_of_length_eq_zero (by omega)
    subst this
    exact ⟨none, 0, rfl, SlR.nil w e sz, fun b hb => by simp [blk_zero] at hb⟩
  · refine ⟨some ⟨g, 0, none⟩, cap, rfl, ⟨by simpa using h.1, hn, hm, fun _ => ⟨g, 0, cur, rfl, hg, by omega, fun j hj => ?_⟩⟩, fun b hb' => ?_⟩
    · rw [← ht, List.getElem?_take, if_pos hj]
      simp
    · by_cases h0 : cap = 0
      · subst h0; simp [blk_zero] at hb'
      · rw [blk_some _ _ _ (by omega)] at hb'
        simp at hb'
        omega
section
variable {P : Program} (w : World)
theorem run_append_slr (t tx ty : TypeId) (e : TypeId) (i : TypeInfo) (z : Value) (sz bytes : Nat) (ht : P.underlying t = some (.slice e)) (hi : P.info? e = some i) (hz : i.zero = some z)
    (hsize : i.size = sz) (hsz : 0 < sz) (hby : i.bytes = bytes) (hzs : z.cells.size = sz)
    (a : Option Addr) (n cap : Nat) (xs : List Value) (hown : SlR w e sz a n cap xs) (x : Value) (m : Nat) (hm0 : 0 < m) (news : List Value) (hs : Src P sz tx x m news w)
    (h63 : n + m ≤ maxLen) (hbytes : (n + m) * bytes ≤ 140737488355328) :
    ∃ a' cap' w', (Builtin.append_ #[t, tx] ty #[.slice a n cap, x]).run P w = .ok (.slice a' (n + m) cap') w' ∧ SlR w' e sz a' (n + m) cap' (xs ++ news) ∧ Kept (blk a cap) w w' ∧
      ∀ b ∈ blk a' cap', b ∈ blk a cap ∨ w.heap.size ≤ b := by
  have hnl : news.length = m * sz := by simpa using hs.newsLen
  have hxl : xs.length = n * sz := hown.len
  have h63' : ((n + m : Nat) : Int) ≤ 9223372036854775807 := by unfold maxLen at h63; omega
  have hs' : Src P i.size tx x m news w := by rw [hsize]; exact hs
  have hlen : (xs ++ news).length = (n + m) * sz := by rw [List.length_append, hxl, hnl, Nat.add_mul]
  by_cases hroom : n + m ≤ cap
  · obtain ⟨g, off, cur, rfl, hg, h1, h2⟩ := hown.rest (by omega)
    have hcell : ∀ j, w.cell? ⟨g, j, none⟩ = cur[j]? := fun j => cell_of_row w g j cur e (0, 0) hg
    have hfr : ∀ j, w.frozen? ⟨g, j, none⟩ = false := fun j => by simp [World.frozen?, hg]
    have hmul : n * sz + m * sz ≤ cap * sz := by rw [← Nat.add_mul]; exact Nat.mul_le_mul_right _ hroom
    have hr := run_append_room_src (P := P) w t tx ty e i ht hi g off n cap x m news hs' hroom
      (fun j hj => by rw [hcell, hsize]; rw [Array.getElem?_eq_getElem (by omega)]; rfl) (fun j hj => hfr _)
    rw [hsize] at hr
    have hsr : w.setCells g (off + n * sz) news = w.setRow g (cur.toList.take (off + n * sz) ++ news ++ cur.toList.drop (off + n * sz + news.length)).toArray := by
      have h2 := run_storeCells_at P g (off + n * sz) e news 0 cur w hg (by omega) hs.one
      have h3 := run_storeCells_cells (P := P) g (off + n * sz) news 0 w (fun j hj => by rw [hcell]; rw [Array.getElem?_eq_getElem (by omega)]; rfl) (fun j hj => hfr _) hs.one
      simp only [Nat.add_zero] at h2 h3
      rw [h2] at h3
      injection h3 with _ h3
      exact h3.symm
    rw [hsr] at hr
    have hcap : 0 < cap := by omega
    refine ⟨_, _, _, hr, ⟨hlen, hroom, hown.most, fun _ => ⟨g, off, _, rfl, setRow_heap w g cur _ e _ hg, ?_, fun j hj => ?_⟩⟩, ⟨rfl, rfl, rfl, by simp, fun k _ hk => setRow_other w g k _ (fun e => hk (by rw [blk_some _ _ _ hcap]; simp [e]))⟩, fun b hb => .inl hb⟩
    · simp only [List.size_toArray, List.length_append, List.length_take, List.length_drop, Array.length_toList]
      omega
    · have hl1 : (cur.toList.take (off + n * sz)).length = off + n * sz := by rw [List.length_take, Array.length_toList]; omega
      rw [List.getElem?_toArray]
      rw [Nat.add_mul] at hj
      by_cases hjn : j < n * sz
      · rw [List.getElem?_append_left (by rw [List.length_append, hl1]; omega), List.getElem?_append_left (by rw [hl1]; omega), List.getElem?_append_left (by omega), ← h2 j hjn, List.getElem?_take, if_pos (by omega)]
        simp
      · rw [List.getElem?_append_left (by rw [List.length_append, hl1]; omega), List.getElem?_append_right (by rw [hl1]; omega), List.getElem?_append_right (by omega), hl1, hxl]
        congr 1
        omega
  · have hold : (Builtin.firstCells i.size n (.slice a n cap)).run P w.drew = .ok xs.toArray w.drew := by
      cases hc0 : cap with
      | zero =>
        have hn0 : n = 0 := by have := hown.le; omega
        subst hn0
        have hx0 : xs = [] := List.eq_nil_of_length_eq_zero (by omega)
        subst hx0
        cases a with
        | none => exact run_firstCells_none w.drew i.size 0 0 0
        | some y => exact run_firstCells_some w.drew i.size 0 y 0 0 [] (by simp) (fun j v hj => by simp at hj)
      | succ c =>
        obtain ⟨g, off, cur, rfl, hg, h1, h2⟩ := hown.rest (by omega)
        refine run_firstCells_some w.drew i.size n ⟨g, off, none⟩ n (c + 1) xs (by rw [hxl, hsize]) ?_
        intro j v hj
        have hjl : j < n * sz := by rw [← hxl]; exact (List.getElem?_eq_some_iff.1 hj).1
        have hadd : (⟨g, off, none⟩ : Addr).add j = ⟨g, off + j, none⟩ := by unfold Addr.add; split <;> simp_all
        rw [hadd]
        have := cell_of_row w g (off + j) cur e (0, 0) hg
        rw [h2 j hjl, hj] at this
        exact this
    have hr := run_append_grow_src (P := P) w t tx ty e i z ht hi hz a n cap xs hold x m news hs' (by omega) h63' (by rw [hby]; exact growslice_fits (by omega) hbytes)
    have hge := grownCap_ge w (n + m) cap e
    have hgm := grownCap_le_maxLen w (n + m) cap e h63
    refine ⟨_, _, _, hr, ⟨hlen, hge, hgm, fun _ => ⟨w.heap.size, 0, _, rfl, heap_alloc_new w.drew _, ?_, fun j hj => ?_⟩⟩, ⟨rfl, rfl, rfl, by simp, fun k hk _ => Below.heap_alloc w.drew _ k hk⟩, fun b hb => .inr ?_⟩
    · simp only [Array.size_append, List.size_toArray, size_zeroCells, hzs]
      rw [hlen]
      have : grownCap w (n + m) cap e = (n + m) + (grownCap w (n + m) cap e - (n + m)) := by omega
      generalize grownCap w (n + m) cap e - (n + m) = q at *
      rw [this, Nat.add_mul]
      omega
    · rw [Nat.zero_add, Array.getElem?_append_left (by simp only [List.size_toArray]; omega), List.getElem?_toArray]
    · rw [blk_some _ _ _ (by omega)] at hb
      simp at hb
      omega
/-- append as a step of a region that draws its order -/
theorem step_append_slr {ops : Array Oper} {o : Oper} {a : Act} {K : Act → World → Prop} {Q : Exit → Act → World → Prop} {E : Prop} (hgd : o.guard = none) (s x : Operand) (t tx : TypeId)
    (ho : o.op = .call { callee := .builtin .append, args := #[s, x], argTypes := #[t, tx] })
    (e : TypeId) (i : TypeInfo) (z : Value) (sz bytes : Nat) (ht : P.underlying t = some (.slice e)) (hi : P.info? e = some i) (hz : i.zero = some z)
    (hsize : i.size = sz) (hsz : 0 < sz) (hby : i.bytes = bytes) (hzs : z.cells.size = sz)
    (ad : Option Addr) (n cap : Nat) (xs : List Value) (hsv : a.eval s = .slice ad n cap) (hown : SlR w e sz ad n cap xs) (xv : Value) (hx : a.eval x = xv) (m : Nat) (hm0 : 0 < m) (news : List Value) (hs : Src P sz tx xv m news w)
    (h63 : n + m ≤ maxLen) (hbytes : (n + m) * bytes ≤ 140737488355328)
    (h : ∀ a' cap' w', SlR w' e sz a' (n + m) cap' (xs ++ news) → Kept (blk ad cap) w w' → (∀ b ∈ blk a' cap', b ∈ blk ad cap ∨ w.heap.size ≤ b) → K (a.put o.dst (.slice a' (n + m) cap')) w') :
    if Region.wanted o (yielded ops a.tmps) = true then Oper.wp P o a w K Q else E := by
  have hw : Region.wanted o (yielded ops a.tmps) = true := by simp [Region.wanted, hgd]
  rw [if_pos hw]
  obtain ⟨a', cap', w', hr, h2, h3, h4⟩ := run_append_slr (P := P) w t tx o.type e i z sz bytes ht hi hz hsize hsz hby hzs ad n cap xs hown xv m hm0 news hs h63 hbytes
  unfold Oper.wp execOp
  simp only [ho, resolve, invoke, builtin, Sem.run_bind, Sem.run_pure, Result.andThen_ok, List.map_toArray, List.map_cons, List.map_nil, hsv, hx, hr]
  exact h a' cap' w' h2 h3 h4
/-- append as a step of a region in its own order -/
theorem wpList_append_slr {ops : Array Oper} {rest : List Oper} {o : Oper} {a : Act} {Q : Exit → Act → World → Prop} (hgd : o.guard = none) (s x : Operand) (t tx : TypeId)
    (ho : o.op = .call { callee := .builtin .append, args := #[s, x], argTypes := #[t, tx] })
    (e : TypeId) (i : TypeInfo) (z : Value) (sz bytes : Nat) (ht : P.underlying t = some (.slice e)) (hi : P.info? e = some i) (hz : i.zero = some z)
    (hsize : i.size = sz) (hsz : 0 < sz) (hby : i.bytes = bytes) (hzs : z.cells.size = sz)
    (ad : Option Addr) (n cap : Nat) (xs : List Value) (hsv : a.eval s = .slice ad n cap) (hown : SlR w e sz ad n cap xs) (xv : Value) (hx : a.eval x = xv) (m : Nat) (hm0 : 0 < m) (news : List Value) (hs : Src P sz tx xv m news w)
    (h63 : n + m ≤ maxLen) (hbytes : (n + m) * bytes ≤ 140737488355328)
    (h : ∀ a' cap' w', SlR w' e sz a' (n + m) cap' (xs ++ news) → Kept (blk ad cap) w w' → (∀ b ∈ blk a' cap', b ∈ blk ad cap ∨ w.heap.size ≤ b) → wpList P ops Q rest (a.put o.dst (.slice a' (n + m) cap')) w') : wpList P ops Q (o :: rest) a w :=
  wpList_plain hgd fun _ hK => by
    obtain ⟨a', cap', w', hr, h2, h3, h4⟩ := run_append_slr (P := P) w t tx o.type e i z sz bytes ht hi hz hsize hsz hby hzs ad n cap xs hown xv m hm0 news hs h63 hbytes
    unfold Oper.wp execOp
    simp only [ho, resolve, invoke, builtin, Sem.run_bind, Sem.run_pure, Result.andThen_ok, List.map_toArray, List.map_cons, List.map_nil, hsv, hx, hr]
    exact hK _ _ (h a' cap' w' h2 h3 h4)
end
end Go.Proofs.Ytegbkeichkifnaa.mem
/-!   Package runs: a set in memory; all, Len, place, behind, check.
-/
namespace Go.Proofs.Ytegbkeichkifnaa.rn
open Go.RowKit aid mem sp
attribute [local go_sem ↓] Go.wp_at_zero Go.wp_at_succ
set_option linter.unusedVariables false

theorem cofr {w : World} {B : Nat} {cs : Array Value} {t : TypeId} (h : w.heap[B]? = some (.cells cs t (0, 0))) (i : Nat) (v : Value) (hv : cs[i]? = some v) : w.cell? ⟨B, i, none⟩ = some v := (cell_of_row w B i _ _ (0, 0) h).trans hv
theorem fofr {w : World} {B : Nat} {cs : Array Value} {t : TypeId} (h : w.heap[B]? = some (.cells cs t (0, 0))) (i : Nat) : w.frozen? ⟨B, i, none⟩ = false := by simp [World.frozen?, h]
theorem kcell {w w' : World} {p : Addr} {v : Value} (hb : Below w.heap.size w w') (h : w.cell? p = some v) : w'.cell? p = some v := (hb.cell (World.block_lt_of_cell? w _ h)).trans h
theorem spTake (l : List Sp) : ∀ k, (spCells l).take (k * 2) = spCells (l.take k) := by
  induction l with
  | nil => intro k; simp [spCells]
  | cons x l ih =>
    intro k
    cases k with
    | zero => simp [spCells]
    | succ k =>
      rw [show (k + 1) * 2 = k * 2 + 1 + 1 from by omega, List.take_succ_cons]
      show .int .i64 x.1 :: List.take (k * 2 + 1) (.int .i64 x.2 :: spCells l) = _
      rw [List.take_succ_cons, ih k]
      rfl
theorem spDrop (l : List Sp) : ∀ k, (spCells l).drop (k * 2) = spCells (l.drop k) := by
  induction l with
  | nil => intro k; simp [spCells]
  | cons x l ih =>
    intro k
    cases k with
    | zero => simp
    | succ k =>
      rw [show (k + 1) * 2 = k * 2 + 1 + 1 from by omega]
      show List.drop (k * 2 + 1 + 1) (.int .i64 x.1 :: .int .i64 x.2 :: spCells l) = _
      rw [List.drop_succ_cons, List.drop_succ_cons, ih k]
      rfl
theorem row_len {w : World} {a : Option Addr} {n cap : Nat} {l : List Sp} (h : SlR w 24 2 a n cap (spCells l)) : l.length = n := by have := h.len; rw [spCells_len] at this; omega
theorem row_cells {w : World} {a : Option Addr} {n cap : Nat} {l : List Sp} (h : SlR w 24 2 a n cap (spCells l)) (h0 : 0 < n) : ∃ g off, a = some ⟨g, off, none⟩ ∧ ∀ i, i < n → w.cell? ⟨g, off + i * 2, none⟩ = some (.int .i64 (l.getD i (0, 0)).1) ∧ w.cell? ⟨g, off + i * 2 + 1, none⟩ = some (.int .i64 (l.getD i (0, 0)).2) := by
  obtain ⟨g, off, rfl, hc⟩ := h.cell (by have := h.le; omega)
  refine ⟨g, off, rfl, fun i hi => ?_⟩
  obtain ⟨e0, e1⟩ := spCells_get l i (by rw [row_len h]; exact hi)
  exact ⟨(hc (i * 2) (by omega)).trans e0, by rw [Nat.add_assoc]; exact (hc (i * 2 + 1) (by omega)).trans e1⟩
/-- a place is found -/
def RetN (r : Nat) (w : World) (e : Ending) (w' : World) : Prop := e = .returned (.int .i64 r) ∧ Below w.heap.size w w'
/-! ### the tests of places -/
end Go.Proofs.Ytegbkeichkifnaa.rn
/-!   Package runs: going through what of a span is in.
-/
namespace Go.Proofs.Ytegbkeichkifnaa.rn
open Go.RowKit Go.Shelf aid mem rng sp
attribute [local go_sem] Oper.semAt_some
set_option linter.unusedVariables false
set_option linter.unusedSimpArgs false

/-- a region that is shown to end as it should -/
def OnlyN (Q : Exit → Act → World → Prop) : Exit → Act → World → Prop
  | .normal, a, w => Q .normal a w
  | _, _, _ => False
theorem OnlyN.normal {Q : Exit → Act → World → Prop} {a : Act} {w : World} (h : Q .normal a w) : OnlyN Q .normal a w := h
theorem OnlyN.imp {Q : Exit → Act → World → Prop} : ∀ (e : Exit) (a : Act) (w : World), OnlyN Q e a w → Q e a w := fun e a w h => by
  cases e <;> first | exact h | exact (h : False).elim
theorem wpIn_region_in {P : Program} {n id : Nat} {ops : Array Oper} {Q : Exit → Act → World → Prop} {a : Act} {w : World} (S : World → Prop) (hm : P.follows .mixedOrders = true)
    (h : wpAnyH P .any ops (OnlyN Q) S ops.size (Array.replicate ops.size false) a w.drew) : (Code.region id ops true).wpIn Fence.wide n P Q a w :=
  Code.wpIn_mono OnlyN.imp (wpIn_region_held' S hm (fun ⟨_, _, h⟩ => h) h)
theorem wpIn_region_inR {P : Program} {n l id : Nat} {ops : Array Oper} {Q : Exit → Act → World → Prop} {a : Act} {w : World} (S : World → Prop) (hm : P.follows .mixedOrders = true) (hd : noDefer ops = true)
    (h : wpAnyH P .any ops (OnlyN Q) S ops.size (Array.replicate ops.size false) a w.drew) : (Code.region id ops true).wpIn (Fence.wide.inRound l) n P Q a w :=
  Code.wpIn_mono OnlyN.imp (wpIn_region_held S hm hd (fun ⟨_, _, h⟩ => h) h)
abbrev spE (x : Sp) : Array Value := #[spV x]
theorem bd_drew {w w' : World} {B : Nat} (h : Below B w w') : Below B w w'.drew := ⟨h.os, h.tape, h.output, h.size, h.block⟩
/-- a row's part, as the code cuts it -/
theorem tw_step {l : List Sp} {s : Sp} {i : Nat} (h : i < l.length) : tw (l.drop i) s = if lenI (meetP (l.getD i (0, 0)) s) = 0 then [] else meetP (l.getD i (0, 0)) s :: tw (l.drop (i + 1)) s := by
  rw [drop_getD h, tw_cons]
theorem tw_end {l : List Sp} {s : Sp} {i : Nat} (h : l.length ≤ i) : tw (l.drop i) s = [] := by
  rw [List.drop_eq_nil_of_le h]; rfl
end Go.Proofs.Ytegbkeichkifnaa.rn
/-!   A range over a function whose variable lies in a box. Imports nothing of the program.
-/
namespace Go.Proofs.Ytegbkeichkifnaa.rng
open Go.RowKit mem
set_option linter.unusedVariables false

/-- a range whose assignment makes one box -/
theorem wpIn_rangeBox {P : Program} {n : Nat} {α : Type} {g : Operand} {ps : Array Tmp} {assign body : Code} {Q : Exit → Act → World → Prop} {a : Act} {w : World} (fr : Nat → α → Array Value → Array Value)
    {gf : Nat} {lb : Array Value} (hg : a.eval g = .func (.func gf) #[] lb) (eg : ∀ args w, (callFunc gf args).run P w = .ok (.enter gf args) w)
    {encs : α → Array Value} {L : List α} {A : Nat → Prop} {w0 : World} (hseq : SeqOf P gf lb encs L A w0) (hb0 : Below w0.heap.size w0 w) (hps : ∀ x, (encs x).size = ps.size)
    (I : List α → (Nat → Prop) → World → Prop) (Ix : Code → List α → (Nat → Prop) → World → Prop) (C0 : Nat → Prop) (hC0 : ∀ k, C0 k → (A k ∨ w0.heap.size ≤ k) ∧ k < w.heap.size)
    (hI : Bears w.heap.size I) (hIx : ∀ c, Bears w.heap.size (Ix c)) (h0 : I [] C0 w) (Bx : Nat → α → (Nat → Prop) → World → Prop) (hBx : ∀ b x, Bears w.heap.size (fun (_ : Unit) C W => Bx b x C W))
    (hassign : ∀ (l : Nat) (pre : List α) (x : α) (C : Nat → Prop) (W : World) (K : Act → World → Prop), I pre C W → pre ++ [x] <+: L → (∀ k, C k → k < W.heap.size) → w.heap.size ≤ W.heap.size →
      (∀ b C' W', Round C W C' W' → I pre C' W' → Bx b x C' W' → K { tmps := fr b x a.tmps, defers := [] } W') →
      assign.wpIn (Fence.wide.inRound l) (n - 1 - 1) P (Exit.then K (fun _ _ _ => False)) { tmps := (ps.zip (encs x)).foldl (fun t (p, v) => t.setIfInBounds p v) a.tmps, defers := [] } W)
    (hbody : ∀ (l : Nat) (pre : List α) (x : α) (b : Nat) (C : Nat → Prop) (W : World), I pre C W → Bx b x C W → pre ++ [x] <+: L → (∀ k, C k → k < W.heap.size) → w.heap.size ≤ W.heap.size →
      body.wpIn (Fence.wide.inRound l) (n - 1 - 1) P (rPost I Ix (pre ++ [x]) C W) { tmps := fr b x a.tmps, defers := [] } W)
    (hdone : ∀ (D : Nat) (C : Nat → Prop) (W : World), w.heap.size ≤ D → ¬ C D → I L C W → W.heap[D]? = some (.deferred (some [])) → Q .normal { a with defers := { target := .collected D, args := #[] } :: a.defers } W)
    (hstop : ∀ (D : Nat) (c : Code) (pre : List α) (C : Nat → Prop) (W : World), w.heap.size ≤ D → ¬ C D → Ix c pre C W → W.heap[D]? = some (.deferred (some [])) → c.wpIn Fence.wide n P Q { a with defers := { target := .collected D, args := #[] } :: a.defers } W) :
    (Code.rangeFunc g ps assign body).wpIn Fence.wide n P Q a w :=
  wpIn_range hg eg hseq hb0 hps I Ix C0 hC0 hI hIx h0 (fun x a' C W => ∃ b, a' = { tmps := fr b x a.tmps, defers := [] } ∧ Bx b x C W)
    (fun x a' s C W1 W2 h hn hs => by obtain ⟨b, h1, h2⟩ := h; exact ⟨b, h1, hBx b x s C W1 W2 h2 hn hs⟩)
    (fun l pre x C W K hi hp hc hz hK => hassign l pre x C W K hi hp hc hz (fun b C' W' hr hi' hb => hK _ C' W' hr hi' ⟨b, rfl, hb⟩))
    (fun l pre x a' C W hi ha hp hc hz => by obtain ⟨b, rfl, hb⟩ := ha; exact hbody l pre x b C W hi hb hp hc hz) hdone hstop

end Go.Proofs.Ytegbkeichkifnaa.rng
/-!   Package runs: parts, Within, Bytes.
-/
namespace Go.Proofs.Ytegbkeichkifnaa.rn
open Go.RowKit Go.Shelf aid mem rng sp
attribute [local go_sem] Oper.semAt_some
set_option linter.unusedVariables false
set_option linter.unusedSimpArgs false

theorem undrew {X w2 : World} (h : Below X.drew.heap.size X.drew w2) : Below X.heap.size X w2 := ⟨h.os, h.tape, h.output, h.size, h.block⟩
/-- an iterator over spans is handed back -/
def SeqS (g : Nat) (L : List Sp) (A : Nat → Prop) (w : World) (e : Ending) (w' : World) : Prop :=
  ∃ lb, e = .returned (.func (.func g) #[] lb) ∧ SeqOf Try.prog g lb spE L A w' ∧ Below w.heap.size w w'
/-- a sum so far, in its box -/
structure WI (w : World) (bn : Nat) (pre : List Sp) (C : Nat → Prop) (X : World) : Prop where
  hn : X.heap[bn]? = some (.cells #[.int .i64 (bytesL pre)] 3 (0, 0))
  cb : C bn
  below : Below w.heap.size w X
theorem wi_bears {w : World} {bn D : Nat} (h : bn < D) (hw : w.heap.size ≤ bn) : Bears D (WI w bn) := by
  rintro pre C X Y hc hz hs
  exact ⟨hs.heap (.inl (by omega)) hc.hn, hc.cb, hc.below.trans (hs.below (by omega) (fun k hk => .inl (by omega)))⟩
/-- no way out but the end -/
def NoX (c : Code) (pre : List Sp) (C : Nat → Prop) (X : World) : Prop := False
theorem nox_bears (D : Nat) (c : Code) : Bears D (NoX c) := fun _ _ _ _ h => h.elim
/-- a span's box -/
def BxS (n0 b : Nat) (y : Sp) (C : Nat → Prop) (X : World) : Prop := SpAt X b y ∧ n0 ≤ b ∧ C b
theorem bxs_bears (n0 b : Nat) (y : Sp) : Bears n0 (fun (_ : Unit) C W => BxS n0 b y C W) := by
  rintro _ C X Y ⟨h1, h2, h3⟩ hz hs
  exact ⟨hs.heap (.inr h3) h1, h2, h3⟩
end Go.Proofs.Ytegbkeichkifnaa.rn
