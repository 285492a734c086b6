/-
  Layer 12's laws: one that is none; the least one falls.
-/
import Derived.Test.YtgonfdedapnlnaaLowO
namespace Go.Proofs.Ytgonfdedapnlnaa.lo
open Go.RowKit aid mem
attribute [local go_sem ↓] Go.wp_at_zero Go.wp_at_succ
set_option linter.unusedVariables false

/-- what Min answers, of whatever time -/
def mres (win last : Int) (k : List Mk) (T : Int) : Int × Bool := if last ≤ T ∧ T ≤ 4611686018427387904 then (max 0 (hdV (k.filter (inW win T))), decide (0 ≤ hdV (k.filter (inW win T)))) else (0, false)
theorem min_gen {w0 w : World} {B : Nat} {win last : Int} {had k : List Mk} {m : Nat} (h : LS w0 B win last had k m w) (hm : m ≤ 1000000) (T : Int) :
    Calls Try.prog 11 #[.pointer (some ⟨B, 0, none⟩), .int .i64 T] w fun e w' => e = .returned (.tuple #[.int .i64 (mres win last k T).1, .bool (mres win last k T).2]) ∧ LS w0 B win last had k m w' ∧ Below w.heap.size w w' := by
  by_cases hT : last ≤ T ∧ T ≤ 4611686018427387904
  · rw [show mres win last k T = (max 0 (hdV (k.filter (inW win T))), decide (0 ≤ hdV (k.filter (inW win T)))) from if_pos hT]
    exact min_ls h hm T hT
  · rw [show mres win last k T = (0, false) from if_neg hT]
    exact min_bad_ls h T (by omega)
theorem hd_mono {win : Int} {k : List Mk} (hu : Up k) {T1 T2 : Int} (hT : T1 ≤ T2) (h2 : 0 ≤ hdV (k.filter (inW win T2))) : hdV (k.filter (inW win T1)) ≤ hdV (k.filter (inW win T2)) := by
  cases hk2 : k.filter (inW win T2) with
  | nil => rw [hk2] at h2; simp [hdV] at h2
  | cons y t =>
    have hy : y ∈ k.filter (inW win T2) := by rw [hk2]; simp
    obtain ⟨hyk, hyi⟩ := List.mem_filter.1 hy
    have hy1 : y ∈ k.filter (inW win T1) := List.mem_filter.2 ⟨hyk, by unfold inW at *; simp only [decide_eq_true_eq] at *; omega⟩
    have hu1 : Up (k.filter (inW win T1)) := List.Pairwise.filter _ hu
    cases hk1 : k.filter (inW win T1) with
    | nil => rw [hk1] at hy1; cases hy1
    | cons x s =>
      rw [hk1] at hy1 hu1
      simp only [hdV]
      rcases List.mem_cons.1 hy1 with rfl | hm
      · exact Int.le_refl _
      · have := (List.pairwise_cons.1 hu1).1 y hm
        omega
theorem mres_mono {win last : Int} {k : List Mk} (hu : Up k) {T1 T2 : Int} (hT : T1 ≤ T2) (h1 : (mres win last k T1).2 = true) (h2 : (mres win last k T2).2 = true) : (mres win last k T1).1 ≤ (mres win last k T2).1 := by
  unfold mres at *
  split at h1
  · rename_i c1
    split at h2
    · rename_i c2
      rw [if_pos c1, if_pos c2]
      simp only [decide_eq_true_eq] at h1 h2
      have := hd_mono (win := win) hu hT h2
      simp only
      omega
    · cases h2
  · cases h1
theorem mres_last {win last : Int} {had k : List Mk} (hk : HK win had k last) (hw : 1 ≤ win) {m : Mk} (h1 : last ≤ m.1) (h2 : m.1 ≤ 4611686018427387904) (h3 : 0 ≤ m.2) (h4 : m.2 ≤ 4611686018427387904) :
    (mres win m.1 (kstep win k m) m.1).2 = true ∧ (mres win m.1 (kstep win k m) m.1).1 ≤ m.2 := by
  have hk2 := HK.add hk h1 h2 h3 h4
  have e := hk2.mn m.1 (Int.le_refl _)
  rw [mn_snoc] at e
  have hb := mn_bd win m.1 last had hk.had
  unfold mres
  rw [if_pos ⟨Int.le_refl _, h2⟩]
  rw [← e]
  unfold mnStep
  split
  · simp only [decide_eq_true_eq]; omega
  · rename_i hn
    simp only [decide_eq_true_eq]; omega

set_option maxHeartbeats 2000000 in
theorem walk_LowNone (now : Int) (hn : -9223372036854775808 ≤ now ∧ now ≤ 9223372036854775807) (v : Int) (hv : -9223372036854775808 ≤ v ∧ v ≤ 9223372036854775807) (w : World) :
    Calls Try.prog 5 #[.int .i64 now, .int .i64 v] w fun x w' => x = .returned (.bool true) ∧ Below w.heap.size w w' := by
  have K1 := Lib.hid (show kstep 5 [] (100, 3) = [(100, 3)] from rfl)
  have hb := Below.refl w.heap.size w
  obtain ⟨r, hr⟩ : ∃ r, mres 5 100 [(100, 3)] now = r := ⟨_, rfl⟩
  have HR := Lib.hid hr
  have hw : (100 ≤ now ∧ now < 105 ∧ r = (3, true)) ∨ (¬ (100 ≤ now ∧ now < 105) ∧ r = (0, false)) := by
    rw [← hr]
    unfold mres
    by_cases h1 : 100 ≤ now ∧ now < 105
    · left
      refine ⟨h1.1, h1.2, ?_⟩
      rw [if_pos (by omega), show [((100 : Int), (3 : Int))].filter (inW 5 now) = [(100, 3)] from by simp [inW]; omega]
      rfl
    · right
      refine ⟨h1, ?_⟩
      split
      · rw [show [((100 : Int), (3 : Int))].filter (inW 5 now) = [] from by simp [inW]; omega]
        rfl
      · rfl
  clear hr
  obtain ⟨r1, r2⟩ := r
  go_enter Try.func5, Try.ntmps5
  rcases hw with ⟨h1, h2, h3⟩ | ⟨h1, h3⟩
  · injection h3 with h3 h4
    subst h3 h4
    go_wp2_with (first
      | (go_at_call 6; (with_reducible refine (known_b S.below).mono ?_); rintro e w1 ⟨rfl, hb⟩)
      | (go_at_call 6; (with_reducible refine (known_b hb).mono ?_); clear hb; rintro e w1 ⟨rfl, hb⟩)
      | (go_at_call 11; (with_reducible refine (none_min _ _).mono ?_); rintro e w1 ⟨rfl, h2⟩; replace hb := hb.trans (h2.mono hb.size); clear h2)
      | (go_at_call 7; (with_reducible refine (new_ls hb (by decide)).mono ?_); clear hb; rintro x w1 ⟨b, rfl, S, q1, q2⟩; clear q1 q2)
      | (go_at_call 10; (with_reducible refine (add_ls S (by decide) 100 3 (by decide) (by decide) (by decide) (by decide)).mono ?_); clear S; rintro x w1 ⟨rfl, S, q1, q2⟩; clear q1 q2; rw [K1.out] at S)
      | (go_at_call 11; (with_reducible refine (min_gen S (by decide) now).mono ?_); clear S; rintro x w1 ⟨rfl, S, q1⟩; clear q1; rw [HR.out])
      | (go_at_call 10; (with_reducible refine (none_any _ _ _).mono ?_); rintro e w1 ⟨rfl, rfl⟩)
      | (go_at_call 9; (with_reducible refine (none_len _).mono ?_); rintro e w1 ⟨rfl, rfl⟩)
      | (go_at_call 13; (with_reducible refine (none_last _).mono ?_); rintro e w1 ⟨rfl, rfl⟩)
      | (go_at_call 8; (with_reducible refine (none_clone _).mono ?_); rintro e w1 ⟨rfl, rfl⟩))
    go_ret
    exact ⟨rfl, hb⟩
  · injection h3 with h3 h4
    subst h3 h4
    by_cases h5 : 100 ≤ now
    · have h6 : ¬ now < 105 := by omega
      go_wp2_with (first
        | (go_at_call 6; (with_reducible refine (known_b S.below).mono ?_); rintro e w1 ⟨rfl, hb⟩)
        | (go_at_call 6; (with_reducible refine (known_b hb).mono ?_); clear hb; rintro e w1 ⟨rfl, hb⟩)
        | (go_at_call 11; (with_reducible refine (none_min _ _).mono ?_); rintro e w1 ⟨rfl, h2⟩; replace hb := hb.trans (h2.mono hb.size); clear h2)
        | (go_at_call 7; (with_reducible refine (new_ls hb (by decide)).mono ?_); clear hb; rintro x w1 ⟨b, rfl, S, q1, q2⟩; clear q1 q2)
        | (go_at_call 10; (with_reducible refine (add_ls S (by decide) 100 3 (by decide) (by decide) (by decide) (by decide)).mono ?_); clear S; rintro x w1 ⟨rfl, S, q1, q2⟩; clear q1 q2; rw [K1.out] at S)
        | (go_at_call 11; (with_reducible refine (min_gen S (by decide) now).mono ?_); clear S; rintro x w1 ⟨rfl, S, q1⟩; clear q1; rw [HR.out])
        | (go_at_call 10; (with_reducible refine (none_any _ _ _).mono ?_); rintro e w1 ⟨rfl, rfl⟩)
        | (go_at_call 9; (with_reducible refine (none_len _).mono ?_); rintro e w1 ⟨rfl, rfl⟩)
        | (go_at_call 13; (with_reducible refine (none_last _).mono ?_); rintro e w1 ⟨rfl, rfl⟩)
        | (go_at_call 8; (with_reducible refine (none_clone _).mono ?_); rintro e w1 ⟨rfl, rfl⟩))
      go_ret
      exact ⟨by first | rfl | exact ret_bb (by simp; omega), hb⟩
    · go_wp2_with (first
        | (go_at_call 6; (with_reducible refine (known_b S.below).mono ?_); rintro e w1 ⟨rfl, hb⟩)
        | (go_at_call 6; (with_reducible refine (known_b hb).mono ?_); clear hb; rintro e w1 ⟨rfl, hb⟩)
        | (go_at_call 11; (with_reducible refine (none_min _ _).mono ?_); rintro e w1 ⟨rfl, h2⟩; replace hb := hb.trans (h2.mono hb.size); clear h2)
        | (go_at_call 7; (with_reducible refine (new_ls hb (by decide)).mono ?_); clear hb; rintro x w1 ⟨b, rfl, S, q1, q2⟩; clear q1 q2)
        | (go_at_call 10; (with_reducible refine (add_ls S (by decide) 100 3 (by decide) (by decide) (by decide) (by decide)).mono ?_); clear S; rintro x w1 ⟨rfl, S, q1, q2⟩; clear q1 q2; rw [K1.out] at S)
        | (go_at_call 11; (with_reducible refine (min_gen S (by decide) now).mono ?_); clear S; rintro x w1 ⟨rfl, S, q1⟩; clear q1; rw [HR.out])
        | (go_at_call 10; (with_reducible refine (none_any _ _ _).mono ?_); rintro e w1 ⟨rfl, rfl⟩)
        | (go_at_call 9; (with_reducible refine (none_len _).mono ?_); rintro e w1 ⟨rfl, rfl⟩)
        | (go_at_call 13; (with_reducible refine (none_last _).mono ?_); rintro e w1 ⟨rfl, rfl⟩)
        | (go_at_call 8; (with_reducible refine (none_clone _).mono ?_); rintro e w1 ⟨rfl, rfl⟩))
      go_ret
      exact ⟨rfl, hb⟩
end Go.Proofs.Ytgonfdedapnlnaa.lo
