/-
  Spans, as the reference has them: Holds, Touch, Below, From; wider.
-/
import Derived.Test.YtdoedcfmhdnbgaaSpnR
import Derived.Test.YtdoedcfmhdnbgaaSpnY
namespace Go.Proofs.Ytdoedcfmhdnbgaa.sp
open Go.RowKit aid mem
attribute [local go_sem ↓] Go.wp_at_zero Go.wp_at_succ
set_option linter.unusedVariables false

set_option maxRecDepth 100000 in
set_option maxHeartbeats 800000 in
theorem rbelow_any (s : Int × Int) (o : Int) (w : World) : Calls Try.prog 71 #[spV s, .int .i64 o] w (RetS (belowP s o) w) := by
  have M0 := m2_zero w s
  by_cases h : o < 0
  · have H : Hid (belowP s o = (0, 0)) := Lib.hid (below_no s o h)
    go_enter Try.func71, Try.ntmps71
    go_wp2
    exact bodyPost_ret (v := spV (0, 0)) (by simp [results, Try.results71, go_sem]) rfl ⟨by rw [H.out], (bal _).alloc (bal _).size _⟩
  · have H : Hid (meetP s (0, min o 4611686018427387904) = belowP s o) := Lib.hid (below_eq s o (by omega))
    generalize belowP s o = r at *
    go_enter Try.func71, Try.ntmps71
    go_wp2_with fail
    all_goals
      generalize (w.alloc (.cells #[.int .i64 s.1, .int .i64 s.2] 24)).alloc (.cells #[.int .i64 0, .int .i64 0] 24) = W at *
      generalize w.heap.size = B at *
      refine (rmeet_any s (0, _) _).mono ?_
      rintro e w2 ⟨rfl, h2⟩
      have M2 := M0.later h2
      rw [show meetP s _ = r from by rw [← H.out]; congr 2; omega]
      have M3 := M2.put1 r.1 r.2
      have c0 := M2.b1.c0; have c1 := M2.b1.c1; have f0 := M2.b1.f0; have f1 := M2.b1.f1
      clear h2 M0 M2
      go_wp2_with fail
      have e0 := M3.b1.c0; have e1 := M3.b1.c1
      exact bodyPost_ret (v := spV r) (by simp [results, Try.results71, go_sem, e0, e1]) rfl ⟨rfl, M3.below⟩

set_option maxRecDepth 100000 in
set_option maxHeartbeats 800000 in
theorem rfrom_any (s : Int × Int) (o : Int) (w : World) : Calls Try.prog 39 #[spV s, .int .i64 o] w (RetS (fromP s o) w) := by
  have M0 := m2_zero w s
  by_cases h : 4611686018427387904 < o
  · have H : Hid (fromP s o = (0, 0)) := Lib.hid (from_no s o h)
    go_enter Try.func39, Try.ntmps39
    go_wp2
    exact bodyPost_ret (v := spV (0, 0)) (by simp [results, Try.results39, go_sem]) rfl ⟨by rw [H.out], (bal _).alloc (bal _).size _⟩
  · have H : Hid (meetP s (max o 0, 4611686018427387904) = fromP s o) := Lib.hid (from_eq s o (by omega))
    generalize fromP s o = r at *
    go_enter Try.func39, Try.ntmps39
    go_wp2_with fail
    all_goals
      generalize (w.alloc (.cells #[.int .i64 s.1, .int .i64 s.2] 24)).alloc (.cells #[.int .i64 0, .int .i64 0] 24) = W at *
      generalize w.heap.size = B at *
      refine (rmeet_any s (_, 4611686018427387904) _).mono ?_
      rintro e w2 ⟨rfl, h2⟩
      have M2 := M0.later h2
      rw [show meetP s _ = r from by rw [← H.out]; congr 2; omega]
      have M3 := M2.put1 r.1 r.2
      have c0 := M2.b1.c0; have c1 := M2.b1.c1; have f0 := M2.b1.f0; have f1 := M2.b1.f1
      clear h2 M0 M2
      go_wp2_with fail
      have e0 := M3.b1.c0; have e1 := M3.b1.c1
      exact bodyPost_ret (v := spV r) (by simp [results, Try.results39, go_sem, e0, e1]) rfl ⟨rfl, M3.below⟩

set_option maxRecDepth 100000 in
set_option maxHeartbeats 1600000 in
theorem wider_any (u s : Int × Int) (w : World) : Calls Try.prog 81 #[spV u, spV s] w (RetS (widerP u s) w) := by
  obtain ⟨s1, s2, s3, b1⟩ := three_new w u s
  have M0 : M3 w w.heap.size u s (0, 0) (((w.alloc (.cells #[.int .i64 u.1, .int .i64 u.2] 24)).alloc (.cells #[.int .i64 s.1, .int .i64 s.2] 24)).alloc (.cells #[.int .i64 0, .int .i64 0] 24)) := ⟨s1, s2, s3, b1, Nat.le_refl _⟩
  clear s1 s2 s3 b1
  have HF := len_any s
  have eqb := eq_sp u.1 u.2 0 0
  have eqg := eq_guard
  by_cases hl : lenI s = 0
  · have H : Hid (widerP u s = u) := Lib.hid (wider_none u s hl)
    have hl1 : (lenI s == 0) = true := by simpa using hl
    generalize lenI s = n at *
    have HFF := Lib.hid HF
    clear HF hl
    go_enter Try.func81, Try.ntmps81
    go_wp2_with fail
    generalize ((w.alloc (.cells #[.int .i64 u.1, .int .i64 u.2] 24)).alloc (.cells #[.int .i64 s.1, .int .i64 s.2] 24)).alloc (.cells #[.int .i64 0, .int .i64 0] 24) = W at *
    generalize w.heap.size = B at *
    refine (HFF.out _).mono ?_
    rintro e w1 ⟨rfl, h1⟩
    have M1 := M0.later h1
    clear M0 h1
    have M4 := M1.put2 (u.1) (u.2)
    have g0 := M1.b2.c0; have g1 := M1.b2.c1; have g2 := M1.b2.f0; have g3 := M1.b2.f1
    have c0 := M1.b0.c0; have c1 := M1.b0.c1; have d0 := M1.b1.c0; have d1 := M1.b1.c1
    clear M1
    go_wp2_with fail
    have e0 := M4.b2.c0; have e1 := M4.b2.c1
    exact bodyPost_ret (v := spV u) (by simp [results, Try.results81, go_sem, e0, e1]) rfl ⟨by rw [H.out], M4.below⟩
  · have hl1 : (lenI s == 0) = false := by simpa using hl
    by_cases hz : u = (0, 0)
    · have H : Hid (widerP u s = s) := Lib.hid (by rw [hz]; exact wider_first s hl)
      have hb : (u.1 == 0 && u.2 == 0) = true := by simp [hz]
      rw [hb] at eqb
      generalize lenI s = n at *
      have HFF := Lib.hid HF
      clear HF hl hz hb
      go_enter Try.func81, Try.ntmps81
      go_wp2_with fail
      generalize ((w.alloc (.cells #[.int .i64 u.1, .int .i64 u.2] 24)).alloc (.cells #[.int .i64 s.1, .int .i64 s.2] 24)).alloc (.cells #[.int .i64 0, .int .i64 0] 24) = W at *
      generalize w.heap.size = B at *
      refine (HFF.out _).mono ?_
      rintro e w1 ⟨rfl, h1⟩
      have M1 := M0.later h1
      clear M0 h1
      have M4 := M1.put2 (s.1) (s.2)
      have g0 := M1.b2.c0; have g1 := M1.b2.c1; have g2 := M1.b2.f0; have g3 := M1.b2.f1
      have c0 := M1.b0.c0; have c1 := M1.b0.c1; have d0 := M1.b1.c0; have d1 := M1.b1.c1
      clear M1
      go_wp2_with fail
      have e0 := M4.b2.c0; have e1 := M4.b2.c1
      exact bodyPost_ret (v := spV s) (by simp [results, Try.results81, go_sem, e0, e1]) rfl ⟨by rw [H.out], M4.below⟩
    · have H : Hid (widerP u s = (min u.1 s.1, max u.2 s.2)) := Lib.hid (wider_more hl hz)
      have hb : (u.1 == 0 && u.2 == 0) = false := by
        rw [Bool.eq_false_iff]; intro hx; apply hz; simp at hx; exact Prod.ext hx.1 hx.2
      rw [hb] at eqb
      generalize lenI s = n at *
      have HFF := Lib.hid HF
      clear HF hl hz hb
      go_enter Try.func81, Try.ntmps81
      go_wp2_with fail
      generalize ((w.alloc (.cells #[.int .i64 u.1, .int .i64 u.2] 24)).alloc (.cells #[.int .i64 s.1, .int .i64 s.2] 24)).alloc (.cells #[.int .i64 0, .int .i64 0] 24) = W at *
      generalize w.heap.size = B at *
      refine (HFF.out _).mono ?_
      rintro e w1 ⟨rfl, h1⟩
      have M1 := M0.later h1
      clear M0 h1
      have g0 := M1.b2.c0; have g1 := M1.b2.c1; have g2 := M1.b2.f0; have g3 := M1.b2.f1
      have c0 := M1.b0.c0; have c1 := M1.b0.c1; have d0 := M1.b1.c0; have d1 := M1.b1.c1
      go_wp2_with fail
      all_goals
        first
        | (have M4 := M1.put2 u.1 u.2; have e0 := M4.b2.c0; have e1 := M4.b2.c1; exact bodyPost_ret (v := spV (u.1, u.2)) (by simp [results, Try.results81, go_sem, e0, e1]) rfl ⟨by rw [H.out, show min u.1 s.1 = u.1 by omega, show max u.2 s.2 = u.2 by omega], M4.below⟩)
        | (have M4 := M1.put2 u.1 s.2; have e0 := M4.b2.c0; have e1 := M4.b2.c1; exact bodyPost_ret (v := spV (u.1, s.2)) (by simp [results, Try.results81, go_sem, e0, e1]) rfl ⟨by rw [H.out, show min u.1 s.1 = u.1 by omega, show max u.2 s.2 = s.2 by omega], M4.below⟩)
        | (have M4 := M1.put2 s.1 u.2; have e0 := M4.b2.c0; have e1 := M4.b2.c1; exact bodyPost_ret (v := spV (s.1, u.2)) (by simp [results, Try.results81, go_sem, e0, e1]) rfl ⟨by rw [H.out, show min u.1 s.1 = s.1 by omega, show max u.2 s.2 = u.2 by omega], M4.below⟩)
        | (have M4 := M1.put2 s.1 s.2; have e0 := M4.b2.c0; have e1 := M4.b2.c1; exact bodyPost_ret (v := spV (s.1, s.2)) (by simp [results, Try.results81, go_sem, e0, e1]) rfl ⟨by rw [H.out, show min u.1 s.1 = s.1 by omega, show max u.2 s.2 = s.2 by omega], M4.below⟩)
end Go.Proofs.Ytdoedcfmhdnbgaa.sp
