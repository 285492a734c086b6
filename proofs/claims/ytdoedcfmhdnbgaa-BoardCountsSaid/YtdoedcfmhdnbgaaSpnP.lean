/-
  Package span: Touch, Holds, Below, From, Compare.
-/
import Derived.Test.YtdoedcfmhdnbgaaSpnM
import Derived.WalkSpells
namespace Go.Proofs.Ytdoedcfmhdnbgaa.sp
open Go.RowKit aid mem
attribute [local go_sem ↓] Go.wp_at_zero Go.wp_at_succ
set_option linter.unusedVariables false

/-- two boxes side by side -/
structure M2 (w0 : World) (B : Nat) (s t : Int × Int) (w : World) : Prop where
  b0 : SpAt w B s
  b1 : SpAt w (B + 1) t
  below : Below w0.heap.size w0 w
  le : w0.heap.size ≤ B
theorem M2.later {w0 : World} {B : Nat} {s t : Int × Int} {w w' : World} (h : M2 w0 B s t w) (hb : Below w.heap.size w w') : M2 w0 B s t w' :=
  ⟨h.b0.later hb, h.b1.later hb, h.below.trans (hb.mono h.below.size), h.le⟩
theorem M2.all {w0 : World} {B : Nat} {s t : Int × Int} {w : World} (h : M2 w0 B s t w) : w.cell? ⟨B, 0, none⟩ = some (.int .i64 s.1) ∧ w.cell? ⟨B, 1, none⟩ = some (.int .i64 s.2) ∧ w.cell? ⟨B + 1, 0, none⟩ = some (.int .i64 t.1) ∧ w.cell? ⟨B + 1, 1, none⟩ = some (.int .i64 t.2) :=
  ⟨h.b0.c0, h.b0.c1, h.b1.c0, h.b1.c1⟩
theorem M2.put0 {w0 : World} {B : Nat} {s t : Int × Int} {w : World} (h : M2 w0 B s t w) (a b : Int) : M2 w0 B (a, b) t ((w.setCell ⟨B, 0, none⟩ (.int .i64 a)).setCell ⟨B, 1, none⟩ (.int .i64 b)) :=
  ⟨h.b0.put a b, h.b1.keep (kput w B _ _) (by simp), h.below.trans ((kput w B _ _).below (by simpa using h.le) h.below.size), h.le⟩
theorem M2.put1 {w0 : World} {B : Nat} {s t : Int × Int} {w : World} (h : M2 w0 B s t w) (a b : Int) : M2 w0 B s (a, b) ((w.setCell ⟨B + 1, 0, none⟩ (.int .i64 a)).setCell ⟨B + 1, 1, none⟩ (.int .i64 b)) :=
  ⟨h.b0.keep (kput w (B + 1) _ _) (by simp), h.b1.put a b, h.below.trans ((kput w (B + 1) _ _).below (by have := h.le; simp; omega) h.below.size), h.le⟩
theorem m2_new (w : World) (s t : Int × Int) : M2 w w.heap.size s t ((w.alloc (.cells #[.int .i64 s.1, .int .i64 s.2] 24)).alloc (.cells #[.int .i64 t.1, .int .i64 t.2] 24)) := by
  obtain ⟨h1, h2, h3⟩ := two_new w s t
  exact ⟨h1, h2, h3, Nat.le_refl _⟩
theorem m2_zero (w : World) (s : Int × Int) : M2 w w.heap.size s (0, 0) ((w.alloc (.cells #[.int .i64 s.1, .int .i64 s.2] 24)).alloc (.cells #[.int .i64 0, .int .i64 0] 24)) := m2_new w s (0, 0)

theorem eq_sp (a b c d : Int) (w : World) : (Op.equalIn 10000 24 (.agg #[.int .i64 a, .int .i64 b]) (.agg #[.int .i64 c, .int .i64 d])).run Try.prog w = .ok (a == c && b == d) w := by
  have u3 := Try.underlying3
  have a3 := Try.isAgg3
  have z3 := Try.sizeOf3
  have hS : Try.prog.underlying 24 = some (.struct (Try.prog.fieldsOf 24)) := by kernel_rfl
  rw [show (10000 : Nat) = 9999 + 1 from rfl, run_equalIn_agg w 9999 24 _ _ hS (by kernel_rfl)]
  simp only [Program.fieldsOf, Try.underlying24]
  go_simp
  by_cases h1 : a = c <;> by_cases h2 : b = d <;> simp [h1, h2]
theorem eq_guard : Try.prog.eqGuardType Try.prog.depth 24 = false := by kernel_rfl

set_option maxRecDepth 100000 in
set_option maxHeartbeats 800000 in
theorem touch_any (s t : Int × Int) (w : World) : Calls Try.prog 80 #[spV s, spV t] w (RetB (touchB s t) w) := by
  have M0 := m2_new w s t
  have H : Hid (touchB s t = (decide (lenI s ≠ 0) && decide (lenI t ≠ 0) && decide (s.1 ≤ t.2) && decide (t.1 ≤ s.2))) := Lib.hid rfl
  have HF := len_any s
  have HG := len_any t
  generalize lenI s = n at *
  generalize lenI t = m at *
  have HFF := Lib.hid HF
  have HGG := Lib.hid HG
  clear HF HG
  by_cases hn : n = 0
  · subst hn
    have H' : Hid (touchB s t = false) := Lib.hid (by rw [H.out]; simp)
    clear H
    go_enter Try.func80, Try.ntmps80
    go_wp2_with fail
    generalize (w.alloc (.cells #[.int .i64 s.1, .int .i64 s.2] 24)).alloc (.cells #[.int .i64 t.1, .int .i64 t.2] 24) = W at *
    generalize w.heap.size = B at *
    have c0 := M0.b0.c0; have c1 := M0.b0.c1
    refine (HFF.out _).mono ?_
    rintro e w1 ⟨rfl, h1⟩
    have M1 := M0.later h1
    go_wp2
    go_ret
    exact ⟨ret_b H'.out.symm, M1.below⟩
  · by_cases hm : m = 0
    · subst hm
      have hn1 : (n == 0) = false := by simpa using hn
      have H' : Hid (touchB s t = false) := Lib.hid (by rw [H.out]; simp)
      clear H hn
      go_enter Try.func80, Try.ntmps80
      go_wp2_with fail
      generalize (w.alloc (.cells #[.int .i64 s.1, .int .i64 s.2] 24)).alloc (.cells #[.int .i64 t.1, .int .i64 t.2] 24) = W at *
      generalize w.heap.size = B at *
      refine (HFF.out _).mono ?_
      rintro e w1 ⟨rfl, h1⟩
      have M1 := M0.later h1
      have c0 := M1.b1.c0; have c1 := M1.b1.c1
      go_wp2_with fail
      refine (HGG.out _).mono ?_
      rintro e w2 ⟨rfl, h2⟩
      have M2 := M1.later h2
      go_wp2
      go_ret
      exact ⟨ret_b H'.out.symm, M2.below⟩
    · have hn1 : (n == 0) = false := by simpa using hn
      have hm1 : (m == 0) = false := by simpa using hm
      have H' : Hid (touchB s t = (decide (s.1 ≤ t.2) && decide (t.1 ≤ s.2))) := Lib.hid (by rw [H.out]; simp [hn, hm])
      clear H hn hm
      go_enter Try.func80, Try.ntmps80
      go_wp2_with fail
      generalize (w.alloc (.cells #[.int .i64 s.1, .int .i64 s.2] 24)).alloc (.cells #[.int .i64 t.1, .int .i64 t.2] 24) = W at *
      generalize w.heap.size = B at *
      refine (HFF.out _).mono ?_
      rintro e w1 ⟨rfl, h1⟩
      have M1 := M0.later h1
      have c0 := M1.b1.c0; have c1 := M1.b1.c1
      go_wp2_with fail
      refine (HGG.out _).mono ?_
      rintro e w2 ⟨rfl, h2⟩
      have M2 := M1.later h2
      clear c0 c1
      have c0 := M2.b0.c0; have c1 := M2.b0.c1; have d0 := M2.b1.c0; have d1 := M2.b1.c1
      go_wp2
      all_goals
        go_ret
        exact ⟨ret_b (by rw [H'.out]; simp; omega), M2.below⟩

set_option maxHeartbeats 800000 in
theorem from_any (s : Int × Int) (o : Int) (w : World) : Calls Try.prog 38 #[spV s, .int .i64 o] w (RetS (fromP s o) w) := by
  have M0 := m2_zero w s
  have H : Hid (fromP s o = betw (max (fitP s.1 s.2).1 o) (fitP s.1 s.2).2) := Lib.hid rfl
  have HF := fit_any s
  generalize fitP s.1 s.2 = p at *
  have HFF := Lib.hid HF
  clear HF
  go_enter Try.func38, Try.ntmps38
  go_wp2_with fail
  generalize (w.alloc (.cells #[.int .i64 s.1, .int .i64 s.2] 24)).alloc (.cells #[.int .i64 0, .int .i64 0] 24) = W at *
  generalize w.heap.size = B at *
  refine (HFF.out _).mono ?_
  rintro e w1 ⟨rfl, h1⟩
  have M1 := M0.later h1
  have M1' := M1.put0 p.1 p.2
  have c0 := M1.b0.c0; have c1 := M1.b0.c1; have f0 := M1.b0.f0; have f1 := M1.b0.f1
  clear h1 M0 M1
  go_wp2_with fail
  all_goals
    refine (between_any _ _ _).mono ?_
    rintro e w2 ⟨rfl, h2⟩
    have M2 := M1'.later h2
    rw [show betw _ _ = fromP s o from by rw [H.out]; congr 1 <;> omega]
    generalize fromP s o = r at *
    have M3 := M2.put1 r.1 r.2
    have c0 := M2.b1.c0; have c1 := M2.b1.c1; have f0 := M2.b1.f0; have f1 := M2.b1.f1
    clear h2 M1' M2
    go_wp2_with fail
    have e0 := M3.b1.c0; have e1 := M3.b1.c1
    exact bodyPost_ret (v := spV r) (by simp [results, Try.results38, go_sem, e0, e1]) rfl ⟨rfl, M3.below⟩

end Go.Proofs.Ytdoedcfmhdnbgaa.sp
