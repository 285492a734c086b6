/-
  Package span: Meet.
-/
import Derived.Test.YtdoedcfmhdnbgaaSpnW
namespace Go.Proofs.Ytdoedcfmhdnbgaa.sp
open Go.RowKit aid mem
attribute [local go_sem ↓] Go.wp_at_zero Go.wp_at_succ
set_option linter.unusedVariables false

set_option maxRecDepth 100000 in
set_option maxHeartbeats 1600000 in
theorem meet_any (s t : Int × Int) (w : World) : Calls Try.prog 76 #[spV s, spV t] w (RetS (meetP s t) w) := by
  obtain ⟨s1, s2, s3, b1⟩ := three_new w s t
  have H : Hid (meetP s t = betw (max (fitP s.1 s.2).1 (fitP t.1 t.2).1) (min (fitP s.1 s.2).2 (fitP t.1 t.2).2)) := Lib.hid rfl
  have M0 : M3 w w.heap.size s t (0, 0) (((w.alloc (.cells #[.int .i64 s.1, .int .i64 s.2] 24)).alloc (.cells #[.int .i64 t.1, .int .i64 t.2] 24)).alloc (.cells #[.int .i64 0, .int .i64 0] 24)) := ⟨s1, s2, s3, b1, Nat.le_refl _⟩
  clear s1 s2 s3 b1
  go_enter Try.func76, Try.ntmps76
  go_wp2_with fail
  generalize ((w.alloc (.cells #[.int .i64 s.1, .int .i64 s.2] 24)).alloc (.cells #[.int .i64 t.1, .int .i64 t.2] 24)).alloc (.cells #[.int .i64 0, .int .i64 0] 24) = W at *
  generalize w.heap.size = B at *
  have hp := fit_ok s.1 s.2
  have hq := fit_ok t.1 t.2
  have HF := fit_any s
  have HG := fit_any t
  generalize fitP s.1 s.2 = p at *
  generalize fitP t.1 t.2 = q at *
  have HP := Lib.hid hp
  have HQ := Lib.hid hq
  have HFF := Lib.hid HF
  have HGG := Lib.hid HG
  clear hp hq HF HG
  have M1 := M0.later (Below.refl _ _).drew
  clear M0
  have c0 := M1.b0.c0; have c1 := M1.b0.c1; have d0 := M1.b1.c0; have d1 := M1.b1.c1
  go_region_with (first
    | (go_at_call 56; refine (HFF.out _).mono ?_; rintro e w2 ⟨rfl, h2⟩; have M2 := M1.later h2; clear M1 h2 c0 c1 d0 d1; have d0 := M2.b1.c0; have d1 := M2.b1.c1)
    | (go_at_call 56; refine (HGG.out _).mono ?_; rintro e w3 ⟨rfl, h3⟩; have m3 := M2.later h3; clear M2 h3 d0 d1; have c0 := m3.b0.c0; have c1 := m3.b0.c1; have d0 := m3.b1.c0; have d1 := m3.b1.c1; have c2 := m3.b0.f0; have c3 := m3.b0.f1; have d2 := m3.b1.f0; have d3 := m3.b1.f1))
  all_goals
    have M4 := (m3.put0 p.1 p.2).put1 q.1 q.2
    clear m3 c0 c1 d0 d1 c2 c3 d2 d3
    generalize (((w3.setCell ⟨B, 0, none⟩ (.int .i64 p.1)).setCell ⟨B, 1, none⟩ (.int .i64 p.2)).setCell ⟨B + 1, 0, none⟩ (.int .i64 q.1)).setCell ⟨B + 1, 1, none⟩ (.int .i64 q.2) = w4 at *
    have c0 := M4.b0.c0; have c1 := M4.b0.c1; have d0 := M4.b1.c0; have d1 := M4.b1.c1
    go_wp2_with fail
    all_goals
      refine (between_any _ _ _).mono ?_
      rintro e w5 ⟨rfl, h5⟩
      rw [show betw _ _ = meetP s t from by rw [H.out]; congr 1 <;> omega]
      generalize meetP s t = r at *
      have M5 := M4.later h5
      clear M4 h5 c0 c1 d0 d1
      have e0 := M5.b2.c0; have e1 := M5.b2.c1; have e2 := M5.b2.f0; have e3 := M5.b2.f1
      go_wp2_with fail
      have M6 := M5.put2 r.1 r.2
      clear M5 e0 e1 e2 e3
      generalize (w5.setCell ⟨B + 1 + 1, 0, none⟩ (.int .i64 r.1)).setCell ⟨B + 1 + 1, 1, none⟩ (.int .i64 r.2) = w6 at *
      have e0 := M6.b2.c0; have e1 := M6.b2.c1
      exact bodyPost_ret (v := spV r) (by simp [results, Try.results76, go_sem, e0, e1]) rfl ⟨rfl, M6.below⟩
end Go.Proofs.Ytdoedcfmhdnbgaa.sp
