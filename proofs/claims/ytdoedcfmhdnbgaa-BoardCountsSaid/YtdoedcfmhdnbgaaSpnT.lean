/-
  Spans, as the reference has them: Touch.
-/
import Derived.Test.YtdoedcfmhdnbgaaSpnQ
namespace Go.Proofs.Ytdoedcfmhdnbgaa.sp
open Go.RowKit aid mem
attribute [local go_sem ↓] Go.wp_at_zero Go.wp_at_succ
set_option linter.unusedVariables false

/-- two boxes, wherever they lie -/
structure MP (w0 : World) (A C : Nat) (a b : Int × Int) (w : World) : Prop where
  a : SpAt w A a
  b : SpAt w C b
  below : Below w0.heap.size w0 w
theorem MP.later {w0 : World} {A C : Nat} {a b : Int × Int} {w w' : World} (h : MP w0 A C a b w) (hb : Below w.heap.size w w') : MP w0 A C a b w' :=
  ⟨h.a.later hb, h.b.later hb, h.below.trans (hb.mono h.below.size)⟩

set_option maxRecDepth 100000 in
set_option maxHeartbeats 1600000 in
theorem rtouch_any (s t : Int × Int) (w : World) : Calls Try.prog 72 #[spV s, spV t] w (RetB (touchB s t) w) := by
  have M0 := m2_new w s t
  have HF := rof_any s
  have HG := rof_any t
  have hp := len_ofP s
  have hq := len_ofP t
  have HT := touch_eq s t
  have HN := touch_no s t
  generalize ofP s = p at *
  generalize ofP t = q at *
  rw [← hp, ← hq] at HT HN
  clear hp hq
  have HFF := Lib.hid HF
  have HGG := Lib.hid HG
  have HTT := Lib.hid HT
  have HNN := Lib.hid HN
  have HA := Lib.hid (rlen_any p)
  have HB := Lib.hid (rlen_any q)
  have HM := Lib.hid (rmeet_any p q)
  have HL := Lib.hid (rlen_any (meetP p q))
  clear HF HG HT HN
  generalize lenI p = n at *
  generalize lenI q = m at *
  generalize meetP p q = r at *
  generalize lenI r = k at *
  generalize touchB s t = b at *
  by_cases hn : n = 0
  · have H : Hid (b = false) := Lib.hid (HNN.out (.inl hn))
    have hn1 : (n == 0) = true := by simpa using hn
    clear hn HTT HNN
    go_enter Try.func72, Try.ntmps72
    go_wp2_with fail
    generalize (w.alloc (.cells #[.int .i64 s.1, .int .i64 s.2] 24)).alloc (.cells #[.int .i64 t.1, .int .i64 t.2] 24) = W at *
    generalize w.heap.size = B at M0 ⊢
    refine (HFF.out _).mono ?_
    rintro e w1 ⟨rfl, h1⟩
    have M1 := M0.later h1
    have c0 := M1.b1.c0; have c1 := M1.b1.c1
    have n1 := M1.b0.lt; have n2 := M1.b1.lt; have n4 := M1.below.size
    clear h1 M0
    go_wp2_with fail
    refine (HGG.out _).mono ?_
    rintro e w2 ⟨rfl, h2⟩
    have A2 := (sp_new w1 p).later h2
    have M2 : MP w w1.heap.size w2.heap.size p q (w2.alloc (.cells #[.int .i64 q.1, .int .i64 q.2] 24)) := ⟨A2.later (bal (.cells #[.int .i64 q.1, .int .i64 q.2] 24)), sp_new w2 q, ((M1.below.alloc n4 (.cells #[.int .i64 p.1, .int .i64 p.2] 24)).trans (h2.mono (by simp; omega))).alloc (by have := h2.size; simp at this; omega) (.cells #[.int .i64 q.1, .int .i64 q.2] 24)⟩
    have n5 := A2.lt
    have d0 := A2.c0; have d1 := A2.c1
    clear h2 M1 c0 c1
    go_wp2_with fail
    refine (HA.out _).mono ?_
    rintro e w3 ⟨rfl, h3⟩
    have M3 := M2.later h3
    clear M2 h3
    go_wp2
    go_ret
    exact ⟨ret_b H.out.symm, M3.below⟩
  · have hn1 : (n == 0) = false := by simpa using hn
    by_cases hm : m = 0
    · have H : Hid (b = false) := Lib.hid (HNN.out (.inr hm))
      have hm1 : (m == 0) = true := by simpa using hm
      clear hn hm HTT HNN
      go_enter Try.func72, Try.ntmps72
      go_wp2_with fail
      generalize (w.alloc (.cells #[.int .i64 s.1, .int .i64 s.2] 24)).alloc (.cells #[.int .i64 t.1, .int .i64 t.2] 24) = W at *
      generalize w.heap.size = B at M0 ⊢
      refine (HFF.out _).mono ?_
      rintro e w1 ⟨rfl, h1⟩
      have M1 := M0.later h1
      have c0 := M1.b1.c0; have c1 := M1.b1.c1
      have n1 := M1.b0.lt; have n2 := M1.b1.lt; have n4 := M1.below.size
      clear h1 M0
      go_wp2_with fail
      refine (HGG.out _).mono ?_
      rintro e w2 ⟨rfl, h2⟩
      have A2 := (sp_new w1 p).later h2
      have M2 : MP w w1.heap.size w2.heap.size p q (w2.alloc (.cells #[.int .i64 q.1, .int .i64 q.2] 24)) := ⟨A2.later (bal (.cells #[.int .i64 q.1, .int .i64 q.2] 24)), sp_new w2 q, ((M1.below.alloc n4 (.cells #[.int .i64 p.1, .int .i64 p.2] 24)).trans (h2.mono (by simp; omega))).alloc (by have := h2.size; simp at this; omega) (.cells #[.int .i64 q.1, .int .i64 q.2] 24)⟩
      have n5 := A2.lt
      have d0 := A2.c0; have d1 := A2.c1
      clear h2 M1 c0 c1
      go_wp2_with fail
      refine (HA.out _).mono ?_
      rintro e w3 ⟨rfl, h3⟩
      have M3 := M2.later h3
      clear M2 h3 d0 d1
      have d0 := M3.b.c0; have d1 := M3.b.c1
      go_wp2_with fail
      refine (HB.out _).mono ?_
      rintro e w4 ⟨rfl, h4⟩
      have M4 := M3.later h4
      clear M3 h4 d0 d1
      go_wp2
      go_ret
      exact ⟨ret_b H.out.symm, M4.below⟩
    · have hm1 : (m == 0) = false := by simpa using hm
      have H : Hid ((decide (k > 0) || decide (p.2 = q.1) || decide (q.2 = p.1)) = b) := Lib.hid (HTT.out hn hm)
      clear hn hm HTT HNN
      go_enter Try.func72, Try.ntmps72
      go_wp2_with fail
      generalize (w.alloc (.cells #[.int .i64 s.1, .int .i64 s.2] 24)).alloc (.cells #[.int .i64 t.1, .int .i64 t.2] 24) = W at *
      generalize w.heap.size = B at M0 ⊢
      refine (HFF.out _).mono ?_
      rintro e w1 ⟨rfl, h1⟩
      have M1 := M0.later h1
      have c0 := M1.b1.c0; have c1 := M1.b1.c1
      have n1 := M1.b0.lt; have n2 := M1.b1.lt; have n4 := M1.below.size
      clear h1 M0
      go_wp2_with fail
      refine (HGG.out _).mono ?_
      rintro e w2 ⟨rfl, h2⟩
      have A2 := (sp_new w1 p).later h2
      have M2 : MP w w1.heap.size w2.heap.size p q (w2.alloc (.cells #[.int .i64 q.1, .int .i64 q.2] 24)) := ⟨A2.later (bal (.cells #[.int .i64 q.1, .int .i64 q.2] 24)), sp_new w2 q, ((M1.below.alloc n4 (.cells #[.int .i64 p.1, .int .i64 p.2] 24)).trans (h2.mono (by simp; omega))).alloc (by have := h2.size; simp at this; omega) (.cells #[.int .i64 q.1, .int .i64 q.2] 24)⟩
      have n5 := A2.lt
      have d0 := A2.c0; have d1 := A2.c1
      clear h2 M1 c0 c1
      go_wp2_with fail
      refine (HA.out _).mono ?_
      rintro e w3 ⟨rfl, h3⟩
      have M3 := M2.later h3
      clear M2 h3 d0 d1
      have d0 := M3.b.c0; have d1 := M3.b.c1
      go_wp2_with fail
      refine (HB.out _).mono ?_
      rintro e w4 ⟨rfl, h4⟩
      have M4 := M3.later h4
      clear M3 h4 d0 d1
      have d0 := M4.b.c0; have d1 := M4.b.c1; have c0 := M4.a.c0; have c1 := M4.a.c1
      go_wp2_with fail
      refine (HM.out _).mono ?_
      rintro e w5 ⟨rfl, h5⟩
      have M5 := M4.later h5
      clear M4 h5 d0 d1 c0 c1
      go_wp2_with fail
      refine (HL.out _).mono ?_
      rintro e w6 ⟨rfl, h6⟩
      have M6 := M5.later h6
      clear M5 h6
      have d0 := M6.b.c0; have d1 := M6.b.c1; have c0 := M6.a.c0; have c1 := M6.a.c1
      go_wp2
      all_goals
        go_ret
        exact ⟨ret_b (by rw [← H.out, Bool.eq_iff_iff]; simp <;> omega), M6.below⟩
end Go.Proofs.Ytdoedcfmhdnbgaa.sp
