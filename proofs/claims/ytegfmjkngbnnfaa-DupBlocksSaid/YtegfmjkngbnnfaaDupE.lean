/-
  The reference's Dup and Look.
-/
import Derived.Test.YtegfmjkngbnnfaaDupL
namespace Go.Proofs.Ytegfmjkngbnnfaa.dp
open Go.RowKit aid mem sq sp
attribute [local go_sem ↓] Go.wp_at_zero Go.wp_at_succ
set_option linter.unusedVariables false

theorem rd_len (near : Int) (l : List Bk) (i : Nat) : (rdB near l i = true ∧ 0 < lenI (rd near l i)) ∨ (rdB near l i = false ∧ lenI (rd near l i) = 0 ∧ rd near l i = (0, 0)) := by
  unfold rd rdB
  by_cases hi : i < l.length
  · rw [if_pos hi, if_pos hi]
    rcases frm_cases near (l.getD i (0, 0)) with ⟨h1, h2⟩ | ⟨_, h1, _, h2⟩
    · right; rw [h1, h2]; exact ⟨rfl, by decide, rfl⟩
    · left; refine ⟨h2, ?_⟩; rw [frm_len]; omega
  · rw [if_neg hi, if_neg hi]
    right; exact ⟨rfl, by decide, rfl⟩

set_option maxRecDepth 100000 in
set_option maxHeartbeats 3200000 in
theorem rdup_any (ack nxt : Int) (a : Option Addr) (n cap : Nat) (l : List Bk) (w : World) (hk : -9223372036854775808 ≤ ack ∧ ack ≤ 9223372036854775807) (hl : SlB w a n cap l) :
    Calls Try.prog 22 #[.int .i64 ack, .int .i64 nxt, .slice a n cap] w (RetS (dupP ack nxt l) w) := by
  obtain ⟨hd, _⟩ := dup_of ack nxt l
  have HD := Lib.hid hd
  have HC : Hid (dupC ack nxt l = (rdB ack l 0 && (decide ((rd ack l 0).2 ≤ ack) || (decide ((rd ack l 0).2 ≤ nxt) && (rdB ack l 1 && holdsB (rd ack l 1) (rd ack l 0)))))) := Lib.hid rfl
  have hlen := hl.len
  have s0 := sp_new w (0, 0)
  have m0 := bal (w := w) (.cells #[.int .i64 0, .int .i64 0] 26)
  by_cases hn : n = 0
  · have H : Hid (dupP ack nxt l = (0, 0)) := Lib.hid (by rw [HD.out, HC.out, show rdB ack l 0 = false from by unfold rdB; rw [if_neg (by omega)]]; simp)
    rw [H.out]
    clear HD HC hd hl
    subst hn
    go_enter Try.func22, Try.ntmps22
    go_wp2_with fail
    have e0 := s0.c0; have e1 := s0.c1
    exact bodyPost_ret (v := spV (0, 0)) (by simp [results, Try.results22, go_sem, e0, e1]) rfl ⟨rfl, m0⟩
  · have hmost := hl.most
    have hle := hl.le
    unfold maxLen at hmost
    have g0 := hl.getOk 0
    have g1 := hl.getOk 1
    have r0 : rd ack l 0 = frm ack (l.getD 0 (0, 0)) := by unfold rd; rw [if_pos (by omega)]
    have r1 : 1 < n → rd ack l 1 = frm ack (l.getD 1 (0, 0)) := fun h => by unfold rd; rw [if_pos (by omega)]
    have n1 : ¬ 1 < n → rdB ack l 1 = false := fun h => by unfold rdB; rw [if_neg (by omega)]
    have hl0 := rd_len ack l 0
    have hl1 := rd_len ack l 1
    obtain ⟨b, off, rfl, hc⟩ := hl.cells (by omega)
    obtain ⟨x0, x1⟩ := hc 0 (by omega)
    have hc1 := hc 1
    have hbl : b < w.heap.size := World.block_lt_of_cell? w _ x0
    simp only [Nat.zero_mul, Nat.add_zero] at x0 x1
    have HW0 := Lib.hid (fun W => rwell_any ack (l.getD 0 (0, 0)) W hk g0)
    have HW1 := Lib.hid (fun W => rwell_any ack (l.getD 1 (0, 0)) W hk g1)
    rw [← r0] at HW0
    have HR1 := Lib.hid r1
    have HN1 := Lib.hid n1
    have HS0 := Lib.hid (rlen_any (rd ack l 0))
    have HS1 := Lib.hid (rlen_any (rd ack l 1))
    have HHo := Lib.hid (rholds_any (rd ack l 1) (rd ack l 0))
    generalize l.getD 0 (0, 0) = y0 at *
    generalize l.getD 1 (0, 0) = y1 at *
    generalize lenI (rd ack l 0) = z0 at *
    generalize lenI (rd ack l 1) = z1 at *
    generalize holdsB (rd ack l 1) (rd ack l 0) = hb at *
    generalize rdB ack l 0 = sb at *
    generalize rdB ack l 1 = tb at *
    generalize rd ack l 0 = s at *
    generalize dupP ack nxt l = dp at *
    have HC1 := Lib.hid hc1
    have HL0 := Lib.hid hl0
    have HL1 := Lib.hid hl1
    have u0 := (m0.cell (p := ⟨b, off, none⟩) hbl).trans x0
    have u1 := (m0.cell (p := ⟨b, off + 1, none⟩) hbl).trans x1
    clear hd hl hlen r0 r1 n1 hc hc1 hl0 hl1 x0 x1
    go_enter Try.func22, Try.ntmps22
    go_wp2_with fail
    refine (HW0.out _).mono ?_
    rintro e w2 ⟨rfl, h2⟩
    have b3 := bal (w := w2) (.cells #[.int .i64 s.1, .int .i64 s.2] 26)
    have r3 := (s0.later h2).later b3
    have x3 := sp_new w2 s
    have c3 := (h2.trans (b3.mono h2.size))
    have m3 := m0.trans (c3.mono m0.size)
    have hlt := x3.lt
    have hRlt := s0.lt
    have hz2 := h2.size
    have v0 := x3.c0; have v1 := x3.c1
    have hUV : ∀ W, Below (w2.alloc (.cells #[.int .i64 s.1, .int .i64 s.2] 26)).heap.size (w2.alloc (.cells #[.int .i64 s.1, .int .i64 s.2] 26)) W → W.cell? ⟨b, off, none⟩ = some (.int .u32 y0.1) := fun W hW => (hW.cell (p := ⟨b, off, none⟩) (by have := c3.size; simp at this ⊢; omega)).trans ((c3.cell (p := ⟨b, off, none⟩) (by simp; omega)).trans u0)
    go_wp2_with fail
    refine (HS0.out _).mono ?_
    rintro e w4 ⟨rfl, h4⟩
    have r4 := r3.later h4
    have x4 := x3.later h4
    have m4 := m3.trans (h4.mono m3.size)
    have hm4 := m4.size
    clear v0 v1 u0 u1
    have hC1 : ∀ (h : 1 < n), w4.cell? ⟨b, off + 2, none⟩ = some (.int .u32 y1.1) ∧ w4.cell? ⟨b, off + 2 + 1, none⟩ = some (.int .u32 y1.2) := fun h => by
      obtain ⟨x0, x1⟩ := HC1.out h
      simp only [Nat.one_mul] at x0 x1
      exact ⟨(m4.cell (p := ⟨b, off + 2, none⟩) (by simpa using hbl)).trans x0, (m4.cell (p := ⟨b, off + 2 + 1, none⟩) (by simpa using hbl)).trans x1⟩
    have HC2 := Lib.hid hC1
    clear hC1 hUV
    generalize w2.heap.size = X at *
    have v0 := x4.c0; have v1 := x4.c1
    have q0 := r4.c0; have q1 := r4.c1; have q2 := r4.f0; have q3 := r4.f1
    have k4 := r4.put s.1 s.2
    have n4 := m4.trans ((kput w4 w.heap.size (.int .i64 s.1) (.int .i64 s.2)).below (B := w.heap.size) (by simp) hm4)
    have k4z := r4.put 0 0
    have n4z := m4.trans ((kput w4 w.heap.size (.int .i64 0) (.int .i64 0)).below (B := w.heap.size) (by simp) hm4)
    generalize hR : w.heap.size = R at *
    have HRR := Lib.hid hR
    clear hR
    cases sb with
    | false =>
      obtain ⟨hz, hs⟩ : z0 = 0 ∧ s = (0, 0) := by rcases HL0.out with ⟨h, _⟩ | ⟨_, h⟩; cases h; exact h
      have H : Hid (dp = s) := Lib.hid (by rw [HD.out, HC.out, hs]; simp)
      clear HD HC HL0 HL1 hs
      subst hz
      go_wp2_with fail
      have e0 := k4.c0; have e1 := k4.c1
      exact bodyPost_ret (v := spV s) (by simp [results, Try.results22, go_sem, e0, e1]) rfl ⟨by rw [H.out], HRR.out ▸ n4⟩
    | true =>
      have hz : 0 < z0 := by rcases HL0.out with ⟨_, h⟩ | ⟨h, _⟩; exact h; cases h
      have hzb : (z0 == 0) = false := by simp; omega
      by_cases h1 : s.2 ≤ ack
      · have H : Hid (dp = s) := Lib.hid (by rw [HD.out, HC.out]; simp [h1])
        clear HD HC HL0 HL1
        go_wp2_with fail
        have e0 := k4.c0; have e1 := k4.c1
        exact bodyPost_ret (v := spV s) (by simp [results, Try.results22, go_sem, e0, e1]) rfl ⟨by rw [H.out], HRR.out ▸ n4⟩
      · by_cases h2' : 1 < n
        · by_cases h3 : s.2 ≤ nxt
          · obtain ⟨u0, u1⟩ := HC2.out h2'
            have H : Hid (dp = if (tb && hb) = true then s else (0, 0)) := Lib.hid (by rw [HD.out, HC.out]; simp [h1, h3])
            clear HD HC HL0 HC2
            go_wp2_with fail
            refine (HW1.out _).mono ?_
            rintro e w5 ⟨rfl, h5⟩
            rw [← HR1.out h2']
            generalize rd ack l 1 = t at *
            have t6 := sp_new w5 t
            have b6 := bal (w := w5) (.cells #[.int .i64 t.1, .int .i64 t.2] 26)
            have x6 := (x4.later h5).later b6
            have r6 := (r4.later h5).later b6
            have m6 := (m4.trans (h5.mono hm4)).trans (b6.mono (Nat.le_trans hm4 h5.size))
            have z6 := b6.size
            have z5 := h5.size
            clear x4 r4 m4 v0 v1 q0 q1 q2 q3 u0 u1
            have p0 := t6.c0; have p1 := t6.c1
            have v0 := x6.c0; have v1 := x6.c1
            go_wp2_with fail
            refine (HS1.out _).mono ?_
            rintro e w7 ⟨rfl, h7⟩
            have t8 := t6.later h7
            have x8 := x6.later h7
            have r8 := r6.later h7
            have hB7 : R ≤ w7.heap.size := by have := h7.size; omega
            have m8 := m6.trans (h7.mono (by omega))
            clear p0 p1 v0 v1 t6 x6 r6 m6 h7
            have p0 := t8.c0; have p1 := t8.c1
            have v0 := x8.c0; have v1 := x8.c1
            have q0 := r8.c0; have q1 := r8.c1; have q2 := r8.f0; have q3 := r8.f1
            have k8z := r8.put 0 0
            have n8z := m8.trans ((kput w7 R (.int .i64 0) (.int .i64 0)).below (B := R) (by simp) hB7)
            cases tb with
            | false =>
              obtain ⟨hz1, _⟩ : z1 = 0 ∧ True := by rcases HL1.out with ⟨h, _⟩ | ⟨_, h, _⟩; cases h; exact ⟨h, trivial⟩
              subst hz1
              have H' : Hid (dp = (0, 0)) := Lib.hid (by rw [H.out]; simp)
              clear HL1 H
              go_wp2_with fail
              have e0 := k8z.c0; have e1 := k8z.c1
              exact bodyPost_ret (v := spV (0, 0)) (by simp [results, Try.results22, go_sem, e0, e1]) rfl ⟨by rw [H'.out], HRR.out ▸ n8z⟩
            | true =>
              have hz1 : 0 < z1 := by rcases HL1.out with ⟨_, h⟩ | ⟨h, _⟩; exact h; cases h
              have H' : Hid (dp = if hb = true then s else (0, 0)) := Lib.hid (by rw [H.out]; simp)
              clear HL1 H
              go_wp2_with fail
              refine (HHo.out _).mono ?_
              rintro e w9 ⟨rfl, h9⟩
              have x9 := x8.later h9
              have r9 := r8.later h9
              have hB9 : R ≤ w9.heap.size := by have := h9.size; omega
              have m9 := m8.trans (h9.mono hB7)
              clear p0 p1 v0 v1 q0 q1 q2 q3 x8 r8 k8z n8z t8 m8
              have v0 := x9.c0; have v1 := x9.c1
              have q0 := r9.c0; have q1 := r9.c1; have q2 := r9.f0; have q3 := r9.f1
              have k9z := r9.put 0 0
              have n9z := m9.trans ((kput w9 R (.int .i64 0) (.int .i64 0)).below (B := R) (by simp) hB9)
              have k9 := r9.put s.1 s.2
              have n9 := m9.trans ((kput w9 R (.int .i64 s.1) (.int .i64 s.2)).below (B := R) (by simp) hB9)
              cases hb with
              | false =>
                go_wp2_with fail
                have e0 := k9z.c0; have e1 := k9z.c1
                exact bodyPost_ret (v := spV (0, 0)) (by simp [results, Try.results22, go_sem, e0, e1]) rfl ⟨by rw [H'.out]; rfl, HRR.out ▸ n9z⟩
              | true =>
                go_wp2_with fail
                have e0 := k9.c0; have e1 := k9.c1
                exact bodyPost_ret (v := spV s) (by simp [results, Try.results22, go_sem, e0, e1]) rfl ⟨by rw [H'.out]; rfl, HRR.out ▸ n9⟩
          · have H : Hid (dp = (0, 0)) := Lib.hid (by rw [HD.out, HC.out]; simp [h1, h3])
            clear HD HC HL0 HL1
            go_wp2_with fail
            have e0 := k4z.c0; have e1 := k4z.c1
            exact bodyPost_ret (v := spV (0, 0)) (by simp [results, Try.results22, go_sem, e0, e1]) rfl ⟨by rw [H.out], HRR.out ▸ n4z⟩
        · have H : Hid (dp = (0, 0)) := Lib.hid (by rw [HD.out, HC.out, HN1.out h2']; simp [h1])
          clear HD HC HL0 HL1
          go_wp2_with fail
          have e0 := k4z.c0; have e1 := k4z.c1
          exact bodyPost_ret (v := spV (0, 0)) (by simp [results, Try.results22, go_sem, e0, e1]) rfl ⟨by rw [H.out], HRR.out ▸ n4z⟩
end Go.Proofs.Ytegfmjkngbnnfaa.dp
