/-
  The reference's Next and Gaps.
-/
import Derived.Test.YtgjkbejlfclpoaaRunWi
import Derived.Test.YtgjkbejlfclpoaaRunR
import Derived.Test.YtgjkbejlfclpoaaRunDo
namespace Go.Proofs.Ytgjkbejlfclpoaa.rn
open Go.RowKit Go.Shelf aid mem rng sp
attribute [local go_sem ↓] Go.wp_at_zero Go.wp_at_succ
set_option linter.unusedVariables false
set_option linter.unusedSimpArgs false

set_option maxHeartbeats 1000000 in
theorem rnext_any {w : World} {a : Option Addr} {n cap : Nat} {l : List Sp} (h : SlS w a n cap l) (o : Int) : Calls Try.prog 18 #[.slice a n cap, .int .i64 o] w (RetS (nextL l o) w) := by
  have hle := h.le
  have hmost := h.most
  have hlen := h.len
  unfold maxLen at hmost
  have HC := Lib.hid (fun h0 => h.cells h0)
  have HT := Lib.hid (fun k (hk : k < n) => next_step (l := l) (o := o) (k := k) (by omega))
  have HE := Lib.hid (show nextL (l.drop n) o = (0, 0) from by rw [List.drop_eq_nil_of_le (by omega)]; rfl)
  have b1 := bal (w := w) (.cells #[.int .i64 0, .int .i64 0] 24)
  have s1 := sp_new w (0, 0)
  have HB1 := Lib.hid (And.intro b1 s1)
  have H0 := Lib.hid (show nextL l o = nextL (l.drop 0) o from by rw [List.drop_zero])
  generalize nextL l o = R at *
  clear h hlen b1 s1
  go_enter Try.func18, Try.ntmps18
  go_wp2_with fail
  go_loopw [5] (fun s5 wr => ∃ k : Nat, k ≤ n ∧ s5 = .int .i64 k ∧ Hid (R = nextL (l.drop k) o) ∧ Below w.heap.size w wr ∧ SpAt wr w.heap.size (0, 0)) (fun s5 _ => n - (intOf s5).toNat)
  case atStart => exact ⟨0, Nat.zero_le _, rfl, H0, HB1.out.1, HB1.out.2⟩
  case round =>
    obtain ⟨k, hk, rfl, HR, hbw, hsp⟩ := hrel
    by_cases hlt : k < n
    · obtain ⟨g, off, rfl, hc⟩ := HC.out (by omega)
      obtain ⟨m0, m1⟩ := hc k hlt
      replace m0 := (hbw.cell (World.block_lt_of_cell? w _ m0)).trans m0
      replace m1 := (hbw.cell (World.block_lt_of_cell? w _ m1)).trans m1
      have ht := HT.out k hlt
      have HH := Lib.hid (fun X => rfrom_any (l.getD k (0, 0)) o X)
      generalize l.getD k (0, 0) = m at *
      generalize fromP m o = y at *
      have HL := Lib.hid (fun X => rlen_any y X)
      have HSP := Lib.hid hsp
      clear hc hsp
      by_cases hb : 0 < lenI y
      all_goals
        first | rw [if_pos hb] at ht | rw [if_neg hb] at ht
        generalize lenI y = z at *
        have HR2 := Lib.hid (HR.out.trans ht)
        clear ht
        go_wp2_with fail
        refine (HH.out _).mono ?_
        rintro e w2 ⟨rfl, h2⟩
        have b2 := hbw.trans (h2.mono hbw.size)
        have b3 := bal (w := w2) (.cells #[.int .i64 y.1, .int .i64 y.2] 24)
        have y3 := sp_new w2 y
        have s3 := (HSP.out.later h2).later b3
        have HQ := Lib.hid (And.intro (b2.trans (b3.mono b2.size)) (And.intro s3 y3))
        have c0 := y3.c0; have c1 := y3.c1
        clear m0 m1 h2 b2 b3 y3 s3
        go_wp2_with fail
        refine (HL.out _).mono ?_
        rintro e w4 ⟨rfl, h4⟩
        have b4 := HQ.out.1.trans (h4.mono HQ.out.1.size)
        have s4 := HQ.out.2.1.later h4
        have y4 := HQ.out.2.2.later h4
        clear c0 c1 h4 HQ
      · have c0 := y4.c0; have c1 := y4.c1
        have d0 := s4.c0; have d1 := s4.c1; have f0 := s4.f0; have f1 := s4.f1
        have s5 := s4.put y.1 y.2
        have e0 := s5.c0; have e1 := s5.c1
        have HB5 := Lib.hid (b4.trans ((kput w4 w.heap.size (.int .i64 y.1) (.int .i64 y.2)).below (B := w.heap.size) (by simp) b4.size))
        clear s4 y4 s5 b4
        go_wp2
        exact bodyPost_ret (v := .agg #[.int .i64 y.1, .int .i64 y.2]) (by simp [results, Try.results18, go_sem, e0, e1]) rfl ⟨by rw [HR2.out], HB5.out⟩
      · have HQ := Lib.hid (And.intro b4 s4)
        clear b4 s4 y4
        go_wp2
        go_roundw
        case rel => exact ⟨k + 1, by omega, by go_num, HR2, HQ.out.1, HQ.out.2⟩
        case measure => simp [intOf]; omega
    · obtain rfl : k = n := by omega
      have HR2 := Lib.hid (HR.out.trans HE.out)
      have c0 := hsp.c0; have c1 := hsp.c1; have f0 := hsp.f0; have f1 := hsp.f1
      have s3 := hsp.put 0 0
      have d0 := s3.c0; have d1 := s3.c1
      have HB3 := Lib.hid (hbw.trans ((kput wr w.heap.size (.int .i64 0) (.int .i64 0)).below (B := w.heap.size) (by simp) hbw.size))
      clear hsp s3
      go_wp2
      exact bodyPost_ret (v := .agg #[.int .i64 0, .int .i64 0]) (by simp [results, Try.results18, go_sem, d0, d1]) rfl ⟨by rw [HR2.out], HB3.out⟩
theorem sls_one (X : World) (y : Sp) : SlS (X.alloc (.cells #[.int .i64 y.1, .int .i64 y.2] 24)) (some ⟨X.heap.size, 0, none⟩) 1 1 [y] := by
  refine ⟨rfl, Nat.le_refl _, by decide, (fun h => by cases h), fun _ => ⟨X.heap.size, 0, rfl, fun i hi => ?_⟩⟩
  have hr := heap_alloc_new X (.cells #[.int .i64 y.1, .int .i64 y.2] 24)
  rw [cell_of_row _ X.heap.size _ _ _ (0, 0) hr, cell_of_row _ X.heap.size _ _ _ (0, 0) hr]
  obtain rfl : i = 0 := by omega
  exact ⟨rfl, rfl⟩
theorem sls_nil (X : World) : SlS X none 0 0 ([] : List Sp) := ⟨rfl, Nat.le_refl _, by decide, fun _ => rfl, fun h => by omega⟩
theorem foldWo_len' : ∀ (l q : List Sp), (∀ x ∈ l, ROk x) → Rn q → (l.foldl refWo q).length ≤ q.length + l.length ∧ Rn (l.foldl refWo q) := by
  intro l
  induction l with
  | nil => intro q _ hq; exact ⟨by simp, hq⟩
  | cons x l ih =>
    intro q h hq
    have hx := h x (by simp)
    have hk : Ok x := ⟨hx.1, by have := hx.2.1; omega, hx.2.2⟩
    obtain ⟨i1, i2⟩ := ih (refWo q x) (fun y hy => h y (by simp [hy])) (wo_rn hq hk)
    have := wo_len q x hq hk
    exact ⟨by simp only [List.foldl_cons, List.length_cons]; omega, i2⟩
set_option maxHeartbeats 1000000 in
theorem rgaps_any {w : World} {a : Option Addr} {n cap : Nat} {l : List Sp} (h : SlS w a n cap l) (hl : Rn l) (hn : n ≤ 4096) (s : Sp) : Calls Try.prog 24 #[.slice a n cap, spV s] w fun e w' => ∃ a' n' cap', e = .returned (.slice a' n' cap') ∧ SlS w' a' n' cap' (gapsL l s) ∧ Below w.heap.size w w' := by
  have hle := h.le
  have hmost := h.most
  have hlen := h.len
  unfold maxLen at hmost
  have HC := Lib.hid (fun h0 => h.cells h0)
  have HG := Lib.hid (show gapsL l s = if lenI s = 0 then [] else l.foldl refWo [s] from rfl)
  have b1 := bal (w := w) (.cells #[.int .i64 s.1, .int .i64 s.2] 24)
  have s1 := sp_new w s
  have HB1 := Lib.hid (And.intro b1 s1)
  have c0 := s1.c0; have c1 := s1.c1
  have HLS := Lib.hid (fun X => rlen_any s X)
  have HRK := Lib.hid (fun (hz : lenI s ≠ 0) => show Rn [s] from by
    have := rok_of (x := s) (by cases hm : mayB s.1 s.2; exact (hz (by unfold lenI fitP; rw [if_neg (by rw [hm]; simp)]; rfl)).elim; exact mayB_iff.1 hm) hz
    exact ⟨fun x hx => by simp at hx; subst hx; exact this, List.pairwise_singleton _ _⟩)
  have HLN := Lib.hid hlen
  have HLOK := Lib.hid hl.ok
  clear b1 s1 h hlen hl
  generalize hz : lenI s = z at *
  go_enter Try.func24, Try.ntmps24
  go_wp2_with fail
  refine (HLS.out _).mono ?_
  rintro e w2 ⟨rfl, h2⟩
  obtain ⟨b1, s1⟩ := HB1.out
  have b2 := b1.trans (h2.mono b1.size)
  have s2 := s1.later h2
  clear b1 s1 h2 c0 c1 HB1
  by_cases h0 : z = 0
  · subst h0
    rw [if_pos rfl] at HG
    have HF := Lib.hid (And.intro (show SlS w2 none 0 0 (gapsL l s) from by rw [HG.out]; exact sls_nil _) b2)
    clear s2 b2 HC
    go_wp2
    go_ret
    exact ⟨_, _, _, rfl, HF.out⟩
  rw [if_neg h0] at HG
  have hrs := HRK.out h0
  have c0 := s2.c0; have c1 := s2.c1
  have b3 := bal (w := w2) (.cells #[.int .i64 s.1, .int .i64 s.2] 24)
  have HK : Hid (∃ a5 n5 c5, (.slice (some ⟨w2.heap.size, 0, none⟩) 1 1 : Value) = .slice a5 n5 c5 ∧ SlS (w2.alloc (.cells #[.int .i64 s.1, .int .i64 s.2] 24)) a5 n5 c5 ((l.take 0).foldl refWo [s]) ∧ Below w.heap.size w (w2.alloc (.cells #[.int .i64 s.1, .int .i64 s.2] 24))) := Lib.hid ⟨_, _, _, rfl, sls_one w2 s, b2.trans (b3.mono b2.size)⟩
  have HRS := Lib.hid hrs
  clear s2 b2 b3 hrs
  go_wp2_with fail
  rename (z == 0) = false => hzz
  simp only [hzz]
  clear h0 hzz c0 c1
  go_loopw [5, 6] (fun s5 s6 wr => ∃ k : Nat, k ≤ n ∧ s6 = .int .i64 k ∧ Hid (∃ a5 n5 c5, s5 = .slice a5 n5 c5 ∧ SlS wr a5 n5 c5 ((l.take k).foldl refWo [s]) ∧ Below w.heap.size w wr)) (fun _ s6 _ => n - (intOf s6).toNat)
  case atStart => exact ⟨0, Nat.zero_le _, rfl, HK⟩
  case round =>
    obtain ⟨k, hk, rfl, HR⟩ := hrel
    by_cases hlt : k < n
    · obtain ⟨a5, n5, c5, rfl, sl, hbw⟩ := HR.out
      obtain ⟨g, off, rfl, hc⟩ := HC.out (by omega)
      obtain ⟨m0, m1⟩ := hc k hlt
      replace m0 := (hbw.cell (World.block_lt_of_cell? w _ m0)).trans m0
      replace m1 := (hbw.cell (World.block_lt_of_cell? w _ m1)).trans m1
      have hln := (foldWo_len' (l.take k) [s] (fun x hx => HLOK.out x (List.mem_of_mem_take hx)) HRS.out).1
      have hstep : (l.take (k + 1)).foldl refWo [s] = refWo ((l.take k).foldl refWo [s]) (l.getD k (0, 0)) := by
        have hk' : k < l.length := by rw [HLN.out]; exact hlt
        rw [show l.getD k (0, 0) = l[k] from by simp [List.getD, hk'], List.take_succ_eq_append_getElem hk', List.foldl_append]; rfl
      rw [List.length_take, List.length_singleton] at hln
      have hsl := sl.len
      have HST := Lib.hid hstep
      generalize l.getD k (0, 0) = x at *
      have HW := Lib.hid (rwithout_any sl (by omega) x)
      have HBW := Lib.hid hbw
      clear hc sl hbw hln hstep hsl HR
      go_wp2_with fail
      refine HW.out.mono ?_
      rintro e w5 ⟨a6, n6, c6, rfl, sl6, h6, _⟩
      have HK6 : Hid (∃ a5 n5 c5, (.slice a6 n6 c6 : Value) = .slice a5 n5 c5 ∧ SlS w5 a5 n5 c5 ((l.take (k + 1)).foldl refWo [s]) ∧ Below w.heap.size w w5) := Lib.hid ⟨_, _, _, rfl, by rw [HST.out]; exact sl6, HBW.out.trans (h6.mono HBW.out.size)⟩
      clear sl6 h6 m0 m1 HBW HW HST
      go_wp2_with fail
      go_roundw
      case rel => exact ⟨k + 1, by omega, by go_num, HK6⟩
      case measure => simp [intOf]; omega
    · obtain rfl : k = n := by omega
      obtain ⟨a5, n5, c5, rfl, sl, hbw⟩ := HR.out
      rw [List.take_of_length_le (by rw [HLN.out]; exact Nat.le_refl _), ← HG.out] at sl
      have HF := Lib.hid (And.intro sl hbw)
      clear sl hbw HR HC
      go_wp2_with fail
      go_ret
      exact ⟨_, _, _, rfl, HF.out⟩
end Go.Proofs.Ytgjkbejlfclpoaa.rn
